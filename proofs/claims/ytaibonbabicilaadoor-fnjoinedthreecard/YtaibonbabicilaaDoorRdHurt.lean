/-
  What hurt makes of a text (loosely: that it is a text, and short).
-/
import Derived.Test.YtaibonbabicilaaDoorRdBase
import Derived.Deep.RegionWith
import Derived.WalkSpells
namespace Go.Proofs.YtaibonbabicilaaDoor
open Go.RowKit

def RdT (rb most : Nat) (w : World) (e : Ending) (w' : World) : Prop := ∃ s : ByteArray, s.size ≤ most ∧ e = .returned (.string s) ∧ Rd w' rb ∧ w.grownBy w' (some rb)

theorem four_cell (w : World) (k : Nat) (hk : k < 4) (b : Nat) (hb : w.heap[b]? = some (.cells #[.string ⟨#[0]⟩, .string ⟨#[55]⟩, .string ⟨#[255]⟩, .string ⟨#[32]⟩] 9 (0, 0))) : ∃ a : ByteArray, a.size ≤ 1 ∧ w.cell? ⟨b, k, none⟩ = some (.string a) := by
  rw [cell_of_row w b k _ _ _ hb]
  match k, hk with
  | 0, _ => exact ⟨_, by decide, rfl⟩
  | 1, _ => exact ⟨_, by decide, rfl⟩
  | 2, _ => exact ⟨_, by decide, rfl⟩
  | 3, _ => exact ⟨_, by decide, rfl⟩

end Go.Proofs.YtaibonbabicilaaDoor
