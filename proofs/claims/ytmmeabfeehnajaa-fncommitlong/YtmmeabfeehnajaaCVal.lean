/-
  A drawn value.
-/
import Derived.Test.YtmmeabfeehnajaaRdBase
import Derived.BigQuiet
import Derived.IntWalk
namespace Go.Proofs.Ytmmeabfeehnajaa
open Go.RowKit

set_option maxRecDepth 100000 in
set_option maxHeartbeats 1000000 in
theorem val_any (rb : Nat) (w : World) (h : Rd w rb) :
    Calls Try.prog 63 #[.pointer (some ⟨rb, 0, none⟩)] w (RdS rb 12 w) := by
  have r1b := fun o => h.below ((Below.refl _ w).alloc (Nat.le_refl _) o)
  have hlt := h.lt
  have RB := hide r1b
  clear r1b h
  go_enter Try.func63, Try.ntmps63
  go_wp2_with fail
  refine (below_any rb 6 _ (RB.out _) (by omega) (by omega)).mono ?_
  rintro e w2 ⟨y, hy0, hy1, rfl, r2, g2⟩
  have R2 := hide r2
  have hb2 := (g2.block w.heap.size (by simp) (by simp; omega)).trans (heap_alloc_new w _)
  have G2 := hide (World.grownBy.trans (World.grownBy_alloc w _ _) g2)
  obtain ⟨k, rfl⟩ := Int.eq_ofNat_of_zero_le hy0
  have hk : k < 6 := by omega
  obtain ⟨s, hs, ho, hc⟩ : ∃ s : ByteArray, s.size ≤ 12 ∧ s ≠ otherS ∧ w2.cell? ⟨w.heap.size, k, none⟩ = some (.string s) := by
    rw [cell_of_row w2 w.heap.size k _ _ _ hb2]
    match k, hk with
    | 0, _ => exact ⟨_, by decide, by decide, rfl⟩
    | 1, _ => exact ⟨_, by decide, by decide, rfl⟩
    | 2, _ => exact ⟨_, by decide, by decide, rfl⟩
    | 3, _ => exact ⟨_, by decide, by decide, rfl⟩
    | 4, _ => exact ⟨_, by decide, by decide, rfl⟩
    | 5, _ => exact ⟨_, by decide, by decide, rfl⟩
  have HO := hide ho
  clear r2 g2 hb2 RB ho
  go_wp2
  go_ret
  exact ⟨s, hs, HO.out, rfl, R2.out, G2.out⟩
end Go.Proofs.Ytmmeabfeehnajaa
