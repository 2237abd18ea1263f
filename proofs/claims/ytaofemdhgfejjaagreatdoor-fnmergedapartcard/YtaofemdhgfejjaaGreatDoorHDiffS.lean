/-
  What spec.l6Diff answers.
-/
import Derived.Test.YtaofemdhgfejjaaGreatDoorHDif
import Derived.Test.YtaofemdhgfejjaaGreatDoorHLaw
import Derived.Test.YtaofemdhgfejjaaGreatDoorPStr0
import Derived.BigQuiet
import Derived.Deep.QuietTactic
import Derived.StillTailTactics
import Derived.IntWalk
namespace Go.Proofs.YtaofemdhgfejjaaGreatDoor
open Go.RowKit

theorem drop_cons {l : List Pr} {i : Nat} (h : i < l.length) : l.drop i = l[i] :: l.drop (i + 1) := List.drop_eq_getElem_cons h
theorem dif_end {a b : List Pr} {i k : Nat} (ha : a.length ≤ i) (hb : b.length ≤ k) : difM (a.drop i) (b.drop k) = [] := by rw [List.drop_of_length_le ha, List.drop_of_length_le hb, difM_nil]
theorem dif_loss {a b : List Pr} {i k : Nat} (hi : i < a.length) (h : ∀ (hk : k < b.length), ltB a[i].1 b[k].1 = true) : difM (a.drop i) (b.drop k) = lossC a[i] :: difM (a.drop (i + 1)) (b.drop k) := by
  rw [drop_cons hi]
  by_cases hk : k < b.length
  · rw [drop_cons hk, difM_lt (h hk)]
  · rw [List.drop_of_length_le (l := b) (by omega), difM_a]
theorem dif_gain {a b : List Pr} {i k : Nat} (hk : k < b.length) (h : ∀ (hi : i < a.length), ltB b[k].1 a[i].1 = true) : difM (a.drop i) (b.drop k) = gainC b[k] :: difM (a.drop i) (b.drop (k + 1)) := by
  rw [drop_cons hk]
  by_cases hi : i < a.length
  · rw [drop_cons hi, difM_gt (h hi)]
  · rw [List.drop_of_length_le (l := a) (by omega), difM_b]
theorem dif_same {a b : List Pr} {i k : Nat} (hi : i < a.length) (hk : k < b.length) (h : a[i].1 = b[k].1) (h' : a[i].2 = b[k].2) : difM (a.drop i) (b.drop k) = difM (a.drop (i + 1)) (b.drop (k + 1)) := by
  rw [drop_cons hi, drop_cons hk, difM_same h h']
theorem dif_turn {a b : List Pr} {i k : Nat} (hi : i < a.length) (hk : k < b.length) (h : a[i].1 = b[k].1) (h' : ¬ a[i].2 = b[k].2) : difM (a.drop i) (b.drop k) = turnC a[i] b[k] :: difM (a.drop (i + 1)) (b.drop (k + 1)) := by
  rw [drop_cons hi, drop_cons hk, difM_turn h h']

theorem below_drewN {B : Nat} {w w' : World} (h : Below B w w') (n : Nat) : Below B w (w'.drewN n) := h.trans (Quiet.below ⟨n, rfl⟩ _)
/-- the box of the change that a round makes -/
def Box (w : World) (g : Nat) (c : Ch) : Prop := w.heap[g]? = some (.cells (arrC c) 45 (0, 0))
theorem Box.cells {w : World} {g : Nat} {c : Ch} (h : Box w g c) : At5 w g 0 c := ⟨cell_of_row _ g 0 _ _ (0, 0) h, cell_of_row _ g 1 _ _ (0, 0) h, cell_of_row _ g 2 _ _ (0, 0) h, cell_of_row _ g 3 _ _ (0, 0) h, cell_of_row _ g 4 _ _ (0, 0) h⟩
theorem Box.frozen {w : World} {g : Nat} {c : Ch} (h : Box w g c) (j : Nat) : w.frozen? ⟨g, j, none⟩ = false := by simp [World.frozen?, show w.heap[g]? = _ from h]
theorem box_set {w : World} {g : Nat} {cs : Array Value} {t : TypeId} (h : w.heap[g]? = some (.cells cs t (0, 0))) (j : Nat) (u : Value) : (w.setCell ⟨g, j, none⟩ u).heap[g]? = some (.cells (cs.setIfInBounds j u) t (0, 0)) := by
  have hlt := lt_of_block h
  have h' : w.heap[g] = .cells cs t (0, 0) := by simpa [Array.getElem?_eq_getElem hlt] using h
  show (w.heap.modify g _)[g]? = _
  rw [Array.getElem?_eq_getElem (by simpa using hlt), Array.getElem_modify_self, h']
  rfl
theorem Box.five {w : World} {g : Nat} {c : Ch} (h : Box w g c) (x y z : ByteArray) (p q : Bool) : Box (((((w.setCell ⟨g, 0, none⟩ (.string x)).setCell ⟨g, 1, none⟩ (.string y)).setCell ⟨g, 2, none⟩ (.string z)).setCell ⟨g, 3, none⟩ (.bool p)).setCell ⟨g, 4, none⟩ (.bool q)) g (x, y, z, p, q) :=
  box_set (box_set (box_set (box_set (box_set h 0 _) 1 _) 2 _) 3 _) 4 _
end Go.Proofs.YtaofemdhgfejjaaGreatDoor
