/-
  The laws' own helpers on commits: szCommit, toCommit, eqCommit.
-/
import Derived.Test.YtfnaolhmjgikgaaCComS
namespace Go.Proofs.Ytfnaolhmjgikgaa
open Go.RowKit

theorem alloc3 (w : World) (A B C : Obj) : (((w.alloc A).alloc B).alloc C).heap[w.heap.size]? = some A ∧ (((w.alloc A).alloc B).alloc C).heap[w.heap.size + 1]? = some B ∧ (((w.alloc A).alloc B).alloc C).heap[w.heap.size + 1 + 1]? = some C := by
  have h : (((w.alloc A).alloc B).alloc C).heap = ((w.heap.push A).push B).push C := rfl
  rw [h]
  refine ⟨?_, ?_, ?_⟩
  · rw [Array.getElem?_push, if_neg (by simp; omega), Array.getElem?_push, if_neg (by simp), Array.getElem?_push, if_pos rfl]
  · rw [Array.getElem?_push, if_neg (by simp), Array.getElem?_push, if_pos (by simp)]
  · rw [Array.getElem?_push, if_pos (by simp)]

set_option maxRecDepth 100000 in
set_option maxHeartbeats 1000000 in
theorem szCommit_any (t m : ByteArray) (A : Option Addr) (l : List ByteArray) (cap : Nat) (left : Int) (w : World) (ht : t.size ≤ maxLen) (hm : m.size ≤ maxLen) (hl : l.length ≤ maxLen) (hin : SIn w w.heap.size A l) (h0 : 0 ≤ left) (h1 : left ≤ 1048576) :
    Calls Try.prog 5 #[.agg #[.string t, .slice A l.length cap, .string m], .int .i64 left] w fun e w' => (e = .returned (.int .i64 (-1)) ∨ ∃ r : Int, 0 ≤ r ∧ r + l.length ≤ left ∧ e = .returned (.int .i64 r)) ∧ Below w.heap.size w w' := by
  have ht2 := ht
  have hm2 := hm
  unfold maxLen at ht2 hm2
  have B1 : Hid (Below w.heap.size w (w.alloc (.cells #[.string t, .slice A l.length cap, .string m] 24))) := hide ((Below.refl _ w).alloc (Nat.le_refl _) _)
  have IN := hide ((hin.below B1.out).more B1.out.size)
  clear hin
  by_cases g1 : left - t.size < 0
  · go_enter Try.func5, Try.ntmps5
    go_wp2
    go_ret
    exact ⟨.inl rfl, B1.out⟩
  · have S1 := hide (szStringS_any A l cap (left - t.size) _ hl IN.out (by omega) (by omega))
    generalize hn : l.length = n at *
    go_enter Try.func5, Try.ntmps5
    go_wp2_with fail
    refine S1.out.mono ?_
    rintro e w' ⟨hr, rfl⟩
    rcases hr with rfl | ⟨r, hr0, hr1, rfl⟩
    · go_wp2
      go_ret
      exact ⟨.inl rfl, B1.out⟩
    · by_cases g2 : r - m.size < 0
      · go_wp2
        go_ret
        exact ⟨.inl rfl, B1.out⟩
      · go_wp2
        go_ret
        exact ⟨.inr ⟨r - m.size, by omega, by omega, by go_num⟩, B1.out⟩

set_option maxRecDepth 100000 in
set_option maxHeartbeats 1000000 in
theorem toCommit_any (t m : ByteArray) (A : Option Addr) (l : List ByteArray) (cap : Nat) (w : World) (hs : slenS l) (hl : l.length ≤ 1048576) (hin : SIn w w.heap.size A l) :
    Calls Try.prog 7 #[.agg #[.string t, .slice A l.length cap, .string m]] w fun e w' => (∃ A', e = .returned (.agg #[.string t, .slice A' l.length l.length, .string m]) ∧ SIn w' w'.heap.size A' l) ∧ Below w.heap.size w w' := by
  go_enter Try.func7, Try.ntmps7
  go_wp2_with fail
  have B0 : Hid (Below w.heap.size w (((w.alloc (.cells #[.string t, .slice A l.length cap, .string m] 24)).alloc (.cells #[.string ByteArray.empty, .slice none 0 0, .string ByteArray.empty] 27)).alloc (.cells #[.string t, .slice none 0 0, .string ByteArray.empty] 27))) := hide ((((Below.refl _ _).alloc (Nat.le_refl _) _).alloc (by simp) _).alloc (by simp; omega) _)
  refine (toStringS_any A l cap (((w.alloc (.cells #[.string t, .slice A l.length cap, .string m] 24)).alloc (.cells #[.string ByteArray.empty, .slice none 0 0, .string ByteArray.empty] 27)).alloc (.cells #[.string t, .slice none 0 0, .string ByteArray.empty] 27)) hl ((hin.below B0.out).more B0.out.size)).mono ?_
  rintro e w1 ⟨rfl, r1, b1⟩
  have e3 : (((w.alloc (.cells #[.string t, .slice A l.length cap, .string m] 24)).alloc (.cells #[.string ByteArray.empty, .slice none 0 0, .string ByteArray.empty] 27)).alloc (.cells #[.string t, .slice none 0 0, .string ByteArray.empty] 27)).heap.size = w.heap.size + 1 + 1 + 1 := by simp
  have hsz := b1.size
  rw [e3] at hsz r1
  have q3 : w1.heap[w.heap.size + 1 + 1]? = some (.cells #[.string t, .slice none 0 0, .string ByteArray.empty] 27 (0, 0)) := (b1.block _ (by rw [e3]; omega)).trans (alloc3 _ _ _ _).2.2
  have q2 : w1.heap[w.heap.size + 1]? = some (.cells #[.string ByteArray.empty, .slice none 0 0, .string ByteArray.empty] 27 (0, 0)) := (b1.block _ (by rw [e3]; omega)).trans (alloc3 _ _ _ _).2.1
  have q1 : w1.heap[w.heap.size]? = some (.cells #[.string t, .slice A l.length cap, .string m] 24 (0, 0)) := (b1.block _ (by rw [e3]; omega)).trans (alloc3 _ _ _ _).1
  have BB := hide (B0.out.trans (b1.mono B0.out.size))
  have R1 := hide r1
  rw [e3]
  clear b1 hin r1 B0 e3
  have x2 : w1.cell? ⟨w.heap.size, 2, none⟩ = some (.string m) := cell_of_row w1 _ 2 _ _ _ q1
  have y1 : w1.cell? ⟨w.heap.size + 1 + 1, 1, none⟩ = some (.slice none 0 0) := cell_of_row w1 _ 1 _ _ _ q3
  have y0 : w1.cell? ⟨w.heap.size + 1 + 1, 0, none⟩ = some (.string t) := cell_of_row w1 _ 0 _ _ _ q3
  have y2 : w1.cell? ⟨w.heap.size + 1 + 1, 2, none⟩ = some (.string ByteArray.empty) := cell_of_row w1 _ 2 _ _ _ q3
  have z0 : w1.cell? ⟨w.heap.size + 1, 0, none⟩ = some (.string ByteArray.empty) := cell_of_row w1 _ 0 _ _ _ q2
  have z1 : w1.cell? ⟨w.heap.size + 1, 1, none⟩ = some (.slice none 0 0) := cell_of_row w1 _ 1 _ _ _ q2
  have z2 : w1.cell? ⟨w.heap.size + 1, 2, none⟩ = some (.string ByteArray.empty) := cell_of_row w1 _ 2 _ _ _ q2
  have g0 := frozen_of_row w1 _ 0 _ _ q2
  have g1 := frozen_of_row w1 _ 1 _ _ q2
  have g2 := frozen_of_row w1 _ 2 _ _ q2
  have f1 := frozen_of_row w1 _ 1 _ _ q3
  have f2 := frozen_of_row w1 _ 2 _ _ q3
  have le1 : w.heap.size ≤ w.heap.size + 1 := by omega
  have le2 : w.heap.size ≤ w.heap.size + 1 + 1 := by omega
  go_wp2
  refine bodyPost_ret (v := .agg #[.string t, .slice (some ⟨w.heap.size + 1 + 1 + 1, 0, none⟩) l.length l.length, .string m]) (by simp [results, Try.results7, go_sem, z0, z1, z2]) rfl ?_
  have S5 : ∀ (W : World), Below w.heap.size W w1 → Below w.heap.size W (((((w1.setCell ⟨w.heap.size + 1 + 1, 1, none⟩ (.slice (some ⟨w.heap.size + 1 + 1 + 1, 0, none⟩) l.length l.length)).setCell ⟨w.heap.size + 1 + 1, 2, none⟩ (.string m)).setCell ⟨w.heap.size + 1, 0, none⟩ (.string t)).setCell ⟨w.heap.size + 1, 1, none⟩ (.slice (some ⟨w.heap.size + 1 + 1 + 1, 0, none⟩) l.length l.length)).setCell ⟨w.heap.size + 1, 2, none⟩ (.string m)) :=
    fun W h => ((((h.setCell (p := ⟨w.heap.size + 1 + 1, 1, none⟩) le2 _).setCell (p := ⟨w.heap.size + 1 + 1, 2, none⟩) le2 _).setCell (p := ⟨w.heap.size + 1, 0, none⟩) le1 _).setCell (p := ⟨w.heap.size + 1, 1, none⟩) le1 _).setCell (p := ⟨w.heap.size + 1, 2, none⟩) le1 _
  refine ⟨⟨_, rfl, SIn.row (g := w.heap.size + 1 + 1 + 1) (t := 9) (fr := (0, 0)) hs ?_ ?_⟩, S5 _ BB.out⟩
  · have h1 := ((S5 w1 (Below.refl _ _)).size)
    have h2 := block_lt_of_cell (w := w1) y0
    have h3 : w.heap.size + 1 + 1 + 1 < w1.heap.size := by
      rcases Nat.lt_or_ge (w.heap.size + 1 + 1 + 1) w1.heap.size with h | h
      · exact h
      · have := R1.out; rw [Array.getElem?_eq_none h] at this; cases this
    omega
  · rw [heap_setCell_other _ _ _ _ (by dsimp only; omega), heap_setCell_other _ _ _ _ (by dsimp only; omega), heap_setCell_other _ _ _ _ (by dsimp only; omega), heap_setCell_other _ _ _ _ (by dsimp only; omega), heap_setCell_other _ _ _ _ (by dsimp only; omega)]
    exact R1.out

set_option maxRecDepth 100000 in
set_option maxHeartbeats 1000000 in
theorem eqCommit_same (t m : ByteArray) (A A' : Option Addr) (l : List ByteArray) (cap cap' : Nat) (w : World) (hl : l.length ≤ maxLen) (hin : SIn w w.heap.size A l) (hin' : SIn w w.heap.size A' l) :
    Calls Try.prog 9 #[.agg #[.string t, .slice A l.length cap, .string m], .agg #[.string t, .slice A' l.length cap', .string m]] w fun e w' => e = .returned (.bool true) ∧ Below w.heap.size w w' := by
  have B2 : Hid (Below w.heap.size w ((w.alloc (.cells #[.string t, .slice A l.length cap, .string m] 27)).alloc (.cells #[.string t, .slice A' l.length cap', .string m] 27))) := hide (((Below.refl _ _).alloc (Nat.le_refl _) _).alloc (by simp) _)
  have S := hide (eqStringS_same A A' l cap cap' _ w.heap.size hl (hin.below B2.out) (hin'.below B2.out))
  have X := hide (heap_alloc2_old w (.cells #[.string t, .slice A l.length cap, .string m] 27) (.cells #[.string t, .slice A' l.length cap', .string m] 27))
  have Y := hide (heap_alloc2_new w (.cells #[.string t, .slice A l.length cap, .string m] 27) (.cells #[.string t, .slice A' l.length cap', .string m] 27))
  clear hin hin' hl
  generalize l.length = n at *
  go_enter Try.func9, Try.ntmps9
  go_wp2_with fail
  refine S.out.mono ?_
  rintro e w1 ⟨rfl, q⟩
  have x2 : w1.cell? ⟨w.heap.size, 2, none⟩ = some (.string m) := (q.cell _).trans (cell_of_row _ _ 2 _ _ _ X.out)
  have y2 : w1.cell? ⟨w.heap.size + 1, 2, none⟩ = some (.string m) := (q.cell _).trans (cell_of_row _ _ 2 _ _ _ Y.out)
  have BB := hide (B2.out.trans (q.below _))
  clear X Y S q B2
  go_wp2
  go_ret
  exact ⟨rfl, BB.out⟩
end Go.Proofs.Ytfnaolhmjgikgaa
