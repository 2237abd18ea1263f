/-
  The laws' own helpers on commits: szCommit, toCommit, eqCommit.
-/
import Derived.Test.YtnjdlcpgpgmeaaaDoorCComS
namespace Go.Proofs.YtnjdlcpgpgmeaaaDoor
open Go.RowKit

theorem alloc3 (w : World) (A B C : Obj) : (((w.alloc A).alloc B).alloc C).heap[w.heap.size]? = some A ∧ (((w.alloc A).alloc B).alloc C).heap[w.heap.size + 1]? = some B ∧ (((w.alloc A).alloc B).alloc C).heap[w.heap.size + 1 + 1]? = some C := by
  have h : (((w.alloc A).alloc B).alloc C).heap = ((w.heap.push A).push B).push C := rfl
  rw [h]
  refine ⟨?_, ?_, ?_⟩
  · rw [Array.getElem?_push, if_neg (by simp; omega), Array.getElem?_push, if_neg (by simp), Array.getElem?_push, if_pos rfl]
  · rw [Array.getElem?_push, if_neg (by simp), Array.getElem?_push, if_pos (by simp)]
  · rw [Array.getElem?_push, if_pos (by simp)]

set_option maxRecDepth 100000 in
set_option maxHeartbeats 1000000 in
theorem eqCommit_same (t m : ByteArray) (A A' : Option Addr) (l : List ByteArray) (cap cap' : Nat) (w : World) (hl : l.length ≤ maxLen) (hin : SIn w w.heap.size A l) (hin' : SIn w w.heap.size A' l) :
    Calls Tryd.prog 10 #[.agg #[.string t, .slice A l.length cap, .string m], .agg #[.string t, .slice A' l.length cap', .string m]] w fun e w' => e = .returned (.bool true) ∧ Below w.heap.size w w' := by
  have B2 : Hid (Below w.heap.size w ((w.alloc (.cells #[.string t, .slice A l.length cap, .string m] 26)).alloc (.cells #[.string t, .slice A' l.length cap', .string m] 26))) := hide (((Below.refl _ _).alloc (Nat.le_refl _) _).alloc (by simp) _)
  have S := hide (eqStringS_same A A' l cap cap' _ w.heap.size hl (hin.below B2.out) (hin'.below B2.out))
  have X := hide (heap_alloc2_old w (.cells #[.string t, .slice A l.length cap, .string m] 26) (.cells #[.string t, .slice A' l.length cap', .string m] 26))
  have Y := hide (heap_alloc2_new w (.cells #[.string t, .slice A l.length cap, .string m] 26) (.cells #[.string t, .slice A' l.length cap', .string m] 26))
  clear hin hin' hl
  generalize l.length = n at *
  go_enter Tryd.func10, Tryd.ntmps10
  go_wp2_with fail
  refine S.out.mono ?_
  rintro e w1 ⟨rfl, q⟩
  have x2 : w1.cell? ⟨w.heap.size, 2, none⟩ = some (.string m) := (q.cell _).trans (cell_of_row _ _ 2 _ _ _ X.out)
  have y2 : w1.cell? ⟨w.heap.size + 1, 2, none⟩ = some (.string m) := (q.cell _).trans (cell_of_row _ _ 2 _ _ _ Y.out)
  have BB := hide (B2.out.trans (q.below _))
  clear X Y S q B2
  go_wp2
  go_ret
  exact ⟨rfl, BB.out⟩
end Go.Proofs.YtnjdlcpgpgmeaaaDoor
