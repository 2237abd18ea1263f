/-
  The walk of impl.ReadCommit: what the reader's panic, caught, and its answer come to.
-/
import Derived.Test.YtnchghfddhjonaaDoorCRdW
import Derived.Test.YtnchghfddhjonaaDoorCComL
import Derived.Defers
import Derived.Recover
import Derived.Laws.Pointers
namespace Go.Proofs.YtnchghfddhjonaaDoor
open Go.RowKit

def RetCom (s : ByteArray) (w : World) (e : Ending) (w' : World) : Prop :=
  ∃ A cap, e = .returned (.tuple #[.agg #[.string (rdC s).1, .slice A (rdC s).2.1.length cap, .string (rdC s).2.2], .bool (rdOk s)]) ∧ ZOwn w' w.heap.size A cap (rdC s).2.1 ∧ Below w.heap.size w w'
theorem rc_panicking (g : Nat) (u : TypeId) (pv : Value) (older : List PanicEntry) (w : World) (t m : ByteArray) (A : Option Addr) (n cap : Nat) (b : Bool) (h0 : w.heap[g]? = some (C3 t A n cap m)) (h1 : w.heap[g + 1]? = some (.cells #[.bool b] 4 (0, 0))) :
    CallsD Tryd.prog 12 #[.pointer (some ⟨g, 0, none⟩), .pointer (some ⟨g + 1, 0, none⟩)] (.panicking ({ v := .iface u pv, recovered := false } :: older)) w fun e u' w' =>
      e = .returned (.tuple #[]) ∧ u' = .panicking ({ v := .iface u pv, recovered := true } :: older) ∧ w' = (((w.setCell ⟨g, 0, none⟩ (.string ByteArray.empty)).setCell ⟨g, 1, none⟩ (.slice none 0 0)).setCell ⟨g, 2, none⟩ (.string ByteArray.empty)).setCell ⟨g + 1, 0, none⟩ (.bool false) := by
  have c0 := cell_of_row _ _ 0 _ _ _ h0
  have c1 := cell_of_row _ _ 1 _ _ _ h0
  have c2 := cell_of_row _ _ 2 _ _ _ h0
  have c3 := cell_of_row _ _ 0 _ _ _ h1
  have f0 := frozen_of_row _ _ 0 _ _ h0
  have f1 := frozen_of_row _ _ 1 _ _ h0
  have f2 := frozen_of_row _ _ 2 _ _ h0
  have f3 := frozen_of_row _ _ 0 _ _ h1
  refine callsD_of_wpS Tryd.func12 rfl fun c₀ cs hu => ?_
  apply wpS_seq
  apply wpS_region
  simp [wpOpsS, go_sem, recoverD, hu, Tryd.ntmps12, Exit.thenS]
  refine wpS_cond (t := true) (by simp [Act.eval, Array.replicate]) ?_
  simp only [if_true]
  apply wpS_region
  simp [wpOpsS, go_sem, c0, c1, c2, c3, f0, f1, f2, f3, bodyPostS, results, Tryd.results12]
  rfl

theorem rc_idle (p q : Addr) (w : World) :
    CallsD Tryd.prog 12 #[.pointer (some p), .pointer (some q)] .returning w fun e u' w' => e = .returned (.tuple #[]) ∧ u' = .returning ∧ w' = w := by
  refine callsD_of_wpS Tryd.func12 rfl fun c₀ cs hu => ?_
  apply wpS_seq
  apply wpS_region
  simp [wpOpsS, go_sem, recoverD, hu, Tryd.ntmps12, Exit.thenS]
  refine wpS_cond (t := false) (by simp [Act.eval, Array.replicate]) ?_
  simp only [Bool.false_eq_true, if_false]
  refine wpS_of_wp (wp_skip ?_)
  cases c₀
  simp_all [bodyPostS, results, Tryd.results12]
set_option maxRecDepth 100000 in
set_option maxHeartbeats 2000000 in
theorem implReadCommit_any (s : ByteArray) (a : Addr) (w : World) (hs : s.size ≤ maxLen) (hE : ErrC w a) :
    Calls Tryd.prog 5 #[.string s] w (RetCom s w) := by
  have hmf : ∀ (fn : Fn) (first cap : Array Value) (w : World), (Instr.makeFunc fn first cap).run Tryd.prog w = .ok (.func fn first cap) w := fun _ _ _ _ => rfl
  have A3 := hide (alloc3 w (.cells #[.string ByteArray.empty, .slice none 0 0, .string ByteArray.empty] 24) (.cells #[.bool false] 4) (.cells #[.string s] 35))
  have B3 := hide (((((Below.refl w.heap.size w).alloc (Nat.le_refl _) (.cells #[.string ByteArray.empty, .slice none 0 0, .string ByteArray.empty] 24)).alloc (by simp) (.cells #[.bool false] 4))).alloc (by simp; omega) (.cells #[.string s] 35))
  have hz3 : (((w.alloc (.cells #[.string ByteArray.empty, .slice none 0 0, .string ByteArray.empty] 24)).alloc (.cells #[.bool false] 4)).alloc (.cells #[.string s] 35)).heap.size = w.heap.size + 1 + 1 + 1 := by simp
  have C := hide (commit_any (w.heap.size + 1 + 1) s a _ hs (by rw [hz3]; omega) (by have := hE.2; omega) A3.out.2.2 (hE.below B3.out))
  go_enter_defers Tryd.func5, Tryd.ntmps5
  go_wp2_with fail
  refine C.out.mono ?_
  rintro e w1 ⟨q1, hh⟩
  have X0 := (q1.block w.heap.size (by omega)).trans A3.out.1
  have X1 := (q1.block (w.heap.size + 1) (by omega)).trans A3.out.2.1
  have BB := hide (B3.out.trans (q1.mono (by omega)))
  rcases hh with ⟨A, cap, t, ps, m, hc, rfl, own⟩ | ⟨hn, rfl⟩
  · obtain ⟨e1, e2⟩ := rd_yes hc
    have O := hide (own.more (B' := w.heap.size + 1 + 1) (by rw [hz3]; omega))
    clear own
    have c0 := cell_of_row _ _ 0 _ _ _ X0
    have c1 := cell_of_row _ _ 1 _ _ _ X0
    have c2 := cell_of_row _ _ 2 _ _ _ X0
    have c3 := cell_of_row _ _ 0 _ _ _ X1
    have f0 := frozen_of_row _ _ 0 _ _ X0
    have f1 := frozen_of_row _ _ 1 _ _ X0
    have f2 := frozen_of_row _ _ 2 _ _ X0
    have f3 := frozen_of_row _ _ 0 _ _ X1
    clear X0 X1 A3 B3 q1 C hz3
    go_wp2
    refine leaves_cons (f := 12) (args := #[.pointer (some ⟨w.heap.size, 0, none⟩), .pointer (some ⟨w.heap.size + 1, 0, none⟩)]) (by simp) (by simp [go_sem]) ?_
    refine (rc_idle ⟨w.heap.size, 0, none⟩ ⟨w.heap.size + 1, 0, none⟩ _).mono ?_
    rintro e u' w'' ⟨rfl, rfl, rfl⟩
    simp [Leaves, settle, results, Tryd.results5, go_sem, c0, c1, c2, c3]
    refine ⟨A, cap, by rw [e2, e1], ?_, (((BB.out.setCell (p := ⟨w.heap.size, 0, none⟩) (Nat.le_refl _) _).setCell (p := ⟨w.heap.size, 1, none⟩) (Nat.le_refl _) _).setCell (p := ⟨w.heap.size, 2, none⟩) (Nat.le_refl _) _).setCell (p := ⟨w.heap.size + 1, 0, none⟩) (Nat.le_succ _) _⟩
    rw [e2]
    have O2 : ZOwn _ (w.heap.size + 1 + 1) A cap ps := ownsRow_setCell_below (ownsRow_setCell_below (ownsRow_setCell_below (ownsRow_setCell_below O.out (a := ⟨w.heap.size, 0, none⟩) (by show w.heap.size < _; omega) (.string t)) (a := ⟨w.heap.size, 1, none⟩) (by show w.heap.size < _; omega) (.slice A ps.length cap)) (a := ⟨w.heap.size, 2, none⟩) (by show w.heap.size < _; omega) (.string m)) (a := ⟨w.heap.size + 1, 0, none⟩) (by show w.heap.size + 1 < _; omega) (.bool true)
    exact O2.more (by omega)
  · obtain ⟨e1, e2⟩ := rd_no hn
    clear A3 B3 q1 C hz3
    refine leaves_cons (f := 12) (args := #[.pointer (some ⟨w.heap.size, 0, none⟩), .pointer (some ⟨w.heap.size + 1, 0, none⟩)]) (by simp) (by simp [go_sem]) ?_
    refine (rc_panicking w.heap.size _ _ [] _ _ _ _ _ _ _ X0 X1).mono ?_
    rintro e u' w'' ⟨rfl, rfl, rfl⟩
    have c0 := cell_of_row _ _ 0 _ _ _ X0
    have c1 := cell_of_row _ _ 1 _ _ _ X0
    have c2 := cell_of_row _ _ 2 _ _ _ X0
    have c3 := cell_of_row _ _ 0 _ _ _ X1
    simp [Leaves, settle, results, Tryd.results5, go_sem, c0, c1, c2, c3]
    exact ⟨none, 0, by rw [e2, e1]; rfl, by rw [e2]; exact ZOwn.nil _ _, (((BB.out.setCell (p := ⟨w.heap.size, 0, none⟩) (Nat.le_refl _) _).setCell (p := ⟨w.heap.size, 1, none⟩) (Nat.le_refl _) _).setCell (p := ⟨w.heap.size, 2, none⟩) (Nat.le_refl _) _).setCell (p := ⟨w.heap.size + 1, 0, none⟩) (Nat.le_succ _) _⟩
end Go.Proofs.YtnchghfddhjonaaDoor
