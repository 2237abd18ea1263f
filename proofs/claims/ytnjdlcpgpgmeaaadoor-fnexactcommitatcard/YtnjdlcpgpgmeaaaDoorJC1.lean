/-
  For every list of objects and every id, laws.FnExactCommitAt returns true and leaves its arguments as they were: impl.CommitAt answers as the reference does, and its answer is memory of its own. No conditions but that the two tables of the digest and the sentinel of the reader hold what the program's text lays (the card ties them).
-/
import Derived.Test.YtnjdlcpgpgmeaaaDoorCRdW
import Derived.Test.YtnjdlcpgpgmeaaaDoorCComL
import Derived.Defers
import Derived.Recover
import Derived.Laws.Pointers
import Derived.Test.YtnjdlcpgpgmeaaaDoorCSplS
import Derived.Test.YtnjdlcpgpgmeaaaDoorCText
import Derived.Test.YtnjdlcpgpgmeaaaDoorQFind
import Derived.Test.YtnjdlcpgpgmeaaaDoorCRow
import Derived.Test.YtnjdlcpgpgmeaaaDoorLMark
import Derived.Test.YtnjdlcpgpgmeaaaDoorPOrd
import Derived.BigQuiet
import Derived.IntWalk
import Derived.Test.YtnjdlcpgpgmeaaaDoorCards
import Derived.Test.YtnjdlcpgpgmeaaaDoorTie
import Derived.Test.YtnjdlcpgpgmeaaaDoorQIdS
import Derived.WalkKit
import Derived.ProofKit
import Derived.OpenShut
import Derived.ShutString
import Derived.Deep.DeepHandedRow
import Derived.Lib.LaidTab
import Derived.WalkSmall
import Derived.Carry
import Derived.Test.YtnjdlcpgpgmeaaaDoorCRdI
import Derived.LaidHandle
import Derived.Stop.LaidErr
import Derived.Test.YtnjdlcpgpgmeaaaDoorLPairS
import Derived.Test.YtnjdlcpgpgmeaaaDoorLOpen
/-
  The walk of impl.ReadCommit: what the reader's panic, caught, and its answer come to.
-/
namespace Go.Proofs.YtnjdlcpgpgmeaaaDoor
open Go.RowKit

def RetCom (s : ByteArray) (w : World) (e : Ending) (w' : World) : Prop :=
  ∃ A cap, e = .returned (.tuple #[.agg #[.string (rdC s).1, .slice A (rdC s).2.1.length cap, .string (rdC s).2.2], .bool (rdOk s)]) ∧ ZOwn w' w.heap.size A cap (rdC s).2.1 ∧ Below w.heap.size w w'
theorem rc_panicking (g : Nat) (u : TypeId) (pv : Value) (older : List PanicEntry) (w : World) (t m : ByteArray) (A : Option Addr) (n cap : Nat) (b : Bool) (h0 : w.heap[g]? = some (C3 t A n cap m)) (h1 : w.heap[g + 1]? = some (.cells #[.bool b] 4 (0, 0))) :
    CallsD Tryd.prog 29 #[.pointer (some ⟨g, 0, none⟩), .pointer (some ⟨g + 1, 0, none⟩)] (.panicking ({ v := .iface u pv, recovered := false } :: older)) w fun e u' w' =>
      e = .returned (.tuple #[]) ∧ u' = .panicking ({ v := .iface u pv, recovered := true } :: older) ∧ w' = (((w.setCell ⟨g, 0, none⟩ (.string ByteArray.empty)).setCell ⟨g, 1, none⟩ (.slice none 0 0)).setCell ⟨g, 2, none⟩ (.string ByteArray.empty)).setCell ⟨g + 1, 0, none⟩ (.bool false) := by
  have c0 := cell_of_row _ _ 0 _ _ _ h0
  have c1 := cell_of_row _ _ 1 _ _ _ h0
  have c2 := cell_of_row _ _ 2 _ _ _ h0
  have c3 := cell_of_row _ _ 0 _ _ _ h1
  have f0 := frozen_of_row _ _ 0 _ _ h0
  have f1 := frozen_of_row _ _ 1 _ _ h0
  have f2 := frozen_of_row _ _ 2 _ _ h0
  have f3 := frozen_of_row _ _ 0 _ _ h1
  refine callsD_of_wpS Tryd.func29 rfl fun c₀ cs hu => ?_
  apply wpS_seq
  apply wpS_region
  simp [wpOpsS, go_sem, recoverD, hu, Tryd.ntmps29, Exit.thenS]
  refine wpS_cond (t := true) (by simp [Act.eval, Array.replicate]) ?_
  simp only [if_true]
  apply wpS_region
  simp [wpOpsS, go_sem, c0, c1, c2, c3, f0, f1, f2, f3, bodyPostS, results, Tryd.results29]
  rfl

theorem rc_idle (p q : Addr) (w : World) :
    CallsD Tryd.prog 29 #[.pointer (some p), .pointer (some q)] .returning w fun e u' w' => e = .returned (.tuple #[]) ∧ u' = .returning ∧ w' = w := by
  refine callsD_of_wpS Tryd.func29 rfl fun c₀ cs hu => ?_
  apply wpS_seq
  apply wpS_region
  simp [wpOpsS, go_sem, recoverD, hu, Tryd.ntmps29, Exit.thenS]
  refine wpS_cond (t := false) (by simp [Act.eval, Array.replicate]) ?_
  simp only [Bool.false_eq_true, if_false]
  refine wpS_of_wp (wp_skip ?_)
  cases c₀
  simp_all [bodyPostS, results, Tryd.results29]
set_option maxRecDepth 100000 in
set_option maxHeartbeats 2000000 in
theorem implReadCommit_any (s : ByteArray) (a : Addr) (w : World) (hs : s.size ≤ maxLen) (hE : ErrC w a) :
    Calls Tryd.prog 16 #[.string s] w (RetCom s w) := by
  have hmf : ∀ (fn : Fn) (first cap : Array Value) (w : World), (Instr.makeFunc fn first cap).run Tryd.prog w = .ok (.func fn first cap) w := fun _ _ _ _ => rfl
  have A3 := hide (alloc3 w (.cells #[.string ByteArray.empty, .slice none 0 0, .string ByteArray.empty] 26) (.cells #[.bool false] 4) (.cells #[.string s] 54))
  have B3 := hide (((((Below.refl w.heap.size w).alloc (Nat.le_refl _) (.cells #[.string ByteArray.empty, .slice none 0 0, .string ByteArray.empty] 26)).alloc (by simp) (.cells #[.bool false] 4))).alloc (by simp; omega) (.cells #[.string s] 54))
  have hz3 : (((w.alloc (.cells #[.string ByteArray.empty, .slice none 0 0, .string ByteArray.empty] 26)).alloc (.cells #[.bool false] 4)).alloc (.cells #[.string s] 54)).heap.size = w.heap.size + 1 + 1 + 1 := by simp
  have C := hide (commit_any (w.heap.size + 1 + 1) s a _ hs (by rw [hz3]; omega) (by have := hE.2; omega) A3.out.2.2 (hE.below B3.out))
  go_enter_defers Tryd.func16, Tryd.ntmps16
  go_wp2_with fail
  refine C.out.mono ?_
  rintro e w1 ⟨q1, hh⟩
  have X0 := (q1.block w.heap.size (by omega)).trans A3.out.1
  have X1 := (q1.block (w.heap.size + 1) (by omega)).trans A3.out.2.1
  have BB := hide (B3.out.trans (q1.mono (by omega)))
  rcases hh with ⟨A, cap, t, ps, m, hc, rfl, own⟩ | ⟨hn, rfl⟩
  · obtain ⟨e1, e2⟩ := rd_yes hc
    have O := hide (own.more (B' := w.heap.size + 1 + 1) (by rw [hz3]; omega))
    clear own
    have c0 := cell_of_row _ _ 0 _ _ _ X0
    have c1 := cell_of_row _ _ 1 _ _ _ X0
    have c2 := cell_of_row _ _ 2 _ _ _ X0
    have c3 := cell_of_row _ _ 0 _ _ _ X1
    have f0 := frozen_of_row _ _ 0 _ _ X0
    have f1 := frozen_of_row _ _ 1 _ _ X0
    have f2 := frozen_of_row _ _ 2 _ _ X0
    have f3 := frozen_of_row _ _ 0 _ _ X1
    clear X0 X1 A3 B3 q1 C hz3
    go_wp2
    refine leaves_cons (f := 29) (args := #[.pointer (some ⟨w.heap.size, 0, none⟩), .pointer (some ⟨w.heap.size + 1, 0, none⟩)]) (by simp) (by simp [go_sem]) ?_
    refine (rc_idle ⟨w.heap.size, 0, none⟩ ⟨w.heap.size + 1, 0, none⟩ _).mono ?_
    rintro e u' w'' ⟨rfl, rfl, rfl⟩
    simp [Leaves, settle, results, Tryd.results16, go_sem, c0, c1, c2, c3]
    refine ⟨A, cap, by rw [e2, e1], ?_, (((BB.out.setCell (p := ⟨w.heap.size, 0, none⟩) (Nat.le_refl _) _).setCell (p := ⟨w.heap.size, 1, none⟩) (Nat.le_refl _) _).setCell (p := ⟨w.heap.size, 2, none⟩) (Nat.le_refl _) _).setCell (p := ⟨w.heap.size + 1, 0, none⟩) (Nat.le_succ _) _⟩
    rw [e2]
    have O2 : ZOwn _ (w.heap.size + 1 + 1) A cap ps := ownsRow_setCell_below (ownsRow_setCell_below (ownsRow_setCell_below (ownsRow_setCell_below O.out (a := ⟨w.heap.size, 0, none⟩) (by show w.heap.size < _; omega) (.string t)) (a := ⟨w.heap.size, 1, none⟩) (by show w.heap.size < _; omega) (.slice A ps.length cap)) (a := ⟨w.heap.size, 2, none⟩) (by show w.heap.size < _; omega) (.string m)) (a := ⟨w.heap.size + 1, 0, none⟩) (by show w.heap.size + 1 < _; omega) (.bool true)
    exact O2.more (by omega)
  · obtain ⟨e1, e2⟩ := rd_no hn
    clear A3 B3 q1 C hz3
    refine leaves_cons (f := 29) (args := #[.pointer (some ⟨w.heap.size, 0, none⟩), .pointer (some ⟨w.heap.size + 1, 0, none⟩)]) (by simp) (by simp [go_sem]) ?_
    refine (rc_panicking w.heap.size _ _ [] _ _ _ _ _ _ _ X0 X1).mono ?_
    rintro e u' w'' ⟨rfl, rfl, rfl⟩
    have c0 := cell_of_row _ _ 0 _ _ _ X0
    have c1 := cell_of_row _ _ 1 _ _ _ X0
    have c2 := cell_of_row _ _ 2 _ _ _ X0
    have c3 := cell_of_row _ _ 0 _ _ _ X1
    simp [Leaves, settle, results, Tryd.results16, go_sem, c0, c1, c2, c3]
    exact ⟨none, 0, by rw [e2, e1]; rfl, by rw [e2]; exact ZOwn.nil _ _, (((BB.out.setCell (p := ⟨w.heap.size, 0, none⟩) (Nat.le_refl _) _).setCell (p := ⟨w.heap.size, 1, none⟩) (Nat.le_refl _) _).setCell (p := ⟨w.heap.size, 2, none⟩) (Nat.le_refl _) _).setCell (p := ⟨w.heap.size + 1, 0, none⟩) (Nat.le_succ _) _⟩
end Go.Proofs.YtnjdlcpgpgmeaaaDoor
/-
  The walk of spec.ReadCommit.
-/
namespace Go.Proofs.YtnjdlcpgpgmeaaaDoor
open Go.RowKit

theorem ZOwn.setOther {w : World} {B : Nat} {A : Option Addr} {cap : Nat} {l : List ByteArray} (h : ZOwn w B A cap l) {p : Addr} (hp : rowOf A ≠ some p.block) (u : Value) : ZOwn (w.setCell p u) B A cap l :=
  h.kept (r := p.block) (by
    have b := (Below.refl p.block w).setCell (p := p) (Nat.le_refl _) u
    exact ⟨b.os, b.tape, b.output, b.size, fun i _ hne => Below.heap_setCell _ _ _ _ (fun e => hne (by rw [e]))⟩) hp
theorem split_size : ∀ (n : Nat) (s x : ByteArray), x ∈ splitF n s → x.size ≤ s.size
  | 0, s, x, h => by simp [splitF] at h; rw [h]; exact Nat.le_refl _
  | n + 1, s, x, h => by
    have hc := cutA_one (s := s) (c := 32)
    cases hb : (cutS s 32).2.2
    · rw [splitF_last hb] at h; simp at h; rw [h]; exact hc.1
    · rw [splitF_more hb] at h
      rcases List.mem_cons.1 h with rfl | h
      · exact hc.1
      · exact Nat.le_trans (split_size n _ x h) hc.2
/-- what a right commit's text looks like, cut and parted -/
theorem com_seen {s : ByteArray} {c : Com} (h : isCom s c) : (cutS s 10).2.2 = true ∧ (cutS s 10).2.1 = c.2.2 ∧ splitF ((cutS s 10).1.size + 1) (cutS s 10).1 = ⟨#[99, 111, 109, 109, 105, 116]⟩ :: c.1 :: c.2.1 := by
  obtain ⟨h1, h2⟩ := com_head h.1
  rw [h.2] at h1
  rw [h1]
  refine ⟨rfl, rfl, h2 _ ?_⟩
  have : 6 ≤ ((⟨#[99, 111, 109, 109, 105, 116]⟩ : ByteArray) ++ blanks (c.1 :: c.2.1)).size := by
    rw [ByteArray.size_append]
    show 6 ≤ 6 + _
    omega
  show 3 ≤ ((⟨#[99, 111, 109, 109, 105, 116]⟩ : ByteArray) ++ blanks (c.1 :: c.2.1)).size + 1
  omega
theorem com_text {s t m : ByteArray} {l : List ByteArray} (hc : (cutS s 10).2.2 = true) (h : comTextS t l m = s) : isCom s (t, l, m) := by
  cases hb : comB t l m
  · rw [comText_no hb] at h
    subst h
    have := cutA_rest hc
    simp at this
  · rw [comText_yes hb] at h
    exact ⟨hb, h⟩
theorem com_text_no {s t m : ByteArray} {l : List ByteArray} (hm : (cutS s 10).2.1 = m) (hp : splitF ((cutS s 10).1.size + 1) (cutS s 10).1 = ⟨#[99, 111, 109, 109, 105, 116]⟩ :: t :: l) (h : comTextS t l m ≠ s) : ¬ ∃ c, isCom s c := by
  rintro ⟨c, hc⟩
  obtain ⟨_, h2, h3⟩ := com_seen hc
  rw [hp] at h3
  simp only [List.cons.injEq, true_and] at h3
  refine h ?_
  rw [h3.1, h3.2, ← hm, h2, comText_yes hc.1]
  exact hc.2
theorem row_top {w : World} {B : Nat} {A : Option Addr} {cap : Nat} {l : List ByteArray} (h : ZOwn w B A cap l) : rowOf A ≠ some w.heap.size := fun e => by have := (h.row _ e).2; omega
theorem row_low {w : World} {B : Nat} {A : Option Addr} {cap : Nat} {l : List ByteArray} (h : ZOwn w (B + 1) A cap l) : rowOf A ≠ some B := fun e => by have := (h.row _ e).1; omega
theorem row_ne (K : Nat) : some (K + 1) ≠ rowOf (some (⟨K, 0, none⟩ : Addr)) := by simp [rowOf]
theorem row_mid {w : World} {C E : Obj} {A : Option Addr} (h : rowOf A = rowOf (some (⟨w.heap.size, 0, none⟩ : Addr)) ∨ rowOf A = some ((w.alloc E).alloc C).drew.heap.size) : rowOf A ≠ some (w.heap.size + 1) := fun e => by
  rcases h with r | r <;> rw [e] at r <;> simp [rowOf, World.drew] at r
theorem grown_other {w w' : World} {r : Option Nat} {i : Nat} (h : w.grownBy w' r) (hi : i < w.heap.size) (hne : some i ≠ r) : w'.heap[i]? = w.heap[i]? := h.block i hi hne
theorem keep3 {w : World} {b g o : Nat} {u0 u1 u2 v : Value} (hc : w.cell? ⟨g, o, none⟩ = some v) (h : g ≠ b) : (((w.setCell ⟨b, 0, none⟩ u0).setCell ⟨b, 1, none⟩ u1).setCell ⟨b, 2, none⟩ u2).cell? ⟨g, o, none⟩ = some v :=
  (World.cell?_of_block (a := ⟨g, o, none⟩) ((Below.heap_setCell _ _ _ _ h).trans ((Below.heap_setCell _ _ _ _ h).trans (Below.heap_setCell _ _ _ _ h)))).trans hc
/-- a commit stored in a block of its own -/
theorem put3 {w : World} {b : Nat} {t m t0 m0 : ByteArray} {A A0 : Option Addr} {n n0 cap cap0 : Nat} (h : w.heap[b]? = some (C3 t0 A0 n0 cap0 m0)) : (((w.setCell ⟨b, 0, none⟩ (.string t)).setCell ⟨b, 1, none⟩ (.slice A n cap)).setCell ⟨b, 2, none⟩ (.string m)).heap[b]? = some (C3 t A n cap m) :=
  heap_setCell_same _ b 2 _ _ _ (heap_setCell_same _ b 1 _ _ _ (heap_setCell_same w b 0 _ _ _ h))
theorem own3 {w : World} {B b : Nat} {A : Option Addr} {cap : Nat} {l : List ByteArray} {u0 u1 u2 : Value} (h : ZOwn w B A cap l) (hr : rowOf A ≠ some b) : ZOwn (((w.setCell ⟨b, 0, none⟩ u0).setCell ⟨b, 1, none⟩ u1).setCell ⟨b, 2, none⟩ u2) B A cap l := ((h.setOther (p := ⟨b, 0, none⟩) hr u0).setOther (p := ⟨b, 1, none⟩) hr u1).setOther (p := ⟨b, 2, none⟩) hr u2
theorem bel3 {w0 w : World} {B b : Nat} {u0 u1 u2 : Value} (h : Below B w0 w) (hb : B ≤ b) : Below B w0 (((w.setCell ⟨b, 0, none⟩ u0).setCell ⟨b, 1, none⟩ u1).setCell ⟨b, 2, none⟩ u2) := ((h.setCell (p := ⟨b, 0, none⟩) hb u0).setCell (p := ⟨b, 1, none⟩) hb u1).setCell (p := ⟨b, 2, none⟩) hb u2
def Zero (s : ByteArray) (w : World) (e : Ending) (w' : World) : Prop := (¬ ∃ c, isCom s c) → RetCom s w e w'

set_option maxRecDepth 100000 in
set_option maxHeartbeats 4000000 in
theorem specReadCommit_any (s : ByteArray) (w : World) (hs : s.size ≤ 1048576) :
    Calls Tryd.prog 15 #[.string s] w (RetCom s w) := by
  have B0 := hide ((Below.refl w.heap.size w).alloc (Nat.le_refl _) (.cells #[.string ByteArray.empty, .slice none 0 0, .string ByteArray.empty] 26))
  have X0 : Hid ((w.alloc (.cells #[.string ByteArray.empty, .slice none 0 0, .string ByteArray.empty] 26)).heap[w.heap.size]? = some (C3 ByteArray.empty none 0 0 ByteArray.empty)) := hide (heap_alloc_new w _)
  have hz0 : (w.alloc (.cells #[.string ByteArray.empty, .slice none 0 0, .string ByteArray.empty] 26)).heap.size = w.heap.size + 1 := by simp
  have hcs := (cutA_one (s := s) (c := 10))
  go_enter Tryd.func15, Tryd.ntmps15
  go_wp2_with fail
  refine (l1Cut_any s 10 10 _ (by unfold maxLen; omega) rfl).mono ?_
  rintro e w1 ⟨rfl, q1⟩
  go_wp2_with fail
  refine (l1Split_any (cutS s 10).1 w1 (by omega)).mono ?_
  rintro e w2 ⟨A1, cap1, rfl, own1, b2, hlen⟩
  have hz1 : w1.heap.size = w.heap.size + 1 := by
    obtain ⟨k, rfl⟩ := q1
    exact hz0
  have B2 := hide (B0.out.trans ((q1.below w.heap.size).trans (b2.mono (by omega))))
  have X2 := hide ((b2.block w.heap.size (by omega)).trans (((q1.below (w.heap.size + 1)).block w.heap.size (by omega)).trans X0.out))
  have O := hide own1
  rw [hz1] at O
  have hz2 : w.heap.size + 1 ≤ w2.heap.size := by have := b2.size; omega
  have g0 := cell_of_row _ _ 0 _ _ _ X2.out
  have g1 := cell_of_row _ _ 1 _ _ _ X2.out
  have g2 := cell_of_row _ _ 2 _ _ _ X2.out
  have k0 := frozen_of_row _ _ 0 _ _ X2.out
  have k1 := frozen_of_row _ _ 1 _ _ X2.out
  have k2 := frozen_of_row _ _ 2 _ _ X2.out
  have NO : Hid ((¬ ∃ c, isCom s c) → ∀ e, e = Ending.returned (.tuple #[.agg #[.string ByteArray.empty, .slice none 0 0, .string ByteArray.empty], .bool false]) → ∀ w3, Below w.heap.size w2 w3 → RetCom s w e (((w3.setCell ⟨w.heap.size, 0, none⟩ (.string ByteArray.empty)).setCell ⟨w.heap.size, 1, none⟩ (.slice none 0 0)).setCell ⟨w.heap.size, 2, none⟩ (.string ByteArray.empty))) := hide (by
    rintro hn e rfl w3 b3
    obtain ⟨e1, e2⟩ := rd_no hn
    exact ⟨none, 0, by rw [e2, e1]; rfl, by rw [e2]; exact ZOwn.nil _ _, (((B2.out.trans b3).setCell (p := ⟨w.heap.size, 0, none⟩) (Nat.le_refl _) _).setCell (p := ⟨w.heap.size, 1, none⟩) (Nat.le_refl _) _).setCell (p := ⟨w.heap.size, 2, none⟩) (Nat.le_refl _) _⟩)
  clear q1 b2 own1 hz0 hz1 X0 B0
  cases hcut : (cutS s 10).2.2
  · have N := hide (NO.out (fun ⟨c, hc⟩ => by have := (com_seen hc).1; rw [hcut] at this; cases this) _ rfl w2 (Below.refl _ _))
    clear hlen
    generalize splitF ((cutS s 10).1.size + 1) (cutS s 10).1 = p at *
    generalize (cutS s 10).1 = x at *
    generalize (cutS s 10).2.1 = m at *
    go_wp2
    exact bodyPost_ret (v := .tuple #[.agg #[.string ByteArray.empty, .slice none 0 0, .string ByteArray.empty], .bool false]) (by simp [results, Tryd.results15, go_sem, g0, g1, g2]; rfl) rfl N.out
  · generalize hp : splitF ((cutS s 10).1.size + 1) (cutS s 10).1 = p at *
    have hszp : Hid (∀ x ∈ p, x.size ≤ maxLen) := hide (fun x hx => by rw [← hp] at hx; have := split_size _ _ x hx; unfold maxLen; omega)
    have HP := hide hp
    have HC := hide hcut
    have hms : (cutS s 10).2.1.size ≤ 1048576 := by omega
    generalize hm : (cutS s 10).2.1 = m at *
    have HM := hide hm
    generalize hx : (cutS s 10).1 = x at *
    clear hp hm hcut
    have RET0 : ∀ (w3 : World) (a : Act), True := fun _ _ => trivial
    rcases p with _ | ⟨x0, _ | ⟨t, l⟩⟩
    · have N := hide (NO.out (fun ⟨c, hc⟩ => by have := (com_seen hc).2.2; rw [hx, HP.out] at this; cases this) _ rfl w2 (Below.refl _ _))
      go_wp2
      exact bodyPost_ret (v := .tuple #[.agg #[.string ByteArray.empty, .slice none 0 0, .string ByteArray.empty], .bool false]) (by simp [results, Tryd.results15, go_sem, g0, g1, g2]; rfl) rfl N.out
    · have N := hide (NO.out (fun ⟨c, hc⟩ => by have := (com_seen hc).2.2; rw [hx, HP.out] at this; cases this) _ rfl w2 (Below.refl _ _))
      go_wp2
      exact bodyPost_ret (v := .tuple #[.agg #[.string ByteArray.empty, .slice none 0 0, .string ByteArray.empty], .bool false]) (by simp [results, Tryd.results15, go_sem, g0, g1, g2]; rfl) rfl N.out
    · obtain ⟨gb, rfl, hgB, hgs⟩ : ∃ g, A1 = some ⟨g, 0, none⟩ ∧ w.heap.size + 1 ≤ g ∧ g < w2.heap.size := by
        rcases O.out.form with ⟨_, _, h⟩ | h
        · cases h
        · exact h
      obtain ⟨b, off, heq, hb, hc⟩ := O.out.zin (by simp)
      cases heq
      have c0 : w2.cell? ⟨gb, 0, none⟩ = some (.string x0) := hc 0 (by simp)
      have c1 : w2.cell? ⟨gb, 1, none⟩ = some (.string t) := hc 1 (by simp)
      have hcap := O.out.cap_le
      have IN := hide (O.out.zin.drop (cap := cap1) O.out.cap_le 2)
      clear hc
      have hln : (x0 :: t :: l).length = l.length + 2 := rfl
      generalize hn : (x0 :: t :: l).length = n at *
      have n2 : ¬ (n : Int) < 2 := by omega
      have n0 : (0 : Int) < (n : Int) := by omega
      have n1 : (1 : Int) < (n : Int) := by omega
      have HLN := hide hln
      have hl0 : l.length = n - 2 := by omega
      have HL0 := hide hl0
      have hn3 : n ≤ 1048577 := by omega
      clear hn hln hl0
      by_cases hx0 : x0 = ⟨#[99, 111, 109, 109, 105, 116]⟩
      case neg =>
        have d2 := eqS_no hx0
        have d4 : (x0.toList == [99, 111, 109, 109, 105, 116]) = false := by
          have e : (ByteArray.mk #[99, 111, 109, 109, 105, 116]).toList = [99, 111, 109, 109, 105, 116] := by rw [Go.ByteArray.toList_eq]
          rw [← e]; exact d2
        have N := hide (NO.out (fun ⟨c, hc⟩ => by have := (com_seen hc).2.2; rw [hx, HP.out] at this; simp only [List.cons.injEq] at this; exact hx0 this.1) _ rfl w2 (Below.refl _ _))
        go_wp2
        exact bodyPost_ret (v := .tuple #[.agg #[.string ByteArray.empty, .slice none 0 0, .string ByteArray.empty], .bool false]) (by simp [results, Tryd.results15, go_sem, g0, g1, g2]; rfl) rfl N.out
      subst hx0
      have K2 := run_cutZ_l 24 Tryd.underlying24 (some ⟨gb, 0, none⟩) n cap1 2 (by omega)
      have hb0 := hide ((Below.refl w2.heap.size w2).alloc (Nat.le_refl _) (Obj.cells #[] 9))
      have hb1 := hide ((Below.refl w2.heap.size w2).alloc (Nat.le_refl _) (Obj.cells #[Value.string { data := #[] }, Value.slice none 0 0, Value.string { data := #[] }] 26))
      have BC : Hid (Below w2.heap.size w2 (w2.alloc (Obj.cells #[] 9)).drew) := hide hb0.out.drew
      have BB : Hid (Below w2.heap.size w2 ((w2.alloc (Obj.cells #[] 9)).alloc (Obj.cells #[Value.string { data := #[] }, Value.slice none 0 0, Value.string { data := #[] }] 26)).drew) := hide (hb0.out.alloc hb0.out.size _).drew
      have BA1 : Hid (Below w2.heap.size w2 (w2.alloc (Obj.cells #[Value.string { data := #[] }, Value.slice none 0 0, Value.string { data := #[] }] 26)).drew) := hide hb1.out.drew
      have BA : Hid (Below w2.heap.size w2 ((w2.alloc (Obj.cells #[Value.string { data := #[] }, Value.slice none 0 0, Value.string { data := #[] }] 26)).alloc (Obj.cells #[] 9)).drew) := hide (hb1.out.alloc hb1.out.size _).drew
      have OC : Hid (ZOwn (w2.alloc (Obj.cells #[] 9)).drew w2.heap.size (some ⟨w2.heap.size, 0, none⟩) 0 []) := hide ((ZOwn.built w2 w2.heap.size (Nat.le_refl _)).below (Below.refl _ _).drew)
      have OB : Hid (ZOwn ((w2.alloc (Obj.cells #[] 9)).alloc (Obj.cells #[Value.string { data := #[] }, Value.slice none 0 0, Value.string { data := #[] }] 26)).drew w2.heap.size (some ⟨w2.heap.size, 0, none⟩) 0 []) := hide (((ZOwn.built w2 w2.heap.size (Nat.le_refl _)).alloc _).below (Below.refl _ _).drew)
      have OA : Hid (ZOwn ((w2.alloc (Obj.cells #[Value.string { data := #[] }, Value.slice none 0 0, Value.string { data := #[] }] 26)).alloc (Obj.cells #[] 9)).drew (w2.heap.size + 1) (some ⟨w2.heap.size + 1, 0, none⟩) 0 []) := hide (by
        have h := (ZOwn.built (w2.alloc (Obj.cells #[Value.string { data := #[] }, Value.slice none 0 0, Value.string { data := #[] }] 26)) (w2.heap.size + 1) (by simp)).below (Below.refl _ _).drew
        rw [show (w2.alloc (Obj.cells #[Value.string { data := #[] }, Value.slice none 0 0, Value.string { data := #[] }] 26)).heap.size = w2.heap.size + 1 by simp] at h
        exact h)
      have IC : Hid (ZIn (w2.alloc (Obj.cells #[] 9)).drew w2.heap.size (cutZ (some ⟨gb, 0, none⟩) cap1 2) l) := hide (IN.out.below BC.out)
      have IB : Hid (ZIn ((w2.alloc (Obj.cells #[] 9)).alloc (Obj.cells #[Value.string { data := #[] }, Value.slice none 0 0, Value.string { data := #[] }] 26)).drew w2.heap.size (cutZ (some ⟨gb, 0, none⟩) cap1 2) l) := hide (IN.out.below BB.out)
      have IA : Hid (ZIn ((w2.alloc (Obj.cells #[Value.string { data := #[] }, Value.slice none 0 0, Value.string { data := #[] }] 26)).alloc (Obj.cells #[] 9)).drew w2.heap.size (cutZ (some ⟨gb, 0, none⟩) cap1 2) l) := hide (IN.out.below BA.out)
      have YB : Hid ((((w2.alloc (Obj.cells #[] 9)).alloc (Obj.cells #[Value.string { data := #[] }, Value.slice none 0 0, Value.string { data := #[] }] 26)).drew).heap[w2.heap.size + 1]? = some (C3 ByteArray.empty none 0 0 ByteArray.empty)) := hide (heap_alloc2_new w2 _ _)
      have YA : Hid ((((w2.alloc (Obj.cells #[Value.string { data := #[] }, Value.slice none 0 0, Value.string { data := #[] }] 26)).alloc (Obj.cells #[] 9)).drew).heap[w2.heap.size]? = some (C3 ByteArray.empty none 0 0 ByteArray.empty)) := hide (heap_alloc2_old w2 _ _)
      have sB : w2.heap.size + 1 < (((w2.alloc (Obj.cells #[] 9)).alloc (Obj.cells #[Value.string { data := #[] }, Value.slice none 0 0, Value.string { data := #[] }] 26)).drew).heap.size := by simp [World.drew]
      have sA : w2.heap.size + 1 ≤ (((w2.alloc (Obj.cells #[Value.string { data := #[] }, Value.slice none 0 0, Value.string { data := #[] }] 26)).alloc (Obj.cells #[] 9)).drew).heap.size := by simp [World.drew]
      have hlb : ([] : List ByteArray).length + l.length ≤ 3000000 := by rw [HL0.out]; simp; omega
      have hgs' := hgs
      clear hb0 hb1
      go_wp2_with fail
      have hcut2 : (if cap1 = 2 then some (⟨gb, 0, none⟩ : Addr) else some ⟨gb, 2, none⟩) = cutZ (some ⟨gb, 0, none⟩) cap1 2 := by simp [cutZ, Addr.add]
      go_region_held3 (fun w' => w'.cell? ⟨gb, 1, none⟩ = some (.string t)) (first | go_keep | exact cellB BC.out hgs' c1 | exact cellB BB.out hgs' c1 | exact cellB BA1.out hgs' c1 | exact cellB BA.out hgs' c1 | exact z1 | exact keep3 z1 (by omega)) (first
        | (refine step_appZ (w := (w2.alloc (Obj.cells #[] 9)).drew) (n := 0) (m := n - 2) (A := some ⟨w2.heap.size, 0, none⟩) (cap := 0) (A' := cutZ (some ⟨gb, 0, none⟩) cap1 2) (c := cap1 - 2) (l := []) (l' := l) 24 Tryd.underlying24 rfl (.tmp 34) (.tmp 36) rfl (by simp [Act.eval]) (by simp [Act.eval, cutZ, Addr.add]) rfl HL0.out.symm OC.out IC.out BC.out.size hlb ?_; intro A5 cap5 w5 own5 g5 r5; have B5 := hide (BC.out.trans (OC.out.grownBelow g5 BC.out.size)); have ROW := hide (row_top own5); have O5 := hide own5; have z1 := cellB B5.out hgs' c1; have MC := trivial; clear own5 g5 r5)
        | (refine step_appZ (w := ((w2.alloc (Obj.cells #[] 9)).alloc (Obj.cells #[Value.string { data := #[] }, Value.slice none 0 0, Value.string { data := #[] }] 26)).drew) (n := 0) (m := n - 2) (A := some ⟨w2.heap.size, 0, none⟩) (cap := 0) (A' := cutZ (some ⟨gb, 0, none⟩) cap1 2) (c := cap1 - 2) (l := []) (l' := l) 24 Tryd.underlying24 rfl (.tmp 34) (.tmp 36) rfl (by simp [Act.eval]) (by simp [Act.eval, cutZ, Addr.add]) rfl HL0.out.symm OB.out IB.out BB.out.size hlb ?_; intro A5 cap5 w5 own5 g5 r5; have B5 := hide (BB.out.trans (OB.out.grownBelow g5 BB.out.size)); have X5 := hide ((grown_other g5 sB (row_ne _)).trans YB.out); have ROW := hide (row_mid r5); have c50 := cell_of_row _ _ 0 _ _ _ X5.out; have f50 := frozen_of_row _ _ 0 _ _ X5.out; have c51 := cell_of_row _ _ 1 _ _ _ X5.out; have f51 := frozen_of_row _ _ 1 _ _ X5.out; have c52 := cell_of_row _ _ 2 _ _ _ X5.out; have f52 := frozen_of_row _ _ 2 _ _ X5.out; have O5 := hide own5; have z1 := cellB B5.out hgs' c1; have MB := trivial; clear own5 g5 r5)
        | (refine step_appZ (w := ((w2.alloc (Obj.cells #[Value.string { data := #[] }, Value.slice none 0 0, Value.string { data := #[] }] 26)).alloc (Obj.cells #[] 9)).drew) (n := 0) (m := n - 2) (A := some ⟨w2.heap.size + 1, 0, none⟩) (cap := 0) (A' := cutZ (some ⟨gb, 0, none⟩) cap1 2) (c := cap1 - 2) (l := []) (l' := l) 24 Tryd.underlying24 rfl (.tmp 34) (.tmp 36) rfl (by simp [Act.eval]) (by simp [Act.eval, cutZ, Addr.add]) rfl HL0.out.symm OA.out IA.out sA hlb ?_; intro A5 cap5 w5 own5 g5 r5; have b5 := hide (OA.out.grownBelow g5 sA); have B5 := hide (BA.out.trans (b5.out.mono (Nat.le_succ _))); have X5 := hide ((b5.out.block w2.heap.size (Nat.lt_succ_self _)).trans YA.out); have ROW := hide (row_low own5); have c50 := cell_of_row _ _ 0 _ _ _ X5.out; have f50 := frozen_of_row _ _ 0 _ _ X5.out; have c51 := cell_of_row _ _ 1 _ _ _ X5.out; have f51 := frozen_of_row _ _ 1 _ _ X5.out; have c52 := cell_of_row _ _ 2 _ _ _ X5.out; have f52 := frozen_of_row _ _ 2 _ _ X5.out; have O5 := hide own5; have z1 := cellB B5.out hgs' c1; have MA := trivial; clear own5 g5 r5 b5))
      · clear hcut2 K2
        have X6 : Hid ((w5.alloc (Obj.cells #[Value.string t, Value.slice A5 l.length cap5, Value.string m] 26)).heap[w5.heap.size]? = some (C3 t A5 l.length cap5 m)) := hide (heap_alloc_new w5 _)
        have O6 : Hid (ZOwn (w5.alloc (Obj.cells #[Value.string t, Value.slice A5 l.length cap5, Value.string m] 26)) w2.heap.size A5 cap5 l) := hide (O5.out.alloc _)
        have B6 : Hid (Below w2.heap.size w2 (w5.alloc (Obj.cells #[Value.string t, Value.slice A5 l.length cap5, Value.string m] 26))) := hide (B5.out.alloc B5.out.size _)
        have hcb : w2.heap.size ≤ w5.heap.size := B5.out.size
        have S6 : w5.heap.size < (w5.alloc (Obj.cells #[Value.string t, Value.slice A5 l.length cap5, Value.string m] 26)).heap.size := (Array.getElem?_eq_some_iff.1 X6.out).1
        generalize (w5.alloc (Obj.cells #[Value.string t, Value.slice A5 l.length cap5, Value.string m] 26)) = w6 at *
        generalize hcbe : w5.heap.size = cb at *
        clear B5 O5 ROW z1 OC OB OA IC IB IA BC BB BA BA1 YA YB sA sB
        have c60 := cell_of_row _ _ 0 _ _ _ X6.out
        have c61 := cell_of_row _ _ 1 _ _ _ X6.out
        have c62 := cell_of_row _ _ 2 _ _ _ X6.out
        go_wp2_with fail
        refine (specCommitText_any t m A5 l cap5 w6 (hszp.out t (by simp)) (by unfold maxLen; omega) (by rw [HL0.out]; unfold maxLen; omega) ⟨fun i hi => hszp.out _ (List.mem_cons_of_mem _ (List.mem_cons_of_mem _ (List.getElem_mem hi))), O6.out.zin⟩).mono ?_
        rintro e w7 ⟨rfl, b7⟩
        have X7 := hide ((b7.block cb (by have := S6; omega)).trans X6.out)
        have G7 := hide ((b7.block w.heap.size (by have := S6; omega)).trans ((B6.out.block w.heap.size (by omega)).trans X2.out))
        have B7 := hide (B6.out.trans (b7.mono (by have := S6; have := B6.out.size; omega)))
        have O7 := hide (O6.out.below b7)
        clear b7 X6 B6 O6 c60 c61 c62 g0 g1 g2 k0 k1 k2 X2
        have c70 := cell_of_row _ _ 0 _ _ _ X7.out
        have c71 := cell_of_row _ _ 1 _ _ _ X7.out
        have c72 := cell_of_row _ _ 2 _ _ _ X7.out
        have g0 := cell_of_row _ _ 0 _ _ _ G7.out
        have g1 := cell_of_row _ _ 1 _ _ _ G7.out
        have g2 := cell_of_row _ _ 2 _ _ _ G7.out
        have k0 := frozen_of_row _ _ 0 _ _ G7.out
        have k1 := frozen_of_row _ _ 1 _ _ G7.out
        have k2 := frozen_of_row _ _ 2 _ _ G7.out
        by_cases hT : comTextS t l m = s
        · obtain ⟨e1, e2⟩ := rd_yes (com_text HC.out hT)
          have E := eqS_yes hT
          have RR := hide (show RetCom s w (.returned (.tuple #[.agg #[.string t, .slice A5 l.length cap5, .string m], .bool true])) (((w7.setCell ⟨w.heap.size, 0, none⟩ (.string t)).setCell ⟨w.heap.size, 1, none⟩ (.slice A5 l.length cap5)).setCell ⟨w.heap.size, 2, none⟩ (.string m)) from
            ⟨A5, cap5, by rw [e2, e1], by rw [e2]; exact (own3 O7.out (fun h => by have := (O7.out.row _ h).1; omega)).more (by omega), bel3 (B2.out.trans (B7.out.mono (by omega))) (Nat.le_refl _)⟩)
          clear hT e1 e2
          generalize comTextS t l m = cs at *
          generalize l.length = nl at *
          go_wp2
          exact bodyPost_ret (v := .tuple #[.agg #[.string t, .slice A5 nl cap5, .string m], .bool true]) (by simp [results, Tryd.results15, go_sem, g0, g1, g2]) rfl RR.out
        · have E := eqS_no hT
          have N := hide (NO.out (com_text_no HM.out (by rw [hx]; exact HP.out) hT) _ rfl w7 (B7.out.mono (by omega)))
          clear hT
          generalize comTextS t l m = cs at *
          generalize l.length = nl at *
          go_wp2
          exact bodyPost_ret (v := .tuple #[.agg #[.string ByteArray.empty, .slice none 0 0, .string ByteArray.empty], .bool false]) (by simp [results, Tryd.results15, go_sem, g0, g1, g2]; rfl) rfl N.out
      · clear hcut2 K2
        have X6 : Hid (((((w5).setCell ⟨w2.heap.size + 1, 0, none⟩ (Value.string t)).setCell ⟨w2.heap.size + 1, 1, none⟩ (Value.slice A5 l.length cap5)).setCell ⟨w2.heap.size + 1, 2, none⟩ (Value.string m)).heap[w2.heap.size + 1]? = some (C3 t A5 l.length cap5 m)) := hide (put3 X5.out)
        have O6 : Hid (ZOwn ((((w5).setCell ⟨w2.heap.size + 1, 0, none⟩ (Value.string t)).setCell ⟨w2.heap.size + 1, 1, none⟩ (Value.slice A5 l.length cap5)).setCell ⟨w2.heap.size + 1, 2, none⟩ (Value.string m)) w2.heap.size A5 cap5 l) := hide (own3 O5.out ROW.out)
        have B6 : Hid (Below w2.heap.size w2 ((((w5).setCell ⟨w2.heap.size + 1, 0, none⟩ (Value.string t)).setCell ⟨w2.heap.size + 1, 1, none⟩ (Value.slice A5 l.length cap5)).setCell ⟨w2.heap.size + 1, 2, none⟩ (Value.string m))) := hide (bel3 B5.out (Nat.le_succ _))
        have hcb : w2.heap.size ≤ w2.heap.size + 1 := (Nat.le_succ _)
        have S6 : w2.heap.size + 1 < ((((w5).setCell ⟨w2.heap.size + 1, 0, none⟩ (Value.string t)).setCell ⟨w2.heap.size + 1, 1, none⟩ (Value.slice A5 l.length cap5)).setCell ⟨w2.heap.size + 1, 2, none⟩ (Value.string m)).heap.size := (Array.getElem?_eq_some_iff.1 X6.out).1
        generalize ((((w5).setCell ⟨w2.heap.size + 1, 0, none⟩ (Value.string t)).setCell ⟨w2.heap.size + 1, 1, none⟩ (Value.slice A5 l.length cap5)).setCell ⟨w2.heap.size + 1, 2, none⟩ (Value.string m)) = w6 at *
        generalize hcbe : w2.heap.size + 1 = cb at *
        clear B5 O5 ROW z1 OC OB OA IC IB IA BC BB BA BA1 YA YB sA sB X5 c50 c51 c52 f50 f51 f52
        have c60 := cell_of_row _ _ 0 _ _ _ X6.out
        have c61 := cell_of_row _ _ 1 _ _ _ X6.out
        have c62 := cell_of_row _ _ 2 _ _ _ X6.out
        go_wp2_with fail
        refine (specCommitText_any t m A5 l cap5 w6 (hszp.out t (by simp)) (by unfold maxLen; omega) (by rw [HL0.out]; unfold maxLen; omega) ⟨fun i hi => hszp.out _ (List.mem_cons_of_mem _ (List.mem_cons_of_mem _ (List.getElem_mem hi))), O6.out.zin⟩).mono ?_
        rintro e w7 ⟨rfl, b7⟩
        have X7 := hide ((b7.block cb (by have := S6; omega)).trans X6.out)
        have G7 := hide ((b7.block w.heap.size (by have := S6; omega)).trans ((B6.out.block w.heap.size (by omega)).trans X2.out))
        have B7 := hide (B6.out.trans (b7.mono (by have := S6; have := B6.out.size; omega)))
        have O7 := hide (O6.out.below b7)
        clear b7 X6 B6 O6 c60 c61 c62 g0 g1 g2 k0 k1 k2 X2
        have c70 := cell_of_row _ _ 0 _ _ _ X7.out
        have c71 := cell_of_row _ _ 1 _ _ _ X7.out
        have c72 := cell_of_row _ _ 2 _ _ _ X7.out
        have g0 := cell_of_row _ _ 0 _ _ _ G7.out
        have g1 := cell_of_row _ _ 1 _ _ _ G7.out
        have g2 := cell_of_row _ _ 2 _ _ _ G7.out
        have k0 := frozen_of_row _ _ 0 _ _ G7.out
        have k1 := frozen_of_row _ _ 1 _ _ G7.out
        have k2 := frozen_of_row _ _ 2 _ _ G7.out
        by_cases hT : comTextS t l m = s
        · obtain ⟨e1, e2⟩ := rd_yes (com_text HC.out hT)
          have E := eqS_yes hT
          have RR := hide (show RetCom s w (.returned (.tuple #[.agg #[.string t, .slice A5 l.length cap5, .string m], .bool true])) (((w7.setCell ⟨w.heap.size, 0, none⟩ (.string t)).setCell ⟨w.heap.size, 1, none⟩ (.slice A5 l.length cap5)).setCell ⟨w.heap.size, 2, none⟩ (.string m)) from
            ⟨A5, cap5, by rw [e2, e1], by rw [e2]; exact (own3 O7.out (fun h => by have := (O7.out.row _ h).1; omega)).more (by omega), bel3 (B2.out.trans (B7.out.mono (by omega))) (Nat.le_refl _)⟩)
          clear hT e1 e2
          generalize comTextS t l m = cs at *
          generalize l.length = nl at *
          go_wp2
          exact bodyPost_ret (v := .tuple #[.agg #[.string t, .slice A5 nl cap5, .string m], .bool true]) (by simp [results, Tryd.results15, go_sem, g0, g1, g2]) rfl RR.out
        · have E := eqS_no hT
          have N := hide (NO.out (com_text_no HM.out (by rw [hx]; exact HP.out) hT) _ rfl w7 (B7.out.mono (by omega)))
          clear hT
          generalize comTextS t l m = cs at *
          generalize l.length = nl at *
          go_wp2
          exact bodyPost_ret (v := .tuple #[.agg #[.string ByteArray.empty, .slice none 0 0, .string ByteArray.empty], .bool false]) (by simp [results, Tryd.results15, go_sem, g0, g1, g2]; rfl) rfl N.out
      · clear hcut2 K2
        have X6 : Hid (((((w5).setCell ⟨w2.heap.size, 0, none⟩ (Value.string t)).setCell ⟨w2.heap.size, 1, none⟩ (Value.slice A5 l.length cap5)).setCell ⟨w2.heap.size, 2, none⟩ (Value.string m)).heap[w2.heap.size]? = some (C3 t A5 l.length cap5 m)) := hide (put3 X5.out)
        have O6 : Hid (ZOwn ((((w5).setCell ⟨w2.heap.size, 0, none⟩ (Value.string t)).setCell ⟨w2.heap.size, 1, none⟩ (Value.slice A5 l.length cap5)).setCell ⟨w2.heap.size, 2, none⟩ (Value.string m)) (w2.heap.size + 1) A5 cap5 l) := hide (own3 O5.out ROW.out)
        have B6 : Hid (Below w2.heap.size w2 ((((w5).setCell ⟨w2.heap.size, 0, none⟩ (Value.string t)).setCell ⟨w2.heap.size, 1, none⟩ (Value.slice A5 l.length cap5)).setCell ⟨w2.heap.size, 2, none⟩ (Value.string m))) := hide (bel3 B5.out (Nat.le_refl _))
        have hcb : w2.heap.size ≤ w2.heap.size := (Nat.le_refl _)
        have S6 : w2.heap.size < ((((w5).setCell ⟨w2.heap.size, 0, none⟩ (Value.string t)).setCell ⟨w2.heap.size, 1, none⟩ (Value.slice A5 l.length cap5)).setCell ⟨w2.heap.size, 2, none⟩ (Value.string m)).heap.size := (Array.getElem?_eq_some_iff.1 X6.out).1
        generalize ((((w5).setCell ⟨w2.heap.size, 0, none⟩ (Value.string t)).setCell ⟨w2.heap.size, 1, none⟩ (Value.slice A5 l.length cap5)).setCell ⟨w2.heap.size, 2, none⟩ (Value.string m)) = w6 at *
        generalize hcbe : w2.heap.size = cb at *
        clear B5 O5 ROW z1 OC OB OA IC IB IA BC BB BA BA1 YA YB sA sB X5 c50 c51 c52 f50 f51 f52
        have c60 := cell_of_row _ _ 0 _ _ _ X6.out
        have c61 := cell_of_row _ _ 1 _ _ _ X6.out
        have c62 := cell_of_row _ _ 2 _ _ _ X6.out
        go_wp2_with fail
        refine (specCommitText_any t m A5 l cap5 w6 (hszp.out t (by simp)) (by unfold maxLen; omega) (by rw [HL0.out]; unfold maxLen; omega) ⟨fun i hi => hszp.out _ (List.mem_cons_of_mem _ (List.mem_cons_of_mem _ (List.getElem_mem hi))), O6.out.zin⟩).mono ?_
        rintro e w7 ⟨rfl, b7⟩
        have X7 := hide ((b7.block cb (by have := S6; omega)).trans X6.out)
        have G7 := hide ((b7.block w.heap.size (by have := S6; omega)).trans ((B6.out.block w.heap.size (by omega)).trans X2.out))
        have B7 := hide (B6.out.trans (b7.mono (by have := S6; have := B6.out.size; omega)))
        have O7 := hide (O6.out.below b7)
        clear b7 X6 B6 O6 c60 c61 c62 g0 g1 g2 k0 k1 k2 X2
        have c70 := cell_of_row _ _ 0 _ _ _ X7.out
        have c71 := cell_of_row _ _ 1 _ _ _ X7.out
        have c72 := cell_of_row _ _ 2 _ _ _ X7.out
        have g0 := cell_of_row _ _ 0 _ _ _ G7.out
        have g1 := cell_of_row _ _ 1 _ _ _ G7.out
        have g2 := cell_of_row _ _ 2 _ _ _ G7.out
        have k0 := frozen_of_row _ _ 0 _ _ G7.out
        have k1 := frozen_of_row _ _ 1 _ _ G7.out
        have k2 := frozen_of_row _ _ 2 _ _ G7.out
        by_cases hT : comTextS t l m = s
        · obtain ⟨e1, e2⟩ := rd_yes (com_text HC.out hT)
          have E := eqS_yes hT
          have RR := hide (show RetCom s w (.returned (.tuple #[.agg #[.string t, .slice A5 l.length cap5, .string m], .bool true])) (((w7.setCell ⟨w.heap.size, 0, none⟩ (.string t)).setCell ⟨w.heap.size, 1, none⟩ (.slice A5 l.length cap5)).setCell ⟨w.heap.size, 2, none⟩ (.string m)) from
            ⟨A5, cap5, by rw [e2, e1], by rw [e2]; exact (own3 O7.out (fun h => by have := (O7.out.row _ h).1; omega)).more (by omega), bel3 (B2.out.trans (B7.out.mono (by omega))) (Nat.le_refl _)⟩)
          clear hT e1 e2
          generalize comTextS t l m = cs at *
          generalize l.length = nl at *
          go_wp2
          exact bodyPost_ret (v := .tuple #[.agg #[.string t, .slice A5 nl cap5, .string m], .bool true]) (by simp [results, Tryd.results15, go_sem, g0, g1, g2]) rfl RR.out
        · have E := eqS_no hT
          have N := hide (NO.out (com_text_no HM.out (by rw [hx]; exact HP.out) hT) _ rfl w7 (B7.out.mono (by omega)))
          clear hT
          generalize comTextS t l m = cs at *
          generalize l.length = nl at *
          go_wp2
          exact bodyPost_ret (v := .tuple #[.agg #[.string ByteArray.empty, .slice none 0 0, .string ByteArray.empty], .bool false]) (by simp [results, Tryd.results15, go_sem, g0, g1, g2]; rfl) rfl N.out
end Go.Proofs.YtnjdlcpgpgmeaaaDoor
/-
  What impl.CommitAt and spec.CommitAt answer.
-/
namespace Go.Proofs.YtnjdlcpgpgmeaaaDoor
open Go.RowKit

theorem com_empty : ¬ ∃ c, isCom ByteArray.empty c := no_start (fun ⟨r, h⟩ => by
  have := congrArg List.length h
  simp [comW] at this)
theorem find_zero {l : List Pr} {k : ByteArray} (h : findB l k = false) : findV l k = ByteArray.empty := by
  cases ho : objsB l
  · exact findV_no ho
  · rw [findV_yes ho]
    rw [findB_yes ho] at h
    exact valOf_no h
theorem find_size (l : List Pr) (k : ByteArray) : (findV l k).size ≤ 2000 := by
  cases ho : objsB l
  · rw [findV_no ho]; simp
  · rw [findV_yes ho]
    cases hb : hasB l k
    · rw [valOf_no hb]; simp
    · obtain ⟨hlt, he⟩ := hasB_iff.1 hb
      rw [valOf_yes hlt he]
      exact ((objsB_iff.1 ho).2.1 _ hlt hlt).1

set_option maxRecDepth 100000 in
set_option maxHeartbeats 1000000 in
theorem implCommitAt_any (A : Option Addr) (l : List Pr) (cap : Nat) (key : ByteArray) (a : Addr) (w : World) (hk : key.size ≤ maxLen) (hl : l.length ≤ maxLen) (hin : PIn w w.heap.size A l) (hT : Tabs w) (hE : ErrC w a) :
    Calls Tryd.prog 9 #[.slice A l.length cap, .string key] w (RetCom (findV l key) w) := by
  have b0 := (Below.refl w.heap.size w).alloc (Nat.le_refl _) (.cells #[.string ByteArray.empty, .slice none 0 0, .string ByteArray.empty] 26)
  have B0 := hide b0
  have X0 : Hid ((w.alloc (.cells #[.string ByteArray.empty, .slice none 0 0, .string ByteArray.empty] 26)).heap[w.heap.size]? = some (C3 ByteArray.empty none 0 0 ByteArray.empty)) := hide (heap_alloc_new w _)
  have S0 : Hid ((w.alloc (.cells #[.string ByteArray.empty, .slice none 0 0, .string ByteArray.empty] 26)).heap.size = w.heap.size + 1) := hide (by simp)
  have T0 := hide (hT.below b0 hT.1)
  have E0 := hide (hE.below b0)
  have IN := hide ((hin.below b0).more b0.size)
  have F := hide (implFind_any A l cap key _ hk hl IN.out T0.out)
  have Z := hide (fun h => find_zero (l := l) (k := key) h)
  have hz := find_size l key
  clear b0 hin hT hE
  generalize hn : l.length = n at *
  go_enter Tryd.func9, Tryd.ntmps9
  go_wp2_with fail
  refine F.out.mono ?_
  rintro e w1 ⟨rfl, b1⟩
  have B1 := hide (B0.out.trans (b1.mono B0.out.size))
  have X1 := hide ((b1.block w.heap.size (by rw [S0.out]; omega)).trans X0.out)
  have E1 := hide (E0.out.below b1)
  have hs1 : w.heap.size + 1 ≤ w1.heap.size := by have := b1.size; rw [S0.out] at this; exact this
  clear b1 F T0 E0 IN B0 X0 S0
  cases hb : findB l key
  · have ZE := hide (Z.out hb)
    have g0 := cell_of_row _ _ 0 _ _ _ X1.out
    have g1 := cell_of_row _ _ 1 _ _ _ X1.out
    have g2 := cell_of_row _ _ 2 _ _ _ X1.out
    have k0 := frozen_of_row _ _ 0 _ _ X1.out
    have k1 := frozen_of_row _ _ 1 _ _ X1.out
    have k2 := frozen_of_row _ _ 2 _ _ X1.out
    have N : Hid (RetCom (findV l key) w (.returned (.tuple #[.agg #[.string ByteArray.empty, .slice none 0 0, .string ByteArray.empty], .bool false])) (((w1.setCell ⟨w.heap.size, 0, none⟩ (.string ByteArray.empty)).setCell ⟨w.heap.size, 1, none⟩ (.slice none 0 0)).setCell ⟨w.heap.size, 2, none⟩ (.string ByteArray.empty))) := hide (by
      rw [ZE.out]
      obtain ⟨e1, e2⟩ := rd_no com_empty
      exact ⟨none, 0, by rw [e2, e1]; rfl, by rw [e2]; exact ZOwn.nil _ _, ((B1.out.setCell (p := ⟨w.heap.size, 0, none⟩) (Nat.le_refl _) _).setCell (p := ⟨w.heap.size, 1, none⟩) (Nat.le_refl _) _).setCell (p := ⟨w.heap.size, 2, none⟩) (Nat.le_refl _) _⟩)
    generalize findV l key = t at *
    go_wp2
    exact bodyPost_ret (v := .tuple #[.agg #[.string ByteArray.empty, .slice none 0 0, .string ByteArray.empty], .bool false]) (by simp [results, Tryd.results9, go_sem, g0, g1, g2]; rfl) rfl N.out
  · generalize findV l key = t at *
    go_wp2_with fail
    refine (implReadCommit_any t a w1 (by unfold maxLen; omega) E1.out).mono ?_
    rintro e w2 ⟨A2, cap2, rfl, own2, b2⟩
    have X2 := hide ((b2.block w.heap.size (by omega)).trans X1.out)
    have B2 := hide (B1.out.trans (b2.mono (by omega)))
    have r2 := own2.row
    have O2 := hide own2
    have g0 := cell_of_row _ _ 0 _ _ _ X2.out
    have g1 := cell_of_row _ _ 1 _ _ _ X2.out
    have g2 := cell_of_row _ _ 2 _ _ _ X2.out
    have k0 := frozen_of_row _ _ 0 _ _ X2.out
    have k1 := frozen_of_row _ _ 1 _ _ X2.out
    have k2 := frozen_of_row _ _ 2 _ _ X2.out
    clear own2 b2
    have N : Hid (RetCom t w (.returned (.tuple #[.agg #[.string (rdC t).1, .slice A2 (rdC t).2.1.length cap2, .string (rdC t).2.2], .bool (rdOk t)])) (((w2.setCell ⟨w.heap.size, 0, none⟩ (.string (rdC t).1)).setCell ⟨w.heap.size, 1, none⟩ (.slice A2 (rdC t).2.1.length cap2)).setCell ⟨w.heap.size, 2, none⟩ (.string (rdC t).2.2))) := hide (by
      refine ⟨A2, cap2, rfl, ?_, ((B2.out.setCell (p := ⟨w.heap.size, 0, none⟩) (Nat.le_refl _) _).setCell (p := ⟨w.heap.size, 1, none⟩) (Nat.le_refl _) _).setCell (p := ⟨w.heap.size, 2, none⟩) (Nat.le_refl _) _⟩
      have hne : rowOf A2 ≠ some w.heap.size := fun e => by have := (r2 _ e).1; omega
      have gs : ∀ (W : World) (o : Nat) (v : Value), W.grownBy (W.setCell ⟨w.heap.size, o, none⟩ v) (some w.heap.size) := fun W o v => ⟨rfl, rfl, rfl, by simp [World.setCell], fun k _ hk => Below.heap_setCell W ⟨w.heap.size, o, none⟩ v k (fun e => hk (by rw [e]))⟩
      exact ((((O2.out.kept (gs _ _ _) hne).kept (gs _ _ _) hne).kept (gs _ _ _) hne)).more (by omega))
    generalize (rdC t).1 = c1 at *
    generalize (rdC t).2.2 = c3 at *
    generalize (rdC t).2.1.length = c2 at *
    generalize rdOk t = ok at *
    go_wp2
    exact bodyPost_ret (v := .tuple #[.agg #[.string c1, .slice A2 c2 cap2, .string c3], .bool ok]) (by simp [results, Tryd.results9, go_sem, g0, g1, g2]) rfl N.out
set_option maxRecDepth 100000 in
set_option maxHeartbeats 1000000 in
theorem specCommitAt_any (A : Option Addr) (l : List Pr) (cap : Nat) (key : ByteArray) (w : World) (hl : l.length ≤ maxLen) (hin : PIn w w.heap.size A l) :
    Calls Tryd.prog 7 #[.slice A l.length cap, .string key] w (RetCom (findV l key) w) := by
  have b0 := (Below.refl w.heap.size w).alloc (Nat.le_refl _) (.cells #[.string ByteArray.empty, .slice none 0 0, .string ByteArray.empty] 26)
  have B0 := hide b0
  have X0 : Hid ((w.alloc (.cells #[.string ByteArray.empty, .slice none 0 0, .string ByteArray.empty] 26)).heap[w.heap.size]? = some (C3 ByteArray.empty none 0 0 ByteArray.empty)) := hide (heap_alloc_new w _)
  have S0 : Hid ((w.alloc (.cells #[.string ByteArray.empty, .slice none 0 0, .string ByteArray.empty] 26)).heap.size = w.heap.size + 1) := hide (by simp)
  have IN := hide ((hin.below b0).more b0.size)
  have F := hide (specFind_any A l cap key _ hl IN.out)
  have Z := hide (fun h => find_zero (l := l) (k := key) h)
  have hz := find_size l key
  clear b0 hin
  generalize hn : l.length = n at *
  go_enter Tryd.func7, Tryd.ntmps7
  go_wp2_with fail
  refine F.out.mono ?_
  rintro e w1 ⟨rfl, b1⟩
  have B1 := hide (B0.out.trans (b1.mono B0.out.size))
  have X1 := hide ((b1.block w.heap.size (by rw [S0.out]; omega)).trans X0.out)
  have hs1 : w.heap.size + 1 ≤ w1.heap.size := by have := b1.size; rw [S0.out] at this; exact this
  clear b1 F IN B0 X0 S0
  cases hb : findB l key
  · have ZE := hide (Z.out hb)
    have g0 := cell_of_row _ _ 0 _ _ _ X1.out
    have g1 := cell_of_row _ _ 1 _ _ _ X1.out
    have g2 := cell_of_row _ _ 2 _ _ _ X1.out
    have k0 := frozen_of_row _ _ 0 _ _ X1.out
    have k1 := frozen_of_row _ _ 1 _ _ X1.out
    have k2 := frozen_of_row _ _ 2 _ _ X1.out
    have N : Hid (RetCom (findV l key) w (.returned (.tuple #[.agg #[.string ByteArray.empty, .slice none 0 0, .string ByteArray.empty], .bool false])) (((w1.setCell ⟨w.heap.size, 0, none⟩ (.string ByteArray.empty)).setCell ⟨w.heap.size, 1, none⟩ (.slice none 0 0)).setCell ⟨w.heap.size, 2, none⟩ (.string ByteArray.empty))) := hide (by
      rw [ZE.out]
      obtain ⟨e1, e2⟩ := rd_no com_empty
      exact ⟨none, 0, by rw [e2, e1]; rfl, by rw [e2]; exact ZOwn.nil _ _, ((B1.out.setCell (p := ⟨w.heap.size, 0, none⟩) (Nat.le_refl _) _).setCell (p := ⟨w.heap.size, 1, none⟩) (Nat.le_refl _) _).setCell (p := ⟨w.heap.size, 2, none⟩) (Nat.le_refl _) _⟩)
    generalize findV l key = t at *
    go_wp2
    exact bodyPost_ret (v := .tuple #[.agg #[.string ByteArray.empty, .slice none 0 0, .string ByteArray.empty], .bool false]) (by simp [results, Tryd.results7, go_sem, g0, g1, g2]; rfl) rfl N.out
  · generalize findV l key = t at *
    go_wp2_with fail
    refine (specReadCommit_any t w1 (by omega)).mono ?_
    rintro e w2 ⟨A2, cap2, rfl, own2, b2⟩
    have X2 := hide ((b2.block w.heap.size (by omega)).trans X1.out)
    have B2 := hide (B1.out.trans (b2.mono (by omega)))
    have r2 := own2.row
    have O2 := hide own2
    have g0 := cell_of_row _ _ 0 _ _ _ X2.out
    have g1 := cell_of_row _ _ 1 _ _ _ X2.out
    have g2 := cell_of_row _ _ 2 _ _ _ X2.out
    have k0 := frozen_of_row _ _ 0 _ _ X2.out
    have k1 := frozen_of_row _ _ 1 _ _ X2.out
    have k2 := frozen_of_row _ _ 2 _ _ X2.out
    clear own2 b2
    have N : Hid (RetCom t w (.returned (.tuple #[.agg #[.string (rdC t).1, .slice A2 (rdC t).2.1.length cap2, .string (rdC t).2.2], .bool (rdOk t)])) (((w2.setCell ⟨w.heap.size, 0, none⟩ (.string (rdC t).1)).setCell ⟨w.heap.size, 1, none⟩ (.slice A2 (rdC t).2.1.length cap2)).setCell ⟨w.heap.size, 2, none⟩ (.string (rdC t).2.2))) := hide (by
      refine ⟨A2, cap2, rfl, ?_, ((B2.out.setCell (p := ⟨w.heap.size, 0, none⟩) (Nat.le_refl _) _).setCell (p := ⟨w.heap.size, 1, none⟩) (Nat.le_refl _) _).setCell (p := ⟨w.heap.size, 2, none⟩) (Nat.le_refl _) _⟩
      have hne : rowOf A2 ≠ some w.heap.size := fun e => by have := (r2 _ e).1; omega
      have gs : ∀ (W : World) (o : Nat) (v : Value), W.grownBy (W.setCell ⟨w.heap.size, o, none⟩ v) (some w.heap.size) := fun W o v => ⟨rfl, rfl, rfl, by simp [World.setCell], fun k _ hk => Below.heap_setCell W ⟨w.heap.size, o, none⟩ v k (fun e => hk (by rw [e]))⟩
      exact ((((O2.out.kept (gs _ _ _) hne).kept (gs _ _ _) hne).kept (gs _ _ _) hne)).more (by omega))
    generalize (rdC t).1 = c1 at *
    generalize (rdC t).2.2 = c3 at *
    generalize (rdC t).2.1.length = c2 at *
    generalize rdOk t = ok at *
    go_wp2
    exact bodyPost_ret (v := .tuple #[.agg #[.string c1, .slice A2 c2 cap2, .string c3], .bool ok]) (by simp [results, Tryd.results7, go_sem, g0, g1, g2]) rfl N.out
end Go.Proofs.YtnjdlcpgpgmeaaaDoor
/-
  What laws.markStringS and laws.heldStringS answer over rows of texts of the call's own.
-/
namespace Go.Proofs.YtnjdlcpgpgmeaaaDoor
open Go.RowKit

/-- n marks from k on -/
def marksZ (k n : Nat) : List ByteArray := (List.range n).map fun i => markS (k + i)
theorem marksZ_len (k n : Nat) : (marksZ k n).length = n := by unfold marksZ; simp
theorem marksZ_succ (k n : Nat) : marksZ k (n + 1) = marksZ k n ++ [markS (k + n)] := by unfold marksZ; rw [List.range_succ, List.map_append]; rfl
theorem marksZ_get (k n i : Nat) (h : i < (marksZ k n).length) : (marksZ k n)[i] = markS (k + i) := by simp only [marksZ, List.getElem_map, List.getElem_range]
theorem marksZ_step (k : Nat) (l : List ByteArray) (i : Nat) (h : i < l.length) : (marksZ k i ++ l.drop i).set i (markS (k + i)) = marksZ k (i + 1) ++ l.drop (i + 1) := by
  rw [List.set_append_right _ _ (by rw [marksZ_len]; exact Nat.le_refl _), marksZ_len, Nat.sub_self, List.drop_eq_getElem_cons h, List.set_cons_zero, marksZ_succ, List.append_assoc]
  rfl
def MarkRetZ (k : Nat) (w : World) (B : Nat) (A : Option Addr) (cap n : Nat) (e : Ending) (w' : World) : Prop := e = .returned (.int .i64 (k + n : Nat)) ∧ ZOwn w' B A cap (marksZ k n) ∧ w.grownBy w' (rowOf A)

set_option maxRecDepth 100000 in
set_option maxHeartbeats 1000000 in
theorem markStringS_any (A : Option Addr) (l : List ByteArray) (cap k : Nat) (w : World) (B : Nat) (hk : 1 ≤ k) (hl : k + l.length ≤ 10000000) (hown : ZOwn w B A cap l) :
    Calls Tryd.prog 24 #[.slice A l.length cap, .int .i64 k] w (MarkRetZ k w B A cap l.length) := by
  rcases hown.form with ⟨rfl, rfl, rfl⟩ | ⟨g, rfl, hBg, hgw⟩
  · go_enter Tryd.func24, Tryd.ntmps24
    go_wp2
    refine wp_loop_rounds 1 ?_
    rw [rounds_succ]
    go_wp2
    go_ret
    exact ⟨rfl, by simpa [marksZ] using hown, World.grownBy.refl _ _⟩
  · have O0 : Hid (w.ownsRow B 9 1 (.slice (some ⟨g, 0, none⟩) l.length cap) l.length (l.map Value.string)) := hide hown
    clear hown
    generalize hn : l.length = n at *
    have HN := hide hn
    clear hn
    go_enter Tryd.func24, Tryd.ntmps24
    go_wp2
    go_loopw [1, 5] (fun q i wr => ∃ j : Nat, j ≤ n ∧ i = .int .i64 j ∧ q = .int .i64 (k + j : Nat) ∧ Hid (wr.ownsRow B 9 1 (.slice (some ⟨g, 0, none⟩) n cap) n ((marksZ k j ++ l.drop j).map Value.string)) ∧ Hid (w.grownBy wr (some g))) (fun _ i _ => n - (intOf i).toNat)
    case atStart => exact ⟨0, Nat.zero_le _, rfl, rfl, by simpa [marksZ] using O0, World.grownBy.refl _ _⟩
    case round =>
      clear O0
      obtain ⟨j, hj, rfl, rfl, O, G⟩ := hrel
      by_cases hlt : j < n
      · have hjl : j < l.length := by rw [HN.out]; omega
        have E := hide (marksZ_step k l j hjl)
        have hz : g < wr.heap.size := by have := G.out.size; omega
        have LN : Hid ((marksZ k j ++ l.drop j).length = n) := hide (by rw [List.length_append, marksZ_len, List.length_drop, HN.out]; omega)
        have E2 : Hid (((marksZ k j ++ l.drop j).map Value.string).set j (.string (markS (k + j))) = (marksZ k (j + 1) ++ l.drop (j + 1)).map Value.string) := hide (by rw [← List.map_set, E.out])
        have KK : Hid (k + (j + 1) = k + j + 1) := hide (by omega)
        have hkj : k + j + 1 ≤ 10000000 := by omega
        have hq1 : 1 ≤ k + j := by omega
        generalize marksZ k j ++ l.drop j = xs at *
        generalize k + j = q at *
        clear E
        go_wp2_with fail
        refine (markText_int _ q _ rfl (by omega) (by omega)).mono ?_
        rintro e w2 ⟨rfl, b2⟩
        have O2 := hide (O.out.kept (Below.toGrown b2 none) (.inr (by simp [Value.ownBlock])))
        have G2 := hide (World.grownBy.trans G.out (Below.toGrown b2 (some g)))
        obtain ⟨x1, r1⟩ : ∃ x, w2.cell? ⟨g, j, none⟩ = some x := by rw [O2.out.cellAt j (by omega)]; exact ⟨_, List.getElem?_eq_getElem (by rw [List.length_map, LN.out]; omega)⟩
        have f1 := O2.out.frozenAt j
        have S2 := hide (O2.out.stored j (.string (markS q)))
        clear b2
        generalize markS q = m1 at *
        go_wp2
        go_roundw
        case rel =>
          have S4 := S2.out.1
          rw [E2.out] at S4
          exact ⟨j + 1, by omega, by go_num, by rw [KK.out]; go_num, S4, World.grownBy.trans G2.out S2.out.2⟩
        case measure => simp [intOf]; omega
      · obtain rfl : j = n := by omega
        have F : Hid (marksZ k j ++ l.drop j = marksZ k j) := hide (by rw [List.drop_of_length_le (by rw [HN.out]; exact Nat.le_refl _), List.append_nil])
        go_wp2
        go_ret
        refine ⟨rfl, ?_, G.out⟩
        have O2 := O.out
        rw [F.out] at O2
        unfold ZOwn
        rw [marksZ_len]
        exact O2
theorem markStringS_int (A : Option Addr) (l : List ByteArray) (cap : Nat) (x : Int) (k : Nat) (w : World) (B : Nat) (h : x = (k : Int)) (hk : 1 ≤ k) (hl : k + l.length ≤ 10000000) (hown : ZOwn w B A cap l) :
    Calls Tryd.prog 24 #[.slice A l.length cap, .int .i64 x] w (MarkRetZ k w B A cap l.length) := by subst h; exact markStringS_any A l cap k w B hk hl hown

set_option maxRecDepth 100000 in
set_option maxHeartbeats 1000000 in
theorem heldStringS_any (A : Option Addr) (n cap : Nat) (x : Int) (k : Nat) (w : World) (hx : x = (k : Int)) (hk : 1 ≤ k) (hl : k + n ≤ 10000000) (hin : ZIn w w.heap.size A (marksZ k n)) :
    Calls Tryd.prog 25 #[.slice A n cap, .int .i64 x] w fun e w' => e = .returned (.int .i64 (k + n : Nat)) ∧ Below w.heap.size w w' := by
  subst hx
  go_enter Tryd.func25, Tryd.ntmps25
  go_wp2
  go_loopw [1, 5] (fun q i wr => ∃ j : Nat, j ≤ n ∧ i = .int .i64 j ∧ q = .int .i64 (k + j : Nat) ∧ Hid (Below w.heap.size w wr)) (fun _ i _ => n - (intOf i).toNat)
  case atStart => exact ⟨0, Nat.zero_le _, rfl, rfl, Below.refl _ w⟩
  case round =>
    obtain ⟨j, hj, rfl, rfl, Q⟩ := hrel
    by_cases hlt : j < n
    · have hin2 := (hin.below Q.out).more Q.out.size
      have hjl : j < (marksZ k n).length := by rw [marksZ_len]; exact hlt
      obtain ⟨b, off, rfl, hbB, hc⟩ := hin2 (by omega)
      have c1 := hc j hjl
      rw [marksZ_get] at c1
      have KK : Hid (k + (j + 1) = k + j + 1) := hide (by omega)
      have hkj : k + j + 1 ≤ 10000000 := by omega
      have hq1 : 1 ≤ k + j := by omega
      clear hc hin2 hjl
      generalize k + j = q at *
      have M1 := fun W => markText_int (q : Int) q W rfl (by omega) (by omega)
      have M1h := hide M1
      clear M1
      generalize markS q = m1 at *
      have e1 : (m1.toList == m1.toList) = true := by simp
      go_wp2
      go_region_held3 (fun w' => w'.cell? ⟨b, off + j, none⟩ = some (.string m1)) (first | go_keep | exact cellB b2 (by simp; omega) (by simpa using c1))
        (first | (go_at_call 23; refine (M1h.out _).mono ?_; rintro e w2 ⟨rfl, b2⟩))
      have Q2 := hide (Q.out.trans (((Below.refl _ wr).drew).trans (b2.mono (by exact Q.out.size))))
      clear b2 c1
      go_wp2
      go_roundw
      case rel => exact ⟨j + 1, by omega, by go_num, by rw [KK.out]; go_num, Q2.out⟩
      case measure => simp [intOf]; omega
    · go_wp2
      go_ret
      obtain rfl : j = n := by omega
      exact ⟨rfl, Q.out⟩
end Go.Proofs.YtnjdlcpgpgmeaaaDoor
/-
  Rising texts: two of the same members are one; one more. Plain mathematics.
-/
namespace Go.Proofs.YtnjdlcpgpgmeaaaDoor
open Go.RowKit

/-- rising texts -/
def RisK (l : List ByteArray) : Prop := l.Pairwise fun a b => ltB a b = true
theorem RisK.ext : ∀ {l l' : List ByteArray}, RisK l → RisK l' → (∀ p, p ∈ l ↔ p ∈ l') → l = l'
  | [], [], _, _, _ => rfl
  | [], b :: t, _, _, h => absurd ((h b).2 (List.mem_cons_self ..)) (by simp)
  | a :: s, [], _, _, h => absurd ((h a).1 (List.mem_cons_self ..)) (by simp)
  | a :: s, b :: t, ha, hb, h => by
    have ha' := List.pairwise_cons.1 ha
    have hb' := List.pairwise_cons.1 hb
    have e : a = b := by
      rcases List.mem_cons.1 ((h a).1 (List.mem_cons_self ..)) with e | m
      · exact e
      · rcases List.mem_cons.1 ((h b).2 (List.mem_cons_self ..)) with e | m'
        · exact e.symm
        · have h1 := hb'.1 a m
          have h2 := ha'.1 b m'
          rw [ltB_asymm h1] at h2
          cases h2
    subst e
    congr 1
    refine RisK.ext ha'.2 hb'.2 fun p => ?_
    constructor
    · intro hp
      rcases List.mem_cons.1 ((h p).1 (List.mem_cons_of_mem _ hp)) with e | m
      · have := ha'.1 p hp
        rw [e, ltB_irrefl] at this
        cases this
      · exact m
    · intro hp
      rcases List.mem_cons.1 ((h p).2 (List.mem_cons_of_mem _ hp)) with e | m
      · have := hb'.1 p hp
        rw [e, ltB_irrefl] at this
        cases this
      · exact m
/-- a rising list with one more -/
def putK : List ByteArray → ByteArray → List ByteArray
  | [], s => [s]
  | x :: r, s => if ltB x s = true then x :: putK r s else if x = s then x :: r else s :: x :: r
theorem mem_putK : ∀ (l : List ByteArray) (s t : ByteArray), t ∈ putK l s ↔ t ∈ l ∨ t = s
  | [], s, t => by simp [putK]
  | x :: r, s, t => by
    unfold putK
    split
    · rw [List.mem_cons, List.mem_cons, mem_putK r s t]
      constructor
      · rintro (h | h | h)
        · exact .inl (.inl h)
        · exact .inl (.inr h)
        · exact .inr h
      · rintro ((h | h) | h)
        · exact .inl h
        · exact .inr (.inl h)
        · exact .inr (.inr h)
    · split
      next e => subst e; simp; intro h; exact .inl h
      next => simp [or_comm, or_left_comm]
theorem risK_put : ∀ {l : List ByteArray}, RisK l → ∀ s, RisK (putK l s)
  | [], _, s => List.pairwise_cons.2 ⟨fun _ h => absurd h (by simp), List.Pairwise.nil⟩
  | x :: r, h, s => by
    have h' := List.pairwise_cons.1 h
    unfold putK
    split
    next e =>
      refine List.pairwise_cons.2 ⟨fun t ht => ?_, risK_put h'.2 s⟩
      rcases (mem_putK r s t).1 ht with m | rfl
      · exact h'.1 t m
      · exact e
    next e =>
      split
      · exact h
      next ne =>
        have hlt : ltB s x = true := by
          rcases ltB_tri x s with g | g | g
          · exact absurd g e
          · exact absurd g ne
          · exact g
        refine List.pairwise_cons.2 ⟨fun t ht => ?_, h⟩
        rcases List.mem_cons.1 ht with rfl | m
        · exact hlt
        · exact ltB_trans hlt (h'.1 t m)
/-- found by what stands ahead of the place -/
theorem putK_there : ∀ (l : List ByteArray) (s : ByteArray) (k : Nat) (h : k < l.length), (∀ i (hi : i < l.length), i < k → ltB l[i] s = true) → l[k] = s → putK l s = l
  | x :: r, s, 0, _, _, he => by
    have he : x = s := he
    subst he
    unfold putK
    rw [ltB_irrefl]
    simp
  | x :: r, s, k + 1, h, hl, he => by
    have h0 : ltB x s = true := hl 0 (by simp) (by omega)
    unfold putK
    rw [if_pos h0, putK_there r s k (by simpa using h) (fun i hi hik => hl (i + 1) (by simpa using hi) (by omega)) (by simpa using he)]
theorem putK_new : ∀ (l : List ByteArray) (s : ByteArray) (k : Nat), k ≤ l.length → (∀ i (hi : i < l.length), i < k → ltB l[i] s = true) → (∀ (h : k < l.length), ltB l[k] s = false ∧ ¬ l[k] = s) → putK l s = l.take k ++ s :: l.drop k
  | [], s, k, hk, _, _ => by
    have : k = 0 := by simpa using hk
    subst this
    rfl
  | x :: r, s, 0, _, _, hn => by
    obtain ⟨h1, h2⟩ := hn (by simp)
    have h1 : ltB x s = false := h1
    have h2 : ¬ x = s := h2
    unfold putK
    rw [h1, if_neg (by simp), if_neg h2]
    rfl
  | x :: r, s, k + 1, hk, hl, hn => by
    have h0 : ltB x s = true := hl 0 (by simp) (by omega)
    unfold putK
    rw [if_pos h0, putK_new r s k (by simpa using hk) (fun i hi hik => hl (i + 1) (by simpa using hi) (by omega)) (fun h => hn (by simpa using h))]
    rfl
end Go.Proofs.YtnjdlcpgpgmeaaaDoor
/-
  What laws.sameTexts, laws.eqStringS, laws.has and laws.rises answer.
-/
namespace Go.Proofs.YtnjdlcpgpgmeaaaDoor
open Go.RowKit

theorem ZIn.quiet {w w' : World} {B : Nat} {A : Option Addr} {bs : List ByteArray} (h : ZIn w B A bs) (q : Quiet w w') : ZIn w' B A bs := h.below (q.below B)
set_option maxRecDepth 100000 in
set_option maxHeartbeats 1000000 in
theorem eqStringZ_same (A A' : Option Addr) (l : List ByteArray) (cap cap' : Nat) (w : World) (B B' : Nat) (hl : l.length ≤ maxLen) (hin : ZIn w B A l) (hin' : ZIn w B' A' l) :
    Calls Tryd.prog 21 #[.slice A l.length cap, .slice A' l.length cap'] w fun e w' => e = .returned (.bool true) ∧ Quiet w w' := by
  unfold maxLen at hl
  have IN := hide hin
  have IN' := hide hin'
  clear hin hin'
  generalize hn : l.length = n at *
  have HN := hide hn
  clear hn
  have e0 : ((n : Int) != (n : Int)) = false := by simp
  go_enter Tryd.func21, Tryd.ntmps21
  go_wp2
  go_loopw [5] (fun iv wr => ∃ k : Nat, k ≤ n ∧ iv = .int .i64 k ∧ Hid (Quiet w wr)) (fun i _ => n - (intOf i).toNat)
  case atStart => exact ⟨0, Nat.zero_le _, rfl, Quiet.refl w⟩
  case round =>
    obtain ⟨k, hk, rfl, Q⟩ := hrel
    by_cases hlt : k < n
    · have hkl : k < l.length := by rw [HN.out]; omega
      obtain ⟨b, off, rfl, _, hc⟩ := IN.out (by omega)
      obtain ⟨b', off', rfl, _, hc'⟩ := IN'.out (by omega)
      have c1 := (Q.out.cell _).trans (hc k hkl)
      have c2 := (Q.out.cell _).trans (hc' k hkl)
      have e1 : (l[k].toList == l[k].toList) = true := by simp
      generalize l[k] = s at *
      clear hc hc'
      go_wp2
      go_quiet (fail)
      go_wp2
      exact ⟨⟨k + 1, by omega, by go_num, Q.out.drewN _⟩, by simp [intOf]; omega⟩
    · have hgt : ¬ ((k : Int) < (n : Int)) := by omega
      clear hlt
      go_wp2
      go_ret
      exact ⟨rfl, Q.out⟩
end Go.Proofs.YtnjdlcpgpgmeaaaDoor
/-
  What laws.markCommit and laws.heldCommit answer; rows that stay.
-/
namespace Go.Proofs.YtnjdlcpgpgmeaaaDoor
open Go.RowKit

theorem markCommit_any (t m : ByteArray) (A : Option Addr) (l : List ByteArray) (cap k : Nat) (w : World) (B : Nat) (hk : 1 ≤ k) (hl : k + l.length ≤ 10000000) (hown : ZOwn w B A cap l) :
    Calls Tryd.prog 13 #[.agg #[.string t, .slice A l.length cap, .string m], .int .i64 k] w (MarkRetZ k w B A cap l.length) := by
  have x1 := (box3 w (.string t) (.slice A l.length cap) (.string m) 26).2.1
  have M := hide (markStringS_any A l cap k _ B hk hl (hown.alloc (.cells #[.string t, .slice A l.length cap, .string m] 26)))
  generalize hn : l.length = n at *
  clear hn hl hown
  go_enter Tryd.func13, Tryd.ntmps13
  go_wp2_with fail
  refine M.out.mono ?_
  rintro e w1 ⟨rfl, o1, g1⟩
  have R : Hid (MarkRetZ k w B A cap n (.returned (.int .i64 (k + n : Nat))) w1) := hide ⟨rfl, o1, ⟨g1.os, g1.tape, g1.output, Nat.le_trans (by simp) g1.size, fun i hi hne => (g1.block i (Nat.lt_of_lt_of_le hi (by simp)) hne).trans (Below.heap_alloc _ _ _ hi)⟩⟩
  clear o1 g1
  go_wp2
  go_ret
  exact R.out
theorem heldCommit_any (t m : ByteArray) (A : Option Addr) (n cap k : Nat) (w : World) (hk : 1 ≤ k) (hl : k + n ≤ 10000000) (hin : ZIn w w.heap.size A (marksZ k n)) :
    Calls Tryd.prog 14 #[.agg #[.string t, .slice A n cap, .string m], .int .i64 k] w fun e w' => e = .returned (.int .i64 (k + n : Nat)) ∧ Below w.heap.size w w' := by
  have x1 := (box3 w (.string t) (.slice A n cap) (.string m) 26).2.1
  have B1 := hide ((Below.refl w.heap.size w).alloc (Nat.le_refl _) (.cells #[.string t, .slice A n cap, .string m] 26))
  have M := hide (heldStringS_any A n cap (k : Int) k (w.alloc (.cells #[.string t, .slice A n cap, .string m] 26)) rfl hk hl ((hin.below B1.out).more B1.out.size))
  clear hin
  go_enter Tryd.func14, Tryd.ntmps14
  go_wp2_with fail
  refine M.out.mono ?_
  rintro e w1 ⟨rfl, b1⟩
  have R := hide (B1.out.trans (b1.mono B1.out.size))
  have h0 : ¬ (((k + n : Nat) : Int) < 0) := by omega
  clear b1 M B1 x1
  generalize hkn : k + n = kn at *
  go_wp2
  go_ret
  exact ⟨by rw [hkn]; rfl, R.out⟩
theorem ZOwn.keptO {w w' : World} {B : Nat} {A : Option Addr} {cap : Nat} {l : List ByteArray} {r : Option Nat} (h : ZOwn w B A cap l) (hg : w.grownBy w' r) (hne : ∀ g, rowOf A = some g → some g ≠ r) : ZOwn w' B A cap l := by
  cases r with
  | none => exact ZOwn.kept h (r := w.heap.size) ⟨hg.os, hg.tape, hg.output, hg.size, fun k hk _ => hg.block k hk (by simp)⟩ (fun e => by have := (h.row _ e).2; omega)
  | some r => exact ZOwn.kept h hg (fun e => hne r e rfl)
theorem rd_parts (s : ByteArray) : (rdC s).2.1.length ≤ 2 ∧ ∀ p ∈ (rdC s).2.1, p.size = 16 := by
  by_cases h : ∃ c, isCom s c
  · obtain ⟨c, hc⟩ := h
    rw [(rd_yes hc).2]
    exact (com_parts hc.1).2
  · rw [(rd_no h).2]
    simp
end Go.Proofs.YtnjdlcpgpgmeaaaDoor
/-
  What the rows' lists of package-level variables give: the two tables of the digest; and that the variables read as they did where nothing old has turned.
-/
namespace Go.Proofs.YtnjdlcpgpgmeaaaDoor
open Go.ChangeShapes Go.WideShapes Go.ChangeAt Go.RowKit

theorem own : ownKnob Tryd.prog.godebug = none := by kernel_rfl
theorem laidOut : laidOutB Tryd.prog = true := by kernel_rfl
theorem gFirst : Tryd.prog.globalNamed "loop.example/g00652/impl.shaFirst" = some 1 := by kernel_rfl
theorem gRounds : Tryd.prog.globalNamed "loop.example/g00652/impl.shaRounds" = some 2 := by kernel_rfl
theorem tFirst : (Tryd.prog.globals[1]?).map (·.type) = some 83 := by kernel_rfl
theorem tRounds : (Tryd.prog.globals[2]?).map (·.type) = some 86 := by kernel_rfl
theorem cellsState : Tryd.prog.cellsOf 83 = 8 := by kernel_rfl
theorem cellsWords : Tryd.prog.cellsOf 86 = 64 := by kernel_rfl
theorem cellsU32 : Tryd.prog.cellsOf 81 = 1 := by kernel_rfl

theorem laidVars_mem {P : Program} {W : World} : ∀ {l : List (String × DataW Unit)} {ps : List MemPlace}, DataW.LaidVars P W l ps → ∀ {n : String} {d : DataW Unit}, (n, d) ∈ l →
    ∃ g t cs fuel p, P.globalNamed n = some g ∧ (P.globals[g]?).map (·.type) = some t ∧ W.var? P n = some cs ∧ DataW.trod (fun _ => ()) P W 0 (fun _ => true) false fuel t cs.toList = some (d, p)
  | [], _, _, _, _, hm => by simp at hm
  | (n', d') :: r, _, h, n, d, hm => by
    obtain ⟨g, t, cs, fuel, p, q, h1, h2, h3, h4, h5, _⟩ := h
    rcases List.mem_cons.1 hm with e | e
    · injection e with e1 e2
      subst e1 e2
      exact ⟨g, t, cs, fuel, p, h1, h2, h3, h4⟩
    · exact laidVars_mem h5 e
theorem tabIs_of_mem {P : Program} {W : World} {name : String} {k : IntKind} {zs : List Int} {l : List (String × DataW Unit)} {g : Nat} {t e : TypeId} {n : Nat}
    (hg : P.globalNamed name = some g) (hty : (P.globals[g]?).map (·.type) = some t) (ht : P.underlying t = some (.array n e)) (he : P.underlying e = some (.int k)) (hce : P.cellsOf e = 1) (hct : P.cellsOf t = n)
    (h : laidMet P l W) (hm : (name, Lib.tabData k zs) ∈ l) : Lib.TabIs P W name k zs := by
  obtain ⟨ps, hl, _⟩ := h
  obtain ⟨g', t', cs, fuel, p, hg', ht', hvar, hd⟩ := laidVars_mem hl hm
  obtain rfl := Option.some.inj (hg.symm.trans hg')
  obtain rfl := Option.some.inj (hty.symm.trans ht')
  unfold Lib.TabIs
  rw [hvar, ← Lib.cells_of_tab ht he hce hct hd]
theorem tabs_of {W : World} {l : List (String × DataW Unit)} (h : laidMet Tryd.prog l W) (m0 : ("loop.example/g00652/impl.shaFirst", Lib.tabData .u32 fTab) ∈ l) (m1 : ("loop.example/g00652/impl.shaRounds", Lib.tabData .u32 kTab) ∈ l) : Tabs W := by
  have t0 := tabIs_of_mem gFirst tFirst Tryd.underlying83 Tryd.underlying81 cellsU32 cellsState h m0
  have t1 := tabIs_of_mem gRounds tRounds Tryd.underlying86 Tryd.underlying81 cellsU32 cellsWords h m1
  have c1 : At W 2 64 ksI := fun j hj => t1.cell gRounds j (by simpa [kTab] using hj)
  have c0 : At W 1 8 (fun j => fTab.getD j 0) := fun j hj => t0.cell gFirst j (by simpa [fTab] using hj)
  exact ⟨block_lt_of_cell (c1 0 (by omega)), c0, c1⟩

theorem var_lt {P : Program} {W : World} {n : String} {g : Nat} {cs : Array Value} (hg : P.globalNamed n = some g) (hv : W.var? P n = some cs) : g < W.heap.size := by
  unfold World.var? at hv
  simp only [hg, Option.bind_some] at hv
  by_cases h : g < W.heap.size
  · exact h
  · rw [Array.getElem?_eq_none (by omega)] at hv
    simp at hv
theorem vars_stay {H : Type} {enc : TypeId × Value → H} {P : Program} (hl : laidOutB P = true) {W W' : World} (hb : Below W.heap.size W W') : ∀ {ns : List String} {gs : List (DataW H)} {ps : List MemPlace},
    (∀ n ∈ ns, ∀ g t, P.globalNamed n = some g → (P.globals[g]?).map (·.type) = some t → P.readableRec t = true ∧ t < P.types.size) →
    DataW.TrodVars enc P W (fun _ => true) ns gs ps → DataW.TrodVars enc P W' (fun b => decide (b < W.heap.size)) ns gs ps
  | [], [], _, _, h => h
  | n :: ns, d :: ds, ps, hr, h => by
    obtain ⟨g, t, cs, fuel, p, q, h1, h2, h3, h4, h5, h6⟩ := h
    obtain ⟨r1, r2⟩ := hr n (List.mem_cons_self ..) g t h1 h2
    have ht : DataW.Trod enc P W 0 (fun _ => true) true t (.agg cs) d p := ⟨fuel, h4⟩
    obtain ⟨fuel', h4'⟩ := Below.trod hl r1 r2 ht hb (DataW.trod_lt fuel _ _ _ h4)
    exact ⟨g, t, cs, fuel', p, q, h1, h2, var?_below hb h1 (var_lt h1 h3) h3, h4', vars_stay hl hb (fun n' hn' => hr n' (List.mem_cons_of_mem _ hn')) h5, h6⟩
  | [], _ :: _, _, _, h => h.elim
  | _ :: _, [], _, _, h => h.elim
theorem vars_len {H : Type} {enc : TypeId × Value → H} {P : Program} {W : World} {sp : Nat → Bool} : ∀ {ns : List String} {gs : List (DataW H)} {ps : List MemPlace}, DataW.TrodVars enc P W sp ns gs ps → gs.length = ns.length
  | [], [], _, _ => rfl
  | _ :: _, _ :: _, _, h => by
    obtain ⟨_, _, _, _, _, _, _, _, _, _, h5, _⟩ := h
    simp [vars_len h5]
  | [], _ :: _, _, h => h.elim
  | _ :: _, [], _, h => h.elim
/-- a block whose cells are others -/
def relay (cs : Array Value) : Obj → Obj
  | .cells _ t fr => .cells cs t fr
  | o => o
/-- the tables' blocks with what their initialisers lay -/
def layAll (w : World) : World := { w with heap := (w.heap.modify 1 (relay (fTab.map (Value.int .u32)).toArray)).modify 2 (relay (kTab.map (Value.int .u32)).toArray) }
theorem list2 {α : Type} : ∀ {l : List α}, l.length = 2 → ∃ a b, l = [a, b]
  | [a, b], _ => ⟨a, b, rfl⟩
theorem list3 {α : Type} : ∀ {l : List α}, l.length = 3 → ∃ a b c, l = [a, b, c]
  | [a, b, c], _ => ⟨a, b, c, rfl⟩
end Go.Proofs.YtnjdlcpgpgmeaaaDoor
/-
  What the rows' lists of package-level variables give where the digest's tables and the reader's sentinel stand together.
-/
namespace Go.Proofs.YtnjdlcpgpgmeaaaDoor
open Go.ChangeShapes Go.WideShapes Go.ChangeAt Go.RowKit

theorem gErr : Tryd.prog.globalNamed "loop.example/g00652/impl.errNoCommit" = some 0 := by kernel_rfl
theorem tErr : (Tryd.prog.globals[0]?).map (·.type) = some 68 := by kernel_rfl
theorem star : ("*" ++ "errors.errorString" : String) = "*errors.errorString" := by decide
theorem strRow (u : TypeId) (h : Tryd.prog.typeName? 3 u = some "*errors.errorString") : u = 95 :=
  typeName_ptr_named (nm := "errors.errorString") (by rw [star]; kernel_rfl) (by kernel_rfl) (by decide) u (by rw [star]; exact h)
theorem cellsE : Tryd.prog.cellsOf 112 = 1 := by kernel_rfl
theorem cellsS : Tryd.prog.cellsOf 9 = 1 := by kernel_rfl
theorem errs_in {W : World} {t : List UInt8} {r : List (String × DataW Unit)} (h : laidMet Tryd.prog (("loop.example/g00652/impl.errNoCommit", .iface "*errors.errorString" (.ptr (.agg [.lit (.string t)]))) :: r) W) :
    ∃ a, ErrC W a ∧ W.var? Tryd.prog "loop.example/g00652/impl.errNoCommit" = some #[.iface 95 (.pointer (some a))] := by
  obtain ⟨a, s, hv, _, _, _⟩ := laid_sentinel h gErr tErr Tryd.underlying68 strRow Tryd.underlying95 Tryd.underlying112 rfl rfl Tryd.underlying9 cellsE cellsS
  exact ⟨a, ⟨by simpa using World.var?_cell gErr hv 0, var_lt gErr hv⟩, hv⟩
theorem laid_tail {P : Program} {x : String × DataW Unit} {r : List (String × DataW Unit)} {W : World} (h : laidMet P (x :: r) W) : laidMet P r W := by
  obtain ⟨ps, ⟨g, t, cs, fuel, p, q, _, _, _, _, h5, e⟩, hnd, hrows⟩ := h
  subst e
  exact ⟨q, h5, List.Nodup.sublist (List.sublist_append_right _ _) hnd, fun b off hm => hrows b off (List.mem_append_right _ hm)⟩
theorem vars_stayE {H : Type} {enc : TypeId × Value → H} (hl : laidOutB Tryd.prog = true) {W W' : World} (hb : Below W.heap.size W W') {a : Addr} (hv : W.var? Tryd.prog "loop.example/g00652/impl.errNoCommit" = some #[.iface 95 (.pointer (some a))]) : ∀ {ns : List String} {gs : List (DataW H)} {ps : List MemPlace},
    (∀ n ∈ ns, n = "loop.example/g00652/impl.errNoCommit" ∨ ∀ g t, Tryd.prog.globalNamed n = some g → (Tryd.prog.globals[g]?).map (·.type) = some t → Tryd.prog.readableRec t = true ∧ t < Tryd.prog.types.size) →
    DataW.TrodVars enc Tryd.prog W (fun _ => true) ns gs ps → DataW.TrodVars enc Tryd.prog W' (fun b => decide (b < W.heap.size)) ns gs ps
  | [], [], _, _, h => h
  | n :: ns, d :: ds, ps, hr, h => by
    obtain ⟨g, t, cs, fuel, p, q, h1, h2, h3, h4, h5, h6⟩ := h
    have ih := vars_stayE hl hb hv (fun n' hn' => hr n' (List.mem_cons_of_mem _ hn')) h5
    rcases hr n (List.mem_cons_self ..) with rfl | r
    · obtain rfl := Option.some.inj (gErr.symm.trans h1)
      obtain rfl := Option.some.inj (tErr.symm.trans h2)
      obtain rfl := Option.some.inj (hv.symm.trans h3)
      have u := DataW.TrodVars.unique (show DataW.TrodVars enc Tryd.prog W (fun _ => true) ["loop.example/g00652/impl.errNoCommit"] [d] _ from ⟨_, _, _, fuel, p, [], h1, h2, h3, h4, rfl, rfl⟩) (vars_read1 enc gErr tErr Tryd.underlying68 hv trivial _)
      obtain ⟨e1, e2⟩ := u
      obtain rfl := (List.cons.inj e1).1
      have e3 : p = [] := by
        have := congrArg List.length e2
        simp [MemPlace.row] at this
        exact this
      subst e3
      exact ⟨_, _, _, 1, [], q, h1, h2, var?_below hb gErr (var_lt gErr hv) hv, trod_held Tryd.underlying68 (v := .iface 95 (.pointer (some a))) trivial 0, ih, h6⟩
    · obtain ⟨r1, r2⟩ := r g t h1 h2
      have ht : DataW.Trod enc Tryd.prog W 0 (fun _ => true) true t (.agg cs) d p := ⟨fuel, h4⟩
      obtain ⟨fuel', h4'⟩ := Below.trod hl r1 r2 ht hb (DataW.trod_lt fuel _ _ _ h4)
      exact ⟨g, t, cs, fuel', p, q, h1, h2, var?_below hb h1 (var_lt h1 h3) h3, h4', ih, h6⟩
  | [], _ :: _, _, _, h => h.elim
  | _ :: _, [], _, _, h => h.elim
/-- the variables' blocks with what their initialisers lay -/
def layAllE (w : World) : World := { w with heap := (((w.heap.modify 1 (relay (fTab.map (Value.int .u32)).toArray)).modify 2 (relay (kTab.map (Value.int .u32)).toArray)).modify 0 (relay #[.iface 95 (.pointer (some ⟨w.heap.size, 0, none⟩))])).push (.cells #[.string ⟨#[116, 104, 101, 32, 116, 101, 120, 116, 32, 105, 115, 32, 110, 111, 32, 99, 111, 109, 109, 105, 116, 39, 115]⟩] 112) }
end Go.Proofs.YtnjdlcpgpgmeaaaDoor
namespace Go.Proofs.YtnjdlcpgpgmeaaaDoor.ExCommitAt
open Go.RowKit Go.ChangeShapes Go.WideShapes Go.ChangeAt
open Go.ChangeMaps (open_string shut_string)

set_option maxRecDepth 100000 in
set_option maxHeartbeats 4000000 in
theorem walk (A : Option Addr) (l : List Pr) (cap : Nat) (key : ByteArray) (a : Addr) (w : World) (hl : l.length ≤ maxLen) (hin : PIn w w.heap.size A l) (hs : key.size ≤ maxLen) (hT : Tabs w) (hE : ErrC w a) :
    Calls Tryd.prog 3 #[.slice A l.length cap, .string key] w fun e w' => e = .returned (.bool true) ∧ Below w.heap.size w w' := by
  have HT := hide hT
  have HB := hide hT.1
  have EE := hide hE
  have HIN := hide hin
  clear hT hE
  have hs2 := hs
  unfold maxLen at hs2
  by_cases hbig : 1048576 < key.size
  · go_enter Tryd.func3, Tryd.ntmps3
    go_wp2
    go_ret
    exact ⟨rfl, Below.refl _ _⟩
  · have es := eqL_self l
    obtain ⟨hp, h16⟩ := rd_parts (findV l key)
    have P := hide h16
    have SP := hide (fun A' c' W h => specCommitAt_any A' l c' key W hl h)
    have IM := hide (fun A' c' W h h1 h2 => implCommitAt_any A' l c' key a W hs hl h h1 h2)
    generalize findV l key = t at *
    have hok : (rdOk t != rdOk t) = false := by simp
    go_enter Tryd.func3, Tryd.ntmps3
    go_wp2_with fail
    refine (szPairS_any A l cap 1048576 _ hl hin (by omega) (by omega)).mono ?_
    rintro e w1 ⟨hr, b1⟩
    rcases hr with rfl | ⟨r, hr0, hr1, rfl⟩
    · go_wp2
      go_ret
      exact ⟨rfl, b1⟩
    · have hl2 : l.length ≤ 1048576 := by omega
      have B1 := hide b1
      have h01 := b1.size
      clear b1 hin
      have INS : Hid (∀ W : World, Below w.heap.size w W → PIn W W.heap.size A l) := hide (fun W h => (HIN.out.below h).more h.size)
      go_wp2_with fail
      refine (toPairS_any A l cap _ hl2 (INS.out _ B1.out)).mono ?_
      rintro e w2 ⟨rfl, own2, b2⟩
      have B2 := hide (B1.out.trans (b2.mono B1.out.size))
      have h12 := b2.size
      clear b2 B1
      go_wp2_with fail
      refine (SP.out _ l.length w2 own2.pin).mono ?_
      rintro e w3 ⟨AW, capW, rfl, ownW, b3⟩
      have h23 := b3.size
      have B3 := hide ((B2.out.trans (b3.mono B2.out.size)).alloc (Nat.le_trans B2.out.size b3.size) (.cells #[.string (rdC t).1, .slice AW (rdC t).2.1.length capW, .string (rdC t).2.2] 26))
      have OW := hide (ownW.alloc (.cells #[.string (rdC t).1, .slice AW (rdC t).2.1.length capW, .string (rdC t).2.2] 26))
      have XW : Hid ((w3.alloc (.cells #[.string (rdC t).1, .slice AW (rdC t).2.1.length capW, .string (rdC t).2.2] 26)).heap[w3.heap.size]? = some (C3 (rdC t).1 AW (rdC t).2.1.length capW (rdC t).2.2)) := hide (heap_alloc_new w3 _)
      have SW : w3.heap.size < (w3.alloc (.cells #[.string (rdC t).1, .slice AW (rdC t).2.1.length capW, .string (rdC t).2.2] 26)).heap.size := by simp
      have rW := ownW.row
      clear ownW b3 own2 B2
      go_wp2_with fail
      generalize hW3 : w3.alloc (.cells #[.string (rdC t).1, .slice AW (rdC t).2.1.length capW, .string (rdC t).2.2] 26) = W3 at *
      generalize hg3 : w3.heap.size = g3 at *
      refine (toPairS_any A l cap W3 hl2 (INS.out _ B3.out)).mono ?_
      rintro e w4 ⟨rfl, own4, b4⟩
      have B4 := hide (B3.out.trans (b4.mono B3.out.size))
      have h34 := b4.size
      have OW4 := hide (OW.out.below b4)
      have XW4 := hide ((b4.block g3 SW).trans XW.out)
      have r0 := own4.row
      have O4 := hide own4
      clear own4 b4 B3 OW XW
      go_wp2_with fail
      refine (IM.out _ l.length w4 O4.out.pin (HT.out.below B4.out HB.out) (EE.out.below B4.out)).mono ?_
      rintro e w5 ⟨AX, capX, rfl, ownX, b5⟩
      have h45 := b5.size
      have B5 := hide ((B4.out.trans (b5.mono B4.out.size)).alloc (Nat.le_trans B4.out.size b5.size) (.cells #[.string (rdC t).1, .slice AX (rdC t).2.1.length capX, .string (rdC t).2.2] 26))
      have OW5 := hide ((OW4.out.below b5).alloc (.cells #[.string (rdC t).1, .slice AX (rdC t).2.1.length capX, .string (rdC t).2.2] 26))
      have O5 := hide ((O4.out.below b5).alloc (.cells #[.string (rdC t).1, .slice AX (rdC t).2.1.length capX, .string (rdC t).2.2] 26))
      have OX5 := hide (ownX.alloc (.cells #[.string (rdC t).1, .slice AX (rdC t).2.1.length capX, .string (rdC t).2.2] 26))
      have XW5 := hide ((Below.heap_alloc w5 (.cells #[.string (rdC t).1, .slice AX (rdC t).2.1.length capX, .string (rdC t).2.2] 26) g3 (by omega)).trans ((b5.block g3 (by omega)).trans XW4.out))
      have XX5 : Hid ((w5.alloc (.cells #[.string (rdC t).1, .slice AX (rdC t).2.1.length capX, .string (rdC t).2.2] 26)).heap[w5.heap.size]? = some (C3 (rdC t).1 AX (rdC t).2.1.length capX (rdC t).2.2)) := hide (heap_alloc_new w5 _)
      have SX : w5.heap.size < (w5.alloc (.cells #[.string (rdC t).1, .slice AX (rdC t).2.1.length capX, .string (rdC t).2.2] 26)).heap.size := by simp
      have rX := ownX.row
      clear ownX b5 B4 OW4 O4 XW4
      have p0 := cell_of_row _ _ 0 _ _ _ XX5.out
      have p1 := cell_of_row _ _ 1 _ _ _ XX5.out
      have p2 := cell_of_row _ _ 2 _ _ _ XX5.out
      have q0 := cell_of_row _ _ 0 _ _ _ XW5.out
      have q1 := cell_of_row _ _ 1 _ _ _ XW5.out
      have q2 := cell_of_row _ _ 2 _ _ _ XW5.out
      go_wp2_with fail
      generalize hW5 : w5.alloc (.cells #[.string (rdC t).1, .slice AX (rdC t).2.1.length capX, .string (rdC t).2.2] 26) = W5 at *
      generalize hg5 : w5.heap.size = g5 at *
      refine (eqCommit_same (rdC t).1 (rdC t).2.2 AX AW (rdC t).2.1 capX capW W5 (by unfold maxLen; omega) (OX5.out.sin16 P.out) (OW5.out.sin16 P.out)).mono ?_
      rintro e w6 ⟨rfl, b6⟩
      have h56 := b6.size
      have B6 := hide (B5.out.trans (b6.mono B5.out.size))
      have OW6 := hide (OW5.out.below b6)
      have OX6 := hide (OX5.out.below b6)
      have O6 := hide (O5.out.below b6)
      have XW6 := hide ((b6.block g3 (by omega)).trans XW5.out)
      have XX6 := hide ((b6.block g5 (by omega)).trans XX5.out)
      clear b6 OW5 OX5 O5 XW5 XX5 p0 p1 p2 q0 q1 q2 B5
      go_wp2_with fail
      refine (toPairS_any A l cap w6 hl2 (INS.out _ B6.out)).mono ?_
      rintro e w7 ⟨rfl, own7, b7⟩
      have h67 := b7.size
      have B7 := hide (B6.out.trans (b7.mono B6.out.size))
      have OW7 := hide (OW6.out.below b7)
      have OX7 := hide (OX6.out.below b7)
      have O7 := hide (O6.out.below b7)
      have XW7 := hide ((b7.block g3 (by omega)).trans XW6.out)
      have XX7 := hide ((b7.block g5 (by omega)).trans XX6.out)
      clear b7 OW6 OX6 O6 XW6 XX6 B6
      go_wp2_with fail
      refine (eqPairS_any _ _ l l l.length l.length w7 hl hl O7.out.pin own7.pin).mono ?_
      rintro e w8 ⟨rfl, b8⟩
      have h78 := b8.size
      have B8 := hide (B7.out.trans (b8.mono B7.out.size))
      have OW8 := hide (OW7.out.below b8)
      have OX8 := hide (OX7.out.below b8)
      have O8 := hide (O7.out.below b8)
      have XW8 := hide ((b8.block g3 (by omega)).trans XW7.out)
      have XX8 := hide ((b8.block g5 (by omega)).trans XX7.out)
      clear b8 OW7 OX7 O7 XW7 XX7 B7 own7
      go_wp2_with fail
      refine (markPairS_any _ l l.length 1 w8 W3.heap.size (Nat.le_refl _) (by omega) O8.out).mono ?_
      rintro e w9 ⟨rfl, _, g9⟩
      have h89 := g9.size
      have B9 := hide (B8.out.grown g9 B8.out.size (fun k hk => by have := (r0 k hk).1; omega))
      have OW9 := hide (ZOwn.keptO OW8.out g9 (fun g hg e => by have h1 := (r0 g e.symm).1; have h2 := (rW g hg).2; omega))
      have OX9 := hide (ZOwn.keptO OX8.out g9 (fun g hg e => by have h1 := (r0 g e.symm).2; have h2 := (rX g hg).1; omega))
      have XW9 := hide ((g9.block g3 (by omega) (fun e => by have := (r0 g3 e.symm).1; omega)).trans XW8.out)
      have XX9 := hide ((g9.block g5 (by omega) (fun e => by have := (r0 g5 e.symm).2; omega)).trans XX8.out)
      clear g9 OW8 OX8 O8 XW8 XX8 B8
      have kk0 : ¬ (((1 + 2 * l.length : Nat) : Int) < 0) := by omega
      generalize hkk : 1 + 2 * l.length = kk at *
      have kk1 : ¬ ((kk : Int) < 0) := by omega
      have p0 := cell_of_row _ _ 0 _ _ _ XX9.out
      have p1 := cell_of_row _ _ 1 _ _ _ XX9.out
      have p2 := cell_of_row _ _ 2 _ _ _ XX9.out
      have q0 := cell_of_row _ _ 0 _ _ _ XW9.out
      have q1 := cell_of_row _ _ 1 _ _ _ XW9.out
      have q2 := cell_of_row _ _ 2 _ _ _ XW9.out
      go_wp2_with fail
      refine (eqCommit_same (rdC t).1 (rdC t).2.2 AX AW (rdC t).2.1 capX capW w9 (by unfold maxLen; omega) (OX9.out.sin16 P.out) (OW9.out.sin16 P.out)).mono ?_
      rintro e w10 ⟨rfl, b10⟩
      have h910 := b10.size
      have B10 := hide (B9.out.trans (b10.mono B9.out.size))
      have OW10 := hide (OW9.out.below b10)
      have OX10 := hide (OX9.out.below b10)
      have XW10 := hide ((b10.block g3 (by omega)).trans XW9.out)
      have XX10 := hide ((b10.block g5 (by omega)).trans XX9.out)
      clear b10 OW9 OX9 XW9 XX9 p0 p1 p2 q0 q1 q2 B9
      have p0 := cell_of_row _ _ 0 _ _ _ XX10.out
      have p1 := cell_of_row _ _ 1 _ _ _ XX10.out
      have p2 := cell_of_row _ _ 2 _ _ _ XX10.out
      go_wp2_with fail
      refine (markCommit_any (rdC t).1 (rdC t).2.2 AX (rdC t).2.1 capX 1 w10 w4.heap.size (Nat.le_refl _) (by omega) OX10.out).mono ?_
      rintro e w11 ⟨rfl, own11, g11⟩
      have h1011 := g11.size
      have O11 := hide own11
      have B11 := hide (B10.out.grown g11 B10.out.size (fun k hk => by have := (rX k hk).1; omega))
      have OW11 := hide (ZOwn.keptO OW10.out g11 (fun g hg e => by have h1 := (rX g e.symm).1; have h2 := (rW g hg).2; omega))
      have XW11 := hide ((g11.block g3 (by omega) (fun e => by have := (rX g3 e.symm).1; omega)).trans XW10.out)
      have XX11 := hide ((g11.block g5 (by omega) (fun e => by have := (rX g5 e.symm).2; omega)).trans XX10.out)
      clear own11 g11 OW10 OX10 XW10 XX10 p0 p1 p2 B10
      generalize hkn : 1 + (rdC t).2.1.length = kn at *
      have kn0 : ¬ ((kn : Int) < 0) := by omega
      have H := hide (fun W h => heldCommit_any (rdC t).1 (rdC t).2.2 AX (rdC t).2.1.length capX 1 W (Nat.le_refl _) (by omega) h)
      rw [hkn] at H
      have p0 := cell_of_row _ _ 0 _ _ _ XX11.out
      have p1 := cell_of_row _ _ 1 _ _ _ XX11.out
      have p2 := cell_of_row _ _ 2 _ _ _ XX11.out
      go_wp2_with fail
      refine (H.out w11 O11.out.zin).mono ?_
      rintro e w12 ⟨rfl, b12⟩
      have h1112 := b12.size
      have B12 := hide (B11.out.trans (b12.mono B11.out.size))
      have OW12 := hide (OW11.out.below b12)
      have O12 := hide (O11.out.below b12)
      have XW12 := hide ((b12.block g3 (by omega)).trans XW11.out)
      have XX12 := hide ((b12.block g5 (by omega)).trans XX11.out)
      clear b12 OW11 O11 XW11 XX11 p0 p1 p2 B11
      go_wp2_with fail
      refine (toPairS_any A l cap w12 hl2 (INS.out _ B12.out)).mono ?_
      rintro e w13 ⟨rfl, own13, b13⟩
      have h1213 := b13.size
      have B13 := hide (B12.out.trans (b13.mono B12.out.size))
      have OW13 := hide (OW12.out.below b13)
      have O13 := hide (O12.out.below b13)
      have XW13 := hide ((b13.block g3 (by omega)).trans XW12.out)
      have XX13 := hide ((b13.block g5 (by omega)).trans XX12.out)
      clear b13 OW12 O12 XW12 XX12 B12
      go_wp2_with fail
      refine (IM.out _ l.length w13 own13.pin (HT.out.below B13.out HB.out) (EE.out.below B13.out)).mono ?_
      rintro e w14 ⟨AY, capY, rfl, ownY, b14⟩
      have h1314 := b14.size
      have B14 := hide ((B13.out.trans (b14.mono B13.out.size)).alloc (Nat.le_trans B13.out.size b14.size) (.cells #[.string (rdC t).1, .slice AY (rdC t).2.1.length capY, .string (rdC t).2.2] 26))
      have OW14 := hide ((OW13.out.below b14).alloc (.cells #[.string (rdC t).1, .slice AY (rdC t).2.1.length capY, .string (rdC t).2.2] 26))
      have O14 := hide ((O13.out.below b14).alloc (.cells #[.string (rdC t).1, .slice AY (rdC t).2.1.length capY, .string (rdC t).2.2] 26))
      have OY14 := hide (ownY.alloc (.cells #[.string (rdC t).1, .slice AY (rdC t).2.1.length capY, .string (rdC t).2.2] 26))
      have XW14 := hide ((Below.heap_alloc w14 (.cells #[.string (rdC t).1, .slice AY (rdC t).2.1.length capY, .string (rdC t).2.2] 26) g3 (by omega)).trans ((b14.block g3 (by omega)).trans XW13.out))
      have XX14 := hide ((Below.heap_alloc w14 (.cells #[.string (rdC t).1, .slice AY (rdC t).2.1.length capY, .string (rdC t).2.2] 26) g5 (by omega)).trans ((b14.block g5 (by omega)).trans XX13.out))
      have XY14 : Hid ((w14.alloc (.cells #[.string (rdC t).1, .slice AY (rdC t).2.1.length capY, .string (rdC t).2.2] 26)).heap[w14.heap.size]? = some (C3 (rdC t).1 AY (rdC t).2.1.length capY (rdC t).2.2)) := hide (heap_alloc_new w14 _)
      have SY : w14.heap.size < (w14.alloc (.cells #[.string (rdC t).1, .slice AY (rdC t).2.1.length capY, .string (rdC t).2.2] 26)).heap.size := by simp
      clear ownY b14 OW13 O13 XW13 XX13 B13 own13
      have p0 := cell_of_row _ _ 0 _ _ _ XY14.out
      have p1 := cell_of_row _ _ 1 _ _ _ XY14.out
      have p2 := cell_of_row _ _ 2 _ _ _ XY14.out
      have q0 := cell_of_row _ _ 0 _ _ _ XW14.out
      have q1 := cell_of_row _ _ 1 _ _ _ XW14.out
      have q2 := cell_of_row _ _ 2 _ _ _ XW14.out
      go_wp2_with fail
      generalize hW14 : w14.alloc (.cells #[.string (rdC t).1, .slice AY (rdC t).2.1.length capY, .string (rdC t).2.2] 26) = W14 at *
      generalize hg14 : w14.heap.size = g14 at *
      refine (eqCommit_same (rdC t).1 (rdC t).2.2 AY AW (rdC t).2.1 capY capW W14 (by unfold maxLen; omega) (OY14.out.sin16 P.out) (OW14.out.sin16 P.out)).mono ?_
      rintro e w15 ⟨rfl, b15⟩
      have B15 := hide (B14.out.trans (b15.mono B14.out.size))
      have O15 := hide (O14.out.below b15)
      have XX15 := hide ((b15.block g5 (by omega)).trans XX14.out)
      clear b15 OW14 O14 OY14 XW14 XX14 XY14 p0 p1 p2 q0 q1 q2 B14
      have p0 := cell_of_row _ _ 0 _ _ _ XX15.out
      have p1 := cell_of_row _ _ 1 _ _ _ XX15.out
      have p2 := cell_of_row _ _ 2 _ _ _ XX15.out
      go_wp2_with fail
      refine (H.out w15 O15.out.zin).mono ?_
      rintro e w16 ⟨rfl, b16⟩
      have B16 := hide (B15.out.trans (b16.mono B15.out.size))
      clear b16 O15 XX15 p0 p1 p2 B15 H
      go_wp2
      go_ret
      exact ⟨rfl, B16.out⟩

theorem plainVars : ∀ n ∈ Rows.fnExactCommitAtSpec.vars, n = "loop.example/g00652/impl.errNoCommit" ∨ ∀ g t, Tryd.prog.globalNamed n = some g → (Tryd.prog.globals[g]?).map (·.type) = some t → Tryd.prog.readableRec t = true ∧ t < Tryd.prog.types.size := by
  intro n hn
  have hb : (Rows.fnExactCommitAtSpec.vars).all (fun n => n == "loop.example/g00652/impl.errNoCommit" || ((Tryd.prog.globalNamed n).bind fun g => (Tryd.prog.globals[g]?).map fun x => Tryd.prog.readableRec x.type && decide (x.type < Tryd.prog.types.size)).getD false) = true := by kernel_rfl
  have h := List.all_eq_true.1 hb n hn
  rw [Bool.or_eq_true] at h
  rcases h with h | h
  · exact .inl (by simpa using h)
  refine .inr fun g t h1 h2 => ?_
  rw [h1] at h
  obtain ⟨x, hx, rfl⟩ := Option.map_eq_some_iff.1 h2
  simp only [Option.bind_some, hx, Option.map_some, Option.getD_some, Bool.and_eq_true, decide_eq_true_eq] at h
  exact h
set_option maxRecDepth 100000 in
theorem contract (H : Type) (enc : TypeId × Value → H) (W : World) (base : Nat) (args : Array Value) (ds gs : List (DataW H)) (before : List MemPlace)
    (hval0 : ∀ (j : Nat) t v, Tryd.f3.params[j]? = some t → args[j]? = some v → Value.okWide Tryd.prog W .any base t v)
    (hW : DataW.Whole enc Tryd.prog Tryd.f3.params.toList Rows.fnExactCommitAtSpec.vars false W args.toList ds gs before) (hL : laidMetH Tryd.prog Rows.fnExactCommitAtRow.laid W) :
    Calls Tryd.prog 3 args W fun e W' => ∃ v, e = .returned v ∧ Rows.fnExactCommitAtSpec.post enc Tryd.prog Tryd.f3 false true false false W args v W' := by
  have hval : ∀ (j : Nat) t v, Tryd.f3.params[j]? = some t → args[j]? = some v → Value.okWide Tryd.prog W .any base t v := hval0
  have hT : Tabs W := tabs_of (l := Rows.fnExactCommitAtRow.laid) hL (List.mem_cons_self ..) (List.mem_cons_of_mem _ (List.mem_cons_self ..))
  obtain ⟨a, hE, hvar⟩ := errs_in (W := W) (laid_tail (laid_tail hL))
  have hW' := hW
  obtain ⟨p, q, hA0, hV, rfl, hfz, hnd⟩ := hW
  have hA : DataW.TrodAll enc Tryd.prog W 0 (fun _ => true) true Tryd.f3.params.toList args.toList ds p := hA0
  rw [Tryd.params3] at hA hval
  obtain ⟨v0, vs0, d0, ds0, p0, q0, hargs, rfl, rfl, h0, r0⟩ := trodAll_cons hA
  obtain ⟨v1, vs1, d1, ds1, p1, q1, rfl, rfl, rfl, h1, r1⟩ := trodAll_cons r0
  obtain ⟨rfl, rfl, rfl⟩ := trodAll_nil r1
  obtain rfl : args = #[v0, v1] := by cases args; simp_all
  obtain ⟨x0, x1, x2, rfl⟩ := list3 (vars_len hV)
  obtain ⟨A0, n0, cap0, rfl⟩ := okWide_slice Tryd.underlying22 (hval 0 22 v0 rfl rfl)
  have lt0 : ∀ x ∈ p0, x.block < W.heap.size := by obtain ⟨m, hm⟩ := h0; exact DataW.trod_lt m _ _ _ hm
  obtain ⟨l0, rfl, hl0, hin0⟩ := open_pairs h0
  obtain ⟨s1, rfl, rfl, rfl, hs1⟩ := open_string Tryd.underlying9 (hval 1 9 v1 rfl rfl) h1
  clear hA0 hval0
  refine (walk A0 l0 cap0 s1 a W hl0 hin0 hs1 hT hE).mono fun e W' ⟨he, bel⟩ => ?_
  subst he
  exact ⟨_, rfl, _, _, _, [], _, q, hW', trodAll_mk1 (shut_bool Tryd.underlying4 _), (trodAll_cons_mk (Below.trod laidOut (by kernel_rfl) (of_decide_eq_true (by kernel_rfl)) h0 bel lt0) (trodAll_cons_mk (shut_string Tryd.underlying9 hs1) trodAll_mk0)), vars_stayE laidOut bel hvar plainVars hV, bel.frame _, fun h => by cases h⟩

/-- a world for the witness: the tables hold what their initialisers lay -/
noncomputable def laidWorld (os : Os) : World := layAllE (World.holding Tryd.prog os ⟨#[], #[], []⟩)
theorem laid_met (os : Os) : laidMet Tryd.prog Rows.fnExactCommitAtRow.laid ((laidWorld os).forCall (fun _ _ => 0) ⟨#[], #[.slice none 0 0, .string ByteArray.empty], []⟩).memory :=
  laidMet_of_run' 8 (by kernel_rfl) (by kernel_rfl)
theorem reads (os : Os) {H : Type} (enc : TypeId × Value → H) : ∃ x, DataW.whole enc Tryd.prog ((laidWorld os).forCall (fun _ _ => 0) ⟨#[], #[.slice none 0 0, .string ByteArray.empty], []⟩).memory Tryd.f3.params.toList Rows.fnExactCommitAtSpec.vars false (#[.slice none 0 0, .string ByteArray.empty] : Array Value).toList 8 = some x :=
  Option.isSome_iff_exists.1 (by kernel_rfl)
set_option maxRecDepth 100000 in
theorem lifted (os : Os) (started : os.Started) (H : Type) (enc : TypeId × Value → H) (F : Stop.Interp) :
    ReturnsInHanded {} Tryd.checked os 3 .any ((OpenSpec.ofChange Rows.fnExactCommitAtSpec).preRow enc Tryd.prog Tryd.f3 Rows.fnExactCommitAtRow.domain false Rows.fnExactCommitAtRow.laid) (((OpenSpec.ofChange Rows.fnExactCommitAtSpec).at F).post enc Tryd.prog Tryd.f3 false true false false) := by
  obtain ⟨x, hx⟩ := reads os enc
  refine returnsInHanded_of_row (C := Tryd.checked) (s := OpenSpec.ofChange Rows.fnExactCommitAtSpec) own started (by kernel_rfl) Tryd.func3
    (witness_row_at (enc := enc) (C := Tryd.checked) false (laidWorld os) #[.slice none 0 0, .string ByteArray.empty] rfl (by kernel_rfl) (by kernel_rfl) (by kernel_rfl)
      (OpenSpec.preRow_of_cond 8 hx rfl (fun k hk => by cases hk) (by kernel_rfl) (laid_met os))) ?_
  intro W base args ds gs before hval hW _ _ _ hL _ _
  exact contract H enc W base args ds gs before hval hW hL
theorem said : Rows.FnExactCommitAtSaid :=
  OpenClaim.holds_of_cond 3 Tryd.f3 rfl rfl rfl rfl rfl rfl rfl ⟨rfl, rfl, rfl, rfl, rfl⟩ rfl rfl rfl rfl rfl (by kernel_rfl) Tryd.func3 (by kernel_rfl)
    (of_decide_eq_true (by kernel_rfl)) (by unfold Func.isWrapper; first | (rw [if_pos (by decide +kernel)]; kernel_rfl) | (rw [if_neg (by decide +kernel)]; exact ⟨rfl, rfl⟩))
    (fun os started H enc _ F => by rw [OpenClaim.pre_eq_preRow]; exact lifted os started H enc F)
theorem plain (f : FuncId) (fn : Func) (hf : Tryd.pinned.checked.prog.funcNamed "loop.example/g00652/laws.FnExactCommitAt" = some f) (hfn : Tryd.pinned.checked.prog.funcs[f]? = some fn) :
    false = Tryd.pinned.checked.prog.looks [] ∧ ∀ (j : Nat) t, fn.params[j]? = some t → Tryd.pinned.checked.prog.wantsStandIn t = false := by
  obtain rfl : f = 3 := Option.some.inj ((show Tryd.prog.funcNamed "loop.example/g00652/laws.FnExactCommitAt" = some 3 by kernel_rfl).symm.trans hf) |>.symm
  obtain rfl : fn = Tryd.f3 := (Option.some.inj (Tryd.func3.symm.trans hfn)).symm
  refine ⟨by kernel_rfl, fun j t ht => ?_⟩
  rw [Tryd.params3] at ht
  have hm := Array.mem_of_getElem? ht
  simp only [List.mem_toArray, List.mem_cons, List.not_mem_nil, or_false] at hm
  rcases hm with e | e <;> subst e
  · exact (show Tryd.prog.wantsStandIn 22 = false by kernel_rfl)
  · exact (show Tryd.prog.wantsStandIn 9 = false by kernel_rfl)
theorem card : Rows.FnExactCommitAtCardSaid :=
  Claim7.holds_tied_plain_at .later [] _ _ _ _ said (fun _ h => by cases h) (by kernel_rfl) (fun _ h => by cases h) fnExactCommitAt_row_tie rfl ⟨rfl, rfl⟩ (by kernel_rfl) rfl plain (by kernel_rfl)

end Go.Proofs.YtnjdlcpgpgmeaaaDoor.ExCommitAt
namespace Go.Proofs.YtnjdlcpgpgmeaaaDoor
theorem fnExactCommitAt_proved : Rows.FnExactCommitAtCardSaid := ExCommitAt.card
end Go.Proofs.YtnjdlcpgpgmeaaaDoor
