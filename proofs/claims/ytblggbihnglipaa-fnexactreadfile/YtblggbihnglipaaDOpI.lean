/-
  What impl.nameOk and impl.opOf answer: an op of a right form, as a value behind the interface.
-/
import Derived.Test.YtblggbihnglipaaDFO
import Derived.Test.YtblggbihnglipaaPCls
import Derived.WalkKit
import Derived.WalkLawsBesides
import Derived.ProofKit
namespace Go.Proofs.Ytblggbihnglipaa
open Go.RowKit

theorem nameOk_any (s : ByteArray) (w : World) (hs : s.size ≤ maxLen) :
    Calls Try.prog 80 #[.string s] w fun e w' => e = .returned (.bool (nameB s)) ∧ w = w' := by
  unfold maxLen at hs
  by_cases h1 : 1 ≤ s.size
  · have d1 : decide ((1 : Int) ≤ (s.size : Int)) = true := decide_eq_true (by omega)
    have d1' : decide (1 ≤ s.size) = true := decide_eq_true h1
    by_cases h2 : s.size ≤ 100
    · have E := hide (nameB_yes (s := s) ⟨h1, h2⟩)
      have d2 : decide ((s.size : Int) ≤ 100) = true := decide_eq_true (by omega)
      go_enter Try.func80, Try.ntmps80
      go_wp2
      go_ret
      exact ⟨ret_bool E.out.symm, rfl⟩
    · have E := hide (nameB_no (s := s) (fun h => h2 h.2))
      have d2 : decide ((s.size : Int) ≤ 100) = false := decide_eq_false (by omega)
      go_enter Try.func80, Try.ntmps80
      go_wp2
      go_ret
      exact ⟨ret_bool E.out.symm, rfl⟩
  · have E := hide (nameB_no (s := s) (fun h => h1 h.1))
    have d1 : decide ((1 : Int) ≤ (s.size : Int)) = false := decide_eq_false (by omega)
    have d1' : decide (1 ≤ s.size) = false := decide_eq_false h1
    go_enter Try.func80, Try.ntmps80
    go_wp2
    go_ret
    exact ⟨ret_bool E.out.symm, rfl⟩
/-- the value that stands for an op of a right kind -/
def opV (k : Int) (nm to dt : ByteArray) : Value :=
  if k = 1 then .iface 113 (.agg #[.string nm, .string dt])
  else if k = 2 then .iface 115 (.agg #[.string nm, .string to])
  else if k = 3 then .iface 117 (.agg #[.string nm])
  else .nilIface
theorem opV1 (nm to dt : ByteArray) : opV 1 nm to dt = .iface 113 (.agg #[.string nm, .string dt]) := rfl
theorem opV2 (nm to dt : ByteArray) : opV 2 nm to dt = .iface 115 (.agg #[.string nm, .string to]) := rfl
theorem opV3 (nm to dt : ByteArray) : opV 3 nm to dt = .iface 117 (.agg #[.string nm]) := rfl
theorem formB1 (nm to dt : ByteArray) : formB (1, nm, to, dt) = (nameB nm && decide (to = ByteArray.empty)) := by
  by_cases h : nameP nm ∧ to = ByteArray.empty
  · rw [formB_yes ⟨by show (1 : Int) ≤ 1; omega, by show (1 : Int) ≤ 3; omega, h.1, fun e => absurd e (by show ¬ (1 : Int) = 2; omega), fun _ => ⟨h.2, .inl rfl⟩⟩, nameB_yes h.1, decide_eq_true h.2]; rfl
  · rw [formB_no (fun hp => h ⟨hp.2.2.1, (hp.2.2.2.2 (by show ¬ (1 : Int) = 2; omega)).1⟩)]
    by_cases h1 : nameP nm
    · rw [decide_eq_false (fun e => h ⟨h1, e⟩), Bool.and_false]
    · rw [nameB_no h1, Bool.false_and]
theorem formB2 (nm to dt : ByteArray) : formB (2, nm, to, dt) = (nameB nm && nameB to && decide (dt = ByteArray.empty)) := by
  by_cases h : nameP nm ∧ nameP to ∧ dt = ByteArray.empty
  · rw [formB_yes ⟨by show (1 : Int) ≤ 2; omega, by show (2 : Int) ≤ 3; omega, h.1, fun _ => ⟨h.2.1, h.2.2⟩, fun e => absurd rfl e⟩, nameB_yes h.1, nameB_yes h.2.1, decide_eq_true h.2.2]; rfl
  · rw [formB_no (fun hp => h ⟨hp.2.2.1, hp.2.2.2.1 rfl⟩)]
    by_cases h1 : nameP nm
    · by_cases h2 : nameP to
      · rw [decide_eq_false (fun e => h ⟨h1, h2, e⟩), Bool.and_false]
      · rw [nameB_no h2, Bool.and_false, Bool.false_and]
    · rw [nameB_no h1, Bool.false_and, Bool.false_and]
theorem formB3 (nm to dt : ByteArray) : formB (3, nm, to, dt) = (nameB nm && decide (to = ByteArray.empty) && decide (dt = ByteArray.empty)) := by
  by_cases h : nameP nm ∧ to = ByteArray.empty ∧ dt = ByteArray.empty
  · rw [formB_yes ⟨by show (1 : Int) ≤ 3; omega, by show (3 : Int) ≤ 3; omega, h.1, fun e => absurd e (by show ¬ (3 : Int) = 2; omega), fun _ => ⟨h.2.1, .inr h.2.2⟩⟩, nameB_yes h.1, decide_eq_true h.2.1, decide_eq_true h.2.2]; rfl
  · have h' : ¬ formP (3, nm, to, dt) := fun hp => by
      have q := hp.2.2.2.2 (by show ¬ (3 : Int) = 2; omega)
      refine h ⟨hp.2.2.1, q.1, ?_⟩
      rcases q.2 with e | e
      · exact absurd e (by show ¬ (3 : Int) = 1; omega)
      · exact e
    rw [formB_no h']
    by_cases h1 : nameP nm
    · by_cases h2 : to = ByteArray.empty
      · rw [decide_eq_false (fun e => h ⟨h1, h2, e⟩), Bool.and_false]
      · rw [decide_eq_false h2, Bool.and_false, Bool.false_and]
    · rw [nameB_no h1, Bool.false_and, Bool.false_and]
theorem same_belowO {P : Program} {f : FuncId} {args : Array Value} {w : World} {v : Value} (h : Calls P f args w fun e w' => e = .returned v ∧ w = w') : Calls P f args w fun e w' => e = .returned v ∧ Below w.heap.size w w' := h.mono fun _ _ ⟨h1, h2⟩ => ⟨h1, by subst h2; exact Below.refl _ _⟩
set_option maxRecDepth 100000 in
set_option maxHeartbeats 2000000 in
theorem opOf_any (k : Int) (nm to dt : ByteArray) (w : World) (hn : nm.size ≤ maxLen) (ht : to.size ≤ maxLen) :
    Calls Try.prog 49 #[.agg #[.int .i64 k, .string nm, .string to, .string dt]] w fun e w' => e = .returned (.tuple #[opV k nm to dt, .bool (formB (k, nm, to, dt))]) ∧ Below w.heap.size w w' := by
  obtain ⟨x0, x1, x2, x3⟩ := box4 w (.int .i64 k) (.string nm) (.string to) (.string dt) 45
  have b1 := (Below.refl w.heap.size w).alloc (Nat.le_refl _) (.cells #[.int .i64 k, .string nm, .string to, .string dt] 45)
  have s1 : (w.alloc (.cells #[.int .i64 k, .string nm, .string to, .string dt] 45)).heap.size = w.heap.size + 1 := by simp
  obtain ⟨w1, hw1⟩ : ∃ W, w.alloc (.cells #[.int .i64 k, .string nm, .string to, .string dt] 45) = W := ⟨_, rfl⟩
  rw [hw1] at x0 x1 x2 x3 b1 s1
  have n0 := cell_of_row _ _ 0 _ _ _ (heap_alloc_new w1 (.cells #[.string nm] 111))
  have b2 := (Below.refl w1.heap.size w1).alloc (Nat.le_refl _) (.cells #[.string nm] 111)
  have s2 : (w1.alloc (.cells #[.string nm] 111)).heap.size = w1.heap.size + 1 := by simp
  have y0 := (b2.cell (p := ⟨w.heap.size, 0, none⟩) (by show w.heap.size < _; omega)).trans x0
  have y1 := (b2.cell (p := ⟨w.heap.size, 1, none⟩) (by show w.heap.size < _; omega)).trans x1
  have y2 := (b2.cell (p := ⟨w.heap.size, 2, none⟩) (by show w.heap.size < _; omega)).trans x2
  have y3 := (b2.cell (p := ⟨w.heap.size, 3, none⟩) (by show w.heap.size < _; omega)).trans x3
  obtain ⟨w2, hw2⟩ : ∃ W, w1.alloc (.cells #[.string nm] 111) = W := ⟨_, rfl⟩
  rw [hw2] at n0 b2 s2 y0 y1 y2 y3
  have B2 := hide (b1.trans (b2.mono b1.size))
  have S2 : Hid (w2.heap.size = w.heap.size + 2) := hide (by omega)
  have G1 : Hid (w1.heap.size = w.heap.size + 1) := hide s1
  have NA := hide (fun W => nameOk_any nm W hn)
  have NB := hide (fun W => nameOk_any to W ht)
  have et := empD to
  have ed := empD dt
  clear s1 s2 b1 b2
  by_cases h1 : k = 1
  · subst h1
    have FE := hide (formB1 nm to dt)
    rw [opV1, FE.out]
    clear FE
    have C0 := cls_cell (w := w2) (B := w2.heap.size) (p := ⟨w1.heap.size, 0, none⟩) (by have := S2.out; have := G1.out; show w1.heap.size < _; omega) n0
    have C1 := cls_cell (w := w2) (B := w2.heap.size) (p := ⟨w.heap.size, 1, none⟩) (by have := S2.out; show w.heap.size < _; omega) y1
    have C2 := cls_cell (w := w2) (B := w2.heap.size) (p := ⟨w.heap.size, 2, none⟩) (by have := S2.out; show w.heap.size < _; omega) y2
    have C3 := cls_cell (w := w2) (B := w2.heap.size) (p := ⟨w.heap.size, 3, none⟩) (by have := S2.out; show w.heap.size < _; omega) y3
    generalize decide (to = ByteArray.empty) = te at *
    cases hb : nameB nm
    all_goals
      rw [hb] at NA
      clear hb
      go_enter Try.func49, Try.ntmps49
      go_wp2_with fail
      refine wp_region_cls (by kernel_rfl) (by kernel_rfl) w2.heap.size ?_
      repeat (go_big_quiet_step ((go_at_call 80; exact cls_call (Nat.le_refl _) (same_belowO (NA.out _)))))
      refine wpQuiet_nil ?_
      intro _ hw'
      obtain ⟨u, hw3⟩ := hw'
      subst hw3
      have BU := hide (B2.out.trans (u.below.mono B2.out.size))
      clear C0 C1 C2 C3
      go_wp2
      go_ret2
      exact ⟨by simp, BU.out⟩
  by_cases h2 : k = 2
  · subst h2
    have FE := hide (formB2 nm to dt)
    rw [opV2, FE.out]
    clear FE
    have C0 := cls_cell (w := w2) (B := w2.heap.size) (p := ⟨w1.heap.size, 0, none⟩) (by have := S2.out; have := G1.out; show w1.heap.size < _; omega) n0
    have C1 := cls_cell (w := w2) (B := w2.heap.size) (p := ⟨w.heap.size, 1, none⟩) (by have := S2.out; show w.heap.size < _; omega) y1
    have C2 := cls_cell (w := w2) (B := w2.heap.size) (p := ⟨w.heap.size, 2, none⟩) (by have := S2.out; show w.heap.size < _; omega) y2
    have C3 := cls_cell (w := w2) (B := w2.heap.size) (p := ⟨w.heap.size, 3, none⟩) (by have := S2.out; show w.heap.size < _; omega) y3
    generalize decide (dt = ByteArray.empty) = te at *
    cases hb : nameB nm
    · rw [hb] at NA
      clear hb
      go_enter Try.func49, Try.ntmps49
      go_wp2_with fail
      refine wp_region_cls (by kernel_rfl) (by kernel_rfl) w2.heap.size ?_
      repeat (go_big_quiet_step ((go_at_call 80; with_reducible exact cls_call (Nat.le_refl _) (same_belowO (NA.out _)))))
      refine wpQuiet_nil ?_
      intro _ hw'
      obtain ⟨u, hw3⟩ := hw'
      subst hw3
      have BU := hide (B2.out.trans (u.below.mono B2.out.size))
      clear C0 C1 C2 C3
      go_wp2
      go_ret2
      exact ⟨by simp, BU.out⟩
    · rw [hb] at NA
      clear hb
      cases hc : nameB to
      all_goals
        rw [hc] at NB
        clear hc
        go_enter Try.func49, Try.ntmps49
        go_wp2_with fail
        refine wp_region_cls (by kernel_rfl) (by kernel_rfl) w2.heap.size ?_
        repeat (go_big_quiet_step ((go_at_call 80; first | (with_reducible exact cls_call (Nat.le_refl _) (same_belowO (NA.out _))) | (with_reducible exact cls_call (Nat.le_refl _) (same_belowO (NB.out _))))))
        refine wpQuiet_nil ?_
        intro _ hw'
        obtain ⟨u, hw3⟩ := hw'
        subst hw3
        have BU := hide (B2.out.trans (u.below.mono B2.out.size))
        clear C0 C1 C2 C3
        go_wp2
        go_ret2
        exact ⟨by simp, BU.out⟩
  by_cases h3 : k = 3
  · subst h3
    have FE := hide (formB3 nm to dt)
    rw [opV3, FE.out]
    clear FE
    have C0 := cls_cell (w := w2) (B := w2.heap.size) (p := ⟨w1.heap.size, 0, none⟩) (by have := S2.out; have := G1.out; show w1.heap.size < _; omega) n0
    have C1 := cls_cell (w := w2) (B := w2.heap.size) (p := ⟨w.heap.size, 1, none⟩) (by have := S2.out; show w.heap.size < _; omega) y1
    have C2 := cls_cell (w := w2) (B := w2.heap.size) (p := ⟨w.heap.size, 2, none⟩) (by have := S2.out; show w.heap.size < _; omega) y2
    have C3 := cls_cell (w := w2) (B := w2.heap.size) (p := ⟨w.heap.size, 3, none⟩) (by have := S2.out; show w.heap.size < _; omega) y3
    generalize decide (dt = ByteArray.empty) = de at *
    generalize decide (to = ByteArray.empty) = te at *
    cases hb : nameB nm
    · rw [hb] at NA
      clear hb
      go_enter Try.func49, Try.ntmps49
      go_wp2_with fail
      refine wp_region_cls (by kernel_rfl) (by kernel_rfl) w2.heap.size ?_
      repeat (go_big_quiet_step ((go_at_call 80; exact cls_call (Nat.le_refl _) (same_belowO (NA.out _)))))
      refine wpQuiet_nil ?_
      intro _ hw'
      obtain ⟨u, hw3⟩ := hw'
      subst hw3
      have BU := hide (B2.out.trans (u.below.mono B2.out.size))
      clear C0 C1 C2 C3
      go_wp2
      go_ret2
      exact ⟨by simp, BU.out⟩
    · rw [hb] at NA
      clear hb
      cases te
      all_goals
        go_enter Try.func49, Try.ntmps49
        go_wp2_with fail
        refine wp_region_cls (by kernel_rfl) (by kernel_rfl) w2.heap.size ?_
        repeat (go_big_quiet_step ((go_at_call 80; exact cls_call (Nat.le_refl _) (same_belowO (NA.out _)))))
        refine wpQuiet_nil ?_
        intro _ hw'
        obtain ⟨u, hw3⟩ := hw'
        subst hw3
        have BU := hide (B2.out.trans (u.below.mono B2.out.size))
        clear C0 C1 C2 C3
        go_wp2
        go_ret2
        exact ⟨by simp, BU.out⟩
  · have e1 : (k == 1) = false := beq_eq_false_iff_ne.2 h1
    have e2 : (k == 2) = false := beq_eq_false_iff_ne.2 h2
    have e3 : (k == 3) = false := beq_eq_false_iff_ne.2 h3
    have V : Hid (opV k nm to dt = .nilIface) := hide (by unfold opV; rw [if_neg h1, if_neg h2, if_neg h3])
    have FE : Hid (formB (k, nm, to, dt) = false) := hide (formB_no (fun hp => by
      have a := hp.1
      have b := hp.2.1
      dsimp only at a b
      omega))
    rw [V.out, FE.out]
    clear h1 h2 h3 V FE NA NB et ed
    go_enter Try.func49, Try.ntmps49
    go_wp2
    go_ret2
    exact ⟨rfl, B2.out⟩
end Go.Proofs.Ytblggbihnglipaa
