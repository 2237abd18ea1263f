/-
  Right objects as a list, and what spec.ObjsOk answers.
-/
import Derived.Test.YtlipefnaeblhfaaDoorPMem
import Derived.Test.YtlipefnaeblhfaaDoorQIdS
import Derived.Test.YtlipefnaeblhfaaDoorPCls
import Derived.Deep.QuietTactic
import Derived.BigQuiet
import Derived.IntWalk
namespace Go.Proofs.YtlipefnaeblhfaaDoor
open Go.RowKit

/-- the first k objects are right: short texts, each with its id -/
def textsTo (l : List Pr) (k : Nat) : Prop := ∀ i (h : i < l.length), i < k → l[i].2.size ≤ 2000 ∧ idL l[i].2 = l[i].1
theorem textsTo_zero (l : List Pr) : textsTo l 0 := fun _ _ h => absurd h (by omega)
theorem textsTo_succ {l : List Pr} {k : Nat} (hk : k < l.length) (h : textsTo l k) (h1 : l[k].2.size ≤ 2000) (h2 : idL l[k].2 = l[k].1) : textsTo l (k + 1) := by
  intro i hi hik
  rcases Nat.lt_or_ge i k with g | g
  · exact h i hi g
  · obtain rfl : i = k := by omega
    exact ⟨h1, h2⟩
theorem risesTo_zero (l : List Pr) : risesTo l 0 := fun _ _ h => absurd h (by omega)
theorem risesTo_next {l : List Pr} {k : Nat} (hk : k < l.length) (h : risesTo l k) (h3 : ∀ (hp : 0 < k), ltB (l[k - 1]'(by omega)).1 l[k].1 = true) : risesTo l (k + 1) := by
  intro i hi hik
  rcases Nat.lt_or_ge (i + 1) k with g | g
  · exact h i hi g
  · obtain rfl : k = i + 1 := by omega
    simpa using h3 (by omega)
open Classical in
/-- right objects -/
noncomputable def objsB (l : List Pr) : Bool := decide (l.length ≤ 60 ∧ textsTo l l.length ∧ risesTo l l.length)
open Classical in
theorem objsB_iff {l : List Pr} : objsB l = true ↔ l.length ≤ 60 ∧ textsTo l l.length ∧ risesTo l l.length := by unfold objsB; exact decide_eq_true_iff
theorem objsB_yes {l : List Pr} (h : l.length ≤ 60) (h1 : textsTo l l.length) (h2 : risesTo l l.length) : objsB l = true := objsB_iff.2 ⟨h, h1, h2⟩
theorem objsB_len {l : List Pr} (h : 60 < l.length) : objsB l = false := by
  cases e : objsB l
  · rfl
  · have := (objsB_iff.1 e).1; omega
theorem objsB_text {l : List Pr} {k : Nat} (hk : k < l.length) (h : 2000 < l[k].2.size) : objsB l = false := by
  cases e : objsB l
  · rfl
  · have := ((objsB_iff.1 e).2.1 k hk hk).1; omega
theorem objsB_id {l : List Pr} {k : Nat} (hk : k < l.length) (h : ¬ idL l[k].2 = l[k].1) : objsB l = false := by
  cases e : objsB l
  · rfl
  · exact absurd ((objsB_iff.1 e).2.1 k hk hk).2 h
theorem objsB_rise {l : List Pr} {k : Nat} (hk : k + 1 < l.length) (h : ltB l[k].1 l[k + 1].1 = false) : objsB l = false := by
  cases e : objsB l
  · rfl
  · have := (objsB_iff.1 e).2.2 k hk hk; rw [h] at this; cases this
theorem neS_yes {a b : ByteArray} (h : ¬ a = b) : (a.toList != b.toList) = true := by rw [bne, eqS_no h]; rfl
theorem neS_no {a b : ByteArray} (h : a = b) : (a.toList != b.toList) = false := by rw [bne, eqS_yes h]; rfl

set_option maxRecDepth 100000 in
set_option maxHeartbeats 4000000 in
theorem specObjsOk_any (A : Option Addr) (l : List Pr) (cap : Nat) (w : World) (hl : l.length ≤ maxLen) (hin : PIn w w.heap.size A l) :
    Calls Tryd.prog 18 #[.slice A l.length cap] w fun e w' => e = .returned (.bool (objsB l)) ∧ Below w.heap.size w w' := by
  unfold maxLen at hl
  generalize hn : l.length = n at *
  have HN := hide hn
  clear hn
  go_enter Tryd.func18, Tryd.ntmps18
  go_wp2
  go_loopw [3] (fun i wr => ∃ k : Nat, k ≤ n ∧ i = .int .i64 k ∧ Hid (textsTo l k) ∧ Hid (risesTo l k) ∧ Hid (Below w.heap.size w wr)) (fun i _ => n - (intOf i).toNat)
  case atStart => exact ⟨0, Nat.zero_le _, rfl, textsTo_zero l, risesTo_zero l, Below.refl _ w⟩
  case round =>
    obtain ⟨k, hk, rfl, H, R, Q⟩ := hrel
    by_cases hlt : k < n
    · have hin2 := hin.below Q.out
      obtain ⟨b, off, rfl, hbB, hc⟩ := hin2.2 (by rw [HN.out]; omega)
      have hkl : k < l.length := by rw [HN.out]; omega
      have hbw : b < wr.heap.size := by have := Q.out.size; omega
      obtain ⟨c1, c2⟩ := hc k hkl
      obtain ⟨s1, s2⟩ := hin2.1 k hkl
      have hqs := Q.out.size
      by_cases htx : (l[k]'hkl).2.size ≤ 2000
      · have L2 := hide (fun W => l2Id_any (l[k]'hkl).2 W htx)
        have ht : decide ((2000 : Int) < ((l[k]'hkl).2.size : Int)) = false := decide_eq_false (by omega)
        by_cases hid : idL (l[k]'hkl).2 = (l[k]'hkl).1
        · have ne := eqS_yes hid
          by_cases h0 : 0 < k
          · obtain ⟨c3, _⟩ := hc (k - 1) (by omega)
            have q1 : IntKind.i64.wrap ((k : Int) - 1) = (k : Int) - 1 := IntWalk.i64_in _ (by omega)
            have q2 : (0 : Int) ≤ (k : Int) - 1 := by omega
            have q3 : (1 : Int) ≤ (k : Int) := by omega
            have q4 : ((k : Int) - 1).toNat = k - 1 := by omega
            have q5 : (k : Int) - 1 < (n : Int) := by omega
            have q6 : decide (0 < k) = true := decide_eq_true h0
            cases hrise : ltB (l[k - 1]'(by omega)).1 (l[k]'hkl).1
            · have Z := hide (objsB_rise (l := l) (k := k - 1) (by omega) (by simpa [show k - 1 + 1 = k by omega] using hrise))
              have hrise2 : Op.bytesLess (l[k - 1]'(by omega)).1.toList (l[k]'hkl).1.toList = false := hrise
              generalize idL (l[k]'hkl).2 = dd at *
              generalize (l[k]'hkl).1 = s at *
              generalize (l[k]'hkl).2 = v at *
              generalize (l[k - 1]'(by omega)).1 = s0 at *
              have HI := hide hid
              clear hin hin2 hc hrise hid
              have y1 := cls_cell (B := wr.heap.size) hbw c1
              have y2 := cls_cell (B := wr.heap.size) hbw c2
              have y3 := cls_cell (B := wr.heap.size) hbw c3
              clear c1 c2 c3
              go_wp2
              refine wp_region_cls (by kernel_rfl) (by kernel_rfl) wr.heap.size ?_
              repeat (go_big_quiet_step ((go_at_call 32; exact cls_call (Nat.le_refl _) (L2.out _))))
              refine wpQuiet_nil ?_
              intro _ hw'
              obtain ⟨u, hw''⟩ := hw'
              subst hw''
              clear q1 q4
              go_wp2
              go_ret
              exact ⟨ret_bool Z.out.symm, Q.out.trans (u.below.mono hqs)⟩
            · have Z1 := hide (textsTo_succ hkl H.out htx hid)
              have Z2 := hide (risesTo_next hkl R.out (fun _ => hrise))
              have hrise2 : Op.bytesLess (l[k - 1]'(by omega)).1.toList (l[k]'hkl).1.toList = true := hrise
              generalize idL (l[k]'hkl).2 = dd at *
              generalize (l[k]'hkl).1 = s at *
              generalize (l[k]'hkl).2 = v at *
              generalize (l[k - 1]'(by omega)).1 = s0 at *
              have HI := hide hid
              clear hin hin2 hc hrise hid
              have y1 := cls_cell (B := wr.heap.size) hbw c1
              have y2 := cls_cell (B := wr.heap.size) hbw c2
              have y3 := cls_cell (B := wr.heap.size) hbw c3
              clear c1 c2 c3
              go_wp2
              refine wp_region_cls (by kernel_rfl) (by kernel_rfl) wr.heap.size ?_
              repeat (go_big_quiet_step ((go_at_call 32; exact cls_call (Nat.le_refl _) (L2.out _))))
              refine wpQuiet_nil ?_
              intro _ hw'
              obtain ⟨u, hw''⟩ := hw'
              subst hw''
              clear q1 q4
              go_wp2
              exact ⟨⟨k + 1, by omega, by go_num, Z1, Z2, hide (Q.out.trans (u.below.mono hqs))⟩, by simp [intOf]; omega⟩
          · have Z1 := hide (textsTo_succ hkl H.out htx hid)
            have Z2 := hide (risesTo_next hkl R.out (fun h => absurd h h0))
            have q6 : decide (0 < k) = false := decide_eq_false h0
            generalize idL (l[k]'hkl).2 = dd at *
            generalize (l[k]'hkl).1 = s at *
            generalize (l[k]'hkl).2 = v at *
            have HI := hide hid
            clear hin hin2 hc hid
            have y1 := cls_cell (B := wr.heap.size) hbw c1
            have y2 := cls_cell (B := wr.heap.size) hbw c2
            clear c1 c2
            go_wp2
            refine wp_region_cls (by kernel_rfl) (by kernel_rfl) wr.heap.size ?_
            repeat (go_big_quiet_step ((go_at_call 32; exact cls_call (Nat.le_refl _) (L2.out _))))
            refine wpQuiet_nil ?_
            intro _ hw'
            obtain ⟨u, hw''⟩ := hw'
            subst hw''
            go_wp2
            exact ⟨⟨k + 1, by omega, by go_num, Z1, Z2, hide (Q.out.trans (u.below.mono hqs))⟩, by simp [intOf]; omega⟩
        · have Z := hide (objsB_id hkl hid)
          have ne := eqS_no hid
          generalize idL (l[k]'hkl).2 = dd at *
          generalize (l[k]'hkl).1 = s at *
          generalize (l[k]'hkl).2 = v at *
          clear hin hin2 hc hid
          have y1 := cls_cell (B := wr.heap.size) hbw c1
          have y2 := cls_cell (B := wr.heap.size) hbw c2
          clear c1 c2
          go_wp2
          refine wp_region_cls (by kernel_rfl) (by kernel_rfl) wr.heap.size ?_
          repeat (go_big_quiet_step ((go_at_call 32; exact cls_call (Nat.le_refl _) (L2.out _))))
          refine wpQuiet_nil ?_
          intro _ hw'
          obtain ⟨u, hw''⟩ := hw'
          subst hw''
          go_wp2
          go_ret
          exact ⟨ret_bool Z.out.symm, Q.out.trans (u.below.mono hqs)⟩
      · have Z := hide (objsB_text hkl (by omega))
        generalize (l[k]'hkl).1 = s at *
        generalize (l[k]'hkl).2 = v at *
        have ht : decide ((2000 : Int) < (v.size : Int)) = true := decide_eq_true (by omega)
        clear hin hin2 hc
        go_wp2
        go_quiet (fail)
        go_wp2
        go_ret
        exact ⟨ret_bool Z.out.symm, ⟨Q.out.os, Q.out.tape, Q.out.output, Q.out.size, Q.out.block⟩⟩
    · obtain rfl : k = n := by omega
      by_cases h60 : k ≤ 60
      · have Z : Hid (objsB l = true) := hide (objsB_yes (by rw [HN.out]; omega) (by rw [HN.out]; exact H.out) (by rw [HN.out]; exact R.out))
        have d : decide ((k : Int) ≤ 60) = true := decide_eq_true (by omega)
        go_wp2
        go_ret
        exact ⟨ret_bool Z.out.symm, Q.out⟩
      · have Z : Hid (objsB l = false) := hide (objsB_len (by rw [HN.out]; omega))
        have d : decide ((k : Int) ≤ 60) = false := decide_eq_false (by omega)
        go_wp2
        go_ret
        exact ⟨ret_bool Z.out.symm, Q.out⟩
end Go.Proofs.YtlipefnaeblhfaaDoor
