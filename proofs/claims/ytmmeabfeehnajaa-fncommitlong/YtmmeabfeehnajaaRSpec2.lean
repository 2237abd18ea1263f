/-
  What spec.SwapRef, spec.DropRef answer.
-/
import Derived.Test.YtmmeabfeehnajaaRSpec
namespace Go.Proofs.Ytmmeabfeehnajaa
open Go.RowKit

noncomputable def swB (l : List Pr) (k o v : ByteArray) : Bool := decide (gotV l k = o) && stB l k v
noncomputable def swL (l : List Pr) (k o v : ByteArray) : List Pr := if gotV l k = o then stL l k v else []
theorem swB_no {l : List Pr} {k o v : ByteArray} (h : ¬ gotV l k = o) : swB l k o v = false := by unfold swB; rw [decide_eq_false h]; rfl
theorem swB_yes {l : List Pr} {k o v : ByteArray} (h : gotV l k = o) : swB l k o v = stB l k v := by unfold swB; rw [decide_eq_true h]; rfl
theorem swL_no {l : List Pr} {k o v : ByteArray} (h : ¬ gotV l k = o) : swL l k o v = [] := by unfold swL; rw [if_neg h]
theorem swL_yes {l : List Pr} {k o v : ByteArray} (h : gotV l k = o) : swL l k o v = stL l k v := by unfold swL; rw [if_pos h]
theorem swL_len (l : List Pr) (k o v : ByteArray) : (swL l k o v).length ≤ 20 := by
  unfold swL
  split
  · exact stL_len l k v
  · simp
theorem gotV_not {l : List Pr} {k : ByteArray} (h : gotB l k = false) : gotV l k = ByteArray.empty := by
  cases hm : refB l
  · exact gotV_no hm
  · rw [gotB_yes hm] at h; rw [gotV_yes hm, valOf_no h]

set_option maxRecDepth 100000 in
set_option maxHeartbeats 1000000 in
theorem specSwapRef_any (A : Option Addr) (l : List Pr) (cap : Nat) (k o v : ByteArray) (w : World) (hl : l.length ≤ maxLen) (hc : l.length ≤ cap) (hin : PIn w w.heap.size A l) (hks : k.size ≤ maxLen) (hvs : v.size ≤ maxLen) :
    Calls Try.prog 25 #[.slice A l.length cap, .string k, .string o, .string v] w (RetOwnB w.heap.size (swL l k o v) (swB l k o v) w) := by
  have R := hide (specRefOf_any A l cap k w _ hl hin)
  by_cases ho : gotV l k = o
  · have d1 := eqS_yes ho
    have ZL := hide (swL_yes (v := v) ho)
    have ZB := hide (swB_yes (v := v) ho)
    have EE : Hid (gotB l k = false → o = ByteArray.empty) := hide (fun h => by rw [← ho]; exact gotV_not h)
    clear ho
    cases hg : gotB l k
    · rw [hg] at R
      have e1 : (o.toList == ([] : List UInt8)) = true := by rw [emp_list, decide_eq_true (EE.out hg)]
      have e2 : (o.toList == (⟨#[]⟩ : ByteArray).toList) = true := by rw [emp_arr, decide_eq_true (EE.out hg)]
      clear EE hg
      go_enter Try.func25, Try.ntmps25
      go_wp2_with fail
      refine R.out.mono ?_
      rintro e w1 ⟨rfl, q1⟩
      have B1 := hide (q1.below w.heap.size)
      clear q1
      go_wp2_with fail
      refine (specSetRef_any A l cap k v _ hl hc ((hin.below B1.out).more B1.out.size) hks hvs).mono ?_
      rintro e w2 ⟨A2, cap2, hc2, rfl, own2, b2⟩
      have B2 := hide (B1.out.trans (b2.mono B1.out.size))
      have O2 := hide (own2.more B1.out.size)
      clear b2 own2
      go_wp2
      go_ret2
      rw [ZL.out, ZB.out]
      exact ⟨A2, cap2, hc2, rfl, O2.out, B2.out⟩
    · rw [hg] at R
      clear EE hg
      go_enter Try.func25, Try.ntmps25
      go_wp2_with fail
      refine R.out.mono ?_
      rintro e w1 ⟨rfl, q1⟩
      have B1 := hide (q1.below w.heap.size)
      clear q1
      go_wp2_with fail
      refine (specSetRef_any A l cap k v _ hl hc ((hin.below B1.out).more B1.out.size) hks hvs).mono ?_
      rintro e w2 ⟨A2, cap2, hc2, rfl, own2, b2⟩
      have B2 := hide (B1.out.trans (b2.mono B1.out.size))
      have O2 := hide (own2.more B1.out.size)
      clear b2 own2
      go_wp2
      go_ret2
      rw [ZL.out, ZB.out]
      exact ⟨A2, cap2, hc2, rfl, O2.out, B2.out⟩
  · have d1 := eqS_no ho
    have ZL := hide (swL_no (v := v) ho)
    have ZB := hide (swB_no (v := v) ho)
    clear ho
    go_enter Try.func25, Try.ntmps25
    go_wp2_with fail
    refine R.out.mono ?_
    rintro e w1 ⟨rfl, q1⟩
    go_wp2
    go_ret2
    exact retOwnB_no ZL.out ZB.out (q1.below _)

set_option maxRecDepth 100000 in
set_option maxHeartbeats 1000000 in
theorem specDropRef_any (A : Option Addr) (l : List Pr) (cap : Nat) (k : ByteArray) (w : World) (hl : l.length ≤ maxLen) (hc : l.length ≤ cap) (hin : PIn w w.heap.size A l) :
    Calls Try.prog 22 #[.slice A l.length cap, .string k] w (RetOwnB w.heap.size (drL l k) (gotB l k) w) := by
  have R := hide (specRefOf_any A l cap k w _ hl hin)
  cases hg : gotB l k
  · rw [hg] at R
    have Z := hide (drL_no hg)
    go_enter Try.func22, Try.ntmps22
    go_wp2_with fail
    refine R.out.mono ?_
    rintro e w1 ⟨rfl, q1⟩
    go_wp2
    go_ret2
    exact retOwnB_no Z.out rfl (q1.below _)
  · rw [hg] at R
    have hm : refB l = true := by
      cases h : refB l
      · rw [gotB_no h] at hg; cases hg
      · rfl
    have h20 := (refB_iff.1 hm).1
    have Z : Hid (delL l k = drL l k) := hide (by rw [drL_yes hg]; unfold delL; rw [if_pos (by rw [← gotB_yes hm]; exact hg)])
    go_enter Try.func22, Try.ntmps22
    go_wp2_with fail
    refine R.out.mono ?_
    rintro e w1 ⟨rfl, q1⟩
    have B1 := hide (q1.below w.heap.size)
    clear q1
    go_wp2_with fail
    refine (l1Drop_any A l cap k _ (by omega) hc ((hin.below B1.out).more B1.out.size)).mono ?_
    rintro e w2 ⟨A2, cap2, hc2, rfl, own2, b2⟩
    have B2 := hide (B1.out.trans (b2.mono B1.out.size))
    have O2 := hide (own2.more B1.out.size)
    clear b2 own2
    go_wp2
    go_ret2
    rw [← Z.out]
    exact ⟨A2, cap2, hc2, rfl, O2.out, B2.out⟩
end Go.Proofs.Ytmmeabfeehnajaa
