/-
  What spec.l3Add and spec.Add make of a list of objects and a text.
-/
import Derived.Test.YtlipefnaeblhfaaDoorQFind
import Derived.Test.YtlipefnaeblhfaaDoorQRow
import Derived.Test.YtlipefnaeblhfaaDoorQAddM
namespace Go.Proofs.YtlipefnaeblhfaaDoor
open Go.RowKit

theorem idL_max (t : ByteArray) : (idL t).size ≤ maxLen := by rw [idL_size]; simp [maxLen]
theorem set_new {l : List Pr} {k : ByteArray} (v : ByteArray) (h : hasB l k = false) : (([] ++ l.take (atN l k)) ++ [(k, v)]) ++ l.drop (atN l k) = setL l k v := by unfold setL; rw [h]; simp

set_option maxRecDepth 100000 in
set_option maxHeartbeats 1000000 in
theorem l3Add_any (A : Option Addr) (l : List Pr) (cap : Nat) (t : ByteArray) (w : World) (hl : l.length ≤ 100000) (hc : l.length ≤ cap) (hin : PIn w w.heap.size A l) (ht : t.size ≤ 2000) :
    Calls Tryd.prog 61 #[.slice A l.length cap, .string t] w (RetOwnB w.heap.size (l3L l t) (stepOk l (idL t, t)) w) := by
  have hlm : l.length ≤ maxLen := by unfold maxLen; omega
  have hle := atN_le l (idL t)
  have hks := idL_max t
  have hvs : t.size ≤ maxLen := by unfold maxLen; omega
  have IN := hide hin
  have L2 := hide (l2Id_any t w ht)
  clear hin
  cases hh : hasB l (idL t)
  · have HM : Hid ((([] ++ l.take (atN l (idL t))) ++ [(idL t, t)]) ++ l.drop (atN l (idL t)) = l3L l t) := hide (by unfold l3L; rw [hh]; exact set_new t hh)
    have ST : Hid (stepOk l (idL t, t) = true) := hide (stepOk_new hh)
    go_enter Tryd.func61, Tryd.ntmps61
    go_wp2_with fail
    refine L2.out.mono ?_
    rintro e w1 ⟨rfl, b1⟩
    have B1 := hide b1
    have in1 := IN.out.below b1
    have F1 := hide (l3Find_any A l cap (idL t) w1 w.heap.size hlm in1)
    rw [hh] at F1
    have A1 := hide (l3At_any A l cap (idL t) w1 w.heap.size hlm in1)
    have K1 := run_cut_h 25 Tryd.underlying25 A l.length cap (atN l (idL t)) (by omega)
    have K2 := run_cut_l 25 Tryd.underlying25 A l.length cap (atN l (idL t)) (by omega)
    have IN1 := hide (in1.take cap (atN l (idL t)))
    have IN2 := hide (in1.drop hc (atN l (idL t)))
    have E1 := hide (show (l.take (atN l (idL t))).length = atN l (idL t) by rw [List.length_take]; omega)
    have E2 := hide (show (l.drop (atN l (idL t))).length = l.length - (atN l (idL t)) by rw [List.length_drop])
    have O1 := hide (Own.built w1 w1.heap.size (Nat.le_refl _))
    have B2 := hide ((Below.refl w1.heap.size w1).alloc (Nat.le_refl _) (.cells #[] 41))
    have hs1 := b1.size
    have IN1b := hide (IN1.out.below (B2.out.mono hs1))
    clear b1 in1 hh L2
    generalize valOf l (idL t) = vv at *
    generalize l.take (atN l (idL t)) = la at *
    generalize l.drop (atN l (idL t)) = lb at *
    generalize atN l (idL t) = m at *
    generalize idL t = k at *
    generalize hnn : l.length = n at *
    have HNN := hide hnn
    clear hnn
    go_wp2_with (first
      | (go_at_call 70; refine F1.out.mono ?_; rintro e w' ⟨rfl, rfl⟩)
      | (go_at_call 71; refine A1.out.mono ?_; rintro e w' ⟨rfl, rfl⟩)
      | (at_builtin; refine wpList_app 25 Tryd.underlying25 rfl (.tmp 29) (.tmp 32) rfl rfl rfl rfl E1.out.symm O1.out IN1b.out B2.out.size (by rw [E1.out]; simp; omega) ?_; intro A3 cap3 w3 own3 g3 r3; have b3 := O1.out.grownBelow (by rw [rowOf_own]; exact g3) B2.out.size; have B3 := hide (B2.out.trans b3); have O3 := hide own3; have IN3 := hide (IN2.out.below (B3.out.mono hs1)); clear own3 g3 b3)
      | (at_builtin; refine wpList_app 25 Tryd.underlying25 rfl (.tmp 34) (.tmp 38) rfl rfl rfl (by simp) rfl (O3.out.alloc _) (PIn.one w3 k t hks hvs _) (Nat.le_trans B3.out.size (by simp)) (by rw [List.length_append, E1.out]; simp; omega) ?_; intro A4 cap4 w4 own4 g4 r4; have b4 := (O3.out.alloc (.cells #[.string k, .string t] 41)).grownBelow (by rw [rowOf_own]; exact g4) (Nat.le_trans B3.out.size (by simp)); have b4' := ((Below.refl w1.heap.size w3).alloc B3.out.size (.cells #[.string k, .string t] 41)).trans b4; have B4 := hide (B3.out.trans b4'); have O4 := hide own4; have IN4 := hide (IN3.out.below (b4'.mono hs1)); clear own4 g4 b4 b4')
      | (at_builtin; refine wpList_app 25 Tryd.underlying25 rfl (.tmp 40) (.tmp 43) rfl rfl rfl (by simp) E2.out.symm O4.out IN4.out B4.out.size (by rw [List.length_append, List.length_append, E1.out, E2.out]; simp; omega) ?_; intro A5 cap5 w5 own5 g5 r5; have b5 := O4.out.grownBelow (by rw [rowOf_own]; exact g5) B4.out.size; have B5 := hide (B4.out.trans b5); have O5 := hide own5; clear own5 g5 b5))
    go_ret2
    have O6 := O5.out
    rw [HM.out] at O6
    exact ⟨A5, cap5, O6.cap_le, by rw [← HM.out, ST.out]; simp, O6.more B1.out.size, B1.out.trans (B5.out.mono B1.out.size)⟩
  · have HM : Hid ([] ++ l = l3L l t) := hide (by unfold l3L; rw [hh]; simp)
    have ST : Hid (((valOf l (idL t)).toList == t.toList) = stepOk l (idL t, t)) := hide (by
      by_cases e : valOf l (idL t) = t
      · rw [eqS_yes e, stepOk_same e]
      · rw [eqS_no e, stepOk_no hh e])
    go_enter Tryd.func61, Tryd.ntmps61
    go_wp2_with fail
    refine L2.out.mono ?_
    rintro e w1 ⟨rfl, b1⟩
    have B1 := hide b1
    have in1 := IN.out.below b1
    have F1 := hide (l3Find_any A l cap (idL t) w1 w.heap.size hlm in1)
    rw [hh] at F1
    have O1 := hide (Own.built w1 w1.heap.size (Nat.le_refl _))
    have B2 := hide ((Below.refl w1.heap.size w1).alloc (Nat.le_refl _) (.cells #[] 41))
    have hs1 := b1.size
    have IN1b := hide (in1.below (B2.out.mono hs1))
    clear b1 in1 hh L2
    generalize valOf l (idL t) = vv at *
    generalize stepOk l (idL t, t) = so at *
    generalize idL t = k at *
    generalize hnn : l.length = n at *
    have HNN := hide hnn
    clear hnn
    go_wp2_with (first
      | (go_at_call 70; refine F1.out.mono ?_; rintro e w' ⟨rfl, rfl⟩)
      | (at_builtin; refine wpList_app 25 Tryd.underlying25 rfl (.tmp 20) (.tmp 21) rfl rfl rfl rfl HNN.out.symm O1.out IN1b.out B2.out.size (by rw [HNN.out]; simp; omega) ?_; intro A3 cap3 w3 own3 g3 r3; have b3 := O1.out.grownBelow (by rw [rowOf_own]; exact g3) B2.out.size; have B3 := hide (B2.out.trans b3); have O3 := hide own3; clear own3 g3 b3))
    go_ret2
    have O6 := O3.out
    rw [HM.out] at O6
    exact ⟨A3, cap3, O6.cap_le, by rw [← HM.out, ← ST.out]; simp, O6.more B1.out.size, B1.out.trans (B3.out.mono B1.out.size)⟩

set_option maxRecDepth 100000 in
set_option maxHeartbeats 1000000 in
theorem specAdd_any (A : Option Addr) (l : List Pr) (cap : Nat) (t : ByteArray) (w : World) (hl : l.length ≤ maxLen) (hc : l.length ≤ cap) (hin : PIn w w.heap.size A l) (hts : t.size ≤ maxLen) :
    Calls Tryd.prog 49 #[.slice A l.length cap, .string t] w (RetOwnI w.heap.size (addL l t) (adI l t) (addB l t) w) := by
  have R := hide (specObjsOk_any A l cap w hl hin)
  have IN := hide hin
  unfold maxLen at hts
  clear hin
  cases hm : objsB l
  · have Z := hide (addB_no (t := t) hm)
    go_enter Tryd.func49, Tryd.ntmps49
    go_wp2_with (go_at_call 18; refine R.out.mono ?_; rintro e w1 ⟨rfl, b1⟩)
    go_ret3
    exact retOwnI_no (addL_no Z.out) (adI_no Z.out) Z.out b1
  · have h60 := (objsB_iff.1 hm).1
    by_cases ht : t.size ≤ 2000
    · have hb : ¬ (2000 : Int) < (t.size : Int) := by omega
      have hb2 : decide ((2000 : Int) < (t.size : Int)) = false := decide_eq_false hb
      go_enter Tryd.func49, Tryd.ntmps49
      go_wp2_with fail
      refine R.out.mono ?_
      rintro e w1 ⟨rfl, b1⟩
      have in1 := (IN.out.below b1).more b1.size
      have B1 := hide b1
      clear b1 R
      go_wp2_with fail
      refine (l3Add_any A l cap t w1 (by omega) hc in1 ht).mono ?_
      rintro e w2 ⟨A2, cap2, hc2, rfl, own2, b2⟩
      have B2 := hide (B1.out.trans (b2.mono B1.out.size))
      have O2 := hide own2
      have hl3 := l3L_len l t
      clear b2 own2 in1
      cases hs : stepOk l (idL t, t)
      · have Z : Hid (addB l t = false) := hide (by rw [addB_of hm]; exact addOk_other hs)
        go_wp2
        go_ret3
        exact retOwnI_no (addL_no Z.out) (adI_no Z.out) Z.out B2.out
      · have E := hide (l3L_set (objs_all.1 hm).2.2 hs)
        have Z := hide (addB_spec hm ht hs)
        rw [E.out] at hc2 O2 hl3 ⊢
        go_wp2_with fail
        refine (specObjsOk_any A2 (setL l (idL t) t) cap2 w2 (by unfold maxLen; omega) O2.out.pin).mono ?_
        rintro e w3 ⟨rfl, b3⟩
        have B3 := hide (B2.out.trans (b3.mono B2.out.size))
        have O3 := hide (O2.out.below b3)
        have hs2 := B1.out.size
        clear b3 B2 O2
        rw [← Z.out]
        cases hz : addB l t
        · have Z := hide hz
          go_wp2
          go_ret3
          exact retOwnI_no (addL_no Z.out) (adI_no Z.out) Z.out B3.out
        · have Z2 := hide hz
          go_wp2_with fail
          refine (l2Id_any t w3 ht).mono ?_
          rintro e w4 ⟨rfl, b4⟩
          have B4 := hide (B3.out.trans (b4.mono B3.out.size))
          have O4 := hide ((O3.out.below b4).more hs2)
          clear b4 B3 O3
          go_wp2
          go_ret3
          refine ⟨A2, cap2, ?_, ?_, ?_, B4.out⟩
          · rw [addL_yes Z2.out]; exact hc2
          · rw [addL_yes Z2.out, adI_yes Z2.out, Z2.out]; rfl
          · rw [addL_yes Z2.out]; exact O4.out
    · have Z : Hid (addB l t = false) := hide (by rw [addB_of hm]; exact addOk_long (by omega))
      have hb : (2000 : Int) < (t.size : Int) := by omega
      have hb2 : decide ((2000 : Int) < (t.size : Int)) = true := decide_eq_true hb
      go_enter Tryd.func49, Tryd.ntmps49
      go_wp2_with (go_at_call 18; refine R.out.mono ?_; rintro e w1 ⟨rfl, b1⟩)
      go_ret3
      exact retOwnI_no (addL_no Z.out) (adI_no Z.out) Z.out b1
end Go.Proofs.YtlipefnaeblhfaaDoor
