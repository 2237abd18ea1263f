/-
  For every code, laws.FnResolved returns true: with one side of drawn maps chosen each key of which both changed it is as there, and all others as in the merger. No conditions but that the two variables (the sentinel of refusals, the type error's handle) hold what the program's text lays (the card ties them).
-/
import Derived.Test.YtaofemdhgfejjaaGreatDoorMLaid
import Derived.Test.YtaofemdhgfejjaaGreatDoorRdCode
import Derived.Test.YtaofemdhgfejjaaGreatDoorMDraw2
import Derived.Test.YtaofemdhgfejjaaGreatDoorMTakI
import Derived.Test.YtaofemdhgfejjaaGreatDoorMLaw
import Derived.Test.YtaofemdhgfejjaaGreatDoorPSame
import Derived.Test.YtaofemdhgfejjaaGreatDoorCSame
import Derived.Test.YtaofemdhgfejjaaGreatDoorPGet
import Derived.Test.YtaofemdhgfejjaaGreatDoorMRsD
namespace Go.Proofs.YtaofemdhgfejjaaGreatDoor.LResolved
open Go.RowKit Go.ChangeShapes Go.WideShapes Go.ChangeAt
open Go.ChangeMaps (open_string shut_string)

set_option maxRecDepth 100000 in
set_option maxHeartbeats 2000000 in
theorem walk (A : Option Addr) (n : Nat) (cap : Nat) (a : Addr) (w : World) (hl : n ≤ maxLen) (hin : CIn w w.heap.size A n) (hE : Errs w a) :
    Calls Tryz.prog 4 #[.slice A n cap] w fun e w' => e = .returned (.bool true) ∧ Below w.heap.size w w' := by
  by_cases hbig : 1048576 < n
  · have d : decide (1048576 < n) = true := decide_eq_true hbig
    go_enter Tryz.func4, Tryz.ntmps4
    go_wp2_with (go_at_call 7; refine (big_any A n cap _ hl).mono ?_; rintro e w' ⟨rfl, rfl⟩)
    go_ret
    exact ⟨rfl, Below.refl _ _⟩
  have hn : n ≤ 1048576 := by omega
  have d : decide (1048576 < n) = false := decide_eq_false hbig
  have IN := hide hin
  have HE := hide hE
  have HZ := hide hE.2.2
  have B0 := hide (Below.refl w.heap.size w)
  clear hin hE
  go_enter Tryz.func4, Tryz.ntmps4
  go_wp2_with fail
  refine (big_any A n cap w hl).mono ?_
  rintro e w' ⟨rfl, rfl⟩
  go_wp2_with fail
  refine (drawResolved_any A n cap w hn IN.out).mono ?_
  rintro e w1 ⟨A0, c0, l0, A1, c1, l1, A2, c2, l2, side, rfl, hc0, hc1, hc2, m0, m1, m2, o0, o1, o2, b1⟩
  have B1 := hide (B0.out.trans (b1.mono B0.out.size))
  have O_1 := hide (o0.more B0.out.size)
  have P_1 := hide (o1.more B0.out.size)
  have R_1 := hide (o2.more B0.out.size)
  clear b1 B0 o0 o1 o2
  have n0 := (mapB_iff.1 m0).1
  have n1 := (mapB_iff.1 m1).1
  have n2 := (mapB_iff.1 m2).1
  have M0 := hide m0
  have M1 := hide m1
  have M2 := hide m2
  have MX : (40 : Nat) ≤ maxLen := by unfold maxLen; omega
  clear m0 m1 m2 IN
  have hk0 := rsL_len l0 l1 l2 side
  have hk1 := mgL_len l0 l1 l2
  have hk2 := mgK_len l0 l1 l2
  have es := eqL_self (rsL l0 l1 l2 side)
  have KM : (120 : Nat) ≤ maxLen := by unfold maxLen; omega
  go_wp2_with fail
  refine (implResolved_any A0 A1 A2 l0 l1 l2 c0 c1 c2 side a _ (by omega) (by omega) (by omega) O_1.out.pin P_1.out.pin R_1.out.pin (HE.out.belowB B1.out HZ.out.1 HZ.out.2)).mono ?_
  rintro e w2 ⟨AX, cX, hcX, rfl, oX, b2⟩
  have B2 := hide (B1.out.trans (b2.mono B1.out.size))
  have O_2 := hide (O_1.out.below b2)
  have P_2 := hide (P_1.out.below b2)
  have R_2 := hide (R_1.out.below b2)
  have X_2 := hide (oX.more B1.out.size)
  clear b2 B1 O_1 P_1 R_1 oX
  go_wp2_with fail
  refine (specResolved_any A0 A1 A2 l0 l1 l2 c0 c1 c2 side _ (by omega) (by omega) (by omega) O_2.out.pin P_2.out.pin R_2.out.pin).mono ?_
  rintro e w3 ⟨AV, cV, hcV, rfl, oV, b3⟩
  have B3 := hide (B2.out.trans (b3.mono B2.out.size))
  have O_3 := hide (O_2.out.below b3)
  have P_3 := hide (P_2.out.below b3)
  have R_3 := hide (R_2.out.below b3)
  have X_3 := hide (X_2.out.below b3)
  have V_3 := hide (oV.more B2.out.size)
  clear b3 B2 O_2 P_2 R_2 X_2 oV
  have ne : (rsB l0 l1 l2 side != rsB l0 l1 l2 side) = false := by simp
  have eqq : (rsB l0 l1 l2 side == rsB l0 l1 l2 side) = true := by simp
  go_wp2_with fail
  refine (sameMap_any AX AV (rsL l0 l1 l2 side) (rsL l0 l1 l2 side) cX cV _ _ _ (by omega) (by omega) X_3.out.pin V_3.out.pin).mono ?_
  rintro e w4 ⟨rfl, b4⟩
  replace b4 := b4.below w3.heap.size
  have B4 := hide (B3.out.trans (b4.mono B3.out.size))
  have O_4 := hide (O_3.out.below b4)
  have P_4 := hide (P_3.out.below b4)
  have R_4 := hide (R_3.out.below b4)
  have X_4 := hide (X_3.out.below b4)
  have V_4 := hide (V_3.out.below b4)
  clear b4 B3 O_3 P_3 R_3 X_3 V_3
  rw [es]
  cases hg : rsB l0 l1 l2 side
  · skip
    go_wp2_with fail
    refine (sameMap_any AX AV (rsL l0 l1 l2 side) (rsL l0 l1 l2 side) cX cV _ _ _ (by omega) (by omega) X_4.out.pin V_4.out.pin).mono ?_
    rintro e w5 ⟨rfl, b5⟩
    replace b5 := b5.below w4.heap.size
    have B5 := hide (B4.out.trans (b5.mono B4.out.size))
    have O_5 := hide (O_4.out.below b5)
    have P_5 := hide (P_4.out.below b5)
    have R_5 := hide (R_4.out.below b5)
    have X_5 := hide (X_4.out.below b5)
    have V_5 := hide (V_4.out.below b5)
    clear b5 B4 O_4 P_4 R_4 X_4 V_4
    rw [es]
    go_wp2
    go_ret
    exact ⟨rfl, B5.out⟩
  have HG := hide hg
  have HM := hide (rs_mg hg)
  have HS := hide (rsB_iff.1 hg).2.1
  clear hg ne eqq
  clear V_4
  have MG := hide (fun W x0 x1 x2 e => implMerged_any A0 A1 A2 l0 l1 l2 c0 c1 c2 a W (by omega) (by omega) (by omega) x0 x1 x2 e)
  rw [HM.out] at MG
  go_wp2_with fail
  refine (MG.out _ O_4.out.pin P_4.out.pin R_4.out.pin (HE.out.belowB B4.out HZ.out.1 HZ.out.2)).mono ?_
  rintro e w5 ⟨AM, cM, AK, cK, hcM, rfl, oM, zM, b5, _⟩
  have B5 := hide (B4.out.trans (b5.mono B4.out.size))
  have O_5 := hide (O_4.out.below b5)
  have P_5 := hide (P_4.out.below b5)
  have R_5 := hide (R_4.out.below b5)
  have X_5 := hide (X_4.out.below b5)
  have M_5 := hide (oM.more B4.out.size)
  have K_5 := hide (zM.more B4.out.size)
  clear b5 B4 O_4 P_4 R_4 X_4 oM zM
  clear MG
  clear O_5
  have hs := HS.out
  clear HS
  have hdl := diffL_len (mgL l0 l1 l2) (rsL l0 l1 l2 side)
  rcases hs with rfl | rfl
  · skip
    clear R_5
    go_wp2_with fail
    refine (implDiffOf_any AM (mgL l0 l1 l2) cM AX (rsL l0 l1 l2 1) cX _ (by omega) (by omega) hcM hcX M_5.out.pin X_5.out.pin).mono ?_
    rintro e w6 ⟨AD, cD, hcD, rfl, oD, b6⟩
    have B6 := hide (B5.out.trans (b6.mono B5.out.size))
    have P_6 := hide (P_5.out.below b6)
    have X_6 := hide (X_5.out.below b6)
    have M_6 := hide (M_5.out.below b6)
    have K_6 := hide (K_5.out.below b6)
    have D_6 := hide (oD.more B5.out.size)
    clear b6 B5 P_5 X_5 M_5 K_5 oD
    clear M_6
    go_wp2
    go_loopw [17] (fun i wr => ∃ j : Nat, j ≤ (diffL (mgL l0 l1 l2) (rsL l0 l1 l2 1)).length ∧ i = .int .i64 j ∧ Hid (Own wr w.heap.size AX cX (rsL l0 l1 l2 1)) ∧ Hid (Own wr w.heap.size A1 c1 l1) ∧ Hid (ZOwn wr w.heap.size AK cK (mgK l0 l1 l2)) ∧ Hid (HOwn wr w.heap.size AD cD (diffL (mgL l0 l1 l2) (rsL l0 l1 l2 1))) ∧ Hid (Below w.heap.size w wr)) (fun i _ => (diffL (mgL l0 l1 l2) (rsL l0 l1 l2 1)).length - (intOf i).toNat)
    case atStart => exact ⟨0, Nat.zero_le _, rfl, X_6, P_6, K_6, D_6, B6⟩
    case round =>
      clear B6 P_6 X_6 K_6 D_6
      obtain ⟨j, hj, rfl, X_, P_, K_, D_, Q⟩ := hrel
      have B106 := Q
      have X_106 := X_
      have P_106 := P_
      have K_106 := K_
      have D_106 := D_
      clear Q X_ P_ K_ D_
      by_cases hlt : j < (diffL (mgL l0 l1 l2) (rsL l0 l1 l2 1)).length
      · skip
        have hin1 := D_106.out.pin
        obtain ⟨bb, off, rfl, hbB, hc⟩ := hin1.2 (by omega)
        have x1 := (hc j hlt).1
        have FR := hide (hasK_yes (rs_dif HG.out (List.getElem_mem hlt)))
        generalize ((diffL (mgL l0 l1 l2) (rsL l0 l1 l2 1))[j]'hlt).1 = key at *
        clear hc hin1
        go_wp2_with fail
        refine (lawsHas_any AK (mgK l0 l1 l2) cK key _ _ (by omega) K_106.out.zin).mono ?_
        rintro e w' ⟨rfl, rfl⟩
        rw [FR.out]
        clear FR
        go_wp2
        go_roundw
        case rel => exact ⟨j + 1, by omega, by go_num, X_106, P_106, K_106, D_106, B106⟩
        case measure => simp [intOf]; omega
      · skip
        clear D_106
        have hge : ¬ ((j : Int) < ((diffL (mgL l0 l1 l2) (rsL l0 l1 l2 1)).length : Int)) := by omega
        go_wp2
        go_loopw [18] (fun i wr => ∃ j : Nat, j ≤ (mgK l0 l1 l2).length ∧ i = .int .i64 j ∧ Hid (Own wr w.heap.size AX cX (rsL l0 l1 l2 1)) ∧ Hid (Own wr w.heap.size A1 c1 l1) ∧ Hid (ZOwn wr w.heap.size AK cK (mgK l0 l1 l2)) ∧ Hid (Below w.heap.size w wr)) (fun i _ => (mgK l0 l1 l2).length - (intOf i).toNat)
        case atStart => exact ⟨0, Nat.zero_le _, rfl, X_106, P_106, K_106, B106⟩
        case round =>
          clear B106 X_106 P_106 K_106
          obtain ⟨j, hj, rfl, X_, P_, K_, Q⟩ := hrel
          have B206 := Q
          have X_206 := X_
          have P_206 := P_
          have K_206 := K_
          clear Q X_ P_ K_
          by_cases hlt2 : j < (mgK l0 l1 l2).length
          · skip
            have hin1 := K_206.out.zin
            obtain ⟨bb, off, rfl, hbB, hc⟩ := hin1 (by omega)
            have x1 := hc j hlt2
            have FR := hide (rs_bad HG.out (List.getElem_mem hlt2))
            have SL : Hid (sideL l1 l2 1 = l1) := hide rfl
            rw [SL.out] at FR
            clear SL
            generalize ((mgK l0 l1 l2)[j]'hlt2) = key at *
            clear hc hin1
            go_wp2_with fail
            refine (implGet_any A1 (l1) c1 key _ (by omega) P_206.out.pin).mono ?_
            rintro e w207 ⟨rfl, b207⟩
            rw [getV_yes (k := key) M1.out, getB_yes (k := key) M1.out]
            have B207 := hide (B206.out.trans (b207.mono B206.out.size))
            replace x1 := cellB b207 hbB x1
            replace hbB := Nat.lt_of_lt_of_le hbB b207.size
            have X_207 := hide (X_206.out.below b207)
            have P_207 := hide (P_206.out.below b207)
            have K_207 := hide (K_206.out.below b207)
            clear b207 B206 X_206 P_206 K_206
            go_wp2_with fail
            refine (implGet_any AX (rsL l0 l1 l2 1) cX key _ (by omega) X_207.out.pin).mono ?_
            rintro e w208 ⟨rfl, b208⟩
            rw [getV_yes (k := key) (rs_map HG.out), getB_yes (k := key) (rs_map HG.out), ← FR.out.1, ← FR.out.2]
            have B208 := hide (B207.out.trans (b208.mono B207.out.size))
            replace x1 := cellB b208 hbB x1
            replace hbB := Nat.lt_of_lt_of_le hbB b208.size
            have X_208 := hide (X_207.out.below b208)
            have P_208 := hide (P_207.out.below b208)
            have K_208 := hide (K_207.out.below b208)
            clear b208 B207 X_207 P_207 K_207
            generalize valOf l1 key = v0 at *
            generalize hasB l1 key = g0 at *
            have d1 : (v0.toList == v0.toList) = true := by simp
            have d2 : (g0 != g0) = false := by simp
            have d3 : (g0 == g0) = true := by simp
            clear FR
            go_wp2
            go_roundw
            case rel => exact ⟨j + 1, by omega, by go_num, X_208, P_208, K_208, B208⟩
            case measure => simp [intOf]; omega
          · skip
            have MM := rs_map HG.out
            go_wp2_with fail
            refine (implMapOk_any AX (rsL l0 l1 l2 1) cX _ (by omega) X_206.out.pin).mono ?_
            rintro e w207 ⟨rfl, b207⟩
            have B207 := hide (B206.out.trans (b207.mono B206.out.size))
            have X_207 := hide (X_206.out.below b207)
            have P_207 := hide (P_206.out.below b207)
            have K_207 := hide (K_206.out.below b207)
            clear b207 B206 X_206 P_206 K_206
            rw [MM]
            clear MM
            go_wp2
            go_ret
            exact ⟨rfl, B207.out⟩
  · skip
    clear P_5
    go_wp2_with fail
    refine (implDiffOf_any AM (mgL l0 l1 l2) cM AX (rsL l0 l1 l2 2) cX _ (by omega) (by omega) hcM hcX M_5.out.pin X_5.out.pin).mono ?_
    rintro e w6 ⟨AD, cD, hcD, rfl, oD, b6⟩
    have B6 := hide (B5.out.trans (b6.mono B5.out.size))
    have R_6 := hide (R_5.out.below b6)
    have X_6 := hide (X_5.out.below b6)
    have M_6 := hide (M_5.out.below b6)
    have K_6 := hide (K_5.out.below b6)
    have D_6 := hide (oD.more B5.out.size)
    clear b6 B5 R_5 X_5 M_5 K_5 oD
    clear M_6
    go_wp2
    go_loopw [17] (fun i wr => ∃ j : Nat, j ≤ (diffL (mgL l0 l1 l2) (rsL l0 l1 l2 2)).length ∧ i = .int .i64 j ∧ Hid (Own wr w.heap.size AX cX (rsL l0 l1 l2 2)) ∧ Hid (Own wr w.heap.size A2 c2 l2) ∧ Hid (ZOwn wr w.heap.size AK cK (mgK l0 l1 l2)) ∧ Hid (HOwn wr w.heap.size AD cD (diffL (mgL l0 l1 l2) (rsL l0 l1 l2 2))) ∧ Hid (Below w.heap.size w wr)) (fun i _ => (diffL (mgL l0 l1 l2) (rsL l0 l1 l2 2)).length - (intOf i).toNat)
    case atStart => exact ⟨0, Nat.zero_le _, rfl, X_6, R_6, K_6, D_6, B6⟩
    case round =>
      clear B6 R_6 X_6 K_6 D_6
      obtain ⟨j, hj, rfl, X_, R_, K_, D_, Q⟩ := hrel
      have B106 := Q
      have X_106 := X_
      have R_106 := R_
      have K_106 := K_
      have D_106 := D_
      clear Q X_ R_ K_ D_
      by_cases hlt : j < (diffL (mgL l0 l1 l2) (rsL l0 l1 l2 2)).length
      · skip
        have hin1 := D_106.out.pin
        obtain ⟨bb, off, rfl, hbB, hc⟩ := hin1.2 (by omega)
        have x1 := (hc j hlt).1
        have FR := hide (hasK_yes (rs_dif HG.out (List.getElem_mem hlt)))
        generalize ((diffL (mgL l0 l1 l2) (rsL l0 l1 l2 2))[j]'hlt).1 = key at *
        clear hc hin1
        go_wp2_with fail
        refine (lawsHas_any AK (mgK l0 l1 l2) cK key _ _ (by omega) K_106.out.zin).mono ?_
        rintro e w' ⟨rfl, rfl⟩
        rw [FR.out]
        clear FR
        go_wp2
        go_roundw
        case rel => exact ⟨j + 1, by omega, by go_num, X_106, R_106, K_106, D_106, B106⟩
        case measure => simp [intOf]; omega
      · skip
        clear D_106
        have hge : ¬ ((j : Int) < ((diffL (mgL l0 l1 l2) (rsL l0 l1 l2 2)).length : Int)) := by omega
        go_wp2
        go_loopw [18] (fun i wr => ∃ j : Nat, j ≤ (mgK l0 l1 l2).length ∧ i = .int .i64 j ∧ Hid (Own wr w.heap.size AX cX (rsL l0 l1 l2 2)) ∧ Hid (Own wr w.heap.size A2 c2 l2) ∧ Hid (ZOwn wr w.heap.size AK cK (mgK l0 l1 l2)) ∧ Hid (Below w.heap.size w wr)) (fun i _ => (mgK l0 l1 l2).length - (intOf i).toNat)
        case atStart => exact ⟨0, Nat.zero_le _, rfl, X_106, R_106, K_106, B106⟩
        case round =>
          clear B106 X_106 R_106 K_106
          obtain ⟨j, hj, rfl, X_, R_, K_, Q⟩ := hrel
          have B206 := Q
          have X_206 := X_
          have R_206 := R_
          have K_206 := K_
          clear Q X_ R_ K_
          by_cases hlt2 : j < (mgK l0 l1 l2).length
          · skip
            have hin1 := K_206.out.zin
            obtain ⟨bb, off, rfl, hbB, hc⟩ := hin1 (by omega)
            have x1 := hc j hlt2
            have FR := hide (rs_bad HG.out (List.getElem_mem hlt2))
            have SL : Hid (sideL l1 l2 2 = l2) := hide rfl
            rw [SL.out] at FR
            clear SL
            generalize ((mgK l0 l1 l2)[j]'hlt2) = key at *
            clear hc hin1
            go_wp2_with fail
            refine (implGet_any A2 (l2) c2 key _ (by omega) R_206.out.pin).mono ?_
            rintro e w207 ⟨rfl, b207⟩
            rw [getV_yes (k := key) M2.out, getB_yes (k := key) M2.out]
            have B207 := hide (B206.out.trans (b207.mono B206.out.size))
            replace x1 := cellB b207 hbB x1
            replace hbB := Nat.lt_of_lt_of_le hbB b207.size
            have X_207 := hide (X_206.out.below b207)
            have R_207 := hide (R_206.out.below b207)
            have K_207 := hide (K_206.out.below b207)
            clear b207 B206 X_206 R_206 K_206
            go_wp2_with fail
            refine (implGet_any AX (rsL l0 l1 l2 2) cX key _ (by omega) X_207.out.pin).mono ?_
            rintro e w208 ⟨rfl, b208⟩
            rw [getV_yes (k := key) (rs_map HG.out), getB_yes (k := key) (rs_map HG.out), ← FR.out.1, ← FR.out.2]
            have B208 := hide (B207.out.trans (b208.mono B207.out.size))
            replace x1 := cellB b208 hbB x1
            replace hbB := Nat.lt_of_lt_of_le hbB b208.size
            have X_208 := hide (X_207.out.below b208)
            have R_208 := hide (R_207.out.below b208)
            have K_208 := hide (K_207.out.below b208)
            clear b208 B207 X_207 R_207 K_207
            generalize valOf l2 key = v0 at *
            generalize hasB l2 key = g0 at *
            have d1 : (v0.toList == v0.toList) = true := by simp
            have d2 : (g0 != g0) = false := by simp
            have d3 : (g0 == g0) = true := by simp
            clear FR
            go_wp2
            go_roundw
            case rel => exact ⟨j + 1, by omega, by go_num, X_208, R_208, K_208, B208⟩
            case measure => simp [intOf]; omega
          · skip
            have MM := rs_map HG.out
            go_wp2_with fail
            refine (implMapOk_any AX (rsL l0 l1 l2 2) cX _ (by omega) X_206.out.pin).mono ?_
            rintro e w207 ⟨rfl, b207⟩
            have B207 := hide (B206.out.trans (b207.mono B206.out.size))
            have X_207 := hide (X_206.out.below b207)
            have R_207 := hide (R_206.out.below b207)
            have K_207 := hide (K_206.out.below b207)
            clear b207 B206 X_206 R_206 K_206
            rw [MM]
            clear MM
            go_wp2
            go_ret
            exact ⟨rfl, B207.out⟩

set_option maxRecDepth 100000 in
theorem contract (H : Type) (enc : TypeId × Value → H) (W : World) (base : Nat) (args : Array Value) (ds gs : List (DataW H)) (before : List MemPlace)
    (hval0 : ∀ (j : Nat) t v, Tryz.f4.params[j]? = some t → args[j]? = some v → Value.okWide Tryz.prog W .any base t v)
    (hW : DataW.Whole enc Tryz.prog Tryz.f4.params.toList Rows.fnResolvedSpec.vars false W args.toList ds gs before) (hL : laidMetH Tryz.prog Rows.fnResolvedRow.laid W) :
    Calls Tryz.prog 4 args W fun e W' => ∃ v, e = .returned v ∧ Rows.fnResolvedSpec.post enc Tryz.prog Tryz.f4 false true false false W args v W' := by
  have hval : ∀ (j : Nat) t v, Tryz.f4.params[j]? = some t → args[j]? = some v → Value.okWide Tryz.prog W .any base t v := hval0
  obtain ⟨a, hT, hvar⟩ := errs_of hL.1 hL.2
  have hW' := hW
  obtain ⟨p, q, hA0, hV0, rfl, hfz, hnd⟩ := hW
  have hA : DataW.TrodAll enc Tryz.prog W 0 (fun _ => true) true Tryz.f4.params.toList args.toList ds p := hA0
  have hV : DataW.TrodVars enc Tryz.prog W (fun _ => true) ["loop.example/g00652/impl.errNotRight"] gs q := hV0
  obtain ⟨rfl, rfl⟩ := hV.unique (vars_read1 enc gErr tErr Tryz.underlying52 hvar trivial _)
  rw [Tryz.params4] at hA hval
  obtain ⟨v0, vs0, d0, ds0, p0, q0, hargs, rfl, rfl, h0, r0⟩ := trodAll_cons hA
  obtain ⟨rfl, rfl, rfl⟩ := trodAll_nil r0
  obtain rfl : args = #[v0] := by cases args; simp_all
  obtain ⟨A0, n0, cap0, rfl⟩ := okWide_slice Tryz.underlying22 (hval 0 22 v0 rfl rfl)
  have lt0 : ∀ x ∈ p0, x.block < W.heap.size := by obtain ⟨m, hm⟩ := h0; exact DataW.trod_lt m _ _ _ hm
  obtain ⟨l0, rfl, hl0, hin0⟩ := open_code h0
  clear hA0 hval0
  refine (walk A0 n0 cap0 a W hl0 hin0 hT).mono fun e W' ⟨he, bel⟩ => ?_
  subst he
  exact ⟨_, rfl, _, _, _, [], _, _, hW', trodAll_mk1 (shut_bool Tryz.underlying4 _), (trodAll_cons_mk (Below.trod laidOut (by kernel_rfl) (of_decide_eq_true (by kernel_rfl)) h0 bel lt0) trodAll_mk0), vars_read1 enc gErr tErr Tryz.underlying52 (var?_below bel gErr (var_lt gErr hvar) hvar) trivial _, bel.frame _, fun h => by cases h⟩

/-- a world for the witness: the variables hold what their initialisers lay -/
noncomputable def laidWorld (os : Os) : World := layAll (World.holding Tryz.prog os ⟨#[], #[], []⟩)
theorem laid_met (os : Os) : laidMetH Tryz.prog Rows.fnResolvedRow.laid ((laidWorld os).forCall (fun _ _ => 0) ⟨#[], #[.slice none 0 0], []⟩).memory :=
  laidMetH_of_parts (laidMet_of_run' 8 (by kernel_rfl) (by kernel_rfl)) (by kernel_rfl)
theorem reads (os : Os) {H : Type} (enc : TypeId × Value → H) : ∃ x, DataW.whole enc Tryz.prog ((laidWorld os).forCall (fun _ _ => 0) ⟨#[], #[.slice none 0 0], []⟩).memory Tryz.f4.params.toList Rows.fnResolvedSpec.vars false (#[.slice none 0 0] : Array Value).toList 8 = some x :=
  Option.isSome_iff_exists.1 (by kernel_rfl)
set_option maxRecDepth 100000 in
theorem lifted (os : Os) (started : os.Started) (H : Type) (enc : TypeId × Value → H) (F : Stop.Interp) :
    ReturnsInHanded {} Tryz.checked os 4 .any ((OpenSpec.ofChange Rows.fnResolvedSpec).preRow enc Tryz.prog Tryz.f4 Rows.fnResolvedRow.domain false Rows.fnResolvedRow.laid) (((OpenSpec.ofChange Rows.fnResolvedSpec).at F).post enc Tryz.prog Tryz.f4 false true false false) := by
  obtain ⟨x, hx⟩ := reads os enc
  refine returnsInHanded_of_row (C := Tryz.checked) (s := OpenSpec.ofChange Rows.fnResolvedSpec) own started (by kernel_rfl) Tryz.func4
    (witness_row_at (enc := enc) (C := Tryz.checked) false (laidWorld os) #[.slice none 0 0] rfl (by kernel_rfl) (by kernel_rfl) (by kernel_rfl)
      (OpenSpec.preRow_of_cond 8 hx rfl (fun k hk => by cases hk) (by kernel_rfl) (laid_met os))) ?_
  intro W base args ds gs before hval hW _ _ _ hL _ _
  exact contract H enc W base args ds gs before hval hW hL
theorem said : Rows.FnResolvedSaid :=
  OpenClaim.holds_of_cond 4 Tryz.f4 rfl rfl rfl rfl rfl rfl rfl ⟨rfl, rfl, rfl, rfl, rfl⟩ rfl rfl rfl rfl rfl (by kernel_rfl) Tryz.func4 (by kernel_rfl)
    (of_decide_eq_true (by kernel_rfl)) (by unfold Func.isWrapper; first | (rw [if_pos (by decide +kernel)]; kernel_rfl) | (rw [if_neg (by decide +kernel)]; exact ⟨rfl, rfl⟩))
    (fun os started H enc _ F => by rw [OpenClaim.pre_eq_preRow]; exact lifted os started H enc F)
theorem plain (f : FuncId) (fn : Func) (hf : Tryz.pinned.checked.prog.funcNamed "loop.example/g00652/laws.FnResolved" = some f) (hfn : Tryz.pinned.checked.prog.funcs[f]? = some fn) :
    true = Tryz.pinned.checked.prog.looks [] ∧ ∀ (j : Nat) t, fn.params[j]? = some t → Tryz.pinned.checked.prog.wantsStandIn t = false := by
  obtain rfl : f = 4 := Option.some.inj ((show Tryz.prog.funcNamed "loop.example/g00652/laws.FnResolved" = some 4 by kernel_rfl).symm.trans hf) |>.symm
  obtain rfl : fn = Tryz.f4 := (Option.some.inj (Tryz.func4.symm.trans hfn)).symm
  refine ⟨by kernel_rfl, fun j t ht => ?_⟩
  rw [Tryz.params4] at ht
  have hm := Array.mem_of_getElem? ht
  simp only [List.mem_toArray, List.mem_cons, List.not_mem_nil, or_false] at hm
  subst hm
  exact (show Tryz.prog.wantsStandIn 22 = false by kernel_rfl)
theorem card : Rows.FnResolvedCardSaid :=
  Claim7.holds_tied_plain_at .later [] _ _ _ _ said (fun _ h => by cases h) (by kernel_rfl) (fun _ h => by cases h) fnResolved_row_tie rfl ⟨rfl, rfl⟩ (by kernel_rfl) rfl plain (by kernel_rfl)

end Go.Proofs.YtaofemdhgfejjaaGreatDoor.LResolved
namespace Go.Proofs.YtaofemdhgfejjaaGreatDoor
theorem fnResolved_proved : Rows.FnResolvedCardSaid := LResolved.card
end Go.Proofs.YtaofemdhgfejjaaGreatDoor
