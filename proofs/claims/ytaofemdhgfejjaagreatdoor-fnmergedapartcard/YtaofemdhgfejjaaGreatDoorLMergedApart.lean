/-
  For every code, laws.FnMergedApart returns true: where both of drawn maps changed nothing in common the merger is the one's changes behind the other one's. No conditions but that the two variables (the sentinel of refusals, the type error's handle) hold what the program's text lays (the card ties them).
-/
import Derived.Test.YtaofemdhgfejjaaGreatDoorMLaid
import Derived.Test.YtaofemdhgfejjaaGreatDoorRdCode
import Derived.Test.YtaofemdhgfejjaaGreatDoorMDraw
import Derived.Test.YtaofemdhgfejjaaGreatDoorMAnsI
import Derived.Test.YtaofemdhgfejjaaGreatDoorMLaw
import Derived.Test.YtaofemdhgfejjaaGreatDoorPSame
import Derived.Test.YtaofemdhgfejjaaGreatDoorCSame
import Derived.Test.YtaofemdhgfejjaaGreatDoorMRsD
import Derived.Test.YtaofemdhgfejjaaGreatDoorHAppI
namespace Go.Proofs.YtaofemdhgfejjaaGreatDoor.LMergedApart
open Go.RowKit Go.ChangeShapes Go.WideShapes Go.ChangeAt
open Go.ChangeMaps (open_string shut_string)

set_option maxRecDepth 100000 in
set_option maxHeartbeats 2000000 in
theorem walk (A : Option Addr) (n : Nat) (cap : Nat) (a : Addr) (w : World) (hl : n ≤ maxLen) (hin : CIn w w.heap.size A n) (hE : Errs w a) :
    Calls Tryz.prog 5 #[.slice A n cap] w fun e w' => e = .returned (.bool true) ∧ Below w.heap.size w w' := by
  by_cases hbig : 1048576 < n
  · have d : decide (1048576 < n) = true := decide_eq_true hbig
    go_enter Tryz.func5, Tryz.ntmps5
    go_wp2_with (go_at_call 7; refine (big_any A n cap _ hl).mono ?_; rintro e w' ⟨rfl, rfl⟩)
    go_ret
    exact ⟨rfl, Below.refl _ _⟩
  have hn : n ≤ 1048576 := by omega
  have d : decide (1048576 < n) = false := decide_eq_false hbig
  have IN := hide hin
  have HE := hide hE
  have HZ := hide hE.2.2
  have B0 := hide (Below.refl w.heap.size w)
  clear hin hE
  go_enter Tryz.func5, Tryz.ntmps5
  go_wp2_with fail
  refine (big_any A n cap w hl).mono ?_
  rintro e w' ⟨rfl, rfl⟩
  go_wp2_with fail
  refine (drawMerged_any A n cap w hn IN.out).mono ?_
  rintro e w1 ⟨A0, c0, l0, A1, c1, l1, A2, c2, l2, rfl, hc0, hc1, hc2, m0, m1, m2, o0, o1, o2, b1⟩
  have B1 := hide (B0.out.trans (b1.mono B0.out.size))
  have O_1 := hide (o0.more B0.out.size)
  have P_1 := hide (o1.more B0.out.size)
  have R_1 := hide (o2.more B0.out.size)
  clear b1 B0 o0 o1 o2
  have n0 := (mapB_iff.1 m0).1
  have n1 := (mapB_iff.1 m1).1
  have n2 := (mapB_iff.1 m2).1
  have M0 := hide m0
  have M1 := hide m1
  have M2 := hide m2
  have MX : (40 : Nat) ≤ maxLen := by unfold maxLen; omega
  clear m0 m1 m2 IN
  have hk1 := mgL_len l0 l1 l2
  have hk2 := mgK_len l0 l1 l2
  have es := eqL_self (mgL l0 l1 l2)
  have KM : (120 : Nat) ≤ maxLen := by unfold maxLen; omega
  go_wp2_with fail
  refine (implMerged_any A0 A1 A2 l0 l1 l2 c0 c1 c2 a _ (by omega) (by omega) (by omega) O_1.out.pin P_1.out.pin R_1.out.pin (HE.out.belowB B1.out HZ.out.1 HZ.out.2)).mono ?_
  rintro e w2 ⟨AM, cM, AK, cK, hcM, rfl, oM, zM, b2, _⟩
  have B2 := hide (B1.out.trans (b2.mono B1.out.size))
  have O_2 := hide (O_1.out.below b2)
  have P_2 := hide (P_1.out.below b2)
  have R_2 := hide (R_1.out.below b2)
  have M_2 := hide (oM.more B1.out.size)
  have K_2 := hide (zM.more B1.out.size)
  clear b2 B1 O_1 P_1 R_1 oM zM
  go_wp2_with fail
  refine (specMerged_any A0 A1 A2 l0 l1 l2 c0 c1 c2 _ (by omega) (by omega) (by omega) O_2.out.pin P_2.out.pin R_2.out.pin).mono ?_
  rintro e w3 ⟨AV, cV, AT, cT, hcV, rfl, oV, zV, b3, _⟩
  have B3 := hide (B2.out.trans (b3.mono B2.out.size))
  have O_3 := hide (O_2.out.below b3)
  have P_3 := hide (P_2.out.below b3)
  have R_3 := hide (R_2.out.below b3)
  have M_3 := hide (M_2.out.below b3)
  have K_3 := hide (K_2.out.below b3)
  have V_3 := hide (oV.more B2.out.size)
  have T_3 := hide (zV.more B2.out.size)
  clear b3 B2 O_2 P_2 R_2 M_2 K_2 oV zV
  have ne : (mgB l0 l1 l2 != mgB l0 l1 l2) = false := by simp
  have eqq : (mgB l0 l1 l2 == mgB l0 l1 l2) = true := by simp
  go_wp2_with fail
  refine (sameMap_any AM AV (mgL l0 l1 l2) (mgL l0 l1 l2) cM cV _ _ _ (by omega) (by omega) M_3.out.pin V_3.out.pin).mono ?_
  rintro e w4 ⟨rfl, b4⟩
  replace b4 := b4.below w3.heap.size
  have B4 := hide (B3.out.trans (b4.mono B3.out.size))
  have O_4 := hide (O_3.out.below b4)
  have P_4 := hide (P_3.out.below b4)
  have R_4 := hide (R_3.out.below b4)
  have M_4 := hide (M_3.out.below b4)
  have K_4 := hide (K_3.out.below b4)
  have V_4 := hide (V_3.out.below b4)
  have T_4 := hide (T_3.out.below b4)
  clear b4 B3 O_3 P_3 R_3 M_3 K_3 V_3 T_3
  rw [es]
  go_wp2_with fail
  refine (sameTexts_same AK AT (mgK l0 l1 l2) cK cT _ _ _ (by omega) K_4.out.zin T_4.out.zin).mono ?_
  rintro e w5 ⟨rfl, b5⟩
  replace b5 := b5.below w4.heap.size
  have B5 := hide (B4.out.trans (b5.mono B4.out.size))
  have O_5 := hide (O_4.out.below b5)
  have P_5 := hide (P_4.out.below b5)
  have R_5 := hide (R_4.out.below b5)
  have M_5 := hide (M_4.out.below b5)
  have K_5 := hide (K_4.out.below b5)
  have V_5 := hide (V_4.out.below b5)
  have T_5 := hide (T_4.out.below b5)
  clear b5 B4 O_4 P_4 R_4 M_4 K_4 V_4 T_4
  cases hg : mgB l0 l1 l2
  · skip
    go_wp2_with fail
    refine (sameMap_any AM AV (mgL l0 l1 l2) (mgL l0 l1 l2) cM cV _ _ _ (by omega) (by omega) M_5.out.pin V_5.out.pin).mono ?_
    rintro e w6 ⟨rfl, b6⟩
    replace b6 := b6.below w5.heap.size
    have B6 := hide (B5.out.trans (b6.mono B5.out.size))
    have O_6 := hide (O_5.out.below b6)
    have P_6 := hide (P_5.out.below b6)
    have R_6 := hide (R_5.out.below b6)
    have M_6 := hide (M_5.out.below b6)
    have K_6 := hide (K_5.out.below b6)
    have V_6 := hide (V_5.out.below b6)
    have T_6 := hide (T_5.out.below b6)
    clear b6 B5 O_5 P_5 R_5 M_5 K_5 V_5 T_5
    rw [es]
    go_wp2_with fail
    refine (sameTexts_same AK AT (mgK l0 l1 l2) cK cT _ _ _ (by omega) K_6.out.zin T_6.out.zin).mono ?_
    rintro e w7 ⟨rfl, b7⟩
    replace b7 := b7.below w6.heap.size
    have B7 := hide (B6.out.trans (b7.mono B6.out.size))
    have O_7 := hide (O_6.out.below b7)
    have P_7 := hide (P_6.out.below b7)
    have R_7 := hide (R_6.out.below b7)
    have M_7 := hide (M_6.out.below b7)
    have K_7 := hide (K_6.out.below b7)
    have V_7 := hide (V_6.out.below b7)
    have T_7 := hide (T_6.out.below b7)
    clear b7 B6 O_6 P_6 R_6 M_6 K_6 V_6 T_6
    go_wp2
    go_ret
    exact ⟨rfl, B7.out⟩
  have HG := hide hg
  clear hg ne eqq
  clear V_5
  clear T_5
  have h0c := O_5.out.cap_le
  have h1c := P_5.out.cap_le
  have h2c := R_5.out.cap_le
  have dx := diffL_len l0 l1
  have dy := diffL_len l0 l2
  have DX := hide (dif_yes M0.out M1.out)
  have DY := hide (dif_yes M0.out M2.out)
  go_wp2_with fail
  refine (implDiffOf_any A0 l0 c0 A1 l1 c1 _ (by omega) (by omega) h0c h1c O_5.out.pin P_5.out.pin).mono ?_
  rintro e w6 ⟨AX, cX, hcX, rfl, oX, b6⟩
  have B6 := hide (B5.out.trans (b6.mono B5.out.size))
  have O_6 := hide (O_5.out.below b6)
  have P_6 := hide (P_5.out.below b6)
  have R_6 := hide (R_5.out.below b6)
  have M_6 := hide (M_5.out.below b6)
  have K_6 := hide (K_5.out.below b6)
  have X_6 := hide (oX.more B5.out.size)
  clear b6 B5 O_5 P_5 R_5 M_5 K_5 oX
  go_wp2_with fail
  refine (implDiffOf_any A0 l0 c0 A2 l2 c2 _ (by omega) (by omega) h0c h2c O_6.out.pin R_6.out.pin).mono ?_
  rintro e w7 ⟨AY, cY, hcY, rfl, oY, b7⟩
  have B7 := hide (B6.out.trans (b7.mono B6.out.size))
  have O_7 := hide (O_6.out.below b7)
  have P_7 := hide (P_6.out.below b7)
  have R_7 := hide (R_6.out.below b7)
  have M_7 := hide (M_6.out.below b7)
  have K_7 := hide (K_6.out.below b7)
  have X_7 := hide (X_6.out.below b7)
  have Y_7 := hide (oY.more B6.out.size)
  clear b7 B6 O_6 P_6 R_6 M_6 K_6 X_6 oY
  clear P_7
  clear R_7
  clear K_7
  skip
  generalize diffL l0 l1 = dX at *
  generalize diffL l0 l2 = dY at *
  go_wp2
  go_loopw [16] (fun i wr => ∃ j : Nat, j ≤ dX.length ∧ i = .int .i64 j ∧ Hid (∀ c ∈ dX.take j, ∀ d ∈ dY, c.1 ≠ d.1) ∧ Hid (Own wr w.heap.size A0 c0 l0) ∧ Hid (Own wr w.heap.size AM cM (mgL l0 l1 l2)) ∧ Hid (HOwn wr w.heap.size AX cX dX) ∧ Hid (HOwn wr w.heap.size AY cY dY) ∧ Hid (Below w.heap.size w wr)) (fun i _ => dX.length - (intOf i).toNat)
  case atStart => exact ⟨0, Nat.zero_le _, rfl, hide (fun c hc => by simp at hc), O_7, M_7, X_7, Y_7, B7⟩
  case round =>
    clear B7 O_7 M_7 X_7 Y_7
    obtain ⟨j, hj, rfl, AP, O_200, M_200, X_200, Y_200, B200⟩ := hrel
    by_cases hlt : j < dX.length
    · skip
      have hin1 := X_200.out.pin
      obtain ⟨bb, off, rfl, hbB, hc⟩ := hin1.2 (by omega)
      have x1 := (hc j hlt).1
      have SX : Hid (dX.take (j + 1) = dX.take j ++ [dX[j]'hlt]) := hide (List.take_succ_eq_append_getElem hlt)
      clear hc hin1
      generalize dX[j]'hlt = cx at *
      have X1 := hide x1
      clear x1
      go_wp2
      go_loopw [17] (fun i wr2 => ∃ k : Nat, k ≤ dY.length ∧ i = .int .i64 k ∧ Hid (∀ d ∈ dY.take k, cx.1 ≠ d.1) ∧ Hid (Quiet wr wr2)) (fun i _ => dY.length - (intOf i).toNat)
      case atStart => exact ⟨0, Nat.zero_le _, rfl, hide (fun d hd => by simp at hd), Quiet.refl _⟩
      case round =>
        obtain ⟨k, hk, rfl, AQ, QQ⟩ := hrel
        by_cases hlt2 : k < dY.length
        · skip
          have hin2 := Y_200.out.pin
          obtain ⟨b2, off2, rfl, hbB2, hc2⟩ := hin2.2 (by omega)
          have y1 := (QQ.out.cell _).trans (hc2 k hlt2).1
          have x1 := (QQ.out.cell _).trans X1.out
          have SY : Hid (dY.take (k + 1) = dY.take k ++ [dY[k]'hlt2]) := hide (List.take_succ_eq_append_getElem hlt2)
          clear hc2 hin2
          generalize dY[k]'hlt2 = cy at *
          by_cases he : cx.1 = cy.1
          · have d1 := eqS_yes he
            generalize cx.1 = kx at *
            generalize cy.1 = ky at *
            clear he
            go_wp2
            go_quiet (fail)
            go_wp2
            go_ret
            exact ⟨rfl, B200.out.trans ((QQ.out.drewN _).below _)⟩
          · have d1 := eqS_no he
            have AQ2 : Hid (∀ d ∈ dY.take (k + 1), cx.1 ≠ d.1) := hide (fun d hd => by
              rw [SY.out, List.mem_append, List.mem_singleton] at hd
              rcases hd with hd | rfl
              · exact AQ.out d hd
              · exact he)
            clear SY he AQ
            generalize hkx : cx.1 = kx at x1 d1
            generalize hky : cy.1 = ky at y1 d1
            have HKX := hide hkx
            have HKY := hide hky
            clear hkx hky
            go_wp2
            go_quiet (fail)
            go_wp2
            go_roundw
            case rel => exact ⟨k + 1, by omega, by go_num, hide (fun d hd => by rw [← HKX.out]; exact AQ2.out d hd), QQ.out.drewN _⟩
            case measure => simp [intOf]; omega
        · skip
          have hge : ¬ ((k : Int) < (dY.length : Int)) := by omega
          have AP2 : Hid (∀ c ∈ dX.take (j + 1), ∀ d ∈ dY, c.1 ≠ d.1) := hide (fun c hc d hd => by
            rw [SX.out, List.mem_append, List.mem_singleton] at hc
            rcases hc with hc | rfl
            · exact AP.out c hc d hd
            · exact AQ.out d (by rw [List.take_of_length_le (by omega)]; exact hd))
          have O_201 := hide (O_200.out.below (QQ.out.below _))
          have M_201 := hide (M_200.out.below (QQ.out.below _))
          have X_201 := hide (X_200.out.below (QQ.out.below _))
          have Y_201 := hide (Y_200.out.below (QQ.out.below _))
          have B201 := hide (B200.out.trans (QQ.out.below _))
          clear AP AQ SX X1 B200 QQ O_200 M_200 X_200 Y_200
          go_wp2
          go_roundw
          case rel => exact ⟨j + 1, by omega, by go_num, AP2, O_201, M_201, X_201, Y_201, B201⟩
          case measure => simp [intOf]; omega
    · skip
      have hge : ¬ ((j : Int) < (dX.length : Int)) := by omega
      have AD : Hid (apartD (difM l0 l1) (difM l0 l2)) := hide (by
        rw [← DX.out, ← DY.out]
        intro c hc d hd
        exact AP.out c (by rw [List.take_of_length_le (by omega)]; exact hc) d hd)
      have eX := DX.out
      have eY := DY.out
      obtain ⟨t1, t2, t3⟩ := apart_ok HG.out AD.out
      have P1 := hide (fun W cc x y => implApplied_any A0 l0 c0 AX dX cc W (by omega) (by omega) x y)
      have P2 := hide (fun W A3 c3 x y => implApplied_any A3 l1 c3 AY dY cY W (by omega) (by omega) x y)
      rw [show appL l0 dX = l1 by rw [eX]; exact dif_appL M0.out M1.out, show appB l0 dX = true by rw [eX]; exact dif_ok M0.out M1.out] at P1
      rw [show appL l1 dY = mgL l0 l1 l2 by rw [eY]; exact t2, show appB l1 dY = true by rw [eY]; exact t1] at P2
      rw [t3]
      clear AP AD eX eY t1 t2 t3
      go_wp2_with fail
      refine (P1.out _ cX O_200.out.pin X_200.out.pin).mono ?_
      rintro e w201 ⟨A3, c3, hc3, rfl, o3, b201⟩
      have B201 := hide (B200.out.trans (b201.mono B200.out.size))
      have O_201 := hide (O_200.out.below b201)
      have M_201 := hide (M_200.out.below b201)
      have X_201 := hide (X_200.out.below b201)
      have Y_201 := hide (Y_200.out.below b201)
      have N_201 := hide (o3.more B200.out.size)
      clear b201 B200 O_200 M_200 X_200 Y_200 o3
      clear O_201
      clear X_201
      go_wp2_with fail
      refine (P2.out _ A3 c3 N_201.out.pin Y_201.out.pin).mono ?_
      rintro e w202 ⟨A4, c4, hc4, rfl, o4, b202⟩
      have B202 := hide (B201.out.trans (b202.mono B201.out.size))
      have M_202 := hide (M_201.out.below b202)
      have Y_202 := hide (Y_201.out.below b202)
      have N_202 := hide (N_201.out.below b202)
      have Q_202 := hide (o4.more B201.out.size)
      clear b202 B201 M_201 Y_201 N_201 o4
      clear N_202
      clear Y_202
      go_wp2_with fail
      refine (sameMap_any A4 AM (mgL l0 l1 l2) (mgL l0 l1 l2) c4 cM _ _ _ (by omega) (by omega) Q_202.out.pin M_202.out.pin).mono ?_
      rintro e w203 ⟨rfl, b203⟩
      replace b203 := b203.below w202.heap.size
      have B203 := hide (B202.out.trans (b203.mono B202.out.size))
      have M_203 := hide (M_202.out.below b203)
      have Q_203 := hide (Q_202.out.below b203)
      clear b203 B202 M_202 Q_202
      rw [es]
      go_wp2
      go_ret
      exact ⟨rfl, B203.out⟩

set_option maxRecDepth 100000 in
theorem contract (H : Type) (enc : TypeId × Value → H) (W : World) (base : Nat) (args : Array Value) (ds gs : List (DataW H)) (before : List MemPlace)
    (hval0 : ∀ (j : Nat) t v, Tryz.f5.params[j]? = some t → args[j]? = some v → Value.okWide Tryz.prog W .any base t v)
    (hW : DataW.Whole enc Tryz.prog Tryz.f5.params.toList Rows.fnMergedApartSpec.vars false W args.toList ds gs before) (hL : laidMetH Tryz.prog Rows.fnMergedApartRow.laid W) :
    Calls Tryz.prog 5 args W fun e W' => ∃ v, e = .returned v ∧ Rows.fnMergedApartSpec.post enc Tryz.prog Tryz.f5 false true false false W args v W' := by
  have hval : ∀ (j : Nat) t v, Tryz.f5.params[j]? = some t → args[j]? = some v → Value.okWide Tryz.prog W .any base t v := hval0
  obtain ⟨a, hT, hvar⟩ := errs_of hL.1 hL.2
  have hW' := hW
  obtain ⟨p, q, hA0, hV0, rfl, hfz, hnd⟩ := hW
  have hA : DataW.TrodAll enc Tryz.prog W 0 (fun _ => true) true Tryz.f5.params.toList args.toList ds p := hA0
  have hV : DataW.TrodVars enc Tryz.prog W (fun _ => true) ["loop.example/g00652/impl.errNotRight"] gs q := hV0
  obtain ⟨rfl, rfl⟩ := hV.unique (vars_read1 enc gErr tErr Tryz.underlying52 hvar trivial _)
  rw [Tryz.params5] at hA hval
  obtain ⟨v0, vs0, d0, ds0, p0, q0, hargs, rfl, rfl, h0, r0⟩ := trodAll_cons hA
  obtain ⟨rfl, rfl, rfl⟩ := trodAll_nil r0
  obtain rfl : args = #[v0] := by cases args; simp_all
  obtain ⟨A0, n0, cap0, rfl⟩ := okWide_slice Tryz.underlying22 (hval 0 22 v0 rfl rfl)
  have lt0 : ∀ x ∈ p0, x.block < W.heap.size := by obtain ⟨m, hm⟩ := h0; exact DataW.trod_lt m _ _ _ hm
  obtain ⟨l0, rfl, hl0, hin0⟩ := open_code h0
  clear hA0 hval0
  refine (walk A0 n0 cap0 a W hl0 hin0 hT).mono fun e W' ⟨he, bel⟩ => ?_
  subst he
  exact ⟨_, rfl, _, _, _, [], _, _, hW', trodAll_mk1 (shut_bool Tryz.underlying4 _), (trodAll_cons_mk (Below.trod laidOut (by kernel_rfl) (of_decide_eq_true (by kernel_rfl)) h0 bel lt0) trodAll_mk0), vars_read1 enc gErr tErr Tryz.underlying52 (var?_below bel gErr (var_lt gErr hvar) hvar) trivial _, bel.frame _, fun h => by cases h⟩

/-- a world for the witness: the variables hold what their initialisers lay -/
noncomputable def laidWorld (os : Os) : World := layAll (World.holding Tryz.prog os ⟨#[], #[], []⟩)
theorem laid_met (os : Os) : laidMetH Tryz.prog Rows.fnMergedApartRow.laid ((laidWorld os).forCall (fun _ _ => 0) ⟨#[], #[.slice none 0 0], []⟩).memory :=
  laidMetH_of_parts (laidMet_of_run' 8 (by kernel_rfl) (by kernel_rfl)) (by kernel_rfl)
theorem reads (os : Os) {H : Type} (enc : TypeId × Value → H) : ∃ x, DataW.whole enc Tryz.prog ((laidWorld os).forCall (fun _ _ => 0) ⟨#[], #[.slice none 0 0], []⟩).memory Tryz.f5.params.toList Rows.fnMergedApartSpec.vars false (#[.slice none 0 0] : Array Value).toList 8 = some x :=
  Option.isSome_iff_exists.1 (by kernel_rfl)
set_option maxRecDepth 100000 in
theorem lifted (os : Os) (started : os.Started) (H : Type) (enc : TypeId × Value → H) (F : Stop.Interp) :
    ReturnsInHanded {} Tryz.checked os 5 .any ((OpenSpec.ofChange Rows.fnMergedApartSpec).preRow enc Tryz.prog Tryz.f5 Rows.fnMergedApartRow.domain false Rows.fnMergedApartRow.laid) (((OpenSpec.ofChange Rows.fnMergedApartSpec).at F).post enc Tryz.prog Tryz.f5 false true false false) := by
  obtain ⟨x, hx⟩ := reads os enc
  refine returnsInHanded_of_row (C := Tryz.checked) (s := OpenSpec.ofChange Rows.fnMergedApartSpec) own started (by kernel_rfl) Tryz.func5
    (witness_row_at (enc := enc) (C := Tryz.checked) false (laidWorld os) #[.slice none 0 0] rfl (by kernel_rfl) (by kernel_rfl) (by kernel_rfl)
      (OpenSpec.preRow_of_cond 8 hx rfl (fun k hk => by cases hk) (by kernel_rfl) (laid_met os))) ?_
  intro W base args ds gs before hval hW _ _ _ hL _ _
  exact contract H enc W base args ds gs before hval hW hL
theorem said : Rows.FnMergedApartSaid :=
  OpenClaim.holds_of_cond 5 Tryz.f5 rfl rfl rfl rfl rfl rfl rfl ⟨rfl, rfl, rfl, rfl, rfl⟩ rfl rfl rfl rfl rfl (by kernel_rfl) Tryz.func5 (by kernel_rfl)
    (of_decide_eq_true (by kernel_rfl)) (by unfold Func.isWrapper; first | (rw [if_pos (by decide +kernel)]; kernel_rfl) | (rw [if_neg (by decide +kernel)]; exact ⟨rfl, rfl⟩))
    (fun os started H enc _ F => by rw [OpenClaim.pre_eq_preRow]; exact lifted os started H enc F)
theorem plain (f : FuncId) (fn : Func) (hf : Tryz.pinned.checked.prog.funcNamed "loop.example/g00652/laws.FnMergedApart" = some f) (hfn : Tryz.pinned.checked.prog.funcs[f]? = some fn) :
    true = Tryz.pinned.checked.prog.looks [] ∧ ∀ (j : Nat) t, fn.params[j]? = some t → Tryz.pinned.checked.prog.wantsStandIn t = false := by
  obtain rfl : f = 5 := Option.some.inj ((show Tryz.prog.funcNamed "loop.example/g00652/laws.FnMergedApart" = some 5 by kernel_rfl).symm.trans hf) |>.symm
  obtain rfl : fn = Tryz.f5 := (Option.some.inj (Tryz.func5.symm.trans hfn)).symm
  refine ⟨by kernel_rfl, fun j t ht => ?_⟩
  rw [Tryz.params5] at ht
  have hm := Array.mem_of_getElem? ht
  simp only [List.mem_toArray, List.mem_cons, List.not_mem_nil, or_false] at hm
  subst hm
  exact (show Tryz.prog.wantsStandIn 22 = false by kernel_rfl)
theorem card : Rows.FnMergedApartCardSaid :=
  Claim7.holds_tied_plain_at .later [] _ _ _ _ said (fun _ h => by cases h) (by kernel_rfl) (fun _ h => by cases h) fnMergedApart_row_tie rfl ⟨rfl, rfl⟩ (by kernel_rfl) rfl plain (by kernel_rfl)

end Go.Proofs.YtaofemdhgfejjaaGreatDoor.LMergedApart
namespace Go.Proofs.YtaofemdhgfejjaaGreatDoor
theorem fnMergedApart_proved : Rows.FnMergedApartCardSaid := LMergedApart.card
end Go.Proofs.YtaofemdhgfejjaaGreatDoor
