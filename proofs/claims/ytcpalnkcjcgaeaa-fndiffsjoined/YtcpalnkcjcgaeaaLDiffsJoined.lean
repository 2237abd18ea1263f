/-
  For every code, laws.FnDiffsJoined returns true: what leads from one map to a second one, and that to a third one, one behind the other, leads from the first to the third. No conditions.
-/
import Derived.Test.YtcpalnkcjcgaeaaPSame
import Derived.Test.YtcpalnkcjcgaeaaPAlg
import Derived.Test.YtcpalnkcjcgaeaaLCode
import Derived.Test.YtcpalnkcjcgaeaaHDraw
import Derived.Test.YtcpalnkcjcgaeaaHSame
import Derived.Test.YtcpalnkcjcgaeaaHDifA
import Derived.Test.YtcpalnkcjcgaeaaHDiffL
import Derived.Test.YtcpalnkcjcgaeaaHAppS
import Derived.Test.YtcpalnkcjcgaeaaHAppI
namespace Go.Proofs.Ytcpalnkcjcgaeaa.LDiffsJoined
open Go.RowKit Go.ChangeShapes Go.WideShapes Go.ChangeAt
open Go.ChangeMaps (open_string shut_string)

set_option maxRecDepth 100000 in
set_option maxHeartbeats 2000000 in
theorem walk (A : Option Addr) (n : Nat) (cap : Nat) (w : World) (hl : n ≤ maxLen) (hin : CIn w w.heap.size A n) :
    Calls Try.prog 5 #[.slice A n cap] w fun e w' => e = .returned (.bool true) ∧ Below w.heap.size w w' := by
  by_cases hbig : 1048576 < n
  · have d : decide (1048576 < n) = true := decide_eq_true hbig
    go_enter Try.func5, Try.ntmps5
    go_wp2_with (go_at_call 12; refine (big_any A n cap _ hl).mono ?_; rintro e w' ⟨rfl, rfl⟩)
    go_ret
    exact ⟨rfl, Below.refl _ _⟩
  have hn : n ≤ 1048576 := by omega
  have d : decide (1048576 < n) = false := decide_eq_false hbig
  have IN := hide hin
  have B0 : Hid (Below w.heap.size w w) := hide (Below.refl _ _)
  clear hin
  go_enter Try.func5, Try.ntmps5
  go_wp2_with fail
  refine (big_any A n cap w hl).mono ?_
  rintro e w' ⟨rfl, rfl⟩
  go_wp2_with fail
  refine (drawDiffOf_any A n cap w hn IN.out).mono ?_
  rintro e w1 ⟨AP, capP, l, AQ, capQ, l2, hcP, hl40, mbP, hcQ, hl41, mbQ, rfl, o1, p1, b1⟩
  have B1 := hide (B0.out.trans (b1.mono B0.out.size))
  have P_1 := hide o1
  have Q_1 := hide p1
  clear b1 o1 p1 B0
  have hlm : l.length ≤ maxLen := by unfold maxLen; omega
  have hlm2 : l2.length ≤ maxLen := by unfold maxLen; omega
  have MP := hide mbP
  have MQ := hide mbQ
  clear mbP mbQ
  have dB : diffB l l2 = true := diffB_yes MP.out MQ.out
  have hdl := diffL_len l l2
  have hdm : (diffL l l2).length ≤ maxLen := by unfold maxLen; omega
  have hd1 : (diffL l l2).length ≤ 1048576 := by omega
  have es := eqCL_self (diffL l l2)
  have DE := hide (diffL_yes dB)
  go_wp2_with fail
  refine (implDiffOf_any AP (l) capP AQ (l2) capQ w1 hlm hlm2 hcP hcQ P_1.out.pin Q_1.out.pin).mono ?_
  rintro e w2 ⟨AN, capN, hcN, rfl, o2, b2⟩
  have B2 := hide (B1.out.trans (b2.mono B1.out.size))
  have P_2 := hide (P_1.out.below b2)
  have Q_2 := hide (Q_1.out.below b2)
  have N_2 := hide o2
  clear b2 o2 B1 P_1 Q_1
  go_wp2_with fail
  refine (specDiffOf_any AP (l) capP AQ (l2) capQ w2 hlm hlm2 P_2.out.pin Q_2.out.pin).mono ?_
  rintro e w3 ⟨AT, capT, hcT, rfl, o3, b3⟩
  have B3 := hide (B2.out.trans (b3.mono B2.out.size))
  have P_3 := hide (P_2.out.below b3)
  have Q_3 := hide (Q_2.out.below b3)
  have N_3 := hide (N_2.out.below b3)
  have T_3 := hide o3
  clear b3 o3 B2 P_2 Q_2 N_2
  go_wp2_with fail
  refine (drawPut_any A n cap w3 hn ((IN.out.keep B3.out).more B3.out.size)).mono ?_
  rintro e w4 ⟨AC, capC, c, k, v, hcC, hl42, hk, hv, _, rfl, o4, b4⟩
  have B4 := hide (B3.out.trans (b4.mono B3.out.size))
  have P_4 := hide (P_3.out.below b4)
  have Q_4 := hide (Q_3.out.below b4)
  have N_4 := hide (N_3.out.below b4)
  have T_4 := hide (T_3.out.below b4)
  have C_4 := hide o4
  clear b4 o4 B3 P_3 Q_3 N_3 T_3
  have hlm3 : c.length ≤ maxLen := by unfold maxLen; omega
  go_wp2_with fail
  refine (sameChanges_any AN AT (diffL l l2) (diffL l l2) capN capT w4 _ _ hdm hdm N_4.out.pin T_4.out.pin).mono ?_
  rintro e w5 ⟨rfl, q5⟩
  have b5 := q5.below w4.heap.size
  have B5 := hide (B4.out.trans (b5.mono B4.out.size))
  have P_5 := hide (P_4.out.below b5)
  have Q_5 := hide (Q_4.out.below b5)
  have N_5 := hide (N_4.out.below b5)
  have T_5 := hide (T_4.out.below b5)
  have C_5 := hide (C_4.out.below b5)
  clear b5 q5 B4 P_4 Q_4 N_4 T_4 C_4
  go_wp2_with fail
  refine (specMapOk_any AC c capC w5 _ hlm3 C_5.out.pin).mono ?_
  rintro e w6 ⟨rfl, q6⟩
  have b6 := q6.below w5.heap.size
  have B6 := hide (B5.out.trans (b6.mono B5.out.size))
  have P_6 := hide (P_5.out.below b6)
  have Q_6 := hide (Q_5.out.below b6)
  have N_6 := hide (N_5.out.below b6)
  have T_6 := hide (T_5.out.below b6)
  have C_6 := hide (C_5.out.below b6)
  clear b6 q6 B5 P_5 Q_5 N_5 T_5 C_5
  cases hmc : mapB c
  · go_wp2_with fail
    refine (sameChanges_any AN AT (diffL l l2) (diffL l l2) capN capT w6 _ _ hdm hdm N_6.out.pin T_6.out.pin).mono ?_
    rintro e w7 ⟨rfl, q7⟩
    have b7 := q7.below w6.heap.size
    have B7 := hide (B6.out.trans (b7.mono B6.out.size))
    have P_7 := hide (P_6.out.below b7)
    have Q_7 := hide (Q_6.out.below b7)
    have N_7 := hide (N_6.out.below b7)
    have T_7 := hide (T_6.out.below b7)
    have C_7 := hide (C_6.out.below b7)
    clear b7 q7 B6 P_6 Q_6 N_6 T_6 C_6
    go_wp2
    go_ret
    exact ⟨rfl, B7.out⟩
  · have MC := hide hmc
    have dB2 : diffB l2 c = true := diffB_yes MQ.out MC.out
    have dB3 : diffB l c = true := diffB_yes MP.out MC.out
    have hdl2 := diffL_len l2 c
    have hd2 : (diffL l2 c).length ≤ 1048576 := by omega
    have hdl3 := diffL_len l c
    have hd3 : (diffL l c).length ≤ 1048576 := by omega
    go_wp2_with fail
    refine (implDiffOf_any AQ (l2) capQ AC (c) capC w6 hlm2 hlm3 hcQ hcC Q_6.out.pin C_6.out.pin).mono ?_
    rintro e w7 ⟨AM, capM, hcM, rfl, o7, b7⟩
    have B7 := hide (B6.out.trans (b7.mono B6.out.size))
    have P_7 := hide (P_6.out.below b7)
    have Q_7 := hide (Q_6.out.below b7)
    have N_7 := hide (N_6.out.below b7)
    have T_7 := hide (T_6.out.below b7)
    have C_7 := hide (C_6.out.below b7)
    have M_7 := hide o7
    clear b7 o7 B6 P_6 Q_6 N_6 T_6 C_6
    go_wp2_with fail
    refine (implDiffOf_any AP (l) capP AC (c) capC w7 hlm hlm3 hcP hcC P_7.out.pin C_7.out.pin).mono ?_
    rintro e w8 ⟨AE, capE, hcE, rfl, o8, b8⟩
    have B8 := hide (B7.out.trans (b8.mono B7.out.size))
    have P_8 := hide (P_7.out.below b8)
    have Q_8 := hide (Q_7.out.below b8)
    have N_8 := hide (N_7.out.below b8)
    have T_8 := hide (T_7.out.below b8)
    have C_8 := hide (C_7.out.below b8)
    have M_8 := hide (M_7.out.below b8)
    have E_8 := hide o8
    clear b8 o8 B7 P_7 Q_7 N_7 T_7 C_7 M_7
    have a1 : appB l (diffL l l2) = true := by rw [DE.out]; exact dif_ok MP.out MQ.out
    have A1 : Hid (appL l (diffL l l2) = l2) := hide (by rw [DE.out]; exact dif_appL MP.out MQ.out)
    have hal := appL_len l (diffL l l2)
    have ham : (appL l (diffL l l2)).length ≤ maxLen := by unfold maxLen; omega
    go_wp2_with fail
    refine (implApplied_any AP (l) capP AN (diffL l l2) capN w8 hlm hd1 P_8.out.pin N_8.out.pin).mono ?_
    rintro e w9 ⟨AX, capX, hcX, rfl, o9, b9⟩
    have B9 := hide (B8.out.trans (b9.mono B8.out.size))
    have P_9 := hide (P_8.out.below b9)
    have Q_9 := hide (Q_8.out.below b9)
    have N_9 := hide (N_8.out.below b9)
    have T_9 := hide (T_8.out.below b9)
    have C_9 := hide (C_8.out.below b9)
    have M_9 := hide (M_8.out.below b9)
    have E_9 := hide (E_8.out.below b9)
    have X_9 := hide o9
    clear b9 o9 B8 P_8 Q_8 N_8 T_8 C_8 M_8 E_8
    have a2 : appB (appL l (diffL l l2)) (diffL l2 c) = true := by rw [A1.out, diffL_yes dB2]; exact dif_ok MQ.out MC.out
    have A2 : Hid (appL (appL l (diffL l l2)) (diffL l2 c) = c) := hide (by rw [A1.out, diffL_yes dB2]; exact dif_appL MQ.out MC.out)
    have hal2 := appL_len (appL l (diffL l l2)) (diffL l2 c)
    have ham2 : (appL (appL l (diffL l l2)) (diffL l2 c)).length ≤ maxLen := by unfold maxLen; omega
    go_wp2_with fail
    refine (implApplied_any AX (appL l (diffL l l2)) capX AM (diffL l2 c) capM w9 ham hd2 X_9.out.pin M_9.out.pin).mono ?_
    rintro e w10 ⟨AY, capY, hcY, rfl, o10, b10⟩
    have B10 := hide (B9.out.trans (b10.mono B9.out.size))
    have P_10 := hide (P_9.out.below b10)
    have Q_10 := hide (Q_9.out.below b10)
    have N_10 := hide (N_9.out.below b10)
    have T_10 := hide (T_9.out.below b10)
    have C_10 := hide (C_9.out.below b10)
    have M_10 := hide (M_9.out.below b10)
    have E_10 := hide (E_9.out.below b10)
    have X_10 := hide (X_9.out.below b10)
    have Y_10 := hide o10
    clear b10 o10 B9 P_9 Q_9 N_9 T_9 C_9 M_9 E_9 X_9
    have a3 : appB l (diffL l c) = true := by rw [diffL_yes dB3]; exact dif_ok MP.out MC.out
    have A3 : Hid (appL l (diffL l c) = c) := hide (by rw [diffL_yes dB3]; exact dif_appL MP.out MC.out)
    have hal3 := appL_len l (diffL l c)
    have ham3 : (appL l (diffL l c)).length ≤ maxLen := by unfold maxLen; omega
    go_wp2_with fail
    refine (implApplied_any AP (l) capP AE (diffL l c) capE w10 hlm hd3 P_10.out.pin E_10.out.pin).mono ?_
    rintro e w11 ⟨AZ, capZ, hcZ, rfl, o11, b11⟩
    have B11 := hide (B10.out.trans (b11.mono B10.out.size))
    have P_11 := hide (P_10.out.below b11)
    have Q_11 := hide (Q_10.out.below b11)
    have N_11 := hide (N_10.out.below b11)
    have T_11 := hide (T_10.out.below b11)
    have C_11 := hide (C_10.out.below b11)
    have M_11 := hide (M_10.out.below b11)
    have E_11 := hide (E_10.out.below b11)
    have X_11 := hide (X_10.out.below b11)
    have Y_11 := hide (Y_10.out.below b11)
    have Z_11 := hide o11
    clear b11 o11 B10 P_10 Q_10 N_10 T_10 C_10 M_10 E_10 X_10 Y_10
    have e1 : eqL (appL (appL l (diffL l l2)) (diffL l2 c)) c = true := by rw [A2.out]; exact eqL_self _
    have e2 : eqL (appL l (diffL l c)) c = true := by rw [A3.out]; exact eqL_self _
    go_wp2_with fail
    refine (sameMap_any AY AC (appL (appL l (diffL l l2)) (diffL l2 c)) (c) capY capC w11 _ _ ham2 hlm3 Y_11.out.pin C_11.out.pin).mono ?_
    rintro e w12 ⟨rfl, q12⟩
    have b12 := q12.below w11.heap.size
    have B12 := hide (B11.out.trans (b12.mono B11.out.size))
    have P_12 := hide (P_11.out.below b12)
    have Q_12 := hide (Q_11.out.below b12)
    have N_12 := hide (N_11.out.below b12)
    have T_12 := hide (T_11.out.below b12)
    have C_12 := hide (C_11.out.below b12)
    have M_12 := hide (M_11.out.below b12)
    have E_12 := hide (E_11.out.below b12)
    have X_12 := hide (X_11.out.below b12)
    have Y_12 := hide (Y_11.out.below b12)
    have Z_12 := hide (Z_11.out.below b12)
    clear b12 q12 B11 P_11 Q_11 N_11 T_11 C_11 M_11 E_11 X_11 Y_11 Z_11
    go_wp2_with fail
    refine (sameMap_any AZ AC (appL l (diffL l c)) (c) capZ capC w12 _ _ ham3 hlm3 Z_12.out.pin C_12.out.pin).mono ?_
    rintro e w13 ⟨rfl, q13⟩
    have b13 := q13.below w12.heap.size
    have B13 := hide (B12.out.trans (b13.mono B12.out.size))
    have P_13 := hide (P_12.out.below b13)
    have Q_13 := hide (Q_12.out.below b13)
    have N_13 := hide (N_12.out.below b13)
    have T_13 := hide (T_12.out.below b13)
    have C_13 := hide (C_12.out.below b13)
    have M_13 := hide (M_12.out.below b13)
    have E_13 := hide (E_12.out.below b13)
    have X_13 := hide (X_12.out.below b13)
    have Y_13 := hide (Y_12.out.below b13)
    have Z_13 := hide (Z_12.out.below b13)
    clear b13 q13 B12 P_12 Q_12 N_12 T_12 C_12 M_12 E_12 X_12 Y_12 Z_12
    go_wp2
    go_ret
    exact ⟨rfl, B13.out⟩

set_option maxRecDepth 100000 in
theorem lifted (os : Os) (started : os.Started) (H : Type) (enc : TypeId × Value → H) :
    ReturnsInHanded {} Try.checked os 5 .any (Rows.fnDiffsJoinedSpec.pre6 enc Try.prog Try.f5 Rows.fnDiffsJoinedRow.domain false) (Rows.fnDiffsJoinedSpec.post enc Try.prog Try.f5 false true false false) := by
  refine returnsInHanded_of_change (C := Try.checked) own started (by kernel_rfl) Try.func5
    (ChangeSpec.witness6 (enc := enc) (C := Try.checked) false ⟨#[], #[.slice none 0 0], []⟩ 8 (by kernel_rfl) (by kernel_rfl) (by kernel_rfl) (by kernel_rfl)) ?_
  intro W base args ds gs before hval0 hW hcnd _
  have hval : ∀ (j : Nat) t v, Try.f5.params[j]? = some t → args[j]? = some v → Value.okWide Try.prog W .any base t v := hval0
  have hW' := hW
  obtain ⟨p, q, hA0, hV, rfl, hfz, hnd⟩ := hW
  have hA : DataW.TrodAll enc Try.prog W 0 (fun _ => true) true Try.f5.params.toList args.toList ds p := hA0
  rw [Try.params5] at hA hval
  obtain ⟨v0, vs0, d0, ds0, p0, q0, hargs, rfl, rfl, h0, r0⟩ := trodAll_cons hA
  obtain ⟨rfl, rfl, rfl⟩ := trodAll_nil r0
  obtain rfl : args = #[v0] := by cases args; simp_all
  obtain ⟨rfl, rfl⟩ := trodVars_none hV
  obtain ⟨A0, n0, cap0, rfl⟩ := okWide_slice Try.underlying22 (hval 0 22 v0 rfl rfl)
  have lt0 : ∀ x ∈ p0, x.block < W.heap.size := by obtain ⟨m, hm⟩ := h0; exact DataW.trod_lt m _ _ _ hm
  obtain ⟨l0, rfl, hl0, hin0⟩ := open_code h0
  clear hA0 hval0
  refine (walk A0 n0 cap0 W hl0 hin0).mono fun e W' ⟨he, bel⟩ => ?_
  subst he
  exact ⟨_, rfl, _, _, _, [], _, [], hW', trodAll_mk1 (shut_bool Try.underlying4 _), (trodAll_cons_mk (Below.trod laidOut (by kernel_rfl) (of_decide_eq_true (by kernel_rfl)) h0 bel lt0) trodAll_mk0), rfl, bel.frame _, fun h => by cases h⟩

theorem over : Rows.fnDiffsJoinedRow.holds Try.pinned (OpenSpec.ofChange Rows.fnDiffsJoinedSpec) :=
  OpenClaim.holds_of_wide 5 Try.f5 rfl rfl rfl rfl rfl rfl rfl ⟨rfl, rfl, rfl, rfl, rfl⟩ rfl rfl rfl rfl rfl (by kernel_rfl) Try.func5 (by kernel_rfl)
    (of_decide_eq_true (by kernel_rfl)) (by unfold Func.isWrapper; first | (rw [if_pos (by decide +kernel)]; kernel_rfl) | (rw [if_neg (by decide +kernel)]; exact ⟨rfl, rfl⟩))
    (fun os started H enc _ => lifted os started H enc)

end Go.Proofs.Ytcpalnkcjcgaeaa.LDiffsJoined
namespace Go.Proofs.Ytcpalnkcjcgaeaa
theorem fnDiffsJoined_proved : Rows.FnDiffsJoinedSaid := LDiffsJoined.over
end Go.Proofs.Ytcpalnkcjcgaeaa
