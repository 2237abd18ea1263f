/-
  For every code, laws.FnAppliedNone returns true: no changes leave a map as it was; the same ones twice are refused the second time. No conditions.
-/
import Derived.Test.YtcpalnkcjcgaeaaPSame
import Derived.Test.YtcpalnkcjcgaeaaPAlg
import Derived.Test.YtcpalnkcjcgaeaaLCode
import Derived.Test.YtcpalnkcjcgaeaaHDraw
import Derived.Test.YtcpalnkcjcgaeaaHSame
import Derived.Test.YtcpalnkcjcgaeaaHDifA
import Derived.Test.YtcpalnkcjcgaeaaHDiffL
import Derived.Test.YtcpalnkcjcgaeaaHAppS
import Derived.Test.YtcpalnkcjcgaeaaHAppI
namespace Go.Proofs.Ytcpalnkcjcgaeaa.LAppliedNone
open Go.RowKit Go.ChangeShapes Go.WideShapes Go.ChangeAt
open Go.ChangeMaps (open_string shut_string)

set_option maxRecDepth 100000 in
set_option maxHeartbeats 2000000 in
theorem walk (A : Option Addr) (n : Nat) (cap : Nat) (w : World) (hl : n ≤ maxLen) (hin : CIn w w.heap.size A n) :
    Calls Try.prog 7 #[.slice A n cap] w fun e w' => e = .returned (.bool true) ∧ Below w.heap.size w w' := by
  by_cases hbig : 1048576 < n
  · have d : decide (1048576 < n) = true := decide_eq_true hbig
    go_enter Try.func7, Try.ntmps7
    go_wp2_with (go_at_call 12; refine (big_any A n cap _ hl).mono ?_; rintro e w' ⟨rfl, rfl⟩)
    go_ret
    exact ⟨rfl, Below.refl _ _⟩
  have hn : n ≤ 1048576 := by omega
  have d : decide (1048576 < n) = false := decide_eq_false hbig
  have IN := hide hin
  have B0 : Hid (Below w.heap.size w w) := hide (Below.refl _ _)
  clear hin
  go_enter Try.func7, Try.ntmps7
  go_wp2_with fail
  refine (big_any A n cap w hl).mono ?_
  rintro e w' ⟨rfl, rfl⟩
  go_wp2_with fail
  refine (drawApplied_any A n cap w hn IN.out).mono ?_
  rintro e w1 ⟨AP, capP, l, AQ, capQ, d, hcP, hl40, mbP, hcQ, hd80, _, rfl, o1, p1, b1⟩
  have B1 := hide (B0.out.trans (b1.mono B0.out.size))
  have P_1 := hide o1
  have Q_1 := hide p1
  clear b1 o1 p1 B0
  have hlm : l.length ≤ maxLen := by unfold maxLen; omega
  have hdm : d.length ≤ maxLen := by unfold maxLen; omega
  have hd1 : d.length ≤ 1048576 := by omega
  have MP := hide mbP
  clear mbP
  have hal := appL_len l d
  have ham : (appL l d).length ≤ maxLen := by unfold maxLen; omega
  have es := eqL_self (appL l d)
  have hne : (appB l d != appB l d) = false := by simp
  have heq : (appB l d == appB l d) = true := by simp
  go_wp2_with fail
  refine (implApplied_any AP (l) capP AQ (d) capQ w1 hlm hd1 P_1.out.pin Q_1.out.pin).mono ?_
  rintro e w2 ⟨AN, capN, hcN, rfl, o2, b2⟩
  have B2 := hide (B1.out.trans (b2.mono B1.out.size))
  have P_2 := hide (P_1.out.below b2)
  have Q_2 := hide (Q_1.out.below b2)
  have N_2 := hide o2
  clear b2 o2 B1 P_1 Q_1
  go_wp2_with fail
  refine (specApplied_any AP (l) capP AQ (d) capQ w2 hlm hd1 P_2.out.pin Q_2.out.pin).mono ?_
  rintro e w3 ⟨AT, capT, hcT, rfl, o3, b3⟩
  have B3 := hide (B2.out.trans (b3.mono B2.out.size))
  have P_3 := hide (P_2.out.below b3)
  have Q_3 := hide (Q_2.out.below b3)
  have N_3 := hide (N_2.out.below b3)
  have T_3 := hide o3
  clear b3 o3 B2 P_2 Q_2 N_2
  have NL := hide (HIn.nil w3 w3.heap.size none)
  have hmb := MP.out
  have a0 : appB l [] = true := by rw [app_none]; exact hmb
  have A0 : Hid (appL l [] = l) := hide (appL_none hmb)
  have hal0 := appL_len l []
  have ham0 : (appL l []).length ≤ maxLen := by unfold maxLen; omega
  have e0 : eqL (appL l []) l = true := by rw [A0.out]; exact eqL_self _
  go_wp2_with fail
  refine (implApplied_any AP l capP none [] 0 w3 hlm (by simp) P_3.out.pin NL.out).mono ?_
  rintro e w4 ⟨AO, capO, hcO, rfl, o4, b4⟩
  have B4 := hide (B3.out.trans (b4.mono B3.out.size))
  have P_4 := hide (P_3.out.below b4)
  have Q_4 := hide (Q_3.out.below b4)
  have N_4 := hide (N_3.out.below b4)
  have T_4 := hide (T_3.out.below b4)
  have O_4 := hide o4
  clear b4 o4 B3 P_3 Q_3 N_3 T_3
  clear NL
  go_wp2_with fail
  refine (sameMap_any AN AT (appL l d) (appL l d) capN capT w4 _ _ ham ham N_4.out.pin T_4.out.pin).mono ?_
  rintro e w5 ⟨rfl, q5⟩
  have b5 := q5.below w4.heap.size
  have B5 := hide (B4.out.trans (b5.mono B4.out.size))
  have P_5 := hide (P_4.out.below b5)
  have Q_5 := hide (Q_4.out.below b5)
  have N_5 := hide (N_4.out.below b5)
  have T_5 := hide (T_4.out.below b5)
  have O_5 := hide (O_4.out.below b5)
  clear b5 q5 B4 P_4 Q_4 N_4 T_4 O_4
  go_wp2_with fail
  refine (specMapOk_any AP l capP w5 _ hlm P_5.out.pin).mono ?_
  rintro e w6 ⟨rfl, q6⟩
  have b6 := q6.below w5.heap.size
  have B6 := hide (B5.out.trans (b6.mono B5.out.size))
  have P_6 := hide (P_5.out.below b6)
  have Q_6 := hide (Q_5.out.below b6)
  have N_6 := hide (N_5.out.below b6)
  have T_6 := hide (T_5.out.below b6)
  have O_6 := hide (O_5.out.below b6)
  clear b6 q6 B5 P_5 Q_5 N_5 T_5 O_5
  go_wp2_with fail
  refine (sameMap_any AO AP (appL l []) (l) capO capP w6 _ _ ham0 hlm O_6.out.pin P_6.out.pin).mono ?_
  rintro e w7 ⟨rfl, q7⟩
  have b7 := q7.below w6.heap.size
  have B7 := hide (B6.out.trans (b7.mono B6.out.size))
  have P_7 := hide (P_6.out.below b7)
  have Q_7 := hide (Q_6.out.below b7)
  have N_7 := hide (N_6.out.below b7)
  have T_7 := hide (T_6.out.below b7)
  have O_7 := hide (O_6.out.below b7)
  clear b7 q7 B6 P_6 Q_6 N_6 T_6 O_6
  cases hb : appB l d
  · go_wp2_with fail
    refine (sameMap_any AN AT (appL l d) (appL l d) capN capT w7 _ _ ham ham N_7.out.pin T_7.out.pin).mono ?_
    rintro e w8 ⟨rfl, q8⟩
    have b8 := q8.below w7.heap.size
    have B8 := hide (B7.out.trans (b8.mono B7.out.size))
    have P_8 := hide (P_7.out.below b8)
    have Q_8 := hide (Q_7.out.below b8)
    have N_8 := hide (N_7.out.below b8)
    have T_8 := hide (T_7.out.below b8)
    have O_8 := hide (O_7.out.below b8)
    clear b8 q8 B7 P_7 Q_7 N_7 T_7 O_7
    go_wp2_with fail
    refine (specMapOk_any AP l capP w8 _ hlm P_8.out.pin).mono ?_
    rintro e w9 ⟨rfl, q9⟩
    have b9 := q9.below w8.heap.size
    have B9 := hide (B8.out.trans (b9.mono B8.out.size))
    have P_9 := hide (P_8.out.below b9)
    have Q_9 := hide (Q_8.out.below b9)
    have N_9 := hide (N_8.out.below b9)
    have T_9 := hide (T_8.out.below b9)
    have O_9 := hide (O_8.out.below b9)
    clear b9 q9 B8 P_8 Q_8 N_8 T_8 O_8
    go_wp2_with fail
    refine (sameMap_any AO AP (appL l []) (l) capO capP w9 _ _ ham0 hlm O_9.out.pin P_9.out.pin).mono ?_
    rintro e w10 ⟨rfl, q10⟩
    have b10 := q10.below w9.heap.size
    have B10 := hide (B9.out.trans (b10.mono B9.out.size))
    have P_10 := hide (P_9.out.below b10)
    have Q_10 := hide (Q_9.out.below b10)
    have N_10 := hide (N_9.out.below b10)
    have T_10 := hide (T_9.out.below b10)
    have O_10 := hide (O_9.out.below b10)
    clear b10 q10 B9 P_9 Q_9 N_9 T_9 O_9
    go_wp2
    go_ret
    exact ⟨rfl, B10.out⟩
  · have MN : Hid (mapB (appL l d) = true) := hide (by rw [appL_yes hb]; exact (appB_iff.1 hb).2.2)
    have dB : diffB l (appL l d) = true := diffB_yes MP.out MN.out
    have hdl := diffL_len l (appL l d)
    have hd2 : (diffL l (appL l d)).length ≤ 1048576 := by omega
    go_wp2_with fail
    refine (implDiffOf_any AP (l) capP AN (appL l d) capN w7 hlm ham hcP hcN P_7.out.pin N_7.out.pin).mono ?_
    rintro e w8 ⟨AE, capE, hcE, rfl, o8, b8⟩
    have B8 := hide (B7.out.trans (b8.mono B7.out.size))
    have P_8 := hide (P_7.out.below b8)
    have Q_8 := hide (Q_7.out.below b8)
    have N_8 := hide (N_7.out.below b8)
    have T_8 := hide (T_7.out.below b8)
    have O_8 := hide (O_7.out.below b8)
    have E_8 := hide o8
    clear b8 o8 B7 P_7 Q_7 N_7 T_7 O_7
    go_wp2_with fail
    refine (implApplied_any AN (appL l d) capN AE (diffL l (appL l d)) capE w8 ham hd2 N_8.out.pin E_8.out.pin).mono ?_
    rintro e w9 ⟨AB, capB, hcB, rfl, o9, b9⟩
    have B9 := hide (B8.out.trans (b9.mono B8.out.size))
    have P_9 := hide (P_8.out.below b9)
    have Q_9 := hide (Q_8.out.below b9)
    have N_9 := hide (N_8.out.below b9)
    have T_9 := hide (T_8.out.below b9)
    have O_9 := hide (O_8.out.below b9)
    have E_9 := hide (E_8.out.below b9)
    have B_9 := hide o9
    clear b9 o9 B8 P_8 Q_8 N_8 T_8 O_8 E_8
    by_cases hz : (diffL l (appL l d)).length = 0
    · have hzi : (((diffL l (appL l d)).length : Int) == 0) = true := by rw [hz]; rfl
      have HZ := hide hz
      clear hz
      go_wp2
      go_ret
      exact ⟨rfl, B9.out⟩
    · have hzi : (((diffL l (appL l d)).length : Int) == 0) = false := by rw [beq_eq_false_iff_ne]; omega
      have ag : appB (appL l d) (diffL l (appL l d)) = false := by
        rw [diffL_yes dB] at hz ⊢
        exact dif_again MP.out MN.out (fun e => hz (by rw [e]; rfl))
      go_wp2
      go_ret
      exact ⟨rfl, B9.out⟩

set_option maxRecDepth 100000 in
theorem lifted (os : Os) (started : os.Started) (H : Type) (enc : TypeId × Value → H) :
    ReturnsInHanded {} Try.checked os 7 .any (Rows.fnAppliedNoneSpec.pre6 enc Try.prog Try.f7 Rows.fnAppliedNoneRow.domain false) (Rows.fnAppliedNoneSpec.post enc Try.prog Try.f7 false true false false) := by
  refine returnsInHanded_of_change (C := Try.checked) own started (by kernel_rfl) Try.func7
    (ChangeSpec.witness6 (enc := enc) (C := Try.checked) false ⟨#[], #[.slice none 0 0], []⟩ 8 (by kernel_rfl) (by kernel_rfl) (by kernel_rfl) (by kernel_rfl)) ?_
  intro W base args ds gs before hval0 hW hcnd _
  have hval : ∀ (j : Nat) t v, Try.f7.params[j]? = some t → args[j]? = some v → Value.okWide Try.prog W .any base t v := hval0
  have hW' := hW
  obtain ⟨p, q, hA0, hV, rfl, hfz, hnd⟩ := hW
  have hA : DataW.TrodAll enc Try.prog W 0 (fun _ => true) true Try.f7.params.toList args.toList ds p := hA0
  rw [Try.params7] at hA hval
  obtain ⟨v0, vs0, d0, ds0, p0, q0, hargs, rfl, rfl, h0, r0⟩ := trodAll_cons hA
  obtain ⟨rfl, rfl, rfl⟩ := trodAll_nil r0
  obtain rfl : args = #[v0] := by cases args; simp_all
  obtain ⟨rfl, rfl⟩ := trodVars_none hV
  obtain ⟨A0, n0, cap0, rfl⟩ := okWide_slice Try.underlying22 (hval 0 22 v0 rfl rfl)
  have lt0 : ∀ x ∈ p0, x.block < W.heap.size := by obtain ⟨m, hm⟩ := h0; exact DataW.trod_lt m _ _ _ hm
  obtain ⟨l0, rfl, hl0, hin0⟩ := open_code h0
  clear hA0 hval0
  refine (walk A0 n0 cap0 W hl0 hin0).mono fun e W' ⟨he, bel⟩ => ?_
  subst he
  exact ⟨_, rfl, _, _, _, [], _, [], hW', trodAll_mk1 (shut_bool Try.underlying4 _), (trodAll_cons_mk (Below.trod laidOut (by kernel_rfl) (of_decide_eq_true (by kernel_rfl)) h0 bel lt0) trodAll_mk0), rfl, bel.frame _, fun h => by cases h⟩

theorem over : Rows.fnAppliedNoneRow.holds Try.pinned (OpenSpec.ofChange Rows.fnAppliedNoneSpec) :=
  OpenClaim.holds_of_wide 7 Try.f7 rfl rfl rfl rfl rfl rfl rfl ⟨rfl, rfl, rfl, rfl, rfl⟩ rfl rfl rfl rfl rfl (by kernel_rfl) Try.func7 (by kernel_rfl)
    (of_decide_eq_true (by kernel_rfl)) (by unfold Func.isWrapper; first | (rw [if_pos (by decide +kernel)]; kernel_rfl) | (rw [if_neg (by decide +kernel)]; exact ⟨rfl, rfl⟩))
    (fun os started H enc _ => lifted os started H enc)

end Go.Proofs.Ytcpalnkcjcgaeaa.LAppliedNone
namespace Go.Proofs.Ytcpalnkcjcgaeaa
theorem fnAppliedNone_proved : Rows.FnAppliedNoneSaid := LAppliedNone.over
end Go.Proofs.Ytcpalnkcjcgaeaa
