/-
  For every code, laws.FnRefsOrder returns true: two refs may be set in either order; set twice a ref names the second one. No conditions.
-/
import Derived.Test.YtmmeabfeehnajaaPSame
import Derived.Test.YtmmeabfeehnajaaRFrame
import Derived.Test.YtmmeabfeehnajaaRdCode
import Derived.Test.YtmmeabfeehnajaaRDraw
import Derived.Test.YtmmeabfeehnajaaRLawM
import Derived.Test.YtmmeabfeehnajaaRSetI
namespace Go.Proofs.Ytmmeabfeehnajaa.LRefsOrder
open Go.RowKit Go.ChangeShapes Go.WideShapes Go.ChangeAt
open Go.ChangeMaps (open_string shut_string)

/-- an id -/
abbrev toS : ByteArray := ⟨#[48, 49, 50, 51, 52, 53, 54, 55, 56, 57, 97, 98, 99, 100, 101, 102]⟩
theorem to_id : QI.idB toS = true := by
  refine QI.idB_yes rfl ?_
  intro j hj _
  have hj : j < 16 := hj
  have : ∀ j : Fin 16, QI.hexI ((toS[j.val]'(by exact j.isLt)).toNat : Int) = true := by decide
  exact this ⟨j, hj⟩
theorem other_key : keyB otherS = true := by
  refine okB_yes (by decide) (by decide) ?_
  intro j hj _
  have hj : j < 5 := hj
  have : ∀ j : Fin 5, keyC ((otherS[j.val]'(by exact j.isLt)).toNat : Int) = true := by decide
  exact this ⟨j, hj⟩

set_option maxRecDepth 100000 in
set_option maxHeartbeats 2000000 in
theorem walk (A : Option Addr) (n : Nat) (cap : Nat) (w : World) (hl : n ≤ maxLen) (hin : CIn w w.heap.size A n) :
    Calls Try.prog 6 #[.slice A n cap] w fun e w' => e = .returned (.bool true) ∧ Below w.heap.size w w' := by
  by_cases hbig : 1048576 < n
  · have d : decide (1048576 < n) = true := decide_eq_true hbig
    go_enter Try.func6, Try.ntmps6
    go_wp2_with (go_at_call 9; refine (big_any A n cap _ hl).mono ?_; rintro e w' ⟨rfl, rfl⟩)
    go_ret
    exact ⟨rfl, Below.refl _ _⟩
  have hn : n ≤ 1048576 := by omega
  have d : decide (1048576 < n) = false := decide_eq_false hbig
  have IN := hide hin
  have B0 : Hid (Below w.heap.size w w) := hide (Below.refl _ _)
  clear hin
  go_enter Try.func6, Try.ntmps6
  go_wp2_with fail
  refine (big_any A n cap w hl).mono ?_
  rintro e w' ⟨rfl, rfl⟩
  go_wp2_with fail
  refine (drawSetRef_any A n cap w hn IN.out).mono ?_
  rintro e w1 ⟨AP, capP, l, k, v, hcP, hl3, hk, HKO, hv, rfl, o1, b1⟩
  have B1 := hide (B0.out.trans (b1.mono B0.out.size))
  have P_1 := hide o1
  clear b1 o1 B0
  have hlmP : l.length ≤ maxLen := by unfold maxLen; omega
  have hks : k.size ≤ maxLen := by unfold maxLen; omega
  have hvs : v.size ≤ maxLen := by unfold maxLen; omega
  have hlnN := stL_len l k v
  have hlmN : (stL l k v).length ≤ maxLen := by unfold maxLen; omega
  have hlmT : (stL l k v).length ≤ maxLen := hlmN
  have es := eqL_self (stL l k v)
  have hne : (stB l k v != stB l k v) = false := by simp
  have heq : (stB l k v == stB l k v) = true := by simp
  go_wp2_with fail
  refine (implSetRef_any AP (l) capP k v w1 hlmP P_1.out.pin hks hvs).mono ?_
  rintro e w2 ⟨AN, capN, hcN, rfl, o2, b2⟩
  have B2 := hide (B1.out.trans (b2.mono B1.out.size))
  have P_2 := hide (P_1.out.below b2)
  have N_2 := hide o2
  clear b2 o2 B1 P_1
  go_wp2_with fail
  refine (specSetRef_any AP (l) capP k v w2 hlmP hcP P_2.out.pin hks hvs).mono ?_
  rintro e w3 ⟨AT, capT, hcT, rfl, o3, b3⟩
  have B3 := hide (B2.out.trans (b3.mono B2.out.size))
  have P_3 := hide (P_2.out.below b3)
  have N_3 := hide (N_2.out.below b3)
  have T_3 := hide o3
  clear b3 o3 B2 P_2 N_2
  cases hb : stB l k v
  · go_wp2_with fail
    refine (sameMap_any AN AT (stL l k v) (stL l k v) capN capT w3 _ _ hlmN hlmT N_3.out.pin T_3.out.pin).mono ?_
    rintro e w4 ⟨rfl, q4⟩
    have b4 := q4.below w3.heap.size
    have B4 := hide (B3.out.trans (b4.mono B3.out.size))
    have P_4 := hide (P_3.out.below b4)
    have N_4 := hide (N_3.out.below b4)
    have T_4 := hide (T_3.out.below b4)
    clear b4 q4 B3 P_3 N_3 T_3
    go_wp2_with fail
    refine (sameMap_any AN AT (stL l k v) (stL l k v) capN capT w4 _ _ hlmN hlmT N_4.out.pin T_4.out.pin).mono ?_
    rintro e w5 ⟨rfl, q5⟩
    have b5 := q5.below w4.heap.size
    have B5 := hide (B4.out.trans (b5.mono B4.out.size))
    have P_5 := hide (P_4.out.below b5)
    have N_5 := hide (N_4.out.below b5)
    have T_5 := hide (T_4.out.below b5)
    clear b5 q5 B4 P_4 N_4 T_4
    go_wp2
    go_ret
    exact ⟨rfl, B5.out⟩
  · go_wp2_with fail
    refine (sameMap_any AN AT (stL l k v) (stL l k v) capN capT w3 _ _ hlmN hlmT N_3.out.pin T_3.out.pin).mono ?_
    rintro e w4 ⟨rfl, q4⟩
    have b4 := q4.below w3.heap.size
    have B4 := hide (B3.out.trans (b4.mono B3.out.size))
    have P_4 := hide (P_3.out.below b4)
    have N_4 := hide (N_3.out.below b4)
    have T_4 := hide (T_3.out.below b4)
    clear b4 q4 B3 P_3 N_3 T_3
    obtain ⟨t1, t2, t3, t4⟩ := st_two hb HKO.out other_key to_id (by omega)
    obtain ⟨t5, t6, t7⟩ := st_over hb to_id (by omega)
    have H4 := hide t4
    have H7 := hide t7
    clear t4 t7
    have hos : otherS.size ≤ maxLen := by unfold maxLen; decide
    have hts : toS.size ≤ maxLen := by unfold maxLen; decide
    have hlnA := stL_len (stL l k v) otherS toS
    have hlmA : (stL (stL l k v) otherS toS).length ≤ maxLen := by unfold maxLen; omega
    have hlnX := stL_len l otherS toS
    have hlmX : (stL l otherS toS).length ≤ maxLen := by unfold maxLen; omega
    have hlnB := stL_len (stL l otherS toS) k v
    have hlmB : (stL (stL l otherS toS) k v).length ≤ maxLen := by unfold maxLen; omega
    have hlnY := stL_len l k toS
    have hlmY : (stL l k toS).length ≤ maxLen := by unfold maxLen; omega
    have hlnC := stL_len (stL l k toS) k v
    have hlmC : (stL (stL l k toS) k v).length ≤ maxLen := by unfold maxLen; omega
    have e1 : eqL (stL (stL l k v) otherS toS) (stL (stL l otherS toS) k v) = true := eqL_yes H4.out
    have e2 : eqL (stL (stL l k toS) k v) (stL l k v) = true := eqL_yes H7.out
    go_wp2_with fail
    refine (implSetRef_any AN (stL l k v) capN otherS toS w4 hlmN N_4.out.pin hos hts).mono ?_
    rintro e w5 ⟨AA, capA, hcA, rfl, o5, b5⟩
    have B5 := hide (B4.out.trans (b5.mono B4.out.size))
    have P_5 := hide (P_4.out.below b5)
    have N_5 := hide (N_4.out.below b5)
    have T_5 := hide (T_4.out.below b5)
    have A_5 := hide o5
    clear b5 o5 B4 P_4 N_4 T_4
    go_wp2_with fail
    refine (implSetRef_any AP (l) capP otherS toS w5 hlmP P_5.out.pin hos hts).mono ?_
    rintro e w6 ⟨AX, capX, hcX, rfl, o6, b6⟩
    have B6 := hide (B5.out.trans (b6.mono B5.out.size))
    have P_6 := hide (P_5.out.below b6)
    have N_6 := hide (N_5.out.below b6)
    have T_6 := hide (T_5.out.below b6)
    have A_6 := hide (A_5.out.below b6)
    have X_6 := hide o6
    clear b6 o6 B5 P_5 N_5 T_5 A_5
    go_wp2_with fail
    refine (implSetRef_any AX (stL l otherS toS) capX k v w6 hlmX X_6.out.pin hks hvs).mono ?_
    rintro e w7 ⟨AB, capB, hcB, rfl, o7, b7⟩
    have B7 := hide (B6.out.trans (b7.mono B6.out.size))
    have P_7 := hide (P_6.out.below b7)
    have N_7 := hide (N_6.out.below b7)
    have T_7 := hide (T_6.out.below b7)
    have A_7 := hide (A_6.out.below b7)
    have X_7 := hide (X_6.out.below b7)
    have B_7 := hide o7
    clear b7 o7 B6 P_6 N_6 T_6 A_6 X_6
    go_wp2_with fail
    refine (implSetRef_any AP (l) capP k toS w7 hlmP P_7.out.pin hks hts).mono ?_
    rintro e w8 ⟨AY, capY, hcY, rfl, o8, b8⟩
    have B8 := hide (B7.out.trans (b8.mono B7.out.size))
    have P_8 := hide (P_7.out.below b8)
    have N_8 := hide (N_7.out.below b8)
    have T_8 := hide (T_7.out.below b8)
    have A_8 := hide (A_7.out.below b8)
    have X_8 := hide (X_7.out.below b8)
    have B_8 := hide (B_7.out.below b8)
    have Y_8 := hide o8
    clear b8 o8 B7 P_7 N_7 T_7 A_7 X_7 B_7
    go_wp2_with fail
    refine (implSetRef_any AY (stL l k toS) capY k v w8 hlmY Y_8.out.pin hks hvs).mono ?_
    rintro e w9 ⟨AC, capC, hcC, rfl, o9, b9⟩
    have B9 := hide (B8.out.trans (b9.mono B8.out.size))
    have P_9 := hide (P_8.out.below b9)
    have N_9 := hide (N_8.out.below b9)
    have T_9 := hide (T_8.out.below b9)
    have A_9 := hide (A_8.out.below b9)
    have X_9 := hide (X_8.out.below b9)
    have B_9 := hide (B_8.out.below b9)
    have Y_9 := hide (Y_8.out.below b9)
    have C_9 := hide o9
    clear b9 o9 B8 P_8 N_8 T_8 A_8 X_8 B_8 Y_8
    go_wp2_with fail
    refine (sameMap_any AA AB (stL (stL l k v) otherS toS) (stL (stL l otherS toS) k v) capA capB w9 _ _ hlmA hlmB A_9.out.pin B_9.out.pin).mono ?_
    rintro e w10 ⟨rfl, q10⟩
    have b10 := q10.below w9.heap.size
    have B10 := hide (B9.out.trans (b10.mono B9.out.size))
    have P_10 := hide (P_9.out.below b10)
    have N_10 := hide (N_9.out.below b10)
    have T_10 := hide (T_9.out.below b10)
    have A_10 := hide (A_9.out.below b10)
    have X_10 := hide (X_9.out.below b10)
    have B_10 := hide (B_9.out.below b10)
    have Y_10 := hide (Y_9.out.below b10)
    have C_10 := hide (C_9.out.below b10)
    clear b10 q10 B9 P_9 N_9 T_9 A_9 X_9 B_9 Y_9 C_9
    go_wp2_with fail
    refine (sameMap_any AC AN (stL (stL l k toS) k v) (stL l k v) capC capN w10 _ _ hlmC hlmN C_10.out.pin N_10.out.pin).mono ?_
    rintro e w11 ⟨rfl, q11⟩
    have b11 := q11.below w10.heap.size
    have B11 := hide (B10.out.trans (b11.mono B10.out.size))
    have P_11 := hide (P_10.out.below b11)
    have N_11 := hide (N_10.out.below b11)
    have T_11 := hide (T_10.out.below b11)
    have A_11 := hide (A_10.out.below b11)
    have X_11 := hide (X_10.out.below b11)
    have B_11 := hide (B_10.out.below b11)
    have Y_11 := hide (Y_10.out.below b11)
    have C_11 := hide (C_10.out.below b11)
    clear b11 q11 B10 P_10 N_10 T_10 A_10 X_10 B_10 Y_10 C_10
    go_wp2
    go_ret
    exact ⟨rfl, B11.out⟩

set_option maxRecDepth 100000 in
theorem lifted (os : Os) (started : os.Started) (H : Type) (enc : TypeId × Value → H) :
    ReturnsInHanded {} Try.checked os 6 .any (Rows.fnRefsOrderSpec.pre6 enc Try.prog Try.f6 Rows.fnRefsOrderRow.domain false) (Rows.fnRefsOrderSpec.post enc Try.prog Try.f6 false true false false) := by
  refine returnsInHanded_of_change (C := Try.checked) own started (by kernel_rfl) Try.func6
    (ChangeSpec.witness6 (enc := enc) (C := Try.checked) false ⟨#[], #[.slice none 0 0], []⟩ 8 (by kernel_rfl) (by kernel_rfl) (by kernel_rfl) (by kernel_rfl)) ?_
  intro W base args ds gs before hval0 hW hcnd _
  have hval : ∀ (j : Nat) t v, Try.f6.params[j]? = some t → args[j]? = some v → Value.okWide Try.prog W .any base t v := hval0
  have hW' := hW
  obtain ⟨p, q, hA0, hV, rfl, hfz, hnd⟩ := hW
  have hA : DataW.TrodAll enc Try.prog W 0 (fun _ => true) true Try.f6.params.toList args.toList ds p := hA0
  rw [Try.params6] at hA hval
  obtain ⟨v0, vs0, d0, ds0, p0, q0, hargs, rfl, rfl, h0, r0⟩ := trodAll_cons hA
  obtain ⟨rfl, rfl, rfl⟩ := trodAll_nil r0
  obtain rfl : args = #[v0] := by cases args; simp_all
  obtain ⟨rfl, rfl⟩ := trodVars_none hV
  obtain ⟨A0, n0, cap0, rfl⟩ := okWide_slice Try.underlying22 (hval 0 22 v0 rfl rfl)
  have lt0 : ∀ x ∈ p0, x.block < W.heap.size := by obtain ⟨m, hm⟩ := h0; exact DataW.trod_lt m _ _ _ hm
  obtain ⟨l0, rfl, hl0, hin0⟩ := open_code h0
  clear hA0 hval0
  refine (walk A0 n0 cap0 W hl0 hin0).mono fun e W' ⟨he, bel⟩ => ?_
  subst he
  exact ⟨_, rfl, _, _, _, [], _, [], hW', trodAll_mk1 (shut_bool Try.underlying4 _), (trodAll_cons_mk (Below.trod laidOut (by kernel_rfl) (of_decide_eq_true (by kernel_rfl)) h0 bel lt0) trodAll_mk0), rfl, bel.frame _, fun h => by cases h⟩

theorem over : Rows.fnRefsOrderRow.holds Try.pinned (OpenSpec.ofChange Rows.fnRefsOrderSpec) :=
  OpenClaim.holds_of_wide 6 Try.f6 rfl rfl rfl rfl rfl rfl rfl ⟨rfl, rfl, rfl, rfl, rfl⟩ rfl rfl rfl rfl rfl (by kernel_rfl) Try.func6 (by kernel_rfl)
    (of_decide_eq_true (by kernel_rfl)) (by unfold Func.isWrapper; first | (rw [if_pos (by decide +kernel)]; kernel_rfl) | (rw [if_neg (by decide +kernel)]; exact ⟨rfl, rfl⟩))
    (fun os started H enc _ => lifted os started H enc)

end Go.Proofs.Ytmmeabfeehnajaa.LRefsOrder
namespace Go.Proofs.Ytmmeabfeehnajaa
theorem fnRefsOrder_proved : Rows.FnRefsOrderSaid := LRefsOrder.over
end Go.Proofs.Ytmmeabfeehnajaa
