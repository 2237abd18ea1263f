/-
  For every code, laws.FnAnyOrder returns true: two keys may be put in in either order. No conditions.
-/
import Derived.Test.YtfeaooiehfcaaaaPSame
import Derived.Test.YtfeaooiehfcaaaaPAlg
import Derived.Test.YtfeaooiehfcaaaaLCode
namespace Go.Proofs.Ytfeaooiehfcaaaa.LAnyOrder
open Go.RowKit Go.ChangeShapes Go.WideShapes Go.ChangeAt
open Go.ChangeMaps (open_string shut_string)

abbrev nine : ByteArray := ⟨#[57]⟩

set_option maxRecDepth 100000 in
set_option maxHeartbeats 2000000 in
theorem walk (A : Option Addr) (n : Nat) (cap : Nat) (w : World) (hl : n ≤ maxLen) (hin : CIn w w.heap.size A n) :
    Calls Try.prog 5 #[.slice A n cap] w fun e w' => e = .returned (.bool true) ∧ Below w.heap.size w w' := by
  by_cases hbig : 1048576 < n
  · have d : decide (1048576 < n) = true := decide_eq_true hbig
    go_enter Try.func5, Try.ntmps5
    go_wp2_with (go_at_call 18; refine (big_any A n cap _ hl).mono ?_; rintro e w' ⟨rfl, rfl⟩)
    go_ret
    exact ⟨rfl, Below.refl _ _⟩
  have hn : n ≤ 1048576 := by omega
  have d : decide (1048576 < n) = false := decide_eq_false hbig
  have IN := hide hin
  have B0 : Hid (Below w.heap.size w w) := hide (Below.refl _ _)
  clear hin
  go_enter Try.func5, Try.ntmps5
  go_wp2_with fail
  refine (big_any A n cap w hl).mono ?_
  rintro e w' ⟨rfl, rfl⟩
  go_wp2_with fail
  refine (drawPut_any A n cap w hn IN.out).mono ?_
  rintro e w1 ⟨AM, capM, l, k, v, hcM, hl40, hk, hv, HKO, rfl, own1, b1⟩
  have B1 := hide (B0.out.trans (b1.mono B0.out.size))
  have M_1 := hide own1
  clear b1 own1 B0
  have hks : k.size ≤ maxLen := by unfold maxLen; omega
  have hvs : v.size ≤ maxLen := by unfold maxLen; omega
  have hlm : l.length ≤ maxLen := by unfold maxLen; omega
  have hpl := putL_len l k v
  have hpm : (putL l k v).length ≤ maxLen := by unfold maxLen; omega
  have es := eqL_self (putL l k v)
  go_wp2_with fail
  refine (implPut_any AM l capM k v w1 hlm hcM M_1.out.pin hks hvs).mono ?_
  rintro e w2 ⟨AN, capN, hcN, rfl, own2, b2⟩
  have B2 := hide (B1.out.trans (b2.mono B1.out.size))
  have M_2 := hide (M_1.out.below b2)
  have N_2 := hide own2
  clear b2 own2 B1 M_1
  go_wp2_with fail
  refine (specPut_any AM l capM k v w2 hlm hcM M_2.out.pin hks hvs).mono ?_
  rintro e w3 ⟨AT, capT, hcT, rfl, own3, b3⟩
  have B3 := hide (B2.out.trans (b3.mono B2.out.size))
  have M_3 := hide (M_2.out.below b3)
  have N_3 := hide (N_2.out.below b3)
  have T_3 := hide own3
  clear b3 own3 B2 M_2 N_2
  cases hb : putB l k v
  · go_wp2_with fail
    refine (sameMap_any AN AT (putL l k v) (putL l k v) capN capT w3 _ _ hpm hpm N_3.out.pin T_3.out.pin).mono ?_
    rintro e w4 ⟨rfl, q4⟩
    have b4 := q4.below w3.heap.size
    have B4 := hide (B3.out.trans (b4.mono B3.out.size))
    have M_4 := hide (M_3.out.below b4)
    have N_4 := hide (N_3.out.below b4)
    have T_4 := hide (T_3.out.below b4)
    clear b4 q4 B3 M_3 N_3 T_3
    go_wp2_with fail
    refine (sameMap_any AN AT (putL l k v) (putL l k v) capN capT w4 _ _ hpm hpm N_4.out.pin T_4.out.pin).mono ?_
    rintro e w5 ⟨rfl, q5⟩
    have b5 := q5.below w4.heap.size
    have B5 := hide (B4.out.trans (b5.mono B4.out.size))
    have M_5 := hide (M_4.out.below b5)
    have N_5 := hide (N_4.out.below b5)
    have T_5 := hide (T_4.out.below b5)
    clear b5 q5 B4 M_4 N_4 T_4
    go_wp2
    go_ret
    exact ⟨rfl, B5.out⟩
  · have hnl := putL_len (putL l k v) otherS nine
    have hxl := putL_len l otherS nine
    have hxm : (putL l otherS nine).length ≤ maxLen := by unfold maxLen; omega
    have hbl := putL_len (putL l otherS nine) k v
    have ham : (putL (putL l k v) otherS nine).length ≤ maxLen := by unfold maxLen; omega
    have hbm : (putL (putL l otherS nine) k v).length ≤ maxLen := by unfold maxLen; omega
    have hos : otherS.size ≤ maxLen := by unfold maxLen; decide
    have hns : nine.size ≤ maxLen := by unfold maxLen; decide
    have HS : Hid (putB (putL l k v) otherS nine = true → putB l otherS nine = true → putB (putL l otherS nine) k v = true → putL (putL l k v) otherS nine = putL (putL l otherS nine) k v) := hide (fun q1 q2 q3 => by
      have hR := (mapB_all.1 (putB_iff.1 hb).1).2.2
      rw [putL_yes q1, putL_yes q3, putL_yes q2, putL_yes hb]
      exact set_swap hR v nine HKO.out)
    go_wp2_with fail
    refine (sameMap_any AN AT (putL l k v) (putL l k v) capN capT w3 _ _ hpm hpm N_3.out.pin T_3.out.pin).mono ?_
    rintro e w4 ⟨rfl, q4⟩
    have b4 := q4.below w3.heap.size
    have B4 := hide (B3.out.trans (b4.mono B3.out.size))
    have M_4 := hide (M_3.out.below b4)
    have N_4 := hide (N_3.out.below b4)
    have T_4 := hide (T_3.out.below b4)
    clear b4 q4 B3 M_3 N_3 T_3
    go_wp2_with fail
    refine (implPut_any AN (putL l k v) capN otherS nine w4 hpm hcN N_4.out.pin hos hns).mono ?_
    rintro e w5 ⟨AA1, capA1, hcA1, rfl, own5, b5⟩
    have B5 := hide (B4.out.trans (b5.mono B4.out.size))
    have M_5 := hide (M_4.out.below b5)
    have N_5 := hide (N_4.out.below b5)
    have T_5 := hide (T_4.out.below b5)
    have A1_5 := hide own5
    clear b5 own5 B4 M_4 N_4 T_4
    go_wp2_with fail
    refine (implPut_any AM l capM otherS nine w5 hlm hcM M_5.out.pin hos hns).mono ?_
    rintro e w6 ⟨AX, capX, hcX, rfl, own6, b6⟩
    have B6 := hide (B5.out.trans (b6.mono B5.out.size))
    have M_6 := hide (M_5.out.below b6)
    have N_6 := hide (N_5.out.below b6)
    have T_6 := hide (T_5.out.below b6)
    have A1_6 := hide (A1_5.out.below b6)
    have X_6 := hide own6
    clear b6 own6 B5 M_5 N_5 T_5 A1_5
    go_wp2_with fail
    refine (implPut_any AX (putL l otherS nine) capX k v w6 hxm hcX X_6.out.pin hks hvs).mono ?_
    rintro e w7 ⟨AB2, capB2, hcB2, rfl, own7, b7⟩
    have B7 := hide (B6.out.trans (b7.mono B6.out.size))
    have M_7 := hide (M_6.out.below b7)
    have N_7 := hide (N_6.out.below b7)
    have T_7 := hide (T_6.out.below b7)
    have A1_7 := hide (A1_6.out.below b7)
    have X_7 := hide (X_6.out.below b7)
    have B2_7 := hide own7
    clear b7 own7 B6 M_6 N_6 T_6 A1_6 X_6
    cases q1 : putB (putL l k v) otherS nine
    · go_wp2
      go_ret
      exact ⟨rfl, B7.out⟩
    · cases q2 : putB l otherS nine
      · go_wp2
        go_ret
        exact ⟨rfl, B7.out⟩
      · cases q3 : putB (putL l otherS nine) k v
        · go_wp2
          go_ret
          exact ⟨rfl, B7.out⟩
        · have es2 : eqL (putL (putL l k v) otherS nine) (putL (putL l otherS nine) k v) = true := eqL_yes (HS.out q1 q2 q3)
          go_wp2_with fail
          refine (sameMap_any AA1 AB2 (putL (putL l k v) otherS nine) (putL (putL l otherS nine) k v) capA1 capB2 w7 _ _ ham hbm A1_7.out.pin B2_7.out.pin).mono ?_
          rintro e w8 ⟨rfl, q8⟩
          have b8 := q8.below w7.heap.size
          have B8 := hide (B7.out.trans (b8.mono B7.out.size))
          have M_8 := hide (M_7.out.below b8)
          have N_8 := hide (N_7.out.below b8)
          have T_8 := hide (T_7.out.below b8)
          have A1_8 := hide (A1_7.out.below b8)
          have X_8 := hide (X_7.out.below b8)
          have B2_8 := hide (B2_7.out.below b8)
          clear b8 q8 B7 M_7 N_7 T_7 A1_7 X_7 B2_7
          go_wp2
          go_ret
          exact ⟨rfl, B8.out⟩

set_option maxRecDepth 100000 in
theorem lifted (os : Os) (started : os.Started) (H : Type) (enc : TypeId × Value → H) :
    ReturnsInHanded {} Try.checked os 5 .any (Rows.fnAnyOrderSpec.pre6 enc Try.prog Try.f5 Rows.fnAnyOrderRow.domain false) (Rows.fnAnyOrderSpec.post enc Try.prog Try.f5 false true false false) := by
  refine returnsInHanded_of_change (C := Try.checked) own started (by kernel_rfl) Try.func5
    (ChangeSpec.witness6 (enc := enc) (C := Try.checked) false ⟨#[], #[.slice none 0 0], []⟩ 8 (by kernel_rfl) (by kernel_rfl) (by kernel_rfl) (by kernel_rfl)) ?_
  intro W base args ds gs before hval0 hW hcnd _
  have hval : ∀ (j : Nat) t v, Try.f5.params[j]? = some t → args[j]? = some v → Value.okWide Try.prog W .any base t v := hval0
  have hW' := hW
  obtain ⟨p, q, hA0, hV, rfl, hfz, hnd⟩ := hW
  have hA : DataW.TrodAll enc Try.prog W 0 (fun _ => true) true Try.f5.params.toList args.toList ds p := hA0
  rw [Try.params5] at hA hval
  obtain ⟨v0, vs0, d0, ds0, p0, q0, hargs, rfl, rfl, h0, r0⟩ := trodAll_cons hA
  obtain ⟨rfl, rfl, rfl⟩ := trodAll_nil r0
  obtain rfl : args = #[v0] := by cases args; simp_all
  obtain ⟨rfl, rfl⟩ := trodVars_none hV
  obtain ⟨A0, n0, cap0, rfl⟩ := okWide_slice Try.underlying22 (hval 0 22 v0 rfl rfl)
  have lt0 : ∀ x ∈ p0, x.block < W.heap.size := by obtain ⟨m, hm⟩ := h0; exact DataW.trod_lt m _ _ _ hm
  obtain ⟨l0, rfl, hl0, hin0⟩ := open_code h0
  clear hA0 hval0
  refine (walk A0 n0 cap0 W hl0 hin0).mono fun e W' ⟨he, bel⟩ => ?_
  subst he
  exact ⟨_, rfl, _, _, _, [], _, [], hW', trodAll_mk1 (shut_bool Try.underlying4 _), (trodAll_cons_mk (Below.trod laidOut (by kernel_rfl) (of_decide_eq_true (by kernel_rfl)) h0 bel lt0) trodAll_mk0), rfl, bel.frame _, fun h => by cases h⟩

theorem over : Rows.fnAnyOrderRow.holds Try.pinned (OpenSpec.ofChange Rows.fnAnyOrderSpec) :=
  OpenClaim.holds_of_wide 5 Try.f5 rfl rfl rfl rfl rfl rfl rfl ⟨rfl, rfl, rfl, rfl, rfl⟩ rfl rfl rfl rfl rfl (by kernel_rfl) Try.func5 (by kernel_rfl)
    (of_decide_eq_true (by kernel_rfl)) (by unfold Func.isWrapper; first | (rw [if_pos (by decide +kernel)]; kernel_rfl) | (rw [if_neg (by decide +kernel)]; exact ⟨rfl, rfl⟩))
    (fun os started H enc _ => lifted os started H enc)

end Go.Proofs.Ytfeaooiehfcaaaa.LAnyOrder
namespace Go.Proofs.Ytfeaooiehfcaaaa
theorem fnAnyOrder_proved : Rows.FnAnyOrderSaid := LAnyOrder.over
end Go.Proofs.Ytfeaooiehfcaaaa
