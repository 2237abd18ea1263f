/-
  For every code, laws.FnPutOver returns true: of two values that are put the second one stays. No conditions.
-/
import Derived.Test.YtfeaooiehfcaaaaPSame
import Derived.Test.YtfeaooiehfcaaaaPAlg
import Derived.Test.YtfeaooiehfcaaaaLCode
namespace Go.Proofs.Ytfeaooiehfcaaaa.LPutOver
open Go.RowKit Go.ChangeShapes Go.WideShapes Go.ChangeAt
open Go.ChangeMaps (open_string shut_string)

/-- the text first -/
abbrev first : ByteArray := ⟨#[102, 105, 114, 115, 116]⟩
theorem first_val : valB first = true := by
  refine okB_yes (by decide) (by decide) ?_
  intro j hj _
  have hj : j < 5 := hj
  match j, hj with
  | 0, _ => exact (by decide : plainC 102 = true)
  | 1, _ => exact (by decide : plainC 105 = true)
  | 2, _ => exact (by decide : plainC 114 = true)
  | 3, _ => exact (by decide : plainC 115 = true)
  | 4, _ => exact (by decide : plainC 116 = true)

set_option maxRecDepth 100000 in
set_option maxHeartbeats 2000000 in
theorem walk (A : Option Addr) (n : Nat) (cap : Nat) (w : World) (hl : n ≤ maxLen) (hin : CIn w w.heap.size A n) :
    Calls Try.prog 10 #[.slice A n cap] w fun e w' => e = .returned (.bool true) ∧ Below w.heap.size w w' := by
  by_cases hbig : 1048576 < n
  · have d : decide (1048576 < n) = true := decide_eq_true hbig
    go_enter Try.func10, Try.ntmps10
    go_wp2_with (go_at_call 18; refine (big_any A n cap _ hl).mono ?_; rintro e w' ⟨rfl, rfl⟩)
    go_ret
    exact ⟨rfl, Below.refl _ _⟩
  have hn : n ≤ 1048576 := by omega
  have d : decide (1048576 < n) = false := decide_eq_false hbig
  have IN := hide hin
  have B0 : Hid (Below w.heap.size w w) := hide (Below.refl _ _)
  clear hin
  go_enter Try.func10, Try.ntmps10
  go_wp2_with fail
  refine (big_any A n cap w hl).mono ?_
  rintro e w' ⟨rfl, rfl⟩
  go_wp2_with fail
  refine (drawPut_any A n cap w hn IN.out).mono ?_
  rintro e w1 ⟨AM, capM, l, k, v, hcM, hl40, hk, hv, rfl, own1, b1⟩
  have B1 := hide (B0.out.trans (b1.mono B0.out.size))
  have M_1 := hide own1
  clear b1 own1 B0
  have hks : k.size ≤ maxLen := by unfold maxLen; omega
  have hvs : v.size ≤ maxLen := by unfold maxLen; omega
  have hlm : l.length ≤ maxLen := by unfold maxLen; omega
  have hpl := putL_len l k v
  have hpm : (putL l k v).length ≤ maxLen := by unfold maxLen; omega
  have es := eqL_self (putL l k v)
  go_wp2_with fail
  refine (implPut_any AM l capM k v w1 hlm hcM M_1.out.pin hks hvs).mono ?_
  rintro e w2 ⟨AN, capN, hcN, rfl, own2, b2⟩
  have B2 := hide (B1.out.trans (b2.mono B1.out.size))
  have M_2 := hide (M_1.out.below b2)
  have N_2 := hide own2
  clear b2 own2 B1 M_1
  go_wp2_with fail
  refine (specPut_any AM l capM k v w2 hlm hcM M_2.out.pin hks hvs).mono ?_
  rintro e w3 ⟨AT, capT, hcT, rfl, own3, b3⟩
  have B3 := hide (B2.out.trans (b3.mono B2.out.size))
  have M_3 := hide (M_2.out.below b3)
  have N_3 := hide (N_2.out.below b3)
  have T_3 := hide own3
  clear b3 own3 B2 M_2 N_2
  cases hb : putB l k v
  · have ee : (false != false) = false := rfl
    go_wp2_with fail
    refine (sameMap_any AN AT (putL l k v) (putL l k v) capN capT w3 _ _ hpm hpm N_3.out.pin T_3.out.pin).mono ?_
    rintro e w4 ⟨rfl, q4⟩
    have b4 := q4.below w3.heap.size
    have B4 := hide (B3.out.trans (b4.mono B3.out.size))
    have M_4 := hide (M_3.out.below b4)
    have N_4 := hide (N_3.out.below b4)
    have T_4 := hide (T_3.out.below b4)
    clear b4 q4 B3 M_3 N_3 T_3
    go_wp2_with fail
    refine (sameMap_any AN AT (putL l k v) (putL l k v) capN capT w4 _ _ hpm hpm N_4.out.pin T_4.out.pin).mono ?_
    rintro e w5 ⟨rfl, q5⟩
    have b5 := q5.below w4.heap.size
    have B5 := hide (B4.out.trans (b5.mono B4.out.size))
    have M_5 := hide (M_4.out.below b5)
    have N_5 := hide (N_4.out.below b5)
    have T_5 := hide (T_4.out.below b5)
    clear b5 q5 B4 M_4 N_4 T_4
    go_wp2
    go_ret
    exact ⟨rfl, B5.out⟩
  · obtain ⟨p1, p2, p3, p4⟩ := putB_iff.1 hb
    have hR := (mapB_all.1 p1).2.2
    have h1 : putB l k first = true := putB_iff.2 ⟨p1, p2, first_val, p4⟩
    have hx : putL l k first = setL l k first := putL_yes h1
    have hn2 : putL l k v = setL l k v := putL_yes hb
    have h2 : putB (putL l k first) k v = true := by rw [hx]; exact putB_iff.2 ⟨mapB_set p1 p2 first_val p4, p2, p3, .inl ((has_set hR k first k).2 (.inl rfl))⟩
    have hy : putL (putL l k first) k v = putL l k v := by rw [putL_yes h2, hx, hn2]; exact set_set hR k v first
    have HY := hide hy
    have hxl := putL_len l k first
    have hxm : (putL l k first).length ≤ maxLen := by unfold maxLen; omega
    have hfs : first.size ≤ maxLen := by unfold maxLen; decide
    clear hx hn2 hy hR p1 p2 p3 p4
    go_wp2_with fail
    refine (sameMap_any AN AT (putL l k v) (putL l k v) capN capT w3 _ _ hpm hpm N_3.out.pin T_3.out.pin).mono ?_
    rintro e w4 ⟨rfl, q4⟩
    have b4 := q4.below w3.heap.size
    have B4 := hide (B3.out.trans (b4.mono B3.out.size))
    have M_4 := hide (M_3.out.below b4)
    have N_4 := hide (N_3.out.below b4)
    have T_4 := hide (T_3.out.below b4)
    clear b4 q4 B3 M_3 N_3 T_3
    go_wp2_with fail
    refine (implPut_any AM l capM k first w4 hlm hcM M_4.out.pin hks hfs).mono ?_
    rintro e w5 ⟨AX, capX, hcX, rfl, own5, b5⟩
    have B5 := hide (B4.out.trans (b5.mono B4.out.size))
    have M_5 := hide (M_4.out.below b5)
    have N_5 := hide (N_4.out.below b5)
    have T_5 := hide (T_4.out.below b5)
    have X_5 := hide own5
    clear b5 own5 B4 M_4 N_4 T_4
    go_wp2_with fail
    refine (implPut_any AX (putL l k first) capX k v w5 hxm hcX X_5.out.pin hks hvs).mono ?_
    rintro e w6 ⟨AY, capY, hcY, rfl, own6, b6⟩
    have B6 := hide (B5.out.trans (b6.mono B5.out.size))
    have M_6 := hide (M_5.out.below b6)
    have N_6 := hide (N_5.out.below b6)
    have T_6 := hide (T_5.out.below b6)
    have X_6 := hide (X_5.out.below b6)
    have Y_6 := hide own6
    clear b6 own6 B5 M_5 N_5 T_5 X_5
    have es2 : eqL (putL (putL l k first) k v) (putL l k v) = true := by rw [HY.out]; exact es
    have hym : (putL (putL l k first) k v).length ≤ maxLen := by rw [HY.out]; exact hpm
    go_wp2_with fail
    refine (sameMap_any AY AN (putL (putL l k first) k v) (putL l k v) capY capN w6 _ _ hym hpm Y_6.out.pin N_6.out.pin).mono ?_
    rintro e w7 ⟨rfl, q7⟩
    have b7 := q7.below w6.heap.size
    have B7 := hide (B6.out.trans (b7.mono B6.out.size))
    have M_7 := hide (M_6.out.below b7)
    have N_7 := hide (N_6.out.below b7)
    have T_7 := hide (T_6.out.below b7)
    have X_7 := hide (X_6.out.below b7)
    have Y_7 := hide (Y_6.out.below b7)
    clear b7 q7 B6 M_6 N_6 T_6 X_6 Y_6
    go_wp2
    go_ret
    exact ⟨rfl, B7.out⟩

set_option maxRecDepth 100000 in
theorem lifted (os : Os) (started : os.Started) (H : Type) (enc : TypeId × Value → H) :
    ReturnsInHanded {} Try.checked os 10 .any (Rows.fnPutOverSpec.pre6 enc Try.prog Try.f10 Rows.fnPutOverRow.domain false) (Rows.fnPutOverSpec.post enc Try.prog Try.f10 false true false false) := by
  refine returnsInHanded_of_change (C := Try.checked) own started (by kernel_rfl) Try.func10
    (ChangeSpec.witness6 (enc := enc) (C := Try.checked) false ⟨#[], #[.slice none 0 0], []⟩ 8 (by kernel_rfl) (by kernel_rfl) (by kernel_rfl) (by kernel_rfl)) ?_
  intro W base args ds gs before hval0 hW hcnd _
  have hval : ∀ (j : Nat) t v, Try.f10.params[j]? = some t → args[j]? = some v → Value.okWide Try.prog W .any base t v := hval0
  have hW' := hW
  obtain ⟨p, q, hA0, hV, rfl, hfz, hnd⟩ := hW
  have hA : DataW.TrodAll enc Try.prog W 0 (fun _ => true) true Try.f10.params.toList args.toList ds p := hA0
  rw [Try.params10] at hA hval
  obtain ⟨v0, vs0, d0, ds0, p0, q0, hargs, rfl, rfl, h0, r0⟩ := trodAll_cons hA
  obtain ⟨rfl, rfl, rfl⟩ := trodAll_nil r0
  obtain rfl : args = #[v0] := by cases args; simp_all
  obtain ⟨rfl, rfl⟩ := trodVars_none hV
  obtain ⟨A0, n0, cap0, rfl⟩ := okWide_slice Try.underlying22 (hval 0 22 v0 rfl rfl)
  have lt0 : ∀ x ∈ p0, x.block < W.heap.size := by obtain ⟨m, hm⟩ := h0; exact DataW.trod_lt m _ _ _ hm
  obtain ⟨l0, rfl, hl0, hin0⟩ := open_code h0
  clear hA0 hval0
  refine (walk A0 n0 cap0 W hl0 hin0).mono fun e W' ⟨he, bel⟩ => ?_
  subst he
  exact ⟨_, rfl, _, _, _, [], _, [], hW', trodAll_mk1 (shut_bool Try.underlying4 _), (trodAll_cons_mk (Below.trod laidOut (by kernel_rfl) (of_decide_eq_true (by kernel_rfl)) h0 bel lt0) trodAll_mk0), rfl, bel.frame _, fun h => by cases h⟩

theorem over : Rows.fnPutOverRow.holds Try.pinned (OpenSpec.ofChange Rows.fnPutOverSpec) :=
  OpenClaim.holds_of_wide 10 Try.f10 rfl rfl rfl rfl rfl rfl rfl ⟨rfl, rfl, rfl, rfl, rfl⟩ rfl rfl rfl rfl rfl (by kernel_rfl) Try.func10 (by kernel_rfl)
    (of_decide_eq_true (by kernel_rfl)) (by unfold Func.isWrapper; first | (rw [if_pos (by decide +kernel)]; kernel_rfl) | (rw [if_neg (by decide +kernel)]; exact ⟨rfl, rfl⟩))
    (fun os started H enc _ => lifted os started H enc)

end Go.Proofs.Ytfeaooiehfcaaaa.LPutOver
namespace Go.Proofs.Ytfeaooiehfcaaaa
theorem fnPutOver_proved : Rows.FnPutOverSaid := LPutOver.over
end Go.Proofs.Ytfeaooiehfcaaaa
