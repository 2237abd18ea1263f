/-
  For every code, laws.FnDrop returns true: what is dropped is not there, all else is as it was, and put in again all is as it was. No conditions.
-/
import Derived.Test.YtfeaooiehfcaaaaPSame
import Derived.Test.YtfeaooiehfcaaaaPAlg
import Derived.Test.YtfeaooiehfcaaaaLCode
namespace Go.Proofs.Ytfeaooiehfcaaaa.LDrop
open Go.RowKit Go.ChangeShapes Go.WideShapes Go.ChangeAt
open Go.ChangeMaps (open_string shut_string)

set_option maxRecDepth 100000 in
set_option maxHeartbeats 2000000 in
theorem walk (A : Option Addr) (n : Nat) (cap : Nat) (w : World) (hl : n ≤ maxLen) (hin : CIn w w.heap.size A n) :
    Calls Try.prog 4 #[.slice A n cap] w fun e w' => e = .returned (.bool true) ∧ Below w.heap.size w w' := by
  by_cases hbig : 1048576 < n
  · have d : decide (1048576 < n) = true := decide_eq_true hbig
    go_enter Try.func4, Try.ntmps4
    go_wp2_with (go_at_call 18; refine (big_any A n cap _ hl).mono ?_; rintro e w' ⟨rfl, rfl⟩)
    go_ret
    exact ⟨rfl, Below.refl _ _⟩
  have hn : n ≤ 1048576 := by omega
  have d : decide (1048576 < n) = false := decide_eq_false hbig
  have IN := hide hin
  have B0 : Hid (Below w.heap.size w w) := hide (Below.refl _ _)
  clear hin
  go_enter Try.func4, Try.ntmps4
  go_wp2_with fail
  refine (big_any A n cap w hl).mono ?_
  rintro e w' ⟨rfl, rfl⟩
  go_wp2_with fail
  refine (drawDrop_any A n cap w hn IN.out).mono ?_
  rintro e w1 ⟨AM, capM, l, k, hcM, hl40, hk, rfl, own1, b1⟩
  have B1 := hide (B0.out.trans (b1.mono B0.out.size))
  have M_1 := hide own1
  clear b1 own1 B0
  have hks : k.size ≤ maxLen := by unfold maxLen; omega
  have hlm : l.length ≤ maxLen := by unfold maxLen; omega
  have hpl := dropL_len l k
  have hpm : (dropL l k).length ≤ maxLen := by unfold maxLen; omega
  have es := eqL_self (dropL l k)
  go_wp2_with fail
  refine (implDrop_any AM l capM k w1 hlm hcM M_1.out.pin).mono ?_
  rintro e w2 ⟨AN, capN, hcN, rfl, own2, b2⟩
  have B2 := hide (B1.out.trans (b2.mono B1.out.size))
  have M_2 := hide (M_1.out.below b2)
  have N_2 := hide own2
  clear b2 own2 B1 M_1
  go_wp2_with fail
  refine (specDrop_any AM l capM k w2 hlm hcM M_2.out.pin).mono ?_
  rintro e w3 ⟨AT, capT, hcT, rfl, own3, b3⟩
  have B3 := hide (B2.out.trans (b3.mono B2.out.size))
  have M_3 := hide (M_2.out.below b3)
  have N_3 := hide (N_2.out.below b3)
  have T_3 := hide own3
  clear b3 own3 B2 M_2 N_2
  cases hb : getB l k
  · go_wp2_with fail
    refine (sameMap_any AN AT (dropL l k) (dropL l k) capN capT w3 _ _ hpm hpm N_3.out.pin T_3.out.pin).mono ?_
    rintro e w4 ⟨rfl, q4⟩
    have b4 := q4.below w3.heap.size
    have B4 := hide (B3.out.trans (b4.mono B3.out.size))
    have M_4 := hide (M_3.out.below b4)
    have N_4 := hide (N_3.out.below b4)
    have T_4 := hide (T_3.out.below b4)
    clear b4 q4 B3 M_3 N_3 T_3
    go_wp2_with fail
    refine (sameMap_any AN AT (dropL l k) (dropL l k) capN capT w4 _ _ hpm hpm N_4.out.pin T_4.out.pin).mono ?_
    rintro e w5 ⟨rfl, q5⟩
    have b5 := q5.below w4.heap.size
    have B5 := hide (B4.out.trans (b5.mono B4.out.size))
    have M_5 := hide (M_4.out.below b5)
    have N_5 := hide (N_4.out.below b5)
    have T_5 := hide (T_4.out.below b5)
    clear b5 q5 B4 M_4 N_4 T_4
    go_wp2
    go_ret
    exact ⟨rfl, B5.out⟩
  · have hm : mapB l = true := by
      cases e : mapB l
      · rw [getB_no e] at hb; cases hb
      · rfl
    have hR := (mapB_all.1 hm).2.2
    have hh : hasB l k = true := by rw [← getB_yes (k := k) hm]; exact hb
    have hd : dropL l k = l.eraseIdx (atN l k) := dropL_yes hb
    have hdm : mapB (dropL l k) = true := by rw [hd]; exact mapB_erase hm _
    have hno : hasB (dropL l k) k = false := by
      cases e : hasB (dropL l k) k
      · rfl
      · rw [hd] at e; exact absurd rfl ((has_erase hR hh k).1 e).1
    have hg2 : getB (dropL l k) k = false := by rw [getB_yes hdm]; exact hno
    obtain ⟨vv, hvv⟩ := (has_iff hR k).1 hh
    have hv1 : getV l k = vv := by rw [getV_yes hm]; exact val_of hR hvv
    have hvok := (mapB_all.1 hm).2.1 _ hvv
    have hlt : atN l k < l.length := (hasB_iff.1 hh).1
    have hlen : (dropL l k).length = l.length - 1 := by rw [hd, List.length_eraseIdx, if_pos hlt]
    have hb2 : putB (dropL l k) k (getV l k) = true := by rw [hv1]; exact putB_iff.2 ⟨hdm, hvok.1, hvok.2, .inr (by omega)⟩
    have hback : putL (dropL l k) k (getV l k) = l := by rw [putL_yes hb2, getV_yes hm, hd]; exact set_erase hR hh
    have HB := hide hback
    have hgs : (getV l k).size ≤ maxLen := by
      have h12 := (okB_iff.1 hvok.2).2.1
      rw [hv1]; unfold maxLen; simp only at h12; omega
    have hlen2 : (((dropL l k).length : Int) == (l.length : Int) - 1) = true := by rw [beq_iff_eq]; omega
    clear hback hv1 hvok hvv hd hno hR hlen
    go_wp2_with fail
    refine (sameMap_any AN AT (dropL l k) (dropL l k) capN capT w3 _ _ hpm hpm N_3.out.pin T_3.out.pin).mono ?_
    rintro e w4 ⟨rfl, q4⟩
    have b4 := q4.below w3.heap.size
    have B4 := hide (B3.out.trans (b4.mono B3.out.size))
    have M_4 := hide (M_3.out.below b4)
    have N_4 := hide (N_3.out.below b4)
    have T_4 := hide (T_3.out.below b4)
    clear b4 q4 B3 M_3 N_3 T_3
    go_wp2_with fail
    refine (implGet_any AM l capM k w4 hlm M_4.out.pin).mono ?_
    rintro e w5 ⟨rfl, b5⟩
    have B5 := hide (B4.out.trans (b5.mono B4.out.size))
    have M_5 := hide (M_4.out.below b5)
    have N_5 := hide (N_4.out.below b5)
    have T_5 := hide (T_4.out.below b5)
    clear b5 B4 M_4 N_4 T_4
    go_wp2_with fail
    refine (implGet_any AN (dropL l k) capN k w5 hpm N_5.out.pin).mono ?_
    rintro e w6 ⟨rfl, b6⟩
    have B6 := hide (B5.out.trans (b6.mono B5.out.size))
    have M_6 := hide (M_5.out.below b6)
    have N_6 := hide (N_5.out.below b6)
    have T_6 := hide (T_5.out.below b6)
    clear b6 B5 M_5 N_5 T_5
    go_wp2_with fail
    refine (implPut_any AN (dropL l k) capN k (getV l k) w6 hpm hcN N_6.out.pin hks hgs).mono ?_
    rintro e w7 ⟨AK, capK, hcK, rfl, own7, b7⟩
    have B7 := hide (B6.out.trans (b7.mono B6.out.size))
    have M_7 := hide (M_6.out.below b7)
    have N_7 := hide (N_6.out.below b7)
    have T_7 := hide (T_6.out.below b7)
    have K_7 := hide own7
    clear b7 own7 B6 M_6 N_6 T_6
    go_wp2_with fail
    refine (implMapOk_any AN (dropL l k) capN w7 hpm N_7.out.pin).mono ?_
    rintro e w8 ⟨rfl, b8⟩
    have B8 := hide (B7.out.trans (b8.mono B7.out.size))
    have M_8 := hide (M_7.out.below b8)
    have N_8 := hide (N_7.out.below b8)
    have T_8 := hide (T_7.out.below b8)
    have K_8 := hide (K_7.out.below b8)
    clear b8 B7 M_7 N_7 T_7 K_7
    have es2 : eqL (putL (dropL l k) k (getV l k)) l = true := by rw [HB.out]; exact eqL_self l
    have hkm : (putL (dropL l k) k (getV l k)).length ≤ maxLen := by rw [HB.out]; exact hlm
    go_wp2_with fail
    refine (sameMap_any AK AM (putL (dropL l k) k (getV l k)) (l) capK capM w8 _ _ hkm hlm K_8.out.pin M_8.out.pin).mono ?_
    rintro e w9 ⟨rfl, q9⟩
    have b9 := q9.below w8.heap.size
    have B9 := hide (B8.out.trans (b9.mono B8.out.size))
    have M_9 := hide (M_8.out.below b9)
    have N_9 := hide (N_8.out.below b9)
    have T_9 := hide (T_8.out.below b9)
    have K_9 := hide (K_8.out.below b9)
    clear b9 q9 B8 M_8 N_8 T_8 K_8
    go_wp2
    go_ret
    exact ⟨rfl, B9.out⟩

set_option maxRecDepth 100000 in
theorem lifted (os : Os) (started : os.Started) (H : Type) (enc : TypeId × Value → H) :
    ReturnsInHanded {} Try.checked os 4 .any (Rows.fnDropSpec.pre6 enc Try.prog Try.f4 Rows.fnDropRow.domain false) (Rows.fnDropSpec.post enc Try.prog Try.f4 false true false false) := by
  refine returnsInHanded_of_change (C := Try.checked) own started (by kernel_rfl) Try.func4
    (ChangeSpec.witness6 (enc := enc) (C := Try.checked) false ⟨#[], #[.slice none 0 0], []⟩ 8 (by kernel_rfl) (by kernel_rfl) (by kernel_rfl) (by kernel_rfl)) ?_
  intro W base args ds gs before hval0 hW hcnd _
  have hval : ∀ (j : Nat) t v, Try.f4.params[j]? = some t → args[j]? = some v → Value.okWide Try.prog W .any base t v := hval0
  have hW' := hW
  obtain ⟨p, q, hA0, hV, rfl, hfz, hnd⟩ := hW
  have hA : DataW.TrodAll enc Try.prog W 0 (fun _ => true) true Try.f4.params.toList args.toList ds p := hA0
  rw [Try.params4] at hA hval
  obtain ⟨v0, vs0, d0, ds0, p0, q0, hargs, rfl, rfl, h0, r0⟩ := trodAll_cons hA
  obtain ⟨rfl, rfl, rfl⟩ := trodAll_nil r0
  obtain rfl : args = #[v0] := by cases args; simp_all
  obtain ⟨rfl, rfl⟩ := trodVars_none hV
  obtain ⟨A0, n0, cap0, rfl⟩ := okWide_slice Try.underlying22 (hval 0 22 v0 rfl rfl)
  have lt0 : ∀ x ∈ p0, x.block < W.heap.size := by obtain ⟨m, hm⟩ := h0; exact DataW.trod_lt m _ _ _ hm
  obtain ⟨l0, rfl, hl0, hin0⟩ := open_code h0
  clear hA0 hval0
  refine (walk A0 n0 cap0 W hl0 hin0).mono fun e W' ⟨he, bel⟩ => ?_
  subst he
  exact ⟨_, rfl, _, _, _, [], _, [], hW', trodAll_mk1 (shut_bool Try.underlying4 _), (trodAll_cons_mk (Below.trod laidOut (by kernel_rfl) (of_decide_eq_true (by kernel_rfl)) h0 bel lt0) trodAll_mk0), rfl, bel.frame _, fun h => by cases h⟩

theorem over : Rows.fnDropRow.holds Try.pinned (OpenSpec.ofChange Rows.fnDropSpec) :=
  OpenClaim.holds_of_wide 4 Try.f4 rfl rfl rfl rfl rfl rfl rfl ⟨rfl, rfl, rfl, rfl, rfl⟩ rfl rfl rfl rfl rfl (by kernel_rfl) Try.func4 (by kernel_rfl)
    (of_decide_eq_true (by kernel_rfl)) (by unfold Func.isWrapper; first | (rw [if_pos (by decide +kernel)]; kernel_rfl) | (rw [if_neg (by decide +kernel)]; exact ⟨rfl, rfl⟩))
    (fun os started H enc _ => lifted os started H enc)

end Go.Proofs.Ytfeaooiehfcaaaa.LDrop
namespace Go.Proofs.Ytfeaooiehfcaaaa
theorem fnDrop_proved : Rows.FnDropSaid := LDrop.over
end Go.Proofs.Ytfeaooiehfcaaaa
