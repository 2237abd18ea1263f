/-
  For every code, laws.FnPutDrop returns true: a key that is new, put in and dropped, leaves a map as it was. No conditions.
-/
import Derived.Test.YtfeaooiehfcaaaaPSame
import Derived.Test.YtfeaooiehfcaaaaPAlg
import Derived.Test.YtfeaooiehfcaaaaLCode
namespace Go.Proofs.Ytfeaooiehfcaaaa.LPutDrop
open Go.RowKit Go.ChangeShapes Go.WideShapes Go.ChangeAt
open Go.ChangeMaps (open_string shut_string)

set_option maxRecDepth 100000 in
set_option maxHeartbeats 2000000 in
theorem walk (A : Option Addr) (n : Nat) (cap : Nat) (w : World) (hl : n ≤ maxLen) (hin : CIn w w.heap.size A n) :
    Calls Try.prog 7 #[.slice A n cap] w fun e w' => e = .returned (.bool true) ∧ Below w.heap.size w w' := by
  by_cases hbig : 1048576 < n
  · have d : decide (1048576 < n) = true := decide_eq_true hbig
    go_enter Try.func7, Try.ntmps7
    go_wp2_with (go_at_call 18; refine (big_any A n cap _ hl).mono ?_; rintro e w' ⟨rfl, rfl⟩)
    go_ret
    exact ⟨rfl, Below.refl _ _⟩
  have hn : n ≤ 1048576 := by omega
  have d : decide (1048576 < n) = false := decide_eq_false hbig
  have IN := hide hin
  have B0 : Hid (Below w.heap.size w w) := hide (Below.refl _ _)
  clear hin
  go_enter Try.func7, Try.ntmps7
  go_wp2_with fail
  refine (big_any A n cap w hl).mono ?_
  rintro e w' ⟨rfl, rfl⟩
  go_wp2_with fail
  refine (drawPut_any A n cap w hn IN.out).mono ?_
  rintro e w1 ⟨AM, capM, l, k, v, hcM, hl40, hk, hv, rfl, own1, b1⟩
  have B1 := hide (B0.out.trans (b1.mono B0.out.size))
  have M_1 := hide own1
  clear b1 own1 B0
  have hks : k.size ≤ maxLen := by unfold maxLen; omega
  have hvs : v.size ≤ maxLen := by unfold maxLen; omega
  have hlm : l.length ≤ maxLen := by unfold maxLen; omega
  have hpl := putL_len l k v
  have hpm : (putL l k v).length ≤ maxLen := by unfold maxLen; omega
  have es := eqL_self (putL l k v)
  go_wp2_with fail
  refine (implPut_any AM l capM k v w1 hlm hcM M_1.out.pin hks hvs).mono ?_
  rintro e w2 ⟨AN, capN, hcN, rfl, own2, b2⟩
  have B2 := hide (B1.out.trans (b2.mono B1.out.size))
  have M_2 := hide (M_1.out.below b2)
  have N_2 := hide own2
  clear b2 own2 B1 M_1
  go_wp2_with fail
  refine (specPut_any AM l capM k v w2 hlm hcM M_2.out.pin hks hvs).mono ?_
  rintro e w3 ⟨AT, capT, hcT, rfl, own3, b3⟩
  have B3 := hide (B2.out.trans (b3.mono B2.out.size))
  have M_3 := hide (M_2.out.below b3)
  have N_3 := hide (N_2.out.below b3)
  have T_3 := hide own3
  clear b3 own3 B2 M_2 N_2
  go_wp2_with fail
  refine (implGet_any AM l capM k w3 hlm M_3.out.pin).mono ?_
  rintro e w4 ⟨rfl, b4⟩
  have B4 := hide (B3.out.trans (b4.mono B3.out.size))
  have M_4 := hide (M_3.out.below b4)
  have N_4 := hide (N_3.out.below b4)
  have T_4 := hide (T_3.out.below b4)
  clear b4 B3 M_3 N_3 T_3
  cases hb : putB l k v
  · go_wp2_with fail
    refine (sameMap_any AN AT (putL l k v) (putL l k v) capN capT w4 _ _ hpm hpm N_4.out.pin T_4.out.pin).mono ?_
    rintro e w5 ⟨rfl, q5⟩
    have b5 := q5.below w4.heap.size
    have B5 := hide (B4.out.trans (b5.mono B4.out.size))
    have M_5 := hide (M_4.out.below b5)
    have N_5 := hide (N_4.out.below b5)
    have T_5 := hide (T_4.out.below b5)
    clear b5 q5 B4 M_4 N_4 T_4
    go_wp2_with fail
    refine (sameMap_any AN AT (putL l k v) (putL l k v) capN capT w5 _ _ hpm hpm N_5.out.pin T_5.out.pin).mono ?_
    rintro e w6 ⟨rfl, q6⟩
    have b6 := q6.below w5.heap.size
    have B6 := hide (B5.out.trans (b6.mono B5.out.size))
    have M_6 := hide (M_5.out.below b6)
    have N_6 := hide (N_5.out.below b6)
    have T_6 := hide (T_5.out.below b6)
    clear b6 q6 B5 M_5 N_5 T_5
    go_wp2
    go_ret
    exact ⟨rfl, B6.out⟩
  · cases hg : getB l k
    · obtain ⟨p1, p2, p3, p4⟩ := putB_iff.1 hb
      have hR := (mapB_all.1 p1).2.2
      have hh : hasB l k = false := by rw [← getB_yes (k := k) p1]; exact hg
      have hn2 : putL l k v = setL l k v := putL_yes hb
      have hg2 : getB (putL l k v) k = true := by rw [hn2, getB_yes (mapB_set p1 p2 p3 p4)]; exact (has_set hR k v k).2 (.inl rfl)
      have hd : dropL (putL l k v) k = l := by rw [dropL_yes hg2, hn2]; exact erase_set hR v hh
      have HD := hide hd
      clear hd hn2 hh hR p1 p2 p3 p4
      go_wp2_with fail
      refine (sameMap_any AN AT (putL l k v) (putL l k v) capN capT w4 _ _ hpm hpm N_4.out.pin T_4.out.pin).mono ?_
      rintro e w5 ⟨rfl, q5⟩
      have b5 := q5.below w4.heap.size
      have B5 := hide (B4.out.trans (b5.mono B4.out.size))
      have M_5 := hide (M_4.out.below b5)
      have N_5 := hide (N_4.out.below b5)
      have T_5 := hide (T_4.out.below b5)
      clear b5 q5 B4 M_4 N_4 T_4
      go_wp2_with fail
      refine (implDrop_any AN (putL l k v) capN k w5 hpm hcN N_5.out.pin).mono ?_
      rintro e w6 ⟨AD, capD, hcD, rfl, own6, b6⟩
      have B6 := hide (B5.out.trans (b6.mono B5.out.size))
      have M_6 := hide (M_5.out.below b6)
      have N_6 := hide (N_5.out.below b6)
      have T_6 := hide (T_5.out.below b6)
      have D_6 := hide own6
      clear b6 own6 B5 M_5 N_5 T_5
      have es2 : eqL (dropL (putL l k v) k) l = true := by rw [HD.out]; exact eqL_self l
      have hdm : (dropL (putL l k v) k).length ≤ maxLen := by rw [HD.out]; exact hlm
      go_wp2_with fail
      refine (sameMap_any AD AM (dropL (putL l k v) k) (l) capD capM w6 _ _ hdm hlm D_6.out.pin M_6.out.pin).mono ?_
      rintro e w7 ⟨rfl, q7⟩
      have b7 := q7.below w6.heap.size
      have B7 := hide (B6.out.trans (b7.mono B6.out.size))
      have M_7 := hide (M_6.out.below b7)
      have N_7 := hide (N_6.out.below b7)
      have T_7 := hide (T_6.out.below b7)
      have D_7 := hide (D_6.out.below b7)
      clear b7 q7 B6 M_6 N_6 T_6 D_6
      go_wp2
      go_ret
      exact ⟨rfl, B7.out⟩
    · go_wp2_with fail
      refine (sameMap_any AN AT (putL l k v) (putL l k v) capN capT w4 _ _ hpm hpm N_4.out.pin T_4.out.pin).mono ?_
      rintro e w5 ⟨rfl, q5⟩
      have b5 := q5.below w4.heap.size
      have B5 := hide (B4.out.trans (b5.mono B4.out.size))
      have M_5 := hide (M_4.out.below b5)
      have N_5 := hide (N_4.out.below b5)
      have T_5 := hide (T_4.out.below b5)
      clear b5 q5 B4 M_4 N_4 T_4
      go_wp2_with fail
      refine (sameMap_any AN AT (putL l k v) (putL l k v) capN capT w5 _ _ hpm hpm N_5.out.pin T_5.out.pin).mono ?_
      rintro e w6 ⟨rfl, q6⟩
      have b6 := q6.below w5.heap.size
      have B6 := hide (B5.out.trans (b6.mono B5.out.size))
      have M_6 := hide (M_5.out.below b6)
      have N_6 := hide (N_5.out.below b6)
      have T_6 := hide (T_5.out.below b6)
      clear b6 q6 B5 M_5 N_5 T_5
      go_wp2
      go_ret
      exact ⟨rfl, B6.out⟩

set_option maxRecDepth 100000 in
theorem lifted (os : Os) (started : os.Started) (H : Type) (enc : TypeId × Value → H) :
    ReturnsInHanded {} Try.checked os 7 .any (Rows.fnPutDropSpec.pre6 enc Try.prog Try.f7 Rows.fnPutDropRow.domain false) (Rows.fnPutDropSpec.post enc Try.prog Try.f7 false true false false) := by
  refine returnsInHanded_of_change (C := Try.checked) own started (by kernel_rfl) Try.func7
    (ChangeSpec.witness6 (enc := enc) (C := Try.checked) false ⟨#[], #[.slice none 0 0], []⟩ 8 (by kernel_rfl) (by kernel_rfl) (by kernel_rfl) (by kernel_rfl)) ?_
  intro W base args ds gs before hval0 hW hcnd _
  have hval : ∀ (j : Nat) t v, Try.f7.params[j]? = some t → args[j]? = some v → Value.okWide Try.prog W .any base t v := hval0
  have hW' := hW
  obtain ⟨p, q, hA0, hV, rfl, hfz, hnd⟩ := hW
  have hA : DataW.TrodAll enc Try.prog W 0 (fun _ => true) true Try.f7.params.toList args.toList ds p := hA0
  rw [Try.params7] at hA hval
  obtain ⟨v0, vs0, d0, ds0, p0, q0, hargs, rfl, rfl, h0, r0⟩ := trodAll_cons hA
  obtain ⟨rfl, rfl, rfl⟩ := trodAll_nil r0
  obtain rfl : args = #[v0] := by cases args; simp_all
  obtain ⟨rfl, rfl⟩ := trodVars_none hV
  obtain ⟨A0, n0, cap0, rfl⟩ := okWide_slice Try.underlying22 (hval 0 22 v0 rfl rfl)
  have lt0 : ∀ x ∈ p0, x.block < W.heap.size := by obtain ⟨m, hm⟩ := h0; exact DataW.trod_lt m _ _ _ hm
  obtain ⟨l0, rfl, hl0, hin0⟩ := open_code h0
  clear hA0 hval0
  refine (walk A0 n0 cap0 W hl0 hin0).mono fun e W' ⟨he, bel⟩ => ?_
  subst he
  exact ⟨_, rfl, _, _, _, [], _, [], hW', trodAll_mk1 (shut_bool Try.underlying4 _), (trodAll_cons_mk (Below.trod laidOut (by kernel_rfl) (of_decide_eq_true (by kernel_rfl)) h0 bel lt0) trodAll_mk0), rfl, bel.frame _, fun h => by cases h⟩

theorem over : Rows.fnPutDropRow.holds Try.pinned (OpenSpec.ofChange Rows.fnPutDropSpec) :=
  OpenClaim.holds_of_wide 7 Try.f7 rfl rfl rfl rfl rfl rfl rfl ⟨rfl, rfl, rfl, rfl, rfl⟩ rfl rfl rfl rfl rfl (by kernel_rfl) Try.func7 (by kernel_rfl)
    (of_decide_eq_true (by kernel_rfl)) (by unfold Func.isWrapper; first | (rw [if_pos (by decide +kernel)]; kernel_rfl) | (rw [if_neg (by decide +kernel)]; exact ⟨rfl, rfl⟩))
    (fun os started H enc _ => lifted os started H enc)

end Go.Proofs.Ytfeaooiehfcaaaa.LPutDrop
namespace Go.Proofs.Ytfeaooiehfcaaaa
theorem fnPutDrop_proved : Rows.FnPutDropSaid := LPutDrop.over
end Go.Proofs.Ytfeaooiehfcaaaa
