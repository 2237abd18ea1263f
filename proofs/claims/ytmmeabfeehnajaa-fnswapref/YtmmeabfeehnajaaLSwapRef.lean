/-
  For every code, laws.FnSwapRef returns true: a ref is swapped just when it names what is told; of two that swap from the same one the second is refused, unless the first changed nothing. No conditions.
-/
import Derived.Test.YtmmeabfeehnajaaPSame
import Derived.Test.YtmmeabfeehnajaaRFrame
import Derived.Test.YtmmeabfeehnajaaRdCode
import Derived.Test.YtmmeabfeehnajaaRDraw
import Derived.Test.YtmmeabfeehnajaaRLawM
import Derived.Test.YtmmeabfeehnajaaRSetI
namespace Go.Proofs.Ytmmeabfeehnajaa.LSwapRef
open Go.RowKit Go.ChangeShapes Go.WideShapes Go.ChangeAt
open Go.ChangeMaps (open_string shut_string)

set_option maxRecDepth 100000 in
set_option maxHeartbeats 2000000 in
theorem walk (A : Option Addr) (n : Nat) (cap : Nat) (w : World) (hl : n ≤ maxLen) (hin : CIn w w.heap.size A n) :
    Calls Try.prog 5 #[.slice A n cap] w fun e w' => e = .returned (.bool true) ∧ Below w.heap.size w w' := by
  by_cases hbig : 1048576 < n
  · have d : decide (1048576 < n) = true := decide_eq_true hbig
    go_enter Try.func5, Try.ntmps5
    go_wp2_with (go_at_call 9; refine (big_any A n cap _ hl).mono ?_; rintro e w' ⟨rfl, rfl⟩)
    go_ret
    exact ⟨rfl, Below.refl _ _⟩
  have hn : n ≤ 1048576 := by omega
  have d : decide (1048576 < n) = false := decide_eq_false hbig
  have IN := hide hin
  have B0 : Hid (Below w.heap.size w w) := hide (Below.refl _ _)
  clear hin
  go_enter Try.func5, Try.ntmps5
  go_wp2_with fail
  refine (big_any A n cap w hl).mono ?_
  rintro e w' ⟨rfl, rfl⟩
  go_wp2_with fail
  refine (drawSwapRef_any A n cap w hn IN.out).mono ?_
  rintro e w1 ⟨AP, capP, l, k, o, v, hcP, hl3, hk, ho, hv, rfl, o1, b1⟩
  have B1 := hide (B0.out.trans (b1.mono B0.out.size))
  have P_1 := hide o1
  clear b1 o1 B0
  have hlmP : l.length ≤ maxLen := by unfold maxLen; omega
  have hks : k.size ≤ maxLen := by unfold maxLen; omega
  have hvs : v.size ≤ maxLen := by unfold maxLen; omega
  have hos : o.size ≤ maxLen := ho
  have hlnN := swL_len l k o v
  have hlmN : (swL l k o v).length ≤ maxLen := by unfold maxLen; omega
  have hlmT : (swL l k o v).length ≤ maxLen := hlmN
  have es := eqL_self (swL l k o v)
  have hne : (swB l k o v != swB l k o v) = false := by simp
  have heq : (swB l k o v == swB l k o v) = true := by simp
  go_wp2_with fail
  refine (implSwapRef_any AP (l) capP k o v w1 hlmP P_1.out.pin hks hvs).mono ?_
  rintro e w2 ⟨AN, capN, hcN, rfl, o2, b2⟩
  have B2 := hide (B1.out.trans (b2.mono B1.out.size))
  have P_2 := hide (P_1.out.below b2)
  have N_2 := hide o2
  clear b2 o2 B1 P_1
  go_wp2_with fail
  refine (specSwapRef_any AP (l) capP k o v w2 hlmP hcP P_2.out.pin hks hvs).mono ?_
  rintro e w3 ⟨AT, capT, hcT, rfl, o3, b3⟩
  have B3 := hide (B2.out.trans (b3.mono B2.out.size))
  have P_3 := hide (P_2.out.below b3)
  have N_3 := hide (N_2.out.below b3)
  have T_3 := hide o3
  clear b3 o3 B2 P_2 N_2
  cases hb : swB l k o v
  · go_wp2_with fail
    refine (sameMap_any AN AT (swL l k o v) (swL l k o v) capN capT w3 _ _ hlmN hlmT N_3.out.pin T_3.out.pin).mono ?_
    rintro e w4 ⟨rfl, q4⟩
    have b4 := q4.below w3.heap.size
    have B4 := hide (B3.out.trans (b4.mono B3.out.size))
    have P_4 := hide (P_3.out.below b4)
    have N_4 := hide (N_3.out.below b4)
    have T_4 := hide (T_3.out.below b4)
    clear b4 q4 B3 P_3 N_3 T_3
    go_wp2_with fail
    refine (sameMap_any AN AT (swL l k o v) (swL l k o v) capN capT w4 _ _ hlmN hlmT N_4.out.pin T_4.out.pin).mono ?_
    rintro e w5 ⟨rfl, q5⟩
    have b5 := q5.below w4.heap.size
    have B5 := hide (B4.out.trans (b5.mono B4.out.size))
    have P_5 := hide (P_4.out.below b5)
    have N_5 := hide (N_4.out.below b5)
    have T_5 := hide (T_4.out.below b5)
    clear b5 q5 B4 P_4 N_4 T_4
    go_wp2
    go_ret
    exact ⟨rfl, B5.out⟩
  · go_wp2_with fail
    refine (sameMap_any AN AT (swL l k o v) (swL l k o v) capN capT w3 _ _ hlmN hlmT N_3.out.pin T_3.out.pin).mono ?_
    rintro e w4 ⟨rfl, q4⟩
    have b4 := q4.below w3.heap.size
    have B4 := hide (B3.out.trans (b4.mono B3.out.size))
    have P_4 := hide (P_3.out.below b4)
    have N_4 := hide (N_3.out.below b4)
    have T_4 := hide (T_3.out.below b4)
    clear b4 q4 B3 P_3 N_3 T_3
    go_wp2_with fail
    refine (implRefOf_any AP (l) capP k w4 hlmP P_4.out.pin).mono ?_
    rintro e w5 ⟨rfl, b5⟩
    have B5 := hide (B4.out.trans (b5.mono B4.out.size))
    have P_5 := hide (P_4.out.below b5)
    have N_5 := hide (N_4.out.below b5)
    have T_5 := hide (T_4.out.below b5)
    clear b5  B4 P_4 N_4 T_4
    obtain ⟨g1, g2⟩ := sw_iff.1 hb
    have e1 := eqS_yes g1
    have EN := hide (swL_yes (v := v) g1)
    have ag := sw_again hb
    have hlnS := stL_len l k v
    have hlmS : (stL l k v).length ≤ maxLen := by unfold maxLen; omega
    have hlnZ := swL_len (swL l k o v) k o v
    have hlmZ : (swL (swL l k o v) k o v).length ≤ maxLen := by unfold maxLen; omega
    have e2 : eqL (stL l k v) (swL l k o v) = true := by rw [EN.out]; exact eqL_self _
    have e3 : (swB (swL l k o v) k o v == (v.toList == o.toList)) = true := by
      rw [ag]
      by_cases x : v = o
      · rw [decide_eq_true x, eqS_yes x]; rfl
      · rw [decide_eq_false x, eqS_no x]; rfl
    clear g1 ag
    go_wp2_with fail
    refine (implSetRef_any AP (l) capP k v w5 hlmP P_5.out.pin hks hvs).mono ?_
    rintro e w6 ⟨AS, capS, hcS, rfl, o6, b6⟩
    have B6 := hide (B5.out.trans (b6.mono B5.out.size))
    have P_6 := hide (P_5.out.below b6)
    have N_6 := hide (N_5.out.below b6)
    have T_6 := hide (T_5.out.below b6)
    have S_6 := hide o6
    clear b6 o6 B5 P_5 N_5 T_5
    go_wp2_with fail
    refine (implSwapRef_any AN (swL l k o v) capN k o v w6 hlmN N_6.out.pin hks hvs).mono ?_
    rintro e w7 ⟨AZ, capZ, hcZ, rfl, o7, b7⟩
    have B7 := hide (B6.out.trans (b7.mono B6.out.size))
    have P_7 := hide (P_6.out.below b7)
    have N_7 := hide (N_6.out.below b7)
    have T_7 := hide (T_6.out.below b7)
    have S_7 := hide (S_6.out.below b7)
    have Z_7 := hide o7
    clear b7 o7 B6 P_6 N_6 T_6 S_6
    go_wp2_with fail
    refine (sameMap_any AS AN (stL l k v) (swL l k o v) capS capN w7 _ _ hlmS hlmN S_7.out.pin N_7.out.pin).mono ?_
    rintro e w8 ⟨rfl, q8⟩
    have b8 := q8.below w7.heap.size
    have B8 := hide (B7.out.trans (b8.mono B7.out.size))
    have P_8 := hide (P_7.out.below b8)
    have N_8 := hide (N_7.out.below b8)
    have T_8 := hide (T_7.out.below b8)
    have S_8 := hide (S_7.out.below b8)
    have Z_8 := hide (Z_7.out.below b8)
    clear b8 q8 B7 P_7 N_7 T_7 S_7 Z_7
    go_wp2
    go_ret
    exact ⟨rfl, B8.out⟩

set_option maxRecDepth 100000 in
theorem lifted (os : Os) (started : os.Started) (H : Type) (enc : TypeId × Value → H) :
    ReturnsInHanded {} Try.checked os 5 .any (Rows.fnSwapRefSpec.pre6 enc Try.prog Try.f5 Rows.fnSwapRefRow.domain false) (Rows.fnSwapRefSpec.post enc Try.prog Try.f5 false true false false) := by
  refine returnsInHanded_of_change (C := Try.checked) own started (by kernel_rfl) Try.func5
    (ChangeSpec.witness6 (enc := enc) (C := Try.checked) false ⟨#[], #[.slice none 0 0], []⟩ 8 (by kernel_rfl) (by kernel_rfl) (by kernel_rfl) (by kernel_rfl)) ?_
  intro W base args ds gs before hval0 hW hcnd _
  have hval : ∀ (j : Nat) t v, Try.f5.params[j]? = some t → args[j]? = some v → Value.okWide Try.prog W .any base t v := hval0
  have hW' := hW
  obtain ⟨p, q, hA0, hV, rfl, hfz, hnd⟩ := hW
  have hA : DataW.TrodAll enc Try.prog W 0 (fun _ => true) true Try.f5.params.toList args.toList ds p := hA0
  rw [Try.params5] at hA hval
  obtain ⟨v0, vs0, d0, ds0, p0, q0, hargs, rfl, rfl, h0, r0⟩ := trodAll_cons hA
  obtain ⟨rfl, rfl, rfl⟩ := trodAll_nil r0
  obtain rfl : args = #[v0] := by cases args; simp_all
  obtain ⟨rfl, rfl⟩ := trodVars_none hV
  obtain ⟨A0, n0, cap0, rfl⟩ := okWide_slice Try.underlying22 (hval 0 22 v0 rfl rfl)
  have lt0 : ∀ x ∈ p0, x.block < W.heap.size := by obtain ⟨m, hm⟩ := h0; exact DataW.trod_lt m _ _ _ hm
  obtain ⟨l0, rfl, hl0, hin0⟩ := open_code h0
  clear hA0 hval0
  refine (walk A0 n0 cap0 W hl0 hin0).mono fun e W' ⟨he, bel⟩ => ?_
  subst he
  exact ⟨_, rfl, _, _, _, [], _, [], hW', trodAll_mk1 (shut_bool Try.underlying4 _), (trodAll_cons_mk (Below.trod laidOut (by kernel_rfl) (of_decide_eq_true (by kernel_rfl)) h0 bel lt0) trodAll_mk0), rfl, bel.frame _, fun h => by cases h⟩

theorem over : Rows.fnSwapRefRow.holds Try.pinned (OpenSpec.ofChange Rows.fnSwapRefSpec) :=
  OpenClaim.holds_of_wide 5 Try.f5 rfl rfl rfl rfl rfl rfl rfl ⟨rfl, rfl, rfl, rfl, rfl⟩ rfl rfl rfl rfl rfl (by kernel_rfl) Try.func5 (by kernel_rfl)
    (of_decide_eq_true (by kernel_rfl)) (by unfold Func.isWrapper; first | (rw [if_pos (by decide +kernel)]; kernel_rfl) | (rw [if_neg (by decide +kernel)]; exact ⟨rfl, rfl⟩))
    (fun os started H enc _ => lifted os started H enc)

end Go.Proofs.Ytmmeabfeehnajaa.LSwapRef
namespace Go.Proofs.Ytmmeabfeehnajaa
theorem fnSwapRef_proved : Rows.FnSwapRefSaid := LSwapRef.over
end Go.Proofs.Ytmmeabfeehnajaa
