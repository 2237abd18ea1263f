/-
  For every code, laws.FnDropRef returns true: a ref that is dropped, and set as it was, leaves all as it was. No conditions.
-/
import Derived.Test.YtmmeabfeehnajaaPSame
import Derived.Test.YtmmeabfeehnajaaRFrame
import Derived.Test.YtmmeabfeehnajaaRdCode
import Derived.Test.YtmmeabfeehnajaaRDraw
import Derived.Test.YtmmeabfeehnajaaRLawM
import Derived.Test.YtmmeabfeehnajaaRSetI
namespace Go.Proofs.Ytmmeabfeehnajaa.LDropRef
open Go.RowKit Go.ChangeShapes Go.WideShapes Go.ChangeAt
open Go.ChangeMaps (open_string shut_string)

set_option maxRecDepth 100000 in
set_option maxHeartbeats 2000000 in
theorem walk (A : Option Addr) (n : Nat) (cap : Nat) (w : World) (hl : n ≤ maxLen) (hin : CIn w w.heap.size A n) :
    Calls Try.prog 4 #[.slice A n cap] w fun e w' => e = .returned (.bool true) ∧ Below w.heap.size w w' := by
  by_cases hbig : 1048576 < n
  · have d : decide (1048576 < n) = true := decide_eq_true hbig
    go_enter Try.func4, Try.ntmps4
    go_wp2_with (go_at_call 9; refine (big_any A n cap _ hl).mono ?_; rintro e w' ⟨rfl, rfl⟩)
    go_ret
    exact ⟨rfl, Below.refl _ _⟩
  have hn : n ≤ 1048576 := by omega
  have d : decide (1048576 < n) = false := decide_eq_false hbig
  have IN := hide hin
  have B0 : Hid (Below w.heap.size w w) := hide (Below.refl _ _)
  clear hin
  go_enter Try.func4, Try.ntmps4
  go_wp2_with fail
  refine (big_any A n cap w hl).mono ?_
  rintro e w' ⟨rfl, rfl⟩
  go_wp2_with fail
  refine (drawDropRef_any A n cap w hn IN.out).mono ?_
  rintro e w1 ⟨AP, capP, l, k, hcP, hl3, hk, _, rfl, o1, b1⟩
  have B1 := hide (B0.out.trans (b1.mono B0.out.size))
  have P_1 := hide o1
  clear b1 o1 B0
  have hlmP : l.length ≤ maxLen := by unfold maxLen; omega
  have hks : k.size ≤ maxLen := by unfold maxLen; omega
  have hlnN := drL_len l k
  have hlmN : (drL l k).length ≤ maxLen := by unfold maxLen; omega
  have hlmT : (drL l k).length ≤ maxLen := hlmN
  have es := eqL_self (drL l k)
  have hne : (gotB l k != gotB l k) = false := by simp
  have heq : (gotB l k == gotB l k) = true := by simp
  go_wp2_with fail
  refine (implDropRef_any AP (l) capP k w1 hlmP P_1.out.pin ).mono ?_
  rintro e w2 ⟨AN, capN, hcN, rfl, o2, b2⟩
  have B2 := hide (B1.out.trans (b2.mono B1.out.size))
  have P_2 := hide (P_1.out.below b2)
  have N_2 := hide o2
  clear b2 o2 B1 P_1
  go_wp2_with fail
  refine (specDropRef_any AP (l) capP k w2 hlmP hcP P_2.out.pin ).mono ?_
  rintro e w3 ⟨AT, capT, hcT, rfl, o3, b3⟩
  have B3 := hide (B2.out.trans (b3.mono B2.out.size))
  have P_3 := hide (P_2.out.below b3)
  have N_3 := hide (N_2.out.below b3)
  have T_3 := hide o3
  clear b3 o3 B2 P_2 N_2
  cases hb : gotB l k
  · go_wp2_with fail
    refine (sameMap_any AN AT (drL l k) (drL l k) capN capT w3 _ _ hlmN hlmT N_3.out.pin T_3.out.pin).mono ?_
    rintro e w4 ⟨rfl, q4⟩
    have b4 := q4.below w3.heap.size
    have B4 := hide (B3.out.trans (b4.mono B3.out.size))
    have P_4 := hide (P_3.out.below b4)
    have N_4 := hide (N_3.out.below b4)
    have T_4 := hide (T_3.out.below b4)
    clear b4 q4 B3 P_3 N_3 T_3
    go_wp2_with fail
    refine (sameMap_any AN AT (drL l k) (drL l k) capN capT w4 _ _ hlmN hlmT N_4.out.pin T_4.out.pin).mono ?_
    rintro e w5 ⟨rfl, q5⟩
    have b5 := q5.below w4.heap.size
    have B5 := hide (B4.out.trans (b5.mono B4.out.size))
    have P_5 := hide (P_4.out.below b5)
    have N_5 := hide (N_4.out.below b5)
    have T_5 := hide (T_4.out.below b5)
    clear b5 q5 B4 P_4 N_4 T_4
    go_wp2
    go_ret
    exact ⟨rfl, B5.out⟩
  · go_wp2_with fail
    refine (sameMap_any AN AT (drL l k) (drL l k) capN capT w3 _ _ hlmN hlmT N_3.out.pin T_3.out.pin).mono ?_
    rintro e w4 ⟨rfl, q4⟩
    have b4 := q4.below w3.heap.size
    have B4 := hide (B3.out.trans (b4.mono B3.out.size))
    have P_4 := hide (P_3.out.below b4)
    have N_4 := hide (N_3.out.below b4)
    have T_4 := hide (T_3.out.below b4)
    clear b4 q4 B3 P_3 N_3 T_3
    go_wp2_with fail
    refine (implRefOf_any AP (l) capP k w4 hlmP P_4.out.pin).mono ?_
    rintro e w5 ⟨rfl, b5⟩
    have B5 := hide (B4.out.trans (b5.mono B4.out.size))
    have P_5 := hide (P_4.out.below b5)
    have N_5 := hide (N_4.out.below b5)
    have T_5 := hide (T_4.out.below b5)
    clear b5  B4 P_4 N_4 T_4
    have BK := hide (dr_back hb)
    have hgs : (gotV l k).size ≤ maxLen := by have := gotV_size l k (show lens l from P_5.out.1); exact this
    have hrn := (dr_yes hb).1
    have a1 := BK.out.1
    have hlnB := stL_len (drL l k) k (gotV l k)
    have hlmB : (stL (drL l k) k (gotV l k)).length ≤ maxLen := by unfold maxLen; omega
    have e1 : eqL (stL (drL l k) k (gotV l k)) l = true := by rw [BK.out.2]; exact eqL_self l
    go_wp2_with fail
    refine (implSetRef_any AN (drL l k) capN k (gotV l k) w5 hlmN N_5.out.pin hks hgs).mono ?_
    rintro e w6 ⟨AB, capB, hcB, rfl, o6, b6⟩
    have B6 := hide (B5.out.trans (b6.mono B5.out.size))
    have P_6 := hide (P_5.out.below b6)
    have N_6 := hide (N_5.out.below b6)
    have T_6 := hide (T_5.out.below b6)
    have B_6 := hide o6
    clear b6 o6 B5 P_5 N_5 T_5
    go_wp2_with fail
    refine (implRefsOk_any AN (drL l k) capN w6 hlmN N_6.out.pin).mono ?_
    rintro e w7 ⟨rfl, b7⟩
    have B7 := hide (B6.out.trans (b7.mono B6.out.size))
    have P_7 := hide (P_6.out.below b7)
    have N_7 := hide (N_6.out.below b7)
    have T_7 := hide (T_6.out.below b7)
    have B_7 := hide (B_6.out.below b7)
    clear b7  B6 P_6 N_6 T_6 B_6
    go_wp2_with fail
    refine (sameMap_any AB AP (stL (drL l k) k (gotV l k)) (l) capB capP w7 _ _ hlmB hlmP B_7.out.pin P_7.out.pin).mono ?_
    rintro e w8 ⟨rfl, q8⟩
    have b8 := q8.below w7.heap.size
    have B8 := hide (B7.out.trans (b8.mono B7.out.size))
    have P_8 := hide (P_7.out.below b8)
    have N_8 := hide (N_7.out.below b8)
    have T_8 := hide (T_7.out.below b8)
    have B_8 := hide (B_7.out.below b8)
    clear b8 q8 B7 P_7 N_7 T_7 B_7
    go_wp2
    go_ret
    exact ⟨rfl, B8.out⟩

set_option maxRecDepth 100000 in
theorem lifted (os : Os) (started : os.Started) (H : Type) (enc : TypeId × Value → H) :
    ReturnsInHanded {} Try.checked os 4 .any (Rows.fnDropRefSpec.pre6 enc Try.prog Try.f4 Rows.fnDropRefRow.domain false) (Rows.fnDropRefSpec.post enc Try.prog Try.f4 false true false false) := by
  refine returnsInHanded_of_change (C := Try.checked) own started (by kernel_rfl) Try.func4
    (ChangeSpec.witness6 (enc := enc) (C := Try.checked) false ⟨#[], #[.slice none 0 0], []⟩ 8 (by kernel_rfl) (by kernel_rfl) (by kernel_rfl) (by kernel_rfl)) ?_
  intro W base args ds gs before hval0 hW hcnd _
  have hval : ∀ (j : Nat) t v, Try.f4.params[j]? = some t → args[j]? = some v → Value.okWide Try.prog W .any base t v := hval0
  have hW' := hW
  obtain ⟨p, q, hA0, hV, rfl, hfz, hnd⟩ := hW
  have hA : DataW.TrodAll enc Try.prog W 0 (fun _ => true) true Try.f4.params.toList args.toList ds p := hA0
  rw [Try.params4] at hA hval
  obtain ⟨v0, vs0, d0, ds0, p0, q0, hargs, rfl, rfl, h0, r0⟩ := trodAll_cons hA
  obtain ⟨rfl, rfl, rfl⟩ := trodAll_nil r0
  obtain rfl : args = #[v0] := by cases args; simp_all
  obtain ⟨rfl, rfl⟩ := trodVars_none hV
  obtain ⟨A0, n0, cap0, rfl⟩ := okWide_slice Try.underlying22 (hval 0 22 v0 rfl rfl)
  have lt0 : ∀ x ∈ p0, x.block < W.heap.size := by obtain ⟨m, hm⟩ := h0; exact DataW.trod_lt m _ _ _ hm
  obtain ⟨l0, rfl, hl0, hin0⟩ := open_code h0
  clear hA0 hval0
  refine (walk A0 n0 cap0 W hl0 hin0).mono fun e W' ⟨he, bel⟩ => ?_
  subst he
  exact ⟨_, rfl, _, _, _, [], _, [], hW', trodAll_mk1 (shut_bool Try.underlying4 _), (trodAll_cons_mk (Below.trod laidOut (by kernel_rfl) (of_decide_eq_true (by kernel_rfl)) h0 bel lt0) trodAll_mk0), rfl, bel.frame _, fun h => by cases h⟩

theorem over : Rows.fnDropRefRow.holds Try.pinned (OpenSpec.ofChange Rows.fnDropRefSpec) :=
  OpenClaim.holds_of_wide 4 Try.f4 rfl rfl rfl rfl rfl rfl rfl ⟨rfl, rfl, rfl, rfl, rfl⟩ rfl rfl rfl rfl rfl (by kernel_rfl) Try.func4 (by kernel_rfl)
    (of_decide_eq_true (by kernel_rfl)) (by unfold Func.isWrapper; first | (rw [if_pos (by decide +kernel)]; kernel_rfl) | (rw [if_neg (by decide +kernel)]; exact ⟨rfl, rfl⟩))
    (fun os started H enc _ => lifted os started H enc)

end Go.Proofs.Ytmmeabfeehnajaa.LDropRef
namespace Go.Proofs.Ytmmeabfeehnajaa
theorem fnDropRef_proved : Rows.FnDropRefSaid := LDropRef.over
end Go.Proofs.Ytmmeabfeehnajaa
