/-
  For every code, laws.FnSetRef returns true: a ref that is set names that, all others name what they did; dropped, it is not there. No conditions.
-/
import Derived.Test.YtmmeabfeehnajaaPSame
import Derived.Test.YtmmeabfeehnajaaRFrame
import Derived.Test.YtmmeabfeehnajaaRdCode
import Derived.Test.YtmmeabfeehnajaaRDraw
import Derived.Test.YtmmeabfeehnajaaRLawM
import Derived.Test.YtmmeabfeehnajaaRSetI
import Derived.Test.YtmmeabfeehnajaaPCls
namespace Go.Proofs.Ytmmeabfeehnajaa.LSetRef
open Go.RowKit Go.ChangeShapes Go.WideShapes Go.ChangeAt
open Go.ChangeMaps (open_string shut_string)

set_option maxRecDepth 100000 in
set_option maxHeartbeats 2000000 in
theorem walk (A : Option Addr) (n : Nat) (cap : Nat) (w : World) (hl : n ≤ maxLen) (hin : CIn w w.heap.size A n) :
    Calls Try.prog 3 #[.slice A n cap] w fun e w' => e = .returned (.bool true) ∧ Below w.heap.size w w' := by
  by_cases hbig : 1048576 < n
  · have d : decide (1048576 < n) = true := decide_eq_true hbig
    go_enter Try.func3, Try.ntmps3
    go_wp2_with (go_at_call 9; refine (big_any A n cap _ hl).mono ?_; rintro e w' ⟨rfl, rfl⟩)
    go_ret
    exact ⟨rfl, Below.refl _ _⟩
  have hn : n ≤ 1048576 := by omega
  have d : decide (1048576 < n) = false := decide_eq_false hbig
  have IN := hide hin
  have B0 : Hid (Below w.heap.size w w) := hide (Below.refl _ _)
  clear hin
  go_enter Try.func3, Try.ntmps3
  go_wp2_with fail
  refine (big_any A n cap w hl).mono ?_
  rintro e w' ⟨rfl, rfl⟩
  go_wp2_with fail
  refine (drawSetRef_any A n cap w hn IN.out).mono ?_
  rintro e w1 ⟨AP, capP, l, k, v, hcP, hl3, hk, HKO, hv, rfl, o1, b1⟩
  have B1 := hide (B0.out.trans (b1.mono B0.out.size))
  have P_1 := hide o1
  clear b1 o1 B0
  have hlmP : l.length ≤ maxLen := by unfold maxLen; omega
  have hks : k.size ≤ maxLen := by unfold maxLen; omega
  have hvs : v.size ≤ maxLen := by unfold maxLen; omega
  have hlnN := stL_len l k v
  have hlmN : (stL l k v).length ≤ maxLen := by unfold maxLen; omega
  have hlmT : (stL l k v).length ≤ maxLen := hlmN
  have es := eqL_self (stL l k v)
  have hne : (stB l k v != stB l k v) = false := by simp
  have heq : (stB l k v == stB l k v) = true := by simp
  go_wp2_with fail
  refine (implSetRef_any AP (l) capP k v w1 hlmP P_1.out.pin hks hvs).mono ?_
  rintro e w2 ⟨AN, capN, hcN, rfl, o2, b2⟩
  have B2 := hide (B1.out.trans (b2.mono B1.out.size))
  have P_2 := hide (P_1.out.below b2)
  have N_2 := hide o2
  clear b2 o2 B1 P_1
  go_wp2_with fail
  refine (specSetRef_any AP (l) capP k v w2 hlmP hcP P_2.out.pin hks hvs).mono ?_
  rintro e w3 ⟨AT, capT, hcT, rfl, o3, b3⟩
  have B3 := hide (B2.out.trans (b3.mono B2.out.size))
  have P_3 := hide (P_2.out.below b3)
  have N_3 := hide (N_2.out.below b3)
  have T_3 := hide o3
  clear b3 o3 B2 P_2 N_2
  go_wp2_with fail
  refine (drawRefOf_any A n cap w3 hn ((IN.out.keep B3.out).more B3.out.size)).mono ?_
  rintro e w4 ⟨AX, capX, x, at0, hcX, hlx, hatk, _, rfl, o4, b4⟩
  have B4 := hide (B3.out.trans (b4.mono B3.out.size))
  have P_4 := hide (P_3.out.below b4)
  have N_4 := hide (N_3.out.below b4)
  have T_4 := hide (T_3.out.below b4)
  have X_4 := hide o4
  clear b4 o4 B3 P_3 N_3 T_3
  have hlmX : x.length ≤ maxLen := by unfold maxLen; omega
  have ex : ((gotV x at0).toList == (gotV x at0).toList) = true := by simp
  have ex2 : (gotB x at0 != gotB x at0) = false := by simp
  have ex3 : (gotB x at0 == gotB x at0) = true := by simp
  go_wp2_with fail
  refine (implRefOf_any AX (x) capX at0 w4 hlmX X_4.out.pin).mono ?_
  rintro e w5 ⟨rfl, b5⟩
  have B5 := hide (B4.out.trans (b5.mono B4.out.size))
  have P_5 := hide (P_4.out.below b5)
  have N_5 := hide (N_4.out.below b5)
  have T_5 := hide (T_4.out.below b5)
  have X_5 := hide (X_4.out.below b5)
  clear b5  B4 P_4 N_4 T_4 X_4
  go_wp2_with fail
  refine (specRefOf_any AX x capX at0 w5 _ hlmX X_5.out.pin).mono ?_
  rintro e w6 ⟨rfl, q6⟩
  have b6 := q6.below w5.heap.size
  have B6 := hide (B5.out.trans (b6.mono B5.out.size))
  have P_6 := hide (P_5.out.below b6)
  have N_6 := hide (N_5.out.below b6)
  have T_6 := hide (T_5.out.below b6)
  have X_6 := hide (X_5.out.below b6)
  clear b6 q6 B5 P_5 N_5 T_5 X_5
  go_wp2_with fail
  refine (drawRefsOk_any A n cap w6 hn ((IN.out.keep B6.out).more B6.out.size)).mono ?_
  rintro e w7 ⟨AY, capY, y, hcY, hly, rfl, o7, b7⟩
  have B7 := hide (B6.out.trans (b7.mono B6.out.size))
  have P_7 := hide (P_6.out.below b7)
  have N_7 := hide (N_6.out.below b7)
  have T_7 := hide (T_6.out.below b7)
  have X_7 := hide (X_6.out.below b7)
  have Y_7 := hide o7
  clear b7 o7 B6 P_6 N_6 T_6 X_6
  have hlmY : y.length ≤ maxLen := by unfold maxLen; omega
  have ey2 : (refB y != refB y) = false := by simp
  have ey3 : (refB y == refB y) = true := by simp
  go_wp2_with fail
  refine (sameMap_any AN AT (stL l k v) (stL l k v) capN capT w7 _ _ hlmN hlmT N_7.out.pin T_7.out.pin).mono ?_
  rintro e w8 ⟨rfl, q8⟩
  have b8 := q8.below w7.heap.size
  have B8 := hide (B7.out.trans (b8.mono B7.out.size))
  have P_8 := hide (P_7.out.below b8)
  have N_8 := hide (N_7.out.below b8)
  have T_8 := hide (T_7.out.below b8)
  have X_8 := hide (X_7.out.below b8)
  have Y_8 := hide (Y_7.out.below b8)
  clear b8 q8 B7 P_7 N_7 T_7 X_7 Y_7
  go_wp2_with fail
  refine (implRefsOk_any AY (y) capY w8 hlmY Y_8.out.pin).mono ?_
  rintro e w9 ⟨rfl, b9⟩
  have B9 := hide (B8.out.trans (b9.mono B8.out.size))
  have P_9 := hide (P_8.out.below b9)
  have N_9 := hide (N_8.out.below b9)
  have T_9 := hide (T_8.out.below b9)
  have X_9 := hide (X_8.out.below b9)
  have Y_9 := hide (Y_8.out.below b9)
  clear b9  B8 P_8 N_8 T_8 X_8 Y_8
  go_wp2_with fail
  refine (specRefsOk_any AY y capY w9 _ hlmY Y_9.out.pin).mono ?_
  rintro e w10 ⟨rfl, q10⟩
  have b10 := q10.below w9.heap.size
  have B10 := hide (B9.out.trans (b10.mono B9.out.size))
  have P_10 := hide (P_9.out.below b10)
  have N_10 := hide (N_9.out.below b10)
  have T_10 := hide (T_9.out.below b10)
  have X_10 := hide (X_9.out.below b10)
  have Y_10 := hide (Y_9.out.below b10)
  clear b10 q10 B9 P_9 N_9 T_9 X_9 Y_9
  cases hb : stB l k v
  · go_wp2_with fail
    refine (sameMap_any AN AT (stL l k v) (stL l k v) capN capT w10 _ _ hlmN hlmT N_10.out.pin T_10.out.pin).mono ?_
    rintro e w11 ⟨rfl, q11⟩
    have b11 := q11.below w10.heap.size
    have B11 := hide (B10.out.trans (b11.mono B10.out.size))
    have P_11 := hide (P_10.out.below b11)
    have N_11 := hide (N_10.out.below b11)
    have T_11 := hide (T_10.out.below b11)
    have X_11 := hide (X_10.out.below b11)
    have Y_11 := hide (Y_10.out.below b11)
    clear b11 q11 B10 P_10 N_10 T_10 X_10 Y_10
    go_wp2_with fail
    refine (implRefsOk_any AY (y) capY w11 hlmY Y_11.out.pin).mono ?_
    rintro e w12 ⟨rfl, b12⟩
    have B12 := hide (B11.out.trans (b12.mono B11.out.size))
    have P_12 := hide (P_11.out.below b12)
    have N_12 := hide (N_11.out.below b12)
    have T_12 := hide (T_11.out.below b12)
    have X_12 := hide (X_11.out.below b12)
    have Y_12 := hide (Y_11.out.below b12)
    clear b12  B11 P_11 N_11 T_11 X_11 Y_11
    go_wp2_with fail
    refine (specRefsOk_any AY y capY w12 _ hlmY Y_12.out.pin).mono ?_
    rintro e w13 ⟨rfl, q13⟩
    have b13 := q13.below w12.heap.size
    have B13 := hide (B12.out.trans (b13.mono B12.out.size))
    have P_13 := hide (P_12.out.below b13)
    have N_13 := hide (N_12.out.below b13)
    have T_13 := hide (T_12.out.below b13)
    have X_13 := hide (X_12.out.below b13)
    have Y_13 := hide (Y_12.out.below b13)
    clear b13 q13 B12 P_12 N_12 T_12 X_12 Y_12
    go_wp2
    go_ret
    exact ⟨rfl, B13.out⟩
  · have SG := hide (st_got hb)
    have SN := hide (st_yes hb).1
    have HB := hide hb
    have NN := hide (N_10.out.pin)
    have PP := hide (P_10.out.pin)
    have hcap := hcN
    have RN := hide (N_10.out)
    clear N_10 P_10 T_10 X_10 Y_10
    go_wp2
    generalize hnn : l.length = m at hl3 hlmP ⊢
    have HNN := hide hnn
    clear hnn
    go_loopw [17] (fun i wr => ∃ j : Nat, j ≤ m ∧ i = .int .i64 j ∧ Hid (Below w10.heap.size w10 wr)) (fun i _ => m - (intOf i).toNat)
    case atStart => exact ⟨0, Nat.zero_le _, rfl, hide (Below.refl _ _)⟩
    case round =>
      obtain ⟨j, hj, rfl, Q⟩ := hrel
      have hqs := Q.out.size
      by_cases hlt : j < m
      · have hjl : j < l.length := by rw [HNN.out]; omega
        obtain ⟨b, off, rfl, hbB, hc⟩ := (PP.out.below Q.out).2 (by omega)
        obtain ⟨c1, c2⟩ := hc j hjl
        have hbw : b < wr.heap.size := by omega
        have OT : Hid (¬ (l[j]'hjl).1 = k → gotB (stL l k v) (l[j]'hjl).1 = true ∧ gotV (stL l k v) (l[j]'hjl).1 = (l[j]'hjl).2) := hide (fun h => st_other HB.out (show ((l[j]'hjl).1, (l[j]'hjl).2) ∈ l from List.getElem_mem _) h)
        have GT := hide (implRefOf_any AN (stL l k v) capN (l[j]'hjl).1 wr hlmN ((NN.out.below Q.out).more hqs))
        have hji : (j : Int) < (m : Int) := by omega
        clear hc
        generalize (l[j]'hjl).1 = s at *
        generalize (l[j]'hjl).2 = t at *
        go_wp2_with fail
        refine GT.out.mono ?_
        rintro e w8 ⟨rfl, b8⟩
        have d1 : w8.cell? ⟨b, off + j * 2, none⟩ = some (.string s) := cellB b8 hbw c1
        have d2 : w8.cell? ⟨b, off + j * 2 + 1, none⟩ = some (.string t) := cellB b8 hbw c2
        have Q8 := hide (Q.out.trans (b8.mono hqs))
        clear b8 c1 c2 GT Q hqs
        by_cases hsk : s = k
        · have e1 := eqS_yes hsk
          clear hsk OT
          go_wp2
          exact ⟨⟨j + 1, by omega, by go_num, Q8⟩, by simp [intOf]; omega⟩
        · have e1 := eqS_no hsk
          obtain ⟨g1, g2⟩ := OT.out hsk
          have e2 := eqS_yes g2
          clear hsk OT g2
          go_wp2
          exact ⟨⟨j + 1, by omega, by go_num, Q8⟩, by simp [intOf]; omega⟩
      · have hjm : ¬ (j : Int) < (m : Int) := by omega
        have NW := hide ((NN.out.below Q.out).more hqs)
        have BW := hide (B10.out.trans (Q.out.mono B10.out.size))
        obtain ⟨g1, g2⟩ := SG.out
        obtain ⟨f1, f2, f3⟩ := dr_yes g1
        have e1 := eqS_yes g2
        have F3 := hide f3
        have hrn := SN.out
        have hdl := drL_len (stL l k v) k
        have hdm : (drL (stL l k v) k).length ≤ maxLen := by unfold maxLen; omega
        have el : (((drL (stL l k v) k).length : Int) == ((stL l k v).length : Int) - 1) = true := by rw [beq_iff_eq]; omega
        clear f3 g2 hlt
        go_wp2_with fail
        refine (implRefOf_any AN (stL l k v) capN k wr hlmN NW.out).mono ?_
        rintro e w9 ⟨rfl, b9⟩
        have N9 := hide ((NW.out.below b9).more b9.size)
        have B9 := hide (BW.out.trans (b9.mono BW.out.size))
        clear b9
        go_wp2_with fail
        refine (implDropRef_any AN (stL l k v) capN k w9 hlmN N9.out).mono ?_
        rintro e w10 ⟨AL, capL, hcL, rfl, own10, b10⟩
        have N10 := hide ((N9.out.below b10).more b10.size)
        have B10 := hide (B9.out.trans (b10.mono B9.out.size))
        have L10 := hide own10.pin
        clear b10 own10
        go_wp2_with fail
        refine (implRefOf_any AL (drL (stL l k v) k) capL k w10 hdm L10.out).mono ?_
        rintro e w11 ⟨rfl, b11⟩
        have N11 := hide ((N10.out.below b11).more b11.size)
        have B11 := hide (B10.out.trans (b11.mono B10.out.size))
        clear b11
        go_wp2_with fail
        refine (implRefsOk_any AN (stL l k v) capN w11 hlmN N11.out).mono ?_
        rintro e w12 ⟨rfl, b12⟩
        have B12 := hide (B11.out.trans (b12.mono B11.out.size))
        clear b12
        go_wp2
        go_ret
        exact ⟨rfl, B12.out⟩

set_option maxRecDepth 100000 in
theorem lifted (os : Os) (started : os.Started) (H : Type) (enc : TypeId × Value → H) :
    ReturnsInHanded {} Try.checked os 3 .any (Rows.fnSetRefSpec.pre6 enc Try.prog Try.f3 Rows.fnSetRefRow.domain false) (Rows.fnSetRefSpec.post enc Try.prog Try.f3 false true false false) := by
  refine returnsInHanded_of_change (C := Try.checked) own started (by kernel_rfl) Try.func3
    (ChangeSpec.witness6 (enc := enc) (C := Try.checked) false ⟨#[], #[.slice none 0 0], []⟩ 8 (by kernel_rfl) (by kernel_rfl) (by kernel_rfl) (by kernel_rfl)) ?_
  intro W base args ds gs before hval0 hW hcnd _
  have hval : ∀ (j : Nat) t v, Try.f3.params[j]? = some t → args[j]? = some v → Value.okWide Try.prog W .any base t v := hval0
  have hW' := hW
  obtain ⟨p, q, hA0, hV, rfl, hfz, hnd⟩ := hW
  have hA : DataW.TrodAll enc Try.prog W 0 (fun _ => true) true Try.f3.params.toList args.toList ds p := hA0
  rw [Try.params3] at hA hval
  obtain ⟨v0, vs0, d0, ds0, p0, q0, hargs, rfl, rfl, h0, r0⟩ := trodAll_cons hA
  obtain ⟨rfl, rfl, rfl⟩ := trodAll_nil r0
  obtain rfl : args = #[v0] := by cases args; simp_all
  obtain ⟨rfl, rfl⟩ := trodVars_none hV
  obtain ⟨A0, n0, cap0, rfl⟩ := okWide_slice Try.underlying22 (hval 0 22 v0 rfl rfl)
  have lt0 : ∀ x ∈ p0, x.block < W.heap.size := by obtain ⟨m, hm⟩ := h0; exact DataW.trod_lt m _ _ _ hm
  obtain ⟨l0, rfl, hl0, hin0⟩ := open_code h0
  clear hA0 hval0
  refine (walk A0 n0 cap0 W hl0 hin0).mono fun e W' ⟨he, bel⟩ => ?_
  subst he
  exact ⟨_, rfl, _, _, _, [], _, [], hW', trodAll_mk1 (shut_bool Try.underlying4 _), (trodAll_cons_mk (Below.trod laidOut (by kernel_rfl) (of_decide_eq_true (by kernel_rfl)) h0 bel lt0) trodAll_mk0), rfl, bel.frame _, fun h => by cases h⟩

theorem over : Rows.fnSetRefRow.holds Try.pinned (OpenSpec.ofChange Rows.fnSetRefSpec) :=
  OpenClaim.holds_of_wide 3 Try.f3 rfl rfl rfl rfl rfl rfl rfl ⟨rfl, rfl, rfl, rfl, rfl⟩ rfl rfl rfl rfl rfl (by kernel_rfl) Try.func3 (by kernel_rfl)
    (of_decide_eq_true (by kernel_rfl)) (by unfold Func.isWrapper; first | (rw [if_pos (by decide +kernel)]; kernel_rfl) | (rw [if_neg (by decide +kernel)]; exact ⟨rfl, rfl⟩))
    (fun os started H enc _ => lifted os started H enc)

end Go.Proofs.Ytmmeabfeehnajaa.LSetRef
namespace Go.Proofs.Ytmmeabfeehnajaa
theorem fnSetRef_proved : Rows.FnSetRefSaid := LSetRef.over
end Go.Proofs.Ytmmeabfeehnajaa
