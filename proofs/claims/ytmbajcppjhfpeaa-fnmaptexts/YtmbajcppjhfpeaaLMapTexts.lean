/-
  For every code, laws.FnMapTexts returns true: a right map comes back from its text; what is read, written again, has just its bytes. No conditions.
-/
import Derived.Test.YtmbajcppjhfpeaaPSame
import Derived.Test.YtmbajcppjhfpeaaPAlg
import Derived.Test.YtmbajcppjhfpeaaLCode
import Derived.Test.YtmbajcppjhfpeaaPTrip
import Derived.Test.YtmbajcppjhfpeaaPHurt
namespace Go.Proofs.Ytmbajcppjhfpeaa.LMapTexts
open Go.RowKit Go.ChangeShapes Go.WideShapes Go.ChangeAt
open Go.ChangeMaps (open_string shut_string)

theorem readL_len (s : ByteArray) : (readL s).length ≤ 40 := by
  cases h : okR s
  · rw [readL_no h]; simp
  · rw [readL_yes h]
    have h3 : mapB ((linesS s).1.map pairOf) = true := by
      unfold okR at h
      simp only [Bool.and_eq_true] at h
      exact h.2
    exact (mapB_iff.1 h3).1

set_option maxRecDepth 100000 in
set_option maxHeartbeats 2000000 in
theorem walk (A : Option Addr) (n : Nat) (cap : Nat) (w : World) (hl : n ≤ maxLen) (hin : CIn w w.heap.size A n) :
    Calls Try.prog 4 #[.slice A n cap] w fun e w' => e = .returned (.bool true) ∧ Below w.heap.size w w' := by
  by_cases hbig : 1048576 < n
  · have d : decide (1048576 < n) = true := decide_eq_true hbig
    go_enter Try.func4, Try.ntmps4
    go_wp2_with (go_at_call 14; refine (big_any A n cap _ hl).mono ?_; rintro e w' ⟨rfl, rfl⟩)
    go_ret
    exact ⟨rfl, Below.refl _ _⟩
  have hn : n ≤ 1048576 := by omega
  have d : decide (1048576 < n) = false := decide_eq_false hbig
  have IN := hide hin
  have B0 : Hid (Below w.heap.size w w) := hide (Below.refl _ _)
  clear hin
  go_enter Try.func4, Try.ntmps4
  go_wp2_with fail
  refine (big_any A n cap w hl).mono ?_
  rintro e w' ⟨rfl, rfl⟩
  go_wp2_with fail
  refine (drawMapText_any A n cap w hn IN.out).mono ?_
  rintro e w1 ⟨AM, capM, l, hcM, hl40, rfl, own1, b1⟩
  have B1 := hide (B0.out.trans (b1.mono B0.out.size))
  have M_1 := hide own1
  clear b1 own1 B0
  have hlm : l.length ≤ maxLen := by unfold maxLen; omega
  have eqs : ((mapTextS l).toList == (mapTextS l).toList) = true := by simp
  have nes : ((mapTextS l).toList != (mapTextS l).toList) = false := by simp
  have hts := mapText_short l hl40
  go_wp2_with fail
  refine (implMapText_any AM l capM w1 hlm M_1.out.pin).mono ?_
  rintro e w2 ⟨rfl, b2⟩
  have B2 := hide (B1.out.trans (b2.mono B1.out.size))
  have M_2 := hide (M_1.out.below b2)
  clear b2 B1 M_1
  go_wp2_with fail
  refine (drawMapOk_any A n cap w2 hn ((IN.out.keep B2.out).more B2.out.size)).mono ?_
  rintro e w3 ⟨AX, capX, lx, hcX, hx40, rfl, own3, b3⟩
  have B3 := hide (B2.out.trans (b3.mono B2.out.size))
  have M_3 := hide (M_2.out.below b3)
  have X_3 := hide own3
  clear b3 own3 B2 M_2
  have hxm : lx.length ≤ maxLen := by unfold maxLen; omega
  have hne : (mapB lx != mapB lx) = false := by simp
  go_wp2_with fail
  refine (drawReadMap_any A n cap w3 hn ((IN.out.keep B3.out).more B3.out.size)).mono ?_
  rintro e w4 ⟨t, ht, rfl, b4⟩
  have B4 := hide (B3.out.trans (b4.mono B3.out.size))
  have M_4 := hide (M_3.out.below b4)
  have X_4 := hide (X_3.out.below b4)
  clear b4 B3 M_3 X_3
  have ht1 : t.size ≤ 1048576 := by omega
  have RT := hide (fun h => read_text (s := t) h)
  have hrl := readL_len t
  have hrm : (readL t).length ≤ maxLen := by unfold maxLen; omega
  have es := eqL_self (readL t)
  have hno : (okR t != okR t) = false := by simp
  have ett : (t.toList == t.toList) = true := by simp
  go_wp2_with fail
  refine (implReadMap_any t w4 ht1).mono ?_
  rintro e w5 ⟨AY, capY, hcY, rfl, own5, b5⟩
  have B5 := hide (B4.out.trans (b5.mono B4.out.size))
  have M_5 := hide (M_4.out.below b5)
  have X_5 := hide (X_4.out.below b5)
  have Y_5 := hide own5
  clear b5 own5 B4 M_4 X_4
  go_wp2_with fail
  refine (specReadMap_any t w5 ht1).mono ?_
  rintro e w6 ⟨AZ, capZ, hcZ, rfl, own6, b6⟩
  have B6 := hide (B5.out.trans (b6.mono B5.out.size))
  have M_6 := hide (M_5.out.below b6)
  have X_6 := hide (X_5.out.below b6)
  have Y_6 := hide (Y_5.out.below b6)
  have Z_6 := hide own6
  clear b6 own6 B5 M_5 X_5 Y_5
  go_wp2_with fail
  refine (specMapText_any AM l capM w6 _ hlm M_6.out.pin).mono ?_
  rintro e w7 ⟨rfl, q7⟩
  have b7 := q7.below w6.heap.size
  have B7 := hide (B6.out.trans (b7.mono B6.out.size))
  have M_7 := hide (M_6.out.below b7)
  have X_7 := hide (X_6.out.below b7)
  have Y_7 := hide (Y_6.out.below b7)
  have Z_7 := hide (Z_6.out.below b7)
  clear b7 q7 B6 M_6 X_6 Y_6 Z_6
  go_wp2_with fail
  refine (implMapOk_any AX lx capX w7 hxm X_7.out.pin).mono ?_
  rintro e w8 ⟨rfl, b8⟩
  have B8 := hide (B7.out.trans (b8.mono B7.out.size))
  have M_8 := hide (M_7.out.below b8)
  have X_8 := hide (X_7.out.below b8)
  have Y_8 := hide (Y_7.out.below b8)
  have Z_8 := hide (Z_7.out.below b8)
  clear b8 B7 M_7 X_7 Y_7 Z_7
  go_wp2_with fail
  refine (specMapOk_any AX lx capX w8 _ hxm X_8.out.pin).mono ?_
  rintro e w9 ⟨rfl, q9⟩
  have b9 := q9.below w8.heap.size
  have B9 := hide (B8.out.trans (b9.mono B8.out.size))
  have M_9 := hide (M_8.out.below b9)
  have X_9 := hide (X_8.out.below b9)
  have Y_9 := hide (Y_8.out.below b9)
  have Z_9 := hide (Z_8.out.below b9)
  clear b9 q9 B8 M_8 X_8 Y_8 Z_8
  go_wp2_with fail
  refine (sameMap_any AY AZ ((readL t)) ((readL t)) capY capZ w9 _ _ hrm hrm Y_9.out.pin Z_9.out.pin).mono ?_
  rintro e w10 ⟨rfl, q10⟩
  have b10 := q10.below w9.heap.size
  have B10 := hide (B9.out.trans (b10.mono B9.out.size))
  have M_10 := hide (M_9.out.below b10)
  have X_10 := hide (X_9.out.below b10)
  have Y_10 := hide (Y_9.out.below b10)
  have Z_10 := hide (Z_9.out.below b10)
  clear b10 q10 B9 M_9 X_9 Y_9 Z_9
  cases hok : okR t
  · go_wp2_with fail
    refine (specMapOk_any AM l capM w10 _ hlm M_10.out.pin).mono ?_
    rintro e w11 ⟨rfl, q11⟩
    have b11 := q11.below w10.heap.size
    have B11 := hide (B10.out.trans (b11.mono B10.out.size))
    have M_11 := hide (M_10.out.below b11)
    have X_11 := hide (X_10.out.below b11)
    have Y_11 := hide (Y_10.out.below b11)
    have Z_11 := hide (Z_10.out.below b11)
    clear b11 q11 B10 M_10 X_10 Y_10 Z_10
    cases hm : mapB l
    · have hmt := mapText_no hm
      rw [hmt]
      go_wp2
      go_ret
      exact ⟨rfl, B11.out⟩
    · have hmt := mapText_yes hm
      have TR := text_read hm
      have est := eqL_self l
      rw [← hmt] at TR
      have R := hide (implReadMap_any (mapTextS l) w11 (by omega))
      rw [TR.1, TR.2] at R
      clear TR hmt
      generalize mapTextS l = sl at *
      go_wp2_with fail
      refine (R.out).mono ?_
      rintro e w12 ⟨AK, capK, hcK, rfl, own12, b12⟩
      have B12 := hide (B11.out.trans (b12.mono B11.out.size))
      have M_12 := hide (M_11.out.below b12)
      have X_12 := hide (X_11.out.below b12)
      have Y_12 := hide (Y_11.out.below b12)
      have Z_12 := hide (Z_11.out.below b12)
      have K_12 := hide own12
      clear b12 own12 B11 M_11 X_11 Y_11 Z_11
      go_wp2_with fail
      refine (sameMap_any AK AM (l) (l) capK capM w12 _ _ hlm hlm K_12.out.pin M_12.out.pin).mono ?_
      rintro e w13 ⟨rfl, q13⟩
      have b13 := q13.below w12.heap.size
      have B13 := hide (B12.out.trans (b13.mono B12.out.size))
      have M_13 := hide (M_12.out.below b13)
      have X_13 := hide (X_12.out.below b13)
      have Y_13 := hide (Y_12.out.below b13)
      have Z_13 := hide (Z_12.out.below b13)
      have K_13 := hide (K_12.out.below b13)
      clear b13 q13 B12 M_12 X_12 Y_12 Z_12 K_12
      go_wp2
      go_ret
      exact ⟨rfl, B13.out⟩
  · have R := hide (implMapText_any AY (readL t) capY w10 hrm Y_10.out.pin)
    rw [RT.out hok] at R
    go_wp2_with fail
    refine (R.out).mono ?_
    rintro e w11 ⟨rfl, b11⟩
    have B11 := hide (B10.out.trans (b11.mono B10.out.size))
    have M_11 := hide (M_10.out.below b11)
    have X_11 := hide (X_10.out.below b11)
    have Y_11 := hide (Y_10.out.below b11)
    have Z_11 := hide (Z_10.out.below b11)
    clear b11 B10 M_10 X_10 Y_10 Z_10
    go_wp2_with fail
    refine (specMapOk_any AM l capM w11 _ hlm M_11.out.pin).mono ?_
    rintro e w12 ⟨rfl, q12⟩
    have b12 := q12.below w11.heap.size
    have B12 := hide (B11.out.trans (b12.mono B11.out.size))
    have M_12 := hide (M_11.out.below b12)
    have X_12 := hide (X_11.out.below b12)
    have Y_12 := hide (Y_11.out.below b12)
    have Z_12 := hide (Z_11.out.below b12)
    clear b12 q12 B11 M_11 X_11 Y_11 Z_11
    cases hm : mapB l
    · have hmt := mapText_no hm
      rw [hmt]
      go_wp2
      go_ret
      exact ⟨rfl, B12.out⟩
    · have hmt := mapText_yes hm
      have TR := text_read hm
      have est := eqL_self l
      rw [← hmt] at TR
      have R := hide (implReadMap_any (mapTextS l) w12 (by omega))
      rw [TR.1, TR.2] at R
      clear TR hmt
      generalize mapTextS l = sl at *
      go_wp2_with fail
      refine (R.out).mono ?_
      rintro e w13 ⟨AK, capK, hcK, rfl, own13, b13⟩
      have B13 := hide (B12.out.trans (b13.mono B12.out.size))
      have M_13 := hide (M_12.out.below b13)
      have X_13 := hide (X_12.out.below b13)
      have Y_13 := hide (Y_12.out.below b13)
      have Z_13 := hide (Z_12.out.below b13)
      have K_13 := hide own13
      clear b13 own13 B12 M_12 X_12 Y_12 Z_12
      go_wp2_with fail
      refine (sameMap_any AK AM (l) (l) capK capM w13 _ _ hlm hlm K_13.out.pin M_13.out.pin).mono ?_
      rintro e w14 ⟨rfl, q14⟩
      have b14 := q14.below w13.heap.size
      have B14 := hide (B13.out.trans (b14.mono B13.out.size))
      have M_14 := hide (M_13.out.below b14)
      have X_14 := hide (X_13.out.below b14)
      have Y_14 := hide (Y_13.out.below b14)
      have Z_14 := hide (Z_13.out.below b14)
      have K_14 := hide (K_13.out.below b14)
      clear b14 q14 B13 M_13 X_13 Y_13 Z_13 K_13
      go_wp2
      go_ret
      exact ⟨rfl, B14.out⟩

set_option maxRecDepth 100000 in
theorem lifted (os : Os) (started : os.Started) (H : Type) (enc : TypeId × Value → H) :
    ReturnsInHanded {} Try.checked os 4 .any (Rows.fnMapTextsSpec.pre6 enc Try.prog Try.f4 Rows.fnMapTextsRow.domain false) (Rows.fnMapTextsSpec.post enc Try.prog Try.f4 false true false false) := by
  refine returnsInHanded_of_change (C := Try.checked) own started (by kernel_rfl) Try.func4
    (ChangeSpec.witness6 (enc := enc) (C := Try.checked) false ⟨#[], #[.slice none 0 0], []⟩ 8 (by kernel_rfl) (by kernel_rfl) (by kernel_rfl) (by kernel_rfl)) ?_
  intro W base args ds gs before hval0 hW hcnd _
  have hval : ∀ (j : Nat) t v, Try.f4.params[j]? = some t → args[j]? = some v → Value.okWide Try.prog W .any base t v := hval0
  have hW' := hW
  obtain ⟨p, q, hA0, hV, rfl, hfz, hnd⟩ := hW
  have hA : DataW.TrodAll enc Try.prog W 0 (fun _ => true) true Try.f4.params.toList args.toList ds p := hA0
  rw [Try.params4] at hA hval
  obtain ⟨v0, vs0, d0, ds0, p0, q0, hargs, rfl, rfl, h0, r0⟩ := trodAll_cons hA
  obtain ⟨rfl, rfl, rfl⟩ := trodAll_nil r0
  obtain rfl : args = #[v0] := by cases args; simp_all
  obtain ⟨rfl, rfl⟩ := trodVars_none hV
  obtain ⟨A0, n0, cap0, rfl⟩ := okWide_slice Try.underlying29 (hval 0 29 v0 rfl rfl)
  have lt0 : ∀ x ∈ p0, x.block < W.heap.size := by obtain ⟨m, hm⟩ := h0; exact DataW.trod_lt m _ _ _ hm
  obtain ⟨l0, rfl, hl0, hin0⟩ := open_code h0
  clear hA0 hval0
  refine (walk A0 n0 cap0 W hl0 hin0).mono fun e W' ⟨he, bel⟩ => ?_
  subst he
  exact ⟨_, rfl, _, _, _, [], _, [], hW', trodAll_mk1 (shut_bool Try.underlying4 _), (trodAll_cons_mk (Below.trod laidOut (by kernel_rfl) (of_decide_eq_true (by kernel_rfl)) h0 bel lt0) trodAll_mk0), rfl, bel.frame _, fun h => by cases h⟩

theorem over : Rows.fnMapTextsRow.holds Try.pinned (OpenSpec.ofChange Rows.fnMapTextsSpec) :=
  OpenClaim.holds_of_wide 4 Try.f4 rfl rfl rfl rfl rfl rfl rfl ⟨rfl, rfl, rfl, rfl, rfl⟩ rfl rfl rfl rfl rfl (by kernel_rfl) Try.func4 (by kernel_rfl)
    (of_decide_eq_true (by kernel_rfl)) (by unfold Func.isWrapper; first | (rw [if_pos (by decide +kernel)]; kernel_rfl) | (rw [if_neg (by decide +kernel)]; exact ⟨rfl, rfl⟩))
    (fun os started H enc _ => lifted os started H enc)

end Go.Proofs.Ytmbajcppjhfpeaa.LMapTexts
namespace Go.Proofs.Ytmbajcppjhfpeaa
theorem fnMapTexts_proved : Rows.FnMapTextsSaid := LMapTexts.over
end Go.Proofs.Ytmbajcppjhfpeaa
