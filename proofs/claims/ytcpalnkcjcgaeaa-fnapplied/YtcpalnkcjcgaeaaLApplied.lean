/-
  For every code, laws.FnApplied returns true: changes that are done and undone leave a map as it was; the inverse of the inverse is what it was. No conditions.
-/
import Derived.Test.YtcpalnkcjcgaeaaPSame
import Derived.Test.YtcpalnkcjcgaeaaPAlg
import Derived.Test.YtcpalnkcjcgaeaaLCode
import Derived.Test.YtcpalnkcjcgaeaaHDraw
import Derived.Test.YtcpalnkcjcgaeaaHSame
import Derived.Test.YtcpalnkcjcgaeaaHDifA
import Derived.Test.YtcpalnkcjcgaeaaHDiffL
import Derived.Test.YtcpalnkcjcgaeaaHAppS
import Derived.Test.YtcpalnkcjcgaeaaHAppI
import Derived.Test.YtcpalnkcjcgaeaaHInv
namespace Go.Proofs.Ytcpalnkcjcgaeaa.LApplied
open Go.RowKit Go.ChangeShapes Go.WideShapes Go.ChangeAt
open Go.ChangeMaps (open_string shut_string)

set_option maxRecDepth 100000 in
set_option maxHeartbeats 2000000 in
theorem walk (A : Option Addr) (n : Nat) (cap : Nat) (w : World) (hl : n ≤ maxLen) (hin : CIn w w.heap.size A n) :
    Calls Try.prog 4 #[.slice A n cap] w fun e w' => e = .returned (.bool true) ∧ Below w.heap.size w w' := by
  by_cases hbig : 1048576 < n
  · have d : decide (1048576 < n) = true := decide_eq_true hbig
    go_enter Try.func4, Try.ntmps4
    go_wp2_with (go_at_call 12; refine (big_any A n cap _ hl).mono ?_; rintro e w' ⟨rfl, rfl⟩)
    go_ret
    exact ⟨rfl, Below.refl _ _⟩
  have hn : n ≤ 1048576 := by omega
  have d : decide (1048576 < n) = false := decide_eq_false hbig
  have IN := hide hin
  have B0 : Hid (Below w.heap.size w w) := hide (Below.refl _ _)
  clear hin
  go_enter Try.func4, Try.ntmps4
  go_wp2_with fail
  refine (big_any A n cap w hl).mono ?_
  rintro e w' ⟨rfl, rfl⟩
  go_wp2_with fail
  refine (drawApplied_any A n cap w hn IN.out).mono ?_
  rintro e w1 ⟨AP, capP, l, AQ, capQ, d, hcP, hl40, mbP, hcQ, hd80, _, rfl, o1, p1, b1⟩
  have B1 := hide (B0.out.trans (b1.mono B0.out.size))
  have P_1 := hide o1
  have Q_1 := hide p1
  clear b1 o1 p1 B0
  have hlm : l.length ≤ maxLen := by unfold maxLen; omega
  have hdm : d.length ≤ maxLen := by unfold maxLen; omega
  have hd1 : d.length ≤ 1048576 := by omega
  have MP := hide mbP
  clear mbP
  have hal := appL_len l d
  have ham : (appL l d).length ≤ maxLen := by unfold maxLen; omega
  have es := eqL_self (appL l d)
  have hne : (appB l d != appB l d) = false := by simp
  have heq : (appB l d == appB l d) = true := by simp
  go_wp2_with fail
  refine (implApplied_any AP (l) capP AQ (d) capQ w1 hlm hd1 P_1.out.pin Q_1.out.pin).mono ?_
  rintro e w2 ⟨AN, capN, hcN, rfl, o2, b2⟩
  have B2 := hide (B1.out.trans (b2.mono B1.out.size))
  have P_2 := hide (P_1.out.below b2)
  have Q_2 := hide (Q_1.out.below b2)
  have N_2 := hide o2
  clear b2 o2 B1 P_1 Q_1
  go_wp2_with fail
  refine (specApplied_any AP (l) capP AQ (d) capQ w2 hlm hd1 P_2.out.pin Q_2.out.pin).mono ?_
  rintro e w3 ⟨AT, capT, hcT, rfl, o3, b3⟩
  have B3 := hide (B2.out.trans (b3.mono B2.out.size))
  have P_3 := hide (P_2.out.below b3)
  have Q_3 := hide (Q_2.out.below b3)
  have N_3 := hide (N_2.out.below b3)
  have T_3 := hide o3
  clear b3 o3 B2 P_2 Q_2 N_2
  go_wp2_with fail
  refine (drawInverse_any A n cap w3 hn ((IN.out.keep B3.out).more B3.out.size)).mono ?_
  rintro e w4 ⟨AX, capX, x, hcX, hx80, _, rfl, o4, b4⟩
  have B4 := hide (B3.out.trans (b4.mono B3.out.size))
  have P_4 := hide (P_3.out.below b4)
  have Q_4 := hide (Q_3.out.below b4)
  have N_4 := hide (N_3.out.below b4)
  have T_4 := hide (T_3.out.below b4)
  have X_4 := hide o4
  clear b4 o4 B3 P_3 Q_3 N_3 T_3
  have hxm : x.length ≤ maxLen := by unfold maxLen; omega
  have hx1 : x.length ≤ 1048576 := by omega
  have hi1 : (invL x).length ≤ 1048576 := by rw [invL_len]; exact hx1
  have him : (invL x).length ≤ maxLen := by rw [invL_len]; exact hxm
  have hii : (invL (invL x)).length ≤ maxLen := by rw [invL_len, invL_len]; exact hxm
  have ei := eqCL_self (invL x)
  have eii : eqCL (invL (invL x)) x = true := by rw [invL_invL]; exact eqCL_self x
  go_wp2_with fail
  refine (sameMap_any AN AT (appL l d) (appL l d) capN capT w4 _ _ ham ham N_4.out.pin T_4.out.pin).mono ?_
  rintro e w5 ⟨rfl, q5⟩
  have b5 := q5.below w4.heap.size
  have B5 := hide (B4.out.trans (b5.mono B4.out.size))
  have P_5 := hide (P_4.out.below b5)
  have Q_5 := hide (Q_4.out.below b5)
  have N_5 := hide (N_4.out.below b5)
  have T_5 := hide (T_4.out.below b5)
  have X_5 := hide (X_4.out.below b5)
  clear b5 q5 B4 P_4 Q_4 N_4 T_4 X_4
  go_wp2_with fail
  refine (implInverse_any AX (x) capX w5 hx1 X_5.out.pin).mono ?_
  rintro e w6 ⟨AI1, capI1, hcI1, rfl, o6, b6⟩
  have B6 := hide (B5.out.trans (b6.mono B5.out.size))
  have P_6 := hide (P_5.out.below b6)
  have Q_6 := hide (Q_5.out.below b6)
  have N_6 := hide (N_5.out.below b6)
  have T_6 := hide (T_5.out.below b6)
  have X_6 := hide (X_5.out.below b6)
  have I1_6 := hide o6
  clear b6 o6 B5 P_5 Q_5 N_5 T_5 X_5
  go_wp2_with fail
  refine (specInverse_any AX (x) capX w6 hx1 X_6.out.pin).mono ?_
  rintro e w7 ⟨AJ1, capJ1, hcJ1, rfl, o7, b7⟩
  have B7 := hide (B6.out.trans (b7.mono B6.out.size))
  have P_7 := hide (P_6.out.below b7)
  have Q_7 := hide (Q_6.out.below b7)
  have N_7 := hide (N_6.out.below b7)
  have T_7 := hide (T_6.out.below b7)
  have X_7 := hide (X_6.out.below b7)
  have I1_7 := hide (I1_6.out.below b7)
  have J1_7 := hide o7
  clear b7 o7 B6 P_6 Q_6 N_6 T_6 X_6 I1_6
  go_wp2_with fail
  refine (sameChanges_any AI1 AJ1 (invL x) (invL x) capI1 capJ1 w7 _ _ him him I1_7.out.pin J1_7.out.pin).mono ?_
  rintro e w8 ⟨rfl, q8⟩
  have b8 := q8.below w7.heap.size
  have B8 := hide (B7.out.trans (b8.mono B7.out.size))
  have P_8 := hide (P_7.out.below b8)
  have Q_8 := hide (Q_7.out.below b8)
  have N_8 := hide (N_7.out.below b8)
  have T_8 := hide (T_7.out.below b8)
  have X_8 := hide (X_7.out.below b8)
  have I1_8 := hide (I1_7.out.below b8)
  have J1_8 := hide (J1_7.out.below b8)
  clear b8 q8 B7 P_7 Q_7 N_7 T_7 X_7 I1_7 J1_7
  go_wp2_with fail
  refine (implInverse_any AX (x) capX w8 hx1 X_8.out.pin).mono ?_
  rintro e w9 ⟨AK1, capK1, hcK1, rfl, o9, b9⟩
  have B9 := hide (B8.out.trans (b9.mono B8.out.size))
  have P_9 := hide (P_8.out.below b9)
  have Q_9 := hide (Q_8.out.below b9)
  have N_9 := hide (N_8.out.below b9)
  have T_9 := hide (T_8.out.below b9)
  have X_9 := hide (X_8.out.below b9)
  have I1_9 := hide (I1_8.out.below b9)
  have J1_9 := hide (J1_8.out.below b9)
  have K1_9 := hide o9
  clear b9 o9 B8 P_8 Q_8 N_8 T_8 X_8 I1_8 J1_8
  go_wp2_with fail
  refine (implInverse_any AK1 (invL x) capK1 w9 hi1 K1_9.out.pin).mono ?_
  rintro e w10 ⟨AL1, capL1, hcL1, rfl, o10, b10⟩
  have B10 := hide (B9.out.trans (b10.mono B9.out.size))
  have P_10 := hide (P_9.out.below b10)
  have Q_10 := hide (Q_9.out.below b10)
  have N_10 := hide (N_9.out.below b10)
  have T_10 := hide (T_9.out.below b10)
  have X_10 := hide (X_9.out.below b10)
  have I1_10 := hide (I1_9.out.below b10)
  have J1_10 := hide (J1_9.out.below b10)
  have K1_10 := hide (K1_9.out.below b10)
  have L1_10 := hide o10
  clear b10 o10 B9 P_9 Q_9 N_9 T_9 X_9 I1_9 J1_9 K1_9
  go_wp2_with fail
  refine (sameChanges_any AL1 AX (invL (invL x)) (x) capL1 capX w10 _ _ hii hxm L1_10.out.pin X_10.out.pin).mono ?_
  rintro e w11 ⟨rfl, q11⟩
  have b11 := q11.below w10.heap.size
  have B11 := hide (B10.out.trans (b11.mono B10.out.size))
  have P_11 := hide (P_10.out.below b11)
  have Q_11 := hide (Q_10.out.below b11)
  have N_11 := hide (N_10.out.below b11)
  have T_11 := hide (T_10.out.below b11)
  have X_11 := hide (X_10.out.below b11)
  have I1_11 := hide (I1_10.out.below b11)
  have J1_11 := hide (J1_10.out.below b11)
  have K1_11 := hide (K1_10.out.below b11)
  have L1_11 := hide (L1_10.out.below b11)
  clear b11 q11 B10 P_10 Q_10 N_10 T_10 X_10 I1_10 J1_10 K1_10 L1_10
  cases hb : appB l d
  · go_wp2_with fail
    refine (sameMap_any AN AT (appL l d) (appL l d) capN capT w11 _ _ ham ham N_11.out.pin T_11.out.pin).mono ?_
    rintro e w12 ⟨rfl, q12⟩
    have b12 := q12.below w11.heap.size
    have B12 := hide (B11.out.trans (b12.mono B11.out.size))
    have P_12 := hide (P_11.out.below b12)
    have Q_12 := hide (Q_11.out.below b12)
    have N_12 := hide (N_11.out.below b12)
    have T_12 := hide (T_11.out.below b12)
    have X_12 := hide (X_11.out.below b12)
    have I1_12 := hide (I1_11.out.below b12)
    have J1_12 := hide (J1_11.out.below b12)
    have K1_12 := hide (K1_11.out.below b12)
    have L1_12 := hide (L1_11.out.below b12)
    clear b12 q12 B11 P_11 Q_11 N_11 T_11 X_11 I1_11 J1_11 K1_11 L1_11
    go_wp2_with fail
    refine (implInverse_any AX (x) capX w12 hx1 X_12.out.pin).mono ?_
    rintro e w13 ⟨AI2, capI2, hcI2, rfl, o13, b13⟩
    have B13 := hide (B12.out.trans (b13.mono B12.out.size))
    have P_13 := hide (P_12.out.below b13)
    have Q_13 := hide (Q_12.out.below b13)
    have N_13 := hide (N_12.out.below b13)
    have T_13 := hide (T_12.out.below b13)
    have X_13 := hide (X_12.out.below b13)
    have I1_13 := hide (I1_12.out.below b13)
    have J1_13 := hide (J1_12.out.below b13)
    have K1_13 := hide (K1_12.out.below b13)
    have L1_13 := hide (L1_12.out.below b13)
    have I2_13 := hide o13
    clear b13 o13 B12 P_12 Q_12 N_12 T_12 X_12 I1_12 J1_12 K1_12 L1_12
    go_wp2_with fail
    refine (specInverse_any AX (x) capX w13 hx1 X_13.out.pin).mono ?_
    rintro e w14 ⟨AJ2, capJ2, hcJ2, rfl, o14, b14⟩
    have B14 := hide (B13.out.trans (b14.mono B13.out.size))
    have P_14 := hide (P_13.out.below b14)
    have Q_14 := hide (Q_13.out.below b14)
    have N_14 := hide (N_13.out.below b14)
    have T_14 := hide (T_13.out.below b14)
    have X_14 := hide (X_13.out.below b14)
    have I1_14 := hide (I1_13.out.below b14)
    have J1_14 := hide (J1_13.out.below b14)
    have K1_14 := hide (K1_13.out.below b14)
    have L1_14 := hide (L1_13.out.below b14)
    have I2_14 := hide (I2_13.out.below b14)
    have J2_14 := hide o14
    clear b14 o14 B13 P_13 Q_13 N_13 T_13 X_13 I1_13 J1_13 K1_13 L1_13 I2_13
    go_wp2_with fail
    refine (sameChanges_any AI2 AJ2 (invL x) (invL x) capI2 capJ2 w14 _ _ him him I2_14.out.pin J2_14.out.pin).mono ?_
    rintro e w15 ⟨rfl, q15⟩
    have b15 := q15.below w14.heap.size
    have B15 := hide (B14.out.trans (b15.mono B14.out.size))
    have P_15 := hide (P_14.out.below b15)
    have Q_15 := hide (Q_14.out.below b15)
    have N_15 := hide (N_14.out.below b15)
    have T_15 := hide (T_14.out.below b15)
    have X_15 := hide (X_14.out.below b15)
    have I1_15 := hide (I1_14.out.below b15)
    have J1_15 := hide (J1_14.out.below b15)
    have K1_15 := hide (K1_14.out.below b15)
    have L1_15 := hide (L1_14.out.below b15)
    have I2_15 := hide (I2_14.out.below b15)
    have J2_15 := hide (J2_14.out.below b15)
    clear b15 q15 B14 P_14 Q_14 N_14 T_14 X_14 I1_14 J1_14 K1_14 L1_14 I2_14 J2_14
    go_wp2_with fail
    refine (implInverse_any AX (x) capX w15 hx1 X_15.out.pin).mono ?_
    rintro e w16 ⟨AK2, capK2, hcK2, rfl, o16, b16⟩
    have B16 := hide (B15.out.trans (b16.mono B15.out.size))
    have P_16 := hide (P_15.out.below b16)
    have Q_16 := hide (Q_15.out.below b16)
    have N_16 := hide (N_15.out.below b16)
    have T_16 := hide (T_15.out.below b16)
    have X_16 := hide (X_15.out.below b16)
    have I1_16 := hide (I1_15.out.below b16)
    have J1_16 := hide (J1_15.out.below b16)
    have K1_16 := hide (K1_15.out.below b16)
    have L1_16 := hide (L1_15.out.below b16)
    have I2_16 := hide (I2_15.out.below b16)
    have J2_16 := hide (J2_15.out.below b16)
    have K2_16 := hide o16
    clear b16 o16 B15 P_15 Q_15 N_15 T_15 X_15 I1_15 J1_15 K1_15 L1_15 I2_15 J2_15
    go_wp2_with fail
    refine (implInverse_any AK2 (invL x) capK2 w16 hi1 K2_16.out.pin).mono ?_
    rintro e w17 ⟨AL2, capL2, hcL2, rfl, o17, b17⟩
    have B17 := hide (B16.out.trans (b17.mono B16.out.size))
    have P_17 := hide (P_16.out.below b17)
    have Q_17 := hide (Q_16.out.below b17)
    have N_17 := hide (N_16.out.below b17)
    have T_17 := hide (T_16.out.below b17)
    have X_17 := hide (X_16.out.below b17)
    have I1_17 := hide (I1_16.out.below b17)
    have J1_17 := hide (J1_16.out.below b17)
    have K1_17 := hide (K1_16.out.below b17)
    have L1_17 := hide (L1_16.out.below b17)
    have I2_17 := hide (I2_16.out.below b17)
    have J2_17 := hide (J2_16.out.below b17)
    have K2_17 := hide (K2_16.out.below b17)
    have L2_17 := hide o17
    clear b17 o17 B16 P_16 Q_16 N_16 T_16 X_16 I1_16 J1_16 K1_16 L1_16 I2_16 J2_16 K2_16
    go_wp2_with fail
    refine (sameChanges_any AL2 AX (invL (invL x)) (x) capL2 capX w17 _ _ hii hxm L2_17.out.pin X_17.out.pin).mono ?_
    rintro e w18 ⟨rfl, q18⟩
    have b18 := q18.below w17.heap.size
    have B18 := hide (B17.out.trans (b18.mono B17.out.size))
    have P_18 := hide (P_17.out.below b18)
    have Q_18 := hide (Q_17.out.below b18)
    have N_18 := hide (N_17.out.below b18)
    have T_18 := hide (T_17.out.below b18)
    have X_18 := hide (X_17.out.below b18)
    have I1_18 := hide (I1_17.out.below b18)
    have J1_18 := hide (J1_17.out.below b18)
    have K1_18 := hide (K1_17.out.below b18)
    have L1_18 := hide (L1_17.out.below b18)
    have I2_18 := hide (I2_17.out.below b18)
    have J2_18 := hide (J2_17.out.below b18)
    have K2_18 := hide (K2_17.out.below b18)
    have L2_18 := hide (L2_17.out.below b18)
    clear b18 q18 B17 P_17 Q_17 N_17 T_17 X_17 I1_17 J1_17 K1_17 L1_17 I2_17 J2_17 K2_17 L2_17
    go_wp2
    go_ret
    exact ⟨rfl, B18.out⟩
  · have hd2 : (invL d).length ≤ 1048576 := by rw [invL_len]; exact hd1
    have a2 : appB (appL l d) (invL d) = true := by rw [appL_yes hb]; exact inv_ok hb
    have A2 : Hid (appL (appL l d) (invL d) = l) := hide (inv_appL hb)
    have hal2 := appL_len (appL l d) (invL d)
    have ham2 : (appL (appL l d) (invL d)).length ≤ maxLen := by unfold maxLen; omega
    have e2 : eqL (appL (appL l d) (invL d)) l = true := by rw [A2.out]; exact eqL_self _
    have hmn : mapB (appL l d) = true := by rw [appL_yes hb]; exact (appB_iff.1 hb).2.2
    go_wp2_with fail
    refine (implInverse_any AQ (d) capQ w11 hd1 Q_11.out.pin).mono ?_
    rintro e w12 ⟨AZ, capZ, hcZ, rfl, o12, b12⟩
    have B12 := hide (B11.out.trans (b12.mono B11.out.size))
    have P_12 := hide (P_11.out.below b12)
    have Q_12 := hide (Q_11.out.below b12)
    have N_12 := hide (N_11.out.below b12)
    have T_12 := hide (T_11.out.below b12)
    have X_12 := hide (X_11.out.below b12)
    have I1_12 := hide (I1_11.out.below b12)
    have J1_12 := hide (J1_11.out.below b12)
    have K1_12 := hide (K1_11.out.below b12)
    have L1_12 := hide (L1_11.out.below b12)
    have Z_12 := hide o12
    clear b12 o12 B11 P_11 Q_11 N_11 T_11 X_11 I1_11 J1_11 K1_11 L1_11
    go_wp2_with fail
    refine (implApplied_any AN (appL l d) capN AZ (invL d) capZ w12 ham hd2 N_12.out.pin Z_12.out.pin).mono ?_
    rintro e w13 ⟨AB, capB, hcB, rfl, o13, b13⟩
    have B13 := hide (B12.out.trans (b13.mono B12.out.size))
    have P_13 := hide (P_12.out.below b13)
    have Q_13 := hide (Q_12.out.below b13)
    have N_13 := hide (N_12.out.below b13)
    have T_13 := hide (T_12.out.below b13)
    have X_13 := hide (X_12.out.below b13)
    have I1_13 := hide (I1_12.out.below b13)
    have J1_13 := hide (J1_12.out.below b13)
    have K1_13 := hide (K1_12.out.below b13)
    have L1_13 := hide (L1_12.out.below b13)
    have Z_13 := hide (Z_12.out.below b13)
    have B_13 := hide o13
    clear b13 o13 B12 P_12 Q_12 N_12 T_12 X_12 I1_12 J1_12 K1_12 L1_12 Z_12
    go_wp2_with fail
    refine (implMapOk_any AN (appL l d) capN w13 ham N_13.out.pin).mono ?_
    rintro e w14 ⟨rfl, b14⟩
    have B14 := hide (B13.out.trans (b14.mono B13.out.size))
    have P_14 := hide (P_13.out.below b14)
    have Q_14 := hide (Q_13.out.below b14)
    have N_14 := hide (N_13.out.below b14)
    have T_14 := hide (T_13.out.below b14)
    have X_14 := hide (X_13.out.below b14)
    have I1_14 := hide (I1_13.out.below b14)
    have J1_14 := hide (J1_13.out.below b14)
    have K1_14 := hide (K1_13.out.below b14)
    have L1_14 := hide (L1_13.out.below b14)
    have Z_14 := hide (Z_13.out.below b14)
    have B_14 := hide (B_13.out.below b14)
    clear b14  B13 P_13 Q_13 N_13 T_13 X_13 I1_13 J1_13 K1_13 L1_13 Z_13 B_13
    go_wp2_with fail
    refine (sameMap_any AB AP (appL (appL l d) (invL d)) (l) capB capP w14 _ _ ham2 hlm B_14.out.pin P_14.out.pin).mono ?_
    rintro e w15 ⟨rfl, q15⟩
    have b15 := q15.below w14.heap.size
    have B15 := hide (B14.out.trans (b15.mono B14.out.size))
    have P_15 := hide (P_14.out.below b15)
    have Q_15 := hide (Q_14.out.below b15)
    have N_15 := hide (N_14.out.below b15)
    have T_15 := hide (T_14.out.below b15)
    have X_15 := hide (X_14.out.below b15)
    have I1_15 := hide (I1_14.out.below b15)
    have J1_15 := hide (J1_14.out.below b15)
    have K1_15 := hide (K1_14.out.below b15)
    have L1_15 := hide (L1_14.out.below b15)
    have Z_15 := hide (Z_14.out.below b15)
    have B_15 := hide (B_14.out.below b15)
    clear b15 q15 B14 P_14 Q_14 N_14 T_14 X_14 I1_14 J1_14 K1_14 L1_14 Z_14 B_14
    go_wp2
    go_ret
    exact ⟨rfl, B15.out⟩

set_option maxRecDepth 100000 in
theorem lifted (os : Os) (started : os.Started) (H : Type) (enc : TypeId × Value → H) :
    ReturnsInHanded {} Try.checked os 4 .any (Rows.fnAppliedSpec.pre6 enc Try.prog Try.f4 Rows.fnAppliedRow.domain false) (Rows.fnAppliedSpec.post enc Try.prog Try.f4 false true false false) := by
  refine returnsInHanded_of_change (C := Try.checked) own started (by kernel_rfl) Try.func4
    (ChangeSpec.witness6 (enc := enc) (C := Try.checked) false ⟨#[], #[.slice none 0 0], []⟩ 8 (by kernel_rfl) (by kernel_rfl) (by kernel_rfl) (by kernel_rfl)) ?_
  intro W base args ds gs before hval0 hW hcnd _
  have hval : ∀ (j : Nat) t v, Try.f4.params[j]? = some t → args[j]? = some v → Value.okWide Try.prog W .any base t v := hval0
  have hW' := hW
  obtain ⟨p, q, hA0, hV, rfl, hfz, hnd⟩ := hW
  have hA : DataW.TrodAll enc Try.prog W 0 (fun _ => true) true Try.f4.params.toList args.toList ds p := hA0
  rw [Try.params4] at hA hval
  obtain ⟨v0, vs0, d0, ds0, p0, q0, hargs, rfl, rfl, h0, r0⟩ := trodAll_cons hA
  obtain ⟨rfl, rfl, rfl⟩ := trodAll_nil r0
  obtain rfl : args = #[v0] := by cases args; simp_all
  obtain ⟨rfl, rfl⟩ := trodVars_none hV
  obtain ⟨A0, n0, cap0, rfl⟩ := okWide_slice Try.underlying22 (hval 0 22 v0 rfl rfl)
  have lt0 : ∀ x ∈ p0, x.block < W.heap.size := by obtain ⟨m, hm⟩ := h0; exact DataW.trod_lt m _ _ _ hm
  obtain ⟨l0, rfl, hl0, hin0⟩ := open_code h0
  clear hA0 hval0
  refine (walk A0 n0 cap0 W hl0 hin0).mono fun e W' ⟨he, bel⟩ => ?_
  subst he
  exact ⟨_, rfl, _, _, _, [], _, [], hW', trodAll_mk1 (shut_bool Try.underlying4 _), (trodAll_cons_mk (Below.trod laidOut (by kernel_rfl) (of_decide_eq_true (by kernel_rfl)) h0 bel lt0) trodAll_mk0), rfl, bel.frame _, fun h => by cases h⟩

theorem over : Rows.fnAppliedRow.holds Try.pinned (OpenSpec.ofChange Rows.fnAppliedSpec) :=
  OpenClaim.holds_of_wide 4 Try.f4 rfl rfl rfl rfl rfl rfl rfl ⟨rfl, rfl, rfl, rfl, rfl⟩ rfl rfl rfl rfl rfl (by kernel_rfl) Try.func4 (by kernel_rfl)
    (of_decide_eq_true (by kernel_rfl)) (by unfold Func.isWrapper; first | (rw [if_pos (by decide +kernel)]; kernel_rfl) | (rw [if_neg (by decide +kernel)]; exact ⟨rfl, rfl⟩))
    (fun os started H enc _ => lifted os started H enc)

end Go.Proofs.Ytcpalnkcjcgaeaa.LApplied
namespace Go.Proofs.Ytcpalnkcjcgaeaa
theorem fnApplied_proved : Rows.FnAppliedSaid := LApplied.over
end Go.Proofs.Ytcpalnkcjcgaeaa
