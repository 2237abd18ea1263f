/-
  For every three lists of pairs and every side, laws.FnExactResolved returns true and leaves its arguments as they were: impl.Resolved answers as the reference does, keeps its arguments, and its answer is memory of its own. No conditions but that the two variables (the sentinel of refusals, the type error's handle) hold what the program's text lays (the card ties them).
-/
import Derived.Test.YtaofemdhgfejjaaDoorLPairS
import Derived.Test.YtaofemdhgfejjaaDoorLMarkI
import Derived.Test.YtaofemdhgfejjaaDoorMTakI
import Derived.Test.YtaofemdhgfejjaaDoorMLaid
import Derived.Test.YtaofemdhgfejjaaDoorLOpen
namespace Go.Proofs.YtaofemdhgfejjaaDoor.ExResolved
open Go.RowKit Go.ChangeShapes Go.WideShapes Go.ChangeAt
open Go.ChangeMaps (open_string shut_string)

set_option maxRecDepth 100000 in
set_option maxHeartbeats 4000000 in
theorem walk (A0 : Option Addr) (l0 : List Pr) (cap0 : Nat) (A1 : Option Addr) (l1 : List Pr) (cap1 : Nat) (A2 : Option Addr) (l2 : List Pr) (cap2 : Nat) (side : Int) (a : Addr) (w : World) (hl0 : l0.length ≤ maxLen) (hin0 : PIn w w.heap.size A0 l0) (hl1 : l1.length ≤ maxLen) (hin1 : PIn w w.heap.size A1 l1) (hl2 : l2.length ≤ maxLen) (hin2 : PIn w w.heap.size A2 l2) (hE : Errs w a) :
    Calls Tryd.prog 6 #[.slice A0 l0.length cap0, .slice A1 l1.length cap1, .slice A2 l2.length cap2, .int .i64 side] w fun e w' => e = .returned (.bool true) ∧ Below w.heap.size w w' := by
  have es0 := eqL_self l0
  have es1 := eqL_self l1
  have es2 := eqL_self l2
  have esR0 := eqL_self (rsL l0 l1 l2 side)
  have e2 : (rsB l0 l1 l2 side != rsB l0 l1 l2 side) = false := by simp
  have HE := hide hE
  have HZ := hide hE.2.2
  have IN0 := hide hin0
  have IN1 := hide hin1
  have IN2 := hide hin2
  have B0 : Hid (Below w.heap.size w w) := hide (Below.refl _ _)
  clear hin0 hin1 hin2 hE
  go_enter Tryd.func6, Tryd.ntmps6
  go_wp2_with fail
  refine (szPairS_any A0 l0 cap0 1048576 _ hl0 ((IN0.out.below B0.out).more B0.out.size) (by omega) (by omega)).mono ?_
  rintro e w1 ⟨hr1, b1⟩
  have B1 := hide (B0.out.trans (b1.mono B0.out.size))
  clear b1 B0
  rcases hr1 with rfl | ⟨r1, hr10, hr11, rfl⟩
  · go_wp2
    go_ret
    exact ⟨rfl, B1.out⟩
  have hm0 : l0.length ≤ 1048576 := by omega
  go_wp2_with fail
  refine (szPairS_any A1 l1 cap1 r1 _ hl1 ((IN1.out.below B1.out).more B1.out.size) (by omega) (by omega)).mono ?_
  rintro e w2 ⟨hr2, b2⟩
  have B2 := hide (B1.out.trans (b2.mono B1.out.size))
  clear b2 B1
  rcases hr2 with rfl | ⟨r2, hr20, hr21, rfl⟩
  · go_wp2
    go_ret
    exact ⟨rfl, B2.out⟩
  have hm1 : l1.length ≤ 1048576 := by omega
  go_wp2_with fail
  refine (szPairS_any A2 l2 cap2 r2 _ hl2 ((IN2.out.below B2.out).more B2.out.size) (by omega) (by omega)).mono ?_
  rintro e w3 ⟨hr3, b3⟩
  have B3 := hide (B2.out.trans (b3.mono B2.out.size))
  clear b3 B2
  rcases hr3 with rfl | ⟨r3, hr30, hr31, rfl⟩
  · go_wp2
    go_ret
    exact ⟨rfl, B3.out⟩
  have hm2 : l2.length ≤ 1048576 := by omega
  have zw := B3.out.size
  have hp0 : (rsL l0 l1 l2 side).length ≤ 40 := rsL_len l0 l1 l2 side
  have hpm0 : (rsL l0 l1 l2 side).length ≤ maxLen := by unfold maxLen; omega
  go_wp2_with fail
  refine (toPairS_any A0 l0 cap0 _ hm0 ((IN0.out.below B3.out).more B3.out.size)).mono ?_
  rintro e w4 ⟨rfl, own4, b4⟩
  have B4 := hide (B3.out.trans (b4.mono B3.out.size))
  have z4 := b4.size
  clear b4 B3 
  have rS0 := own4.row
  have S0_4 := hide own4
  clear own4
  go_wp2_with fail
  refine (toPairS_any A1 l1 cap1 _ hm1 ((IN1.out.below B4.out).more B4.out.size)).mono ?_
  rintro e w5 ⟨rfl, own5, b5⟩
  have B5 := hide (B4.out.trans (b5.mono B4.out.size))
  have z5 := b5.size
  have S0_5 := hide (S0_4.out.below b5)
  clear b5 B4 S0_4
  have rS1 := own5.row
  have S1_5 := hide own5
  clear own5
  go_wp2_with fail
  refine (toPairS_any A2 l2 cap2 _ hm2 ((IN2.out.below B5.out).more B5.out.size)).mono ?_
  rintro e w6 ⟨rfl, own6, b6⟩
  have B6 := hide (B5.out.trans (b6.mono B5.out.size))
  have z6 := b6.size
  have S0_6 := hide (S0_5.out.below b6)
  have S1_6 := hide (S1_5.out.below b6)
  clear b6 B5 S0_5 S1_5
  have rS2 := own6.row
  have S2_6 := hide own6
  clear own6
  go_wp2_with fail
  refine (specResolved_any _ _ _ l0 l1 l2 l0.length l1.length l2.length side _ hl0 hl1 hl2 (S0_6.out.pin) (S1_6.out.pin) (S2_6.out.pin)).mono ?_
  rintro e w7 ⟨AW0, capW0, hcW, rfl, own7_0, b7⟩
  have B7 := hide (B6.out.trans (b7.mono B6.out.size))
  have z7 := b7.size
  have S0_7 := hide (S0_6.out.below b7)
  have S1_7 := hide (S1_6.out.below b7)
  have S2_7 := hide (S2_6.out.below b7)
  clear b7 B6 S0_6 S1_6 S2_6
  have rW0 := own7_0.row
  have W0_7 := hide own7_0
  clear own7_0
  clear S0_7
  clear S1_7
  clear S2_7
  go_wp2_with fail
  refine (toPairS_any A0 l0 cap0 _ hm0 ((IN0.out.below B7.out).more B7.out.size)).mono ?_
  rintro e w8 ⟨rfl, own8, b8⟩
  have B8 := hide (B7.out.trans (b8.mono B7.out.size))
  have z8 := b8.size
  have W0_8 := hide (W0_7.out.below b8)
  clear b8 B7 W0_7
  have rX0 := own8.row
  have X0_8 := hide own8
  clear own8
  go_wp2_with fail
  refine (toPairS_any A1 l1 cap1 _ hm1 ((IN1.out.below B8.out).more B8.out.size)).mono ?_
  rintro e w9 ⟨rfl, own9, b9⟩
  have B9 := hide (B8.out.trans (b9.mono B8.out.size))
  have z9 := b9.size
  have W0_9 := hide (W0_8.out.below b9)
  have X0_9 := hide (X0_8.out.below b9)
  clear b9 B8 W0_8 X0_8
  have rX1 := own9.row
  have X1_9 := hide own9
  clear own9
  go_wp2_with fail
  refine (toPairS_any A2 l2 cap2 _ hm2 ((IN2.out.below B9.out).more B9.out.size)).mono ?_
  rintro e w10 ⟨rfl, own10, b10⟩
  have B10 := hide (B9.out.trans (b10.mono B9.out.size))
  have z10 := b10.size
  have W0_10 := hide (W0_9.out.below b10)
  have X0_10 := hide (X0_9.out.below b10)
  have X1_10 := hide (X1_9.out.below b10)
  clear b10 B9 W0_9 X0_9 X1_9
  have rX2 := own10.row
  have X2_10 := hide own10
  clear own10
  go_wp2_with fail
  refine (implResolved_any _ _ _ l0 l1 l2 l0.length l1.length l2.length side a _ hl0 hl1 hl2 (X0_10.out.pin) (X1_10.out.pin) (X2_10.out.pin) (HE.out.belowB B10.out HZ.out.1 HZ.out.2)).mono ?_
  rintro e w11 ⟨AG0, capG0, hcG, rfl, own11_0, b11⟩
  have B11 := hide (B10.out.trans (b11.mono B10.out.size))
  have z11 := b11.size
  have W0_11 := hide (W0_10.out.below b11)
  have X0_11 := hide (X0_10.out.below b11)
  have X1_11 := hide (X1_10.out.below b11)
  have X2_11 := hide (X2_10.out.below b11)
  clear b11 B10 W0_10 X0_10 X1_10 X2_10
  have rG0 := own11_0.row
  have G0_11 := hide own11_0
  clear own11_0
  have apX0W0 : Hid (∀ g, rowOf (AW0 : Option Addr) = some g → rowOf ((some ⟨w7.heap.size, 0, none⟩) : Option Addr) ≠ some g) := hide (fun g hg x => by have h1 := rW0 g hg; have h2 := rX0 g x; omega)
  have apX0G0 : Hid (∀ g, rowOf (AG0 : Option Addr) = some g → rowOf ((some ⟨w7.heap.size, 0, none⟩) : Option Addr) ≠ some g) := hide (fun g hg x => by have h1 := rG0 g hg; have h2 := rX0 g x; omega)
  have apX0X1 : Hid (∀ g, rowOf ((some ⟨w8.heap.size, 0, none⟩) : Option Addr) = some g → rowOf ((some ⟨w7.heap.size, 0, none⟩) : Option Addr) ≠ some g) := hide (fun g hg x => by have h1 := rX1 g hg; have h2 := rX0 g x; omega)
  have apX0X2 : Hid (∀ g, rowOf ((some ⟨w9.heap.size, 0, none⟩) : Option Addr) = some g → rowOf ((some ⟨w7.heap.size, 0, none⟩) : Option Addr) ≠ some g) := hide (fun g hg x => by have h1 := rX2 g hg; have h2 := rX0 g x; omega)
  have hzX0 : Hid (∀ g, rowOf ((some ⟨w7.heap.size, 0, none⟩) : Option Addr) = some g → w.heap.size ≤ g) := hide (fun g hg => by have h1 := rX0 g hg; have h2 := B11.out.size; omega)
  have apX1W0 : Hid (∀ g, rowOf (AW0 : Option Addr) = some g → rowOf ((some ⟨w8.heap.size, 0, none⟩) : Option Addr) ≠ some g) := hide (fun g hg x => by have h1 := rW0 g hg; have h2 := rX1 g x; omega)
  have apX1G0 : Hid (∀ g, rowOf (AG0 : Option Addr) = some g → rowOf ((some ⟨w8.heap.size, 0, none⟩) : Option Addr) ≠ some g) := hide (fun g hg x => by have h1 := rG0 g hg; have h2 := rX1 g x; omega)
  have apX1X0 : Hid (∀ g, rowOf ((some ⟨w7.heap.size, 0, none⟩) : Option Addr) = some g → rowOf ((some ⟨w8.heap.size, 0, none⟩) : Option Addr) ≠ some g) := hide (fun g hg x => by have h1 := rX0 g hg; have h2 := rX1 g x; omega)
  have apX1X2 : Hid (∀ g, rowOf ((some ⟨w9.heap.size, 0, none⟩) : Option Addr) = some g → rowOf ((some ⟨w8.heap.size, 0, none⟩) : Option Addr) ≠ some g) := hide (fun g hg x => by have h1 := rX2 g hg; have h2 := rX1 g x; omega)
  have hzX1 : Hid (∀ g, rowOf ((some ⟨w8.heap.size, 0, none⟩) : Option Addr) = some g → w.heap.size ≤ g) := hide (fun g hg => by have h1 := rX1 g hg; have h2 := B11.out.size; omega)
  have apX2W0 : Hid (∀ g, rowOf (AW0 : Option Addr) = some g → rowOf ((some ⟨w9.heap.size, 0, none⟩) : Option Addr) ≠ some g) := hide (fun g hg x => by have h1 := rW0 g hg; have h2 := rX2 g x; omega)
  have apX2G0 : Hid (∀ g, rowOf (AG0 : Option Addr) = some g → rowOf ((some ⟨w9.heap.size, 0, none⟩) : Option Addr) ≠ some g) := hide (fun g hg x => by have h1 := rG0 g hg; have h2 := rX2 g x; omega)
  have apX2X0 : Hid (∀ g, rowOf ((some ⟨w7.heap.size, 0, none⟩) : Option Addr) = some g → rowOf ((some ⟨w9.heap.size, 0, none⟩) : Option Addr) ≠ some g) := hide (fun g hg x => by have h1 := rX0 g hg; have h2 := rX2 g x; omega)
  have apX2X1 : Hid (∀ g, rowOf ((some ⟨w8.heap.size, 0, none⟩) : Option Addr) = some g → rowOf ((some ⟨w9.heap.size, 0, none⟩) : Option Addr) ≠ some g) := hide (fun g hg x => by have h1 := rX1 g hg; have h2 := rX2 g x; omega)
  have hzX2 : Hid (∀ g, rowOf ((some ⟨w9.heap.size, 0, none⟩) : Option Addr) = some g → w.heap.size ≤ g) := hide (fun g hg => by have h1 := rX2 g hg; have h2 := B11.out.size; omega)
  have apG0W0 : Hid (∀ g, rowOf AW0 = some g → rowOf AG0 ≠ some g) := hide (fun g hg x => by have h1 := rW0 g hg; have h2 := rG0 g x; omega)
  have hzG0 : Hid (∀ g, rowOf AG0 = some g → w.heap.size ≤ g) := hide (fun g hg => by have h1 := rG0 g hg; omega)
  clear rW0 rG0 rX0 rX1 rX2 rS0 rS1 rS2
  go_wp2_with fail
  refine (eqPairS_any _ _ (rsL l0 l1 l2 side) (rsL l0 l1 l2 side) (capG0) (capW0) _ hpm0 hpm0 G0_11.out.pin W0_11.out.pin).mono ?_
  rintro e w12 ⟨rfl, b12⟩
  have B12 := hide (B11.out.trans (b12.mono B11.out.size))
  have z12 := b12.size
  have W0_12 := hide (W0_11.out.below b12)
  have X0_12 := hide (X0_11.out.below b12)
  have X1_12 := hide (X1_11.out.below b12)
  have X2_12 := hide (X2_11.out.below b12)
  have G0_12 := hide (G0_11.out.below b12)
  clear b12 B11 W0_11 X0_11 X1_11 X2_11 G0_11
  go_wp2_with fail
  refine (toPairS_any A0 l0 cap0 _ hm0 ((IN0.out.below B12.out).more B12.out.size)).mono ?_
  rintro e w13 ⟨rfl, own13, b13⟩
  have B13 := hide (B12.out.trans (b13.mono B12.out.size))
  have z13 := b13.size
  have W0_13 := hide (W0_12.out.below b13)
  have X0_13 := hide (X0_12.out.below b13)
  have X1_13 := hide (X1_12.out.below b13)
  have X2_13 := hide (X2_12.out.below b13)
  have G0_13 := hide (G0_12.out.below b13)
  clear b13 B12 W0_12 X0_12 X1_12 X2_12 G0_12
  have rY := own13.row
  have Y_13 := hide own13
  clear own13
  go_wp2_with fail
  refine (eqPairS_any _ _ (l0) (l0) (l0.length) (l0.length) _ hl0 hl0 X0_13.out.pin Y_13.out.pin).mono ?_
  rintro e w14 ⟨rfl, b14⟩
  have B14 := hide (B13.out.trans (b14.mono B13.out.size))
  have z14 := b14.size
  have W0_14 := hide (W0_13.out.below b14)
  have X0_14 := hide (X0_13.out.below b14)
  have X1_14 := hide (X1_13.out.below b14)
  have X2_14 := hide (X2_13.out.below b14)
  have G0_14 := hide (G0_13.out.below b14)
  have Y_14 := hide (Y_13.out.below b14)
  clear b14 B13 W0_13 X0_13 X1_13 X2_13 G0_13 Y_13
  clear Y_14
  clear rY
  go_wp2_with fail
  refine (toPairS_any A1 l1 cap1 _ hm1 ((IN1.out.below B14.out).more B14.out.size)).mono ?_
  rintro e w15 ⟨rfl, own15, b15⟩
  have B15 := hide (B14.out.trans (b15.mono B14.out.size))
  have z15 := b15.size
  have W0_15 := hide (W0_14.out.below b15)
  have X0_15 := hide (X0_14.out.below b15)
  have X1_15 := hide (X1_14.out.below b15)
  have X2_15 := hide (X2_14.out.below b15)
  have G0_15 := hide (G0_14.out.below b15)
  clear b15 B14 W0_14 X0_14 X1_14 X2_14 G0_14
  have rY := own15.row
  have Y_15 := hide own15
  clear own15
  go_wp2_with fail
  refine (eqPairS_any _ _ (l1) (l1) (l1.length) (l1.length) _ hl1 hl1 X1_15.out.pin Y_15.out.pin).mono ?_
  rintro e w16 ⟨rfl, b16⟩
  have B16 := hide (B15.out.trans (b16.mono B15.out.size))
  have z16 := b16.size
  have W0_16 := hide (W0_15.out.below b16)
  have X0_16 := hide (X0_15.out.below b16)
  have X1_16 := hide (X1_15.out.below b16)
  have X2_16 := hide (X2_15.out.below b16)
  have G0_16 := hide (G0_15.out.below b16)
  have Y_16 := hide (Y_15.out.below b16)
  clear b16 B15 W0_15 X0_15 X1_15 X2_15 G0_15 Y_15
  clear Y_16
  clear rY
  go_wp2_with fail
  refine (toPairS_any A2 l2 cap2 _ hm2 ((IN2.out.below B16.out).more B16.out.size)).mono ?_
  rintro e w17 ⟨rfl, own17, b17⟩
  have B17 := hide (B16.out.trans (b17.mono B16.out.size))
  have z17 := b17.size
  have W0_17 := hide (W0_16.out.below b17)
  have X0_17 := hide (X0_16.out.below b17)
  have X1_17 := hide (X1_16.out.below b17)
  have X2_17 := hide (X2_16.out.below b17)
  have G0_17 := hide (G0_16.out.below b17)
  clear b17 B16 W0_16 X0_16 X1_16 X2_16 G0_16
  have rY := own17.row
  have Y_17 := hide own17
  clear own17
  go_wp2_with fail
  refine (eqPairS_any _ _ (l2) (l2) (l2.length) (l2.length) _ hl2 hl2 X2_17.out.pin Y_17.out.pin).mono ?_
  rintro e w18 ⟨rfl, b18⟩
  have B18 := hide (B17.out.trans (b18.mono B17.out.size))
  have z18 := b18.size
  have W0_18 := hide (W0_17.out.below b18)
  have X0_18 := hide (X0_17.out.below b18)
  have X1_18 := hide (X1_17.out.below b18)
  have X2_18 := hide (X2_17.out.below b18)
  have G0_18 := hide (G0_17.out.below b18)
  have Y_18 := hide (Y_17.out.below b18)
  clear b18 B17 W0_17 X0_17 X1_17 X2_17 G0_17 Y_17
  clear Y_18
  clear rY
  go_wp2_with fail
  refine (markPairS_int _ (l0) (l0.length) (_) (1) _ _ (by omega) (by omega) (by omega) X0_18.out).mono ?_
  rintro e w19 ⟨rfl, ow19, g19⟩
  have B19 := hide (B18.out.grown g19 B18.out.size hzX0.out)
  have W0_19 := hide (W0_18.out.apart g19 apX0W0.out)
  have X1_19 := hide (X1_18.out.apart g19 apX0X1.out)
  have X2_19 := hide (X2_18.out.apart g19 apX0X2.out)
  have G0_19 := hide (G0_18.out.apart g19 apX0G0.out)
  clear B18 W0_18 X1_18 X2_18 G0_18
  clear X0_18 ow19 g19
  go_wp2_with fail
  refine (markPairS_int _ (l1) (l1.length) (_) (1 + 2 * l0.length) _ _ (by omega) (by omega) (by omega) X1_19.out).mono ?_
  rintro e w20 ⟨rfl, ow20, g20⟩
  have B20 := hide (B19.out.grown g20 B19.out.size hzX1.out)
  have W0_20 := hide (W0_19.out.apart g20 apX1W0.out)
  have X2_20 := hide (X2_19.out.apart g20 apX1X2.out)
  have G0_20 := hide (G0_19.out.apart g20 apX1G0.out)
  clear B19 W0_19 X2_19 G0_19
  clear X1_19 ow20 g20
  go_wp2_with fail
  refine (markPairS_int _ (l2) (l2.length) (_) (1 + 2 * l0.length + 2 * l1.length) _ _ (by omega) (by omega) (by omega) X2_20.out).mono ?_
  rintro e w21 ⟨rfl, ow21, g21⟩
  have B21 := hide (B20.out.grown g21 B20.out.size hzX2.out)
  have W0_21 := hide (W0_20.out.apart g21 apX2W0.out)
  have G0_21 := hide (G0_20.out.apart g21 apX2G0.out)
  clear B20 W0_20 G0_20
  clear X2_20 ow21 g21
  have hk1 : ¬ ((1 + 2 * l0.length + 2 * l1.length + 2 * l2.length : Nat) : Int) < 0 := by omega
  have hk2 : ¬ (1 + 2 * (l0.length : Int) + 2 * (l1.length : Int) + 2 * (l2.length : Int)) < 0 := by omega
  have hk3 : decide (((1 + 2 * l0.length + 2 * l1.length + 2 * l2.length : Nat) : Int) < 0) = false := decide_eq_false hk1
  have hk4 : decide ((1 + 2 * (l0.length : Int) + 2 * (l1.length : Int) + 2 * (l2.length : Int)) < 0) = false := decide_eq_false hk2
  go_wp2_with fail
  refine (eqPairS_any _ _ (rsL l0 l1 l2 side) (rsL l0 l1 l2 side) (capG0) (capW0) _ hpm0 hpm0 G0_21.out.pin W0_21.out.pin).mono ?_
  rintro e w22 ⟨rfl, b22⟩
  have B22 := hide (B21.out.trans (b22.mono B21.out.size))
  have z22 := b22.size
  have W0_22 := hide (W0_21.out.below b22)
  have G0_22 := hide (G0_21.out.below b22)
  clear b22 B21 W0_21 G0_21
  clear hk1 hk2 hk3 hk4
  go_wp2_with fail
  refine (markPairS_int _ (rsL l0 l1 l2 side) (capG0) (_) (1) _ _ (by omega) (by omega) (by omega) G0_22.out).mono ?_
  rintro e w23 ⟨rfl, ow23, g23⟩
  have B23 := hide (B22.out.grown g23 B22.out.size hzG0.out)
  have W0_23 := hide (W0_22.out.apart g23 apG0W0.out)
  clear B22 W0_22
  have G0_23 := hide ow23
  clear G0_22 ow23 g23
  go_wp2_with fail
  refine (heldPairS_any AG0 (rsL l0 l1 l2 side).length capG0 1 _ (by omega) (by omega) G0_23.out.pin).mono ?_
  rintro e w24 ⟨rfl, b24⟩
  have B24 := hide (B23.out.trans (b24.mono B23.out.size))
  have z24 := b24.size
  have W0_24 := hide (W0_23.out.below b24)
  have G0_24 := hide (G0_23.out.below b24)
  clear b24 B23 W0_23 G0_23
  have hq0 : ¬ ((1 + 2 * (rsL l0 l1 l2 side).length : Nat) : Int) < 0 := by omega
  have hqd0 : decide (((1 + 2 * (rsL l0 l1 l2 side).length : Nat) : Int) < 0) = false := decide_eq_false hq0
  have hqe0 : (((1 + 2 * (rsL l0 l1 l2 side).length : Nat) : Int) != ((1 + 2 * (rsL l0 l1 l2 side).length : Nat) : Int)) = false := by simp
  go_wp2_with fail
  refine (toPairS_any A0 l0 cap0 _ hm0 ((IN0.out.below B24.out).more B24.out.size)).mono ?_
  rintro e w25 ⟨rfl, own25, b25⟩
  have B25 := hide (B24.out.trans (b25.mono B24.out.size))
  have z25 := b25.size
  have W0_25 := hide (W0_24.out.below b25)
  have G0_25 := hide (G0_24.out.below b25)
  clear b25 B24 W0_24 G0_24
  have rT0 := own25.row
  have T0_25 := hide own25
  clear own25
  go_wp2_with fail
  refine (toPairS_any A1 l1 cap1 _ hm1 ((IN1.out.below B25.out).more B25.out.size)).mono ?_
  rintro e w26 ⟨rfl, own26, b26⟩
  have B26 := hide (B25.out.trans (b26.mono B25.out.size))
  have z26 := b26.size
  have W0_26 := hide (W0_25.out.below b26)
  have G0_26 := hide (G0_25.out.below b26)
  have T0_26 := hide (T0_25.out.below b26)
  clear b26 B25 W0_25 G0_25 T0_25
  have rT1 := own26.row
  have T1_26 := hide own26
  clear own26
  go_wp2_with fail
  refine (toPairS_any A2 l2 cap2 _ hm2 ((IN2.out.below B26.out).more B26.out.size)).mono ?_
  rintro e w27 ⟨rfl, own27, b27⟩
  have B27 := hide (B26.out.trans (b27.mono B26.out.size))
  have z27 := b27.size
  have W0_27 := hide (W0_26.out.below b27)
  have G0_27 := hide (G0_26.out.below b27)
  have T0_27 := hide (T0_26.out.below b27)
  have T1_27 := hide (T1_26.out.below b27)
  clear b27 B26 W0_26 G0_26 T0_26 T1_26
  have rT2 := own27.row
  have T2_27 := hide own27
  clear own27
  go_wp2_with fail
  refine (implResolved_any _ _ _ l0 l1 l2 l0.length l1.length l2.length side a _ hl0 hl1 hl2 (T0_27.out.pin) (T1_27.out.pin) (T2_27.out.pin) (HE.out.belowB B27.out HZ.out.1 HZ.out.2)).mono ?_
  rintro e w28 ⟨AH0, capH0, hcH, rfl, own28_0, b28⟩
  have B28 := hide (B27.out.trans (b28.mono B27.out.size))
  have z28 := b28.size
  have W0_28 := hide (W0_27.out.below b28)
  have G0_28 := hide (G0_27.out.below b28)
  have T0_28 := hide (T0_27.out.below b28)
  have T1_28 := hide (T1_27.out.below b28)
  have T2_28 := hide (T2_27.out.below b28)
  clear b28 B27 W0_27 G0_27 T0_27 T1_27 T2_27
  have rH0 := own28_0.row
  have H0_28 := hide own28_0
  clear own28_0
  clear T0_28
  clear T1_28
  clear T2_28
  go_wp2_with fail
  refine (eqPairS_any _ _ (rsL l0 l1 l2 side) (rsL l0 l1 l2 side) (capH0) (capW0) _ hpm0 hpm0 H0_28.out.pin W0_28.out.pin).mono ?_
  rintro e w29 ⟨rfl, b29⟩
  have B29 := hide (B28.out.trans (b29.mono B28.out.size))
  have z29 := b29.size
  have W0_29 := hide (W0_28.out.below b29)
  have G0_29 := hide (G0_28.out.below b29)
  have H0_29 := hide (H0_28.out.below b29)
  clear b29 B28 W0_28 G0_28 H0_28
  clear H0_29
  clear W0_29
  go_wp2_with fail
  refine (heldPairS_any AG0 (rsL l0 l1 l2 side).length capG0 1 _ (by omega) (by omega) G0_29.out.pin).mono ?_
  rintro e w30 ⟨rfl, b30⟩
  have B30 := hide (B29.out.trans (b30.mono B29.out.size))
  have z30 := b30.size
  have G0_30 := hide (G0_29.out.below b30)
  clear b30 B29 G0_29
  go_wp2
  go_ret
  exact ⟨rfl, B30.out⟩

set_option maxRecDepth 100000 in
theorem contract (H : Type) (enc : TypeId × Value → H) (W : World) (base : Nat) (args : Array Value) (ds gs : List (DataW H)) (before : List MemPlace)
    (hval0 : ∀ (j : Nat) t v, Tryd.f6.params[j]? = some t → args[j]? = some v → Value.okWide Tryd.prog W .any base t v)
    (hW : DataW.Whole enc Tryd.prog Tryd.f6.params.toList Rows.fnExactResolvedSpec.vars false W args.toList ds gs before) (hL : laidMetH Tryd.prog Rows.fnExactResolvedRow.laid W) :
    Calls Tryd.prog 6 args W fun e W' => ∃ v, e = .returned v ∧ Rows.fnExactResolvedSpec.post enc Tryd.prog Tryd.f6 false true false false W args v W' := by
  have hval : ∀ (j : Nat) t v, Tryd.f6.params[j]? = some t → args[j]? = some v → Value.okWide Tryd.prog W .any base t v := hval0
  obtain ⟨a, hT, hvar⟩ := errs_of hL.1 hL.2
  have hW' := hW
  obtain ⟨p, q, hA0, hV0, rfl, hfz, hnd⟩ := hW
  have hA : DataW.TrodAll enc Tryd.prog W 0 (fun _ => true) true Tryd.f6.params.toList args.toList ds p := hA0
  have hV : DataW.TrodVars enc Tryd.prog W (fun _ => true) ["loop.example/g00652/impl.errNotRight"] gs q := hV0
  obtain ⟨rfl, rfl⟩ := hV.unique (vars_read1 enc gErr tErr Tryd.underlying50 hvar trivial _)
  rw [Tryd.params6] at hA hval
  obtain ⟨v0, vs0, d0, ds0, p0, q0, hargs, rfl, rfl, h0, r0⟩ := trodAll_cons hA
  obtain ⟨v1, vs1, d1, ds1, p1, q1, rfl, rfl, rfl, h1, r1⟩ := trodAll_cons r0
  obtain ⟨v2, vs2, d2, ds2, p2, q2, rfl, rfl, rfl, h2, r2⟩ := trodAll_cons r1
  obtain ⟨v3, vs3, d3, ds3, p3, q3, rfl, rfl, rfl, h3, r3⟩ := trodAll_cons r2
  obtain ⟨rfl, rfl, rfl⟩ := trodAll_nil r3
  obtain rfl : args = #[v0, v1, v2, v3] := by cases args; simp_all
  obtain ⟨A0, n0, cap0, rfl⟩ := okWide_slice Tryd.underlying36 (hval 0 36 v0 rfl rfl)
  have lt0 : ∀ x ∈ p0, x.block < W.heap.size := by obtain ⟨m, hm⟩ := h0; exact DataW.trod_lt m _ _ _ hm
  obtain ⟨l0, rfl, hl0, hin0⟩ := open_pairs h0
  obtain ⟨A1, n1, cap1, rfl⟩ := okWide_slice Tryd.underlying36 (hval 1 36 v1 rfl rfl)
  have lt1 : ∀ x ∈ p1, x.block < W.heap.size := by obtain ⟨m, hm⟩ := h1; exact DataW.trod_lt m _ _ _ hm
  obtain ⟨l1, rfl, hl1, hin1⟩ := open_pairs h1
  obtain ⟨A2, n2, cap2, rfl⟩ := okWide_slice Tryd.underlying36 (hval 2 36 v2 rfl rfl)
  have lt2 : ∀ x ∈ p2, x.block < W.heap.size := by obtain ⟨m, hm⟩ := h2; exact DataW.trod_lt m _ _ _ hm
  obtain ⟨l2, rfl, hl2, hin2⟩ := open_pairs h2
  obtain ⟨s3, rfl, rfl, rfl, hs3⟩ := open_int Tryd.underlying2 (hval 3 2 v3 rfl rfl) h3
  clear hA0 hval0
  refine (walk A0 l0 cap0 A1 l1 cap1 A2 l2 cap2 s3 a W hl0 hin0 hl1 hin1 hl2 hin2 hT).mono fun e W' ⟨he, bel⟩ => ?_
  subst he
  exact ⟨_, rfl, _, _, _, [], _, _, hW', trodAll_mk1 (shut_bool Tryd.underlying4 _), (trodAll_cons_mk (Below.trod laidOut (by kernel_rfl) (of_decide_eq_true (by kernel_rfl)) h0 bel lt0) (trodAll_cons_mk (Below.trod laidOut (by kernel_rfl) (of_decide_eq_true (by kernel_rfl)) h1 bel lt1) (trodAll_cons_mk (Below.trod laidOut (by kernel_rfl) (of_decide_eq_true (by kernel_rfl)) h2 bel lt2) (trodAll_cons_mk (shut_int Tryd.underlying2 hs3) trodAll_mk0)))), vars_read1 enc gErr tErr Tryd.underlying50 (var?_below bel gErr (var_lt gErr hvar) hvar) trivial _, bel.frame _, fun h => by cases h⟩

/-- a world for the witness: the variables hold what their initialisers lay -/
noncomputable def laidWorld (os : Os) : World := layAll (World.holding Tryd.prog os ⟨#[], #[], []⟩)
theorem laid_met (os : Os) : laidMetH Tryd.prog Rows.fnExactResolvedRow.laid ((laidWorld os).forCall (fun _ _ => 0) ⟨#[], #[.slice none 0 0, .slice none 0 0, .slice none 0 0, .int .i64 0], []⟩).memory :=
  laidMetH_of_parts (laidMet_of_run' 8 (by kernel_rfl) (by kernel_rfl)) (by kernel_rfl)
theorem reads (os : Os) {H : Type} (enc : TypeId × Value → H) : ∃ x, DataW.whole enc Tryd.prog ((laidWorld os).forCall (fun _ _ => 0) ⟨#[], #[.slice none 0 0, .slice none 0 0, .slice none 0 0, .int .i64 0], []⟩).memory Tryd.f6.params.toList Rows.fnExactResolvedSpec.vars false (#[.slice none 0 0, .slice none 0 0, .slice none 0 0, .int .i64 0] : Array Value).toList 8 = some x :=
  Option.isSome_iff_exists.1 (by kernel_rfl)
set_option maxRecDepth 100000 in
theorem lifted (os : Os) (started : os.Started) (H : Type) (enc : TypeId × Value → H) (F : Stop.Interp) :
    ReturnsInHanded {} Tryd.checked os 6 .any ((OpenSpec.ofChange Rows.fnExactResolvedSpec).preRow enc Tryd.prog Tryd.f6 Rows.fnExactResolvedRow.domain false Rows.fnExactResolvedRow.laid) (((OpenSpec.ofChange Rows.fnExactResolvedSpec).at F).post enc Tryd.prog Tryd.f6 false true false false) := by
  obtain ⟨x, hx⟩ := reads os enc
  refine returnsInHanded_of_row (C := Tryd.checked) (s := OpenSpec.ofChange Rows.fnExactResolvedSpec) own started (by kernel_rfl) Tryd.func6
    (witness_row_at (enc := enc) (C := Tryd.checked) false (laidWorld os) #[.slice none 0 0, .slice none 0 0, .slice none 0 0, .int .i64 0] rfl (by kernel_rfl) (by kernel_rfl) (by kernel_rfl)
      (OpenSpec.preRow_of_cond 8 hx rfl (fun k hk => by cases hk) (by kernel_rfl) (laid_met os))) ?_
  intro W base args ds gs before hval hW _ _ _ hL _ _
  exact contract H enc W base args ds gs before hval hW hL
theorem said : Rows.FnExactResolvedSaid :=
  OpenClaim.holds_of_cond 6 Tryd.f6 rfl rfl rfl rfl rfl rfl rfl ⟨rfl, rfl, rfl, rfl, rfl⟩ rfl rfl rfl rfl rfl (by kernel_rfl) Tryd.func6 (by kernel_rfl)
    (of_decide_eq_true (by kernel_rfl)) (by unfold Func.isWrapper; first | (rw [if_pos (by decide +kernel)]; kernel_rfl) | (rw [if_neg (by decide +kernel)]; exact ⟨rfl, rfl⟩))
    (fun os started H enc _ F => by rw [OpenClaim.pre_eq_preRow]; exact lifted os started H enc F)
theorem plain (f : FuncId) (fn : Func) (hf : Tryd.pinned.checked.prog.funcNamed "loop.example/g00652/laws.FnExactResolved" = some f) (hfn : Tryd.pinned.checked.prog.funcs[f]? = some fn) :
    true = Tryd.pinned.checked.prog.looks [] ∧ ∀ (j : Nat) t, fn.params[j]? = some t → Tryd.pinned.checked.prog.wantsStandIn t = false := by
  obtain rfl : f = 6 := Option.some.inj ((show Tryd.prog.funcNamed "loop.example/g00652/laws.FnExactResolved" = some 6 by kernel_rfl).symm.trans hf) |>.symm
  obtain rfl : fn = Tryd.f6 := (Option.some.inj (Tryd.func6.symm.trans hfn)).symm
  refine ⟨by kernel_rfl, fun j t ht => ?_⟩
  rw [Tryd.params6] at ht
  have hm := Array.mem_of_getElem? ht
  simp only [List.mem_toArray, List.mem_cons, List.not_mem_nil, or_false] at hm
  have hall : ∀ t ∈ [36, 2], Tryd.prog.wantsStandIn t = false := by
    intro t ht
    have hb : ([36, 2].all fun t => !Tryd.prog.wantsStandIn t) = true := by kernel_rfl
    simpa using List.all_eq_true.1 hb t ht
  refine hall t ?_
  rcases hm with e | e | e | e <;> (rw [e]; simp)
theorem card : Rows.FnExactResolvedCardSaid :=
  Claim7.holds_tied_plain_at .later [] _ _ _ _ said (fun _ h => by cases h) (by kernel_rfl) (fun _ h => by cases h) fnExactResolved_row_tie rfl ⟨rfl, rfl⟩ (by kernel_rfl) rfl plain (by kernel_rfl)

end Go.Proofs.YtaofemdhgfejjaaDoor.ExResolved
namespace Go.Proofs.YtaofemdhgfejjaaDoor
theorem fnExactResolved_proved : Rows.FnExactResolvedCardSaid := ExResolved.card
end Go.Proofs.YtaofemdhgfejjaaDoor
