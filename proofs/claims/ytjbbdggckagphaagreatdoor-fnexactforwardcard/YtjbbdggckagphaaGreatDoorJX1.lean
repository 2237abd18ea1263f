/-
  For every list of objects, every list of refs, every name and every id, laws.FnExactForward returns true and leaves its arguments as they were: impl.Forward answers as the reference does, and its answer is memory of its own. No conditions but that the two tables of the digest and the sentinel of the reader hold what the program's text lays (the card ties them).
-/
import Derived.Test.YtjbbdggckagphaaGreatDoorJO
import Derived.Test.YtjbbdggckagphaaGreatDoorJF
import Derived.Test.YtjbbdggckagphaaGreatDoorJW
import Derived.Test.YtjbbdggckagphaaGreatDoorJC
namespace Go.Proofs.YtjbbdggckagphaaGreatDoor.ExForward
open Go.RowKit Go.ChangeShapes Go.WideShapes Go.ChangeAt
open Go.ChangeMaps (open_string shut_string)

set_option maxRecDepth 100000 in
set_option maxHeartbeats 4000000 in
theorem walk (A0 : Option Addr) (l0 : List Pr) (cap0 : Nat) (A1 : Option Addr) (l1 : List Pr) (cap1 : Nat) (nm : ByteArray) (id : ByteArray) (a : Addr) (w : World) (hl0 : l0.length ≤ maxLen) (hin0 : PIn w w.heap.size A0 l0) (hl1 : l1.length ≤ maxLen) (hin1 : PIn w w.heap.size A1 l1) (hs2 : nm.size ≤ maxLen) (hs3 : id.size ≤ maxLen) (hT : Tabs w) (hE : ErrC w a) :
    Calls Tryz.prog 5 #[.slice A0 l0.length cap0, .slice A1 l1.length cap1, .string nm, .string id] w fun e w' => e = .returned (.bool true) ∧ Below w.heap.size w w' := by
  have hs22 := hs2
  unfold maxLen at hs22
  by_cases hbig2 : 1048576 < nm.size
  · go_enter Tryz.func5, Tryz.ntmps5
    go_wp2
    go_ret
    exact ⟨rfl, Below.refl _ _⟩
  have hs32 := hs3
  unfold maxLen at hs32
  by_cases hbig3 : 1048576 < id.size
  · go_enter Tryz.func5, Tryz.ntmps5
    go_wp2
    go_ret
    exact ⟨rfl, Below.refl _ _⟩
  have es0 := eqL_self l0
  have es1 := eqL_self l1
  have esR0 := eqL_self (fwL l0 l1 nm id)
  have e2 : (fwB l0 l1 nm id != fwB l0 l1 nm id) = false := by simp
  have HT := hide hT
  have HB := hide hT.1
  have HE := hide hE
  have IN0 := hide hin0
  have IN1 := hide hin1
  have B0 : Hid (Below w.heap.size w w) := hide (Below.refl _ _)
  clear hin0 hin1 hT hE
  go_enter Tryz.func5, Tryz.ntmps5
  go_wp2_with fail
  refine (szPairS_each A0 l0 cap0 1048576 _ hl0 ((IN0.out.below B0.out).more B0.out.size) (by omega) (by omega)).mono ?_
  rintro e w1 ⟨hr1, b1⟩
  have B1 := hide (B0.out.trans (b1.mono B0.out.size))
  clear b1 B0
  rcases hr1 with rfl | ⟨r1, hr10, hr11, hse, rfl⟩
  · go_wp2
    go_ret
    exact ⟨rfl, B1.out⟩
  have hm0 : l0.length ≤ 1048576 := by omega
  have HZ := hide (fun k => valOf_each hse k)
  clear hse
  go_wp2_with fail
  refine (R.szPairS_any A1 l1 cap1 r1 _ hl1 ((IN1.out.below B1.out).more B1.out.size) (by omega) (by omega)).mono ?_
  rintro e w2 ⟨hr2, b2⟩
  have B2 := hide (B1.out.trans (b2.mono B1.out.size))
  clear b2 B1
  rcases hr2 with rfl | ⟨r2, hr20, hr21, rfl⟩
  · go_wp2
    go_ret
    exact ⟨rfl, B2.out⟩
  have hm1 : l1.length ≤ 1048576 := by omega
  have zw := B2.out.size
  have hp0 : (fwL l0 l1 nm id).length ≤ 20 := fwL_len l0 l1 nm id
  have hpm0 : (fwL l0 l1 nm id).length ≤ maxLen := by unfold maxLen; omega
  go_wp2_with fail
  refine (toPairS_any A0 l0 cap0 _ hm0 ((IN0.out.below B2.out).more B2.out.size)).mono ?_
  rintro e w3 ⟨rfl, own3, b3⟩
  have B3 := hide (B2.out.trans (b3.mono B2.out.size))
  have z3 := b3.size
  clear b3 B2 
  have rS0 := own3.row
  have S0_3 := hide own3
  clear own3
  go_wp2_with fail
  refine (R.toPairS_any A1 l1 cap1 _ hm1 ((IN1.out.below B3.out).more B3.out.size)).mono ?_
  rintro e w4 ⟨rfl, own4, b4⟩
  have B4 := hide (B3.out.trans (b4.mono B3.out.size))
  have z4 := b4.size
  have S0_4 := hide (S0_3.out.below b4)
  clear b4 B3 S0_3
  have rS1 := own4.row
  have S1_4 := hide own4
  clear own4
  go_wp2_with fail
  refine (specForward_any _ l0 l0.length _ l1 l1.length nm id _ hl0 (S0_4.out.pin) HZ.out hl1 (Nat.le_refl _) (S1_4.out.pin) hs2 hs3).mono ?_
  rintro e w5 ⟨AW0, capW0, hcW, rfl, own5_0, b5⟩
  have B5 := hide (B4.out.trans (b5.mono B4.out.size))
  have z5 := b5.size
  have S0_5 := hide (S0_4.out.below b5)
  have S1_5 := hide (S1_4.out.below b5)
  clear b5 B4 S0_4 S1_4
  have rW0 := own5_0.row
  have W0_5 := hide own5_0
  clear own5_0
  clear S0_5
  clear S1_5
  go_wp2_with fail
  refine (toPairS_any A0 l0 cap0 _ hm0 ((IN0.out.below B5.out).more B5.out.size)).mono ?_
  rintro e w6 ⟨rfl, own6, b6⟩
  have B6 := hide (B5.out.trans (b6.mono B5.out.size))
  have z6 := b6.size
  have W0_6 := hide (W0_5.out.below b6)
  clear b6 B5 W0_5
  have rX0 := own6.row
  have X0_6 := hide own6
  clear own6
  go_wp2_with fail
  refine (R.toPairS_any A1 l1 cap1 _ hm1 ((IN1.out.below B6.out).more B6.out.size)).mono ?_
  rintro e w7 ⟨rfl, own7, b7⟩
  have B7 := hide (B6.out.trans (b7.mono B6.out.size))
  have z7 := b7.size
  have W0_7 := hide (W0_6.out.below b7)
  have X0_7 := hide (X0_6.out.below b7)
  clear b7 B6 W0_6 X0_6
  have rX1 := own7.row
  have X1_7 := hide own7
  clear own7
  go_wp2_with fail
  refine (implForward_any _ l0 l0.length _ l1 l1.length nm id a _ hl0 (X0_7.out.pin) hl1 (X1_7.out.pin) hs2 hs3 (HT.out.below B7.out HB.out) (HE.out.below B7.out)).mono ?_
  rintro e w8 ⟨AG0, capG0, hcG, rfl, own8_0, b8⟩
  have B8 := hide (B7.out.trans (b8.mono B7.out.size))
  have z8 := b8.size
  have W0_8 := hide (W0_7.out.below b8)
  have X0_8 := hide (X0_7.out.below b8)
  have X1_8 := hide (X1_7.out.below b8)
  clear b8 B7 W0_7 X0_7 X1_7
  have rG0 := own8_0.row
  have G0_8 := hide own8_0
  clear own8_0
  have apX0W0 : Hid (∀ g, rowOf (AW0 : Option Addr) = some g → rowOf ((some ⟨w5.heap.size, 0, none⟩) : Option Addr) ≠ some g) := hide (fun g hg x => by have h1 := rW0 g hg; have h2 := rX0 g x; omega)
  have apX0G0 : Hid (∀ g, rowOf (AG0 : Option Addr) = some g → rowOf ((some ⟨w5.heap.size, 0, none⟩) : Option Addr) ≠ some g) := hide (fun g hg x => by have h1 := rG0 g hg; have h2 := rX0 g x; omega)
  have apX0X1 : Hid (∀ g, rowOf ((some ⟨w6.heap.size, 0, none⟩) : Option Addr) = some g → rowOf ((some ⟨w5.heap.size, 0, none⟩) : Option Addr) ≠ some g) := hide (fun g hg x => by have h1 := rX1 g hg; have h2 := rX0 g x; omega)
  have hzX0 : Hid (∀ g, rowOf ((some ⟨w5.heap.size, 0, none⟩) : Option Addr) = some g → w.heap.size ≤ g) := hide (fun g hg => by have h1 := rX0 g hg; have h2 := B8.out.size; omega)
  have apX1W0 : Hid (∀ g, rowOf (AW0 : Option Addr) = some g → rowOf ((some ⟨w6.heap.size, 0, none⟩) : Option Addr) ≠ some g) := hide (fun g hg x => by have h1 := rW0 g hg; have h2 := rX1 g x; omega)
  have apX1G0 : Hid (∀ g, rowOf (AG0 : Option Addr) = some g → rowOf ((some ⟨w6.heap.size, 0, none⟩) : Option Addr) ≠ some g) := hide (fun g hg x => by have h1 := rG0 g hg; have h2 := rX1 g x; omega)
  have apX1X0 : Hid (∀ g, rowOf ((some ⟨w5.heap.size, 0, none⟩) : Option Addr) = some g → rowOf ((some ⟨w6.heap.size, 0, none⟩) : Option Addr) ≠ some g) := hide (fun g hg x => by have h1 := rX0 g hg; have h2 := rX1 g x; omega)
  have hzX1 : Hid (∀ g, rowOf ((some ⟨w6.heap.size, 0, none⟩) : Option Addr) = some g → w.heap.size ≤ g) := hide (fun g hg => by have h1 := rX1 g hg; have h2 := B8.out.size; omega)
  have apG0W0 : Hid (∀ g, rowOf AW0 = some g → rowOf AG0 ≠ some g) := hide (fun g hg x => by have h1 := rW0 g hg; have h2 := rG0 g x; omega)
  have hzG0 : Hid (∀ g, rowOf AG0 = some g → w.heap.size ≤ g) := hide (fun g hg => by have h1 := rG0 g hg; omega)
  clear rW0 rG0 rX0 rX1 rS0 rS1
  go_wp2_with fail
  refine (R.eqPairS_any _ _ (fwL l0 l1 nm id) (fwL l0 l1 nm id) (capG0) (capW0) _ hpm0 hpm0 G0_8.out.pin W0_8.out.pin).mono ?_
  rintro e w9 ⟨rfl, b9⟩
  have B9 := hide (B8.out.trans (b9.mono B8.out.size))
  have z9 := b9.size
  have W0_9 := hide (W0_8.out.below b9)
  have X0_9 := hide (X0_8.out.below b9)
  have X1_9 := hide (X1_8.out.below b9)
  have G0_9 := hide (G0_8.out.below b9)
  clear b9 B8 W0_8 X0_8 X1_8 G0_8
  go_wp2_with fail
  refine (toPairS_any A0 l0 cap0 _ hm0 ((IN0.out.below B9.out).more B9.out.size)).mono ?_
  rintro e w10 ⟨rfl, own10, b10⟩
  have B10 := hide (B9.out.trans (b10.mono B9.out.size))
  have z10 := b10.size
  have W0_10 := hide (W0_9.out.below b10)
  have X0_10 := hide (X0_9.out.below b10)
  have X1_10 := hide (X1_9.out.below b10)
  have G0_10 := hide (G0_9.out.below b10)
  clear b10 B9 W0_9 X0_9 X1_9 G0_9
  have rY := own10.row
  have Y_10 := hide own10
  clear own10
  go_wp2_with fail
  refine (eqPairS_any _ _ (l0) (l0) (l0.length) (l0.length) _ hl0 hl0 X0_10.out.pin Y_10.out.pin).mono ?_
  rintro e w11 ⟨rfl, b11⟩
  have B11 := hide (B10.out.trans (b11.mono B10.out.size))
  have z11 := b11.size
  have W0_11 := hide (W0_10.out.below b11)
  have X0_11 := hide (X0_10.out.below b11)
  have X1_11 := hide (X1_10.out.below b11)
  have G0_11 := hide (G0_10.out.below b11)
  have Y_11 := hide (Y_10.out.below b11)
  clear b11 B10 W0_10 X0_10 X1_10 G0_10 Y_10
  clear Y_11
  clear rY
  go_wp2_with fail
  refine (R.toPairS_any A1 l1 cap1 _ hm1 ((IN1.out.below B11.out).more B11.out.size)).mono ?_
  rintro e w12 ⟨rfl, own12, b12⟩
  have B12 := hide (B11.out.trans (b12.mono B11.out.size))
  have z12 := b12.size
  have W0_12 := hide (W0_11.out.below b12)
  have X0_12 := hide (X0_11.out.below b12)
  have X1_12 := hide (X1_11.out.below b12)
  have G0_12 := hide (G0_11.out.below b12)
  clear b12 B11 W0_11 X0_11 X1_11 G0_11
  have rY := own12.row
  have Y_12 := hide own12
  clear own12
  go_wp2_with fail
  refine (R.eqPairS_any _ _ (l1) (l1) (l1.length) (l1.length) _ hl1 hl1 X1_12.out.pin Y_12.out.pin).mono ?_
  rintro e w13 ⟨rfl, b13⟩
  have B13 := hide (B12.out.trans (b13.mono B12.out.size))
  have z13 := b13.size
  have W0_13 := hide (W0_12.out.below b13)
  have X0_13 := hide (X0_12.out.below b13)
  have X1_13 := hide (X1_12.out.below b13)
  have G0_13 := hide (G0_12.out.below b13)
  have Y_13 := hide (Y_12.out.below b13)
  clear b13 B12 W0_12 X0_12 X1_12 G0_12 Y_12
  clear Y_13
  clear rY
  go_wp2_with fail
  refine (markPairS_int _ (l0) (l0.length) (_) (1) _ _ (by omega) (by omega) (by omega) X0_13.out).mono ?_
  rintro e w14 ⟨rfl, ow14, g14⟩
  have B14 := hide (B13.out.grown g14 B13.out.size hzX0.out)
  have W0_14 := hide (W0_13.out.apart g14 apX0W0.out)
  have X1_14 := hide (X1_13.out.apart g14 apX0X1.out)
  have G0_14 := hide (G0_13.out.apart g14 apX0G0.out)
  clear B13 W0_13 X1_13 G0_13
  clear X0_13 ow14 g14
  go_wp2_with fail
  refine (R.markPairS_int _ (l1) (l1.length) (_) (1 + 2 * l0.length) _ _ (by omega) (by omega) (by omega) X1_14.out).mono ?_
  rintro e w15 ⟨rfl, ow15, g15⟩
  have B15 := hide (B14.out.grown g15 B14.out.size hzX1.out)
  have W0_15 := hide (W0_14.out.apart g15 apX1W0.out)
  have G0_15 := hide (G0_14.out.apart g15 apX1G0.out)
  clear B14 W0_14 G0_14
  clear X1_14 ow15 g15
  have hk1 : ¬ ((1 + 2 * l0.length + 2 * l1.length : Nat) : Int) < 0 := by omega
  have hk2 : ¬ (1 + 2 * (l0.length : Int) + 2 * (l1.length : Int)) < 0 := by omega
  have hk3 : decide (((1 + 2 * l0.length + 2 * l1.length : Nat) : Int) < 0) = false := decide_eq_false hk1
  have hk4 : decide ((1 + 2 * (l0.length : Int) + 2 * (l1.length : Int)) < 0) = false := decide_eq_false hk2
  go_wp2_with fail
  refine (R.eqPairS_any _ _ (fwL l0 l1 nm id) (fwL l0 l1 nm id) (capG0) (capW0) _ hpm0 hpm0 G0_15.out.pin W0_15.out.pin).mono ?_
  rintro e w16 ⟨rfl, b16⟩
  have B16 := hide (B15.out.trans (b16.mono B15.out.size))
  have z16 := b16.size
  have W0_16 := hide (W0_15.out.below b16)
  have G0_16 := hide (G0_15.out.below b16)
  clear b16 B15 W0_15 G0_15
  clear hk1 hk2 hk3 hk4
  go_wp2_with fail
  refine (R.markPairS_int _ (fwL l0 l1 nm id) (capG0) (_) (1) _ _ (by omega) (by omega) (by omega) G0_16.out).mono ?_
  rintro e w17 ⟨rfl, ow17, g17⟩
  have B17 := hide (B16.out.grown g17 B16.out.size hzG0.out)
  have W0_17 := hide (W0_16.out.apart g17 apG0W0.out)
  clear B16 W0_16
  have G0_17 := hide ow17
  clear G0_16 ow17 g17
  go_wp2_with fail
  refine (R.heldPairS_any AG0 (fwL l0 l1 nm id).length capG0 1 _ (by omega) (by omega) G0_17.out.pin).mono ?_
  rintro e w18 ⟨rfl, b18⟩
  have B18 := hide (B17.out.trans (b18.mono B17.out.size))
  have z18 := b18.size
  have W0_18 := hide (W0_17.out.below b18)
  have G0_18 := hide (G0_17.out.below b18)
  clear b18 B17 W0_17 G0_17
  have hq0 : ¬ ((1 + 2 * (fwL l0 l1 nm id).length : Nat) : Int) < 0 := by omega
  have hqd0 : decide (((1 + 2 * (fwL l0 l1 nm id).length : Nat) : Int) < 0) = false := decide_eq_false hq0
  have hqe0 : (((1 + 2 * (fwL l0 l1 nm id).length : Nat) : Int) != ((1 + 2 * (fwL l0 l1 nm id).length : Nat) : Int)) = false := by simp
  go_wp2_with fail
  refine (toPairS_any A0 l0 cap0 _ hm0 ((IN0.out.below B18.out).more B18.out.size)).mono ?_
  rintro e w19 ⟨rfl, own19, b19⟩
  have B19 := hide (B18.out.trans (b19.mono B18.out.size))
  have z19 := b19.size
  have W0_19 := hide (W0_18.out.below b19)
  have G0_19 := hide (G0_18.out.below b19)
  clear b19 B18 W0_18 G0_18
  have rT0 := own19.row
  have T0_19 := hide own19
  clear own19
  go_wp2_with fail
  refine (R.toPairS_any A1 l1 cap1 _ hm1 ((IN1.out.below B19.out).more B19.out.size)).mono ?_
  rintro e w20 ⟨rfl, own20, b20⟩
  have B20 := hide (B19.out.trans (b20.mono B19.out.size))
  have z20 := b20.size
  have W0_20 := hide (W0_19.out.below b20)
  have G0_20 := hide (G0_19.out.below b20)
  have T0_20 := hide (T0_19.out.below b20)
  clear b20 B19 W0_19 G0_19 T0_19
  have rT1 := own20.row
  have T1_20 := hide own20
  clear own20
  go_wp2_with fail
  refine (implForward_any _ l0 l0.length _ l1 l1.length nm id a _ hl0 (T0_20.out.pin) hl1 (T1_20.out.pin) hs2 hs3 (HT.out.below B20.out HB.out) (HE.out.below B20.out)).mono ?_
  rintro e w21 ⟨AH0, capH0, hcH, rfl, own21_0, b21⟩
  have B21 := hide (B20.out.trans (b21.mono B20.out.size))
  have z21 := b21.size
  have W0_21 := hide (W0_20.out.below b21)
  have G0_21 := hide (G0_20.out.below b21)
  have T0_21 := hide (T0_20.out.below b21)
  have T1_21 := hide (T1_20.out.below b21)
  clear b21 B20 W0_20 G0_20 T0_20 T1_20
  have rH0 := own21_0.row
  have H0_21 := hide own21_0
  clear own21_0
  clear T0_21
  clear T1_21
  go_wp2_with fail
  refine (R.eqPairS_any _ _ (fwL l0 l1 nm id) (fwL l0 l1 nm id) (capH0) (capW0) _ hpm0 hpm0 H0_21.out.pin W0_21.out.pin).mono ?_
  rintro e w22 ⟨rfl, b22⟩
  have B22 := hide (B21.out.trans (b22.mono B21.out.size))
  have z22 := b22.size
  have W0_22 := hide (W0_21.out.below b22)
  have G0_22 := hide (G0_21.out.below b22)
  have H0_22 := hide (H0_21.out.below b22)
  clear b22 B21 W0_21 G0_21 H0_21
  clear H0_22
  clear W0_22
  go_wp2_with fail
  refine (R.heldPairS_any AG0 (fwL l0 l1 nm id).length capG0 1 _ (by omega) (by omega) G0_22.out.pin).mono ?_
  rintro e w23 ⟨rfl, b23⟩
  have B23 := hide (B22.out.trans (b23.mono B22.out.size))
  have z23 := b23.size
  have G0_23 := hide (G0_22.out.below b23)
  clear b23 B22 G0_22
  go_wp2
  go_ret
  exact ⟨rfl, B23.out⟩

theorem plainVars : ∀ n ∈ Rows.fnExactForwardSpec.vars, n = "loop.example/g00652/impl.errNoCommit" ∨ ∀ g t, Tryz.prog.globalNamed n = some g → (Tryz.prog.globals[g]?).map (·.type) = some t → Tryz.prog.readableRec t = true ∧ t < Tryz.prog.types.size := by
  intro n hn
  have hb : (Rows.fnExactForwardSpec.vars).all (fun n => n == "loop.example/g00652/impl.errNoCommit" || ((Tryz.prog.globalNamed n).bind fun g => (Tryz.prog.globals[g]?).map fun x => Tryz.prog.readableRec x.type && decide (x.type < Tryz.prog.types.size)).getD false) = true := by kernel_rfl
  have h := List.all_eq_true.1 hb n hn
  rw [Bool.or_eq_true] at h
  rcases h with h | h
  · exact .inl (by simpa using h)
  refine .inr fun g t h1 h2 => ?_
  rw [h1] at h
  obtain ⟨x, hx, rfl⟩ := Option.map_eq_some_iff.1 h2
  simp only [Option.bind_some, hx, Option.map_some, Option.getD_some, Bool.and_eq_true, decide_eq_true_eq] at h
  exact h
set_option maxRecDepth 100000 in
theorem contract (H : Type) (enc : TypeId × Value → H) (W : World) (base : Nat) (args : Array Value) (ds gs : List (DataW H)) (before : List MemPlace)
    (hval0 : ∀ (j : Nat) t v, Tryz.f5.params[j]? = some t → args[j]? = some v → Value.okWide Tryz.prog W .any base t v)
    (hW : DataW.Whole enc Tryz.prog Tryz.f5.params.toList Rows.fnExactForwardSpec.vars false W args.toList ds gs before) (hL : laidMetH Tryz.prog Rows.fnExactForwardRow.laid W) :
    Calls Tryz.prog 5 args W fun e W' => ∃ v, e = .returned v ∧ Rows.fnExactForwardSpec.post enc Tryz.prog Tryz.f5 false true false false W args v W' := by
  have hval : ∀ (j : Nat) t v, Tryz.f5.params[j]? = some t → args[j]? = some v → Value.okWide Tryz.prog W .any base t v := hval0
  have hT : Tabs W := tabs_of (l := Rows.fnExactForwardRow.laid) hL (List.mem_cons_self ..) (List.mem_cons_of_mem _ (List.mem_cons_self ..))
  obtain ⟨a, hE, hvar⟩ := errs_in (W := W) (laid_tail (laid_tail hL))
  have hW' := hW
  obtain ⟨p, q, hA0, hV, rfl, hfz, hnd⟩ := hW
  have hA : DataW.TrodAll enc Tryz.prog W 0 (fun _ => true) true Tryz.f5.params.toList args.toList ds p := hA0
  rw [Tryz.params5] at hA hval
  obtain ⟨v0, vs0, d0, ds0, p0, q0, hargs, rfl, rfl, h0, r0⟩ := trodAll_cons hA
  obtain ⟨v1, vs1, d1, ds1, p1, q1, rfl, rfl, rfl, h1, r1⟩ := trodAll_cons r0
  obtain ⟨v2, vs2, d2, ds2, p2, q2, rfl, rfl, rfl, h2, r2⟩ := trodAll_cons r1
  obtain ⟨v3, vs3, d3, ds3, p3, q3, rfl, rfl, rfl, h3, r3⟩ := trodAll_cons r2
  obtain ⟨rfl, rfl, rfl⟩ := trodAll_nil r3
  obtain rfl : args = #[v0, v1, v2, v3] := by cases args; simp_all
  obtain ⟨x0, x1, x2, rfl⟩ := list3 (vars_len hV)
  obtain ⟨A0, n0, cap0, rfl⟩ := okWide_slice Tryz.underlying36 (hval 0 36 v0 rfl rfl)
  have lt0 : ∀ x ∈ p0, x.block < W.heap.size := by obtain ⟨m, hm⟩ := h0; exact DataW.trod_lt m _ _ _ hm
  obtain ⟨l0, rfl, hl0, hin0⟩ := open_pairs h0
  obtain ⟨A1, n1, cap1, rfl⟩ := okWide_slice Tryz.underlying37 (hval 1 37 v1 rfl rfl)
  have lt1 : ∀ x ∈ p1, x.block < W.heap.size := by obtain ⟨m, hm⟩ := h1; exact DataW.trod_lt m _ _ _ hm
  obtain ⟨l1, rfl, hl1, hin1⟩ := R.open_pairs h1
  obtain ⟨s2, rfl, rfl, rfl, hs2⟩ := open_string Tryz.underlying9 (hval 2 9 v2 rfl rfl) h2
  obtain ⟨s3, rfl, rfl, rfl, hs3⟩ := open_string Tryz.underlying9 (hval 3 9 v3 rfl rfl) h3
  clear hA0 hval0
  refine (walk A0 l0 cap0 A1 l1 cap1 s2 s3 a W hl0 hin0 hl1 hin1 hs2 hs3 hT hE).mono fun e W' ⟨he, bel⟩ => ?_
  subst he
  exact ⟨_, rfl, _, _, _, [], _, q, hW', trodAll_mk1 (shut_bool Tryz.underlying4 _), (trodAll_cons_mk (Below.trod laidOut (by kernel_rfl) (of_decide_eq_true (by kernel_rfl)) h0 bel lt0) (trodAll_cons_mk (Below.trod laidOut (by kernel_rfl) (of_decide_eq_true (by kernel_rfl)) h1 bel lt1) (trodAll_cons_mk (shut_string Tryz.underlying9 hs2) (trodAll_cons_mk (shut_string Tryz.underlying9 hs3) trodAll_mk0)))), vars_stayE laidOut bel hvar plainVars hV, bel.frame _, fun h => by cases h⟩

/-- a world for the witness: the tables hold what their initialisers lay -/
noncomputable def laidWorld (os : Os) : World := layAllE (World.holding Tryz.prog os ⟨#[], #[], []⟩)
theorem laid_met (os : Os) : laidMet Tryz.prog Rows.fnExactForwardRow.laid ((laidWorld os).forCall (fun _ _ => 0) ⟨#[], #[.slice none 0 0, .slice none 0 0, .string ByteArray.empty, .string ByteArray.empty], []⟩).memory :=
  laidMet_of_run' 8 (by kernel_rfl) (by kernel_rfl)
theorem reads (os : Os) {H : Type} (enc : TypeId × Value → H) : ∃ x, DataW.whole enc Tryz.prog ((laidWorld os).forCall (fun _ _ => 0) ⟨#[], #[.slice none 0 0, .slice none 0 0, .string ByteArray.empty, .string ByteArray.empty], []⟩).memory Tryz.f5.params.toList Rows.fnExactForwardSpec.vars false (#[.slice none 0 0, .slice none 0 0, .string ByteArray.empty, .string ByteArray.empty] : Array Value).toList 8 = some x :=
  Option.isSome_iff_exists.1 (by kernel_rfl)
set_option maxRecDepth 100000 in
theorem lifted (os : Os) (started : os.Started) (H : Type) (enc : TypeId × Value → H) (F : Stop.Interp) :
    ReturnsInHanded {} Tryz.checked os 5 .any ((OpenSpec.ofChange Rows.fnExactForwardSpec).preRow enc Tryz.prog Tryz.f5 Rows.fnExactForwardRow.domain false Rows.fnExactForwardRow.laid) (((OpenSpec.ofChange Rows.fnExactForwardSpec).at F).post enc Tryz.prog Tryz.f5 false true false false) := by
  obtain ⟨x, hx⟩ := reads os enc
  refine returnsInHanded_of_row (C := Tryz.checked) (s := OpenSpec.ofChange Rows.fnExactForwardSpec) own started (by kernel_rfl) Tryz.func5
    (witness_row_at (enc := enc) (C := Tryz.checked) false (laidWorld os) #[.slice none 0 0, .slice none 0 0, .string ByteArray.empty, .string ByteArray.empty] rfl (by kernel_rfl) (by kernel_rfl) (by kernel_rfl)
      (OpenSpec.preRow_of_cond 8 hx rfl (fun k hk => by cases hk) (by kernel_rfl) (laid_met os))) ?_
  intro W base args ds gs before hval hW _ _ _ hL _ _
  exact contract H enc W base args ds gs before hval hW hL
theorem said : Rows.FnExactForwardSaid :=
  OpenClaim.holds_of_cond 5 Tryz.f5 rfl rfl rfl rfl rfl rfl rfl ⟨rfl, rfl, rfl, rfl, rfl⟩ rfl rfl rfl rfl rfl (by kernel_rfl) Tryz.func5 (by kernel_rfl)
    (of_decide_eq_true (by kernel_rfl)) (by unfold Func.isWrapper; first | (rw [if_pos (by decide +kernel)]; kernel_rfl) | (rw [if_neg (by decide +kernel)]; exact ⟨rfl, rfl⟩))
    (fun os started H enc _ F => by rw [OpenClaim.pre_eq_preRow]; exact lifted os started H enc F)
theorem plain (f : FuncId) (fn : Func) (hf : Tryz.pinned.checked.prog.funcNamed "loop.example/g00652/laws.FnExactForward" = some f) (hfn : Tryz.pinned.checked.prog.funcs[f]? = some fn) :
    false = Tryz.pinned.checked.prog.looks [] ∧ ∀ (j : Nat) t, fn.params[j]? = some t → Tryz.pinned.checked.prog.wantsStandIn t = false := by
  obtain rfl : f = 5 := Option.some.inj ((show Tryz.prog.funcNamed "loop.example/g00652/laws.FnExactForward" = some 5 by kernel_rfl).symm.trans hf) |>.symm
  obtain rfl : fn = Tryz.f5 := (Option.some.inj (Tryz.func5.symm.trans hfn)).symm
  refine ⟨by kernel_rfl, fun j t ht => ?_⟩
  rw [Tryz.params5] at ht
  have hm := Array.mem_of_getElem? ht
  simp only [List.mem_toArray, List.mem_cons, List.not_mem_nil, or_false] at hm
  rcases hm with e | e | e | e <;> subst e
  · exact (show Tryz.prog.wantsStandIn 36 = false by kernel_rfl)
  · exact (show Tryz.prog.wantsStandIn 37 = false by kernel_rfl)
  · exact (show Tryz.prog.wantsStandIn 9 = false by kernel_rfl)
  · exact (show Tryz.prog.wantsStandIn 9 = false by kernel_rfl)
theorem card : Rows.FnExactForwardCardSaid :=
  Claim7.holds_tied_plain_at .later [] _ _ _ _ said (fun _ h => by cases h) (by kernel_rfl) (fun _ h => by cases h) fnExactForward_row_tie rfl ⟨rfl, rfl⟩ (by kernel_rfl) rfl plain (by kernel_rfl)

end Go.Proofs.YtjbbdggckagphaaGreatDoor.ExForward
namespace Go.Proofs.YtjbbdggckagphaaGreatDoor
theorem fnExactForward_proved : Rows.FnExactForwardCardSaid := ExForward.card
end Go.Proofs.YtjbbdggckagphaaGreatDoor
