/-
  For every list of pairs and every list of changes, laws.FnExactApplied returns true and leaves its arguments as they were: impl.Applied answers as the reference does, keeps its arguments, and its answer is memory of its own. No conditions.
-/
import Derived.Test.YtcpalnkcjcgaeaaHLawS
import Derived.Test.YtcpalnkcjcgaeaaPDropI
import Derived.Test.YtcpalnkcjcgaeaaHMark
import Derived.Test.YtcpalnkcjcgaeaaHAppS
import Derived.Test.YtcpalnkcjcgaeaaHAppI
import Derived.Test.YtcpalnkcjcgaeaaLMarkI
import Derived.Test.YtcpalnkcjcgaeaaHOpen
import Derived.Test.YtcpalnkcjcgaeaaLFrame
namespace Go.Proofs.Ytcpalnkcjcgaeaa.ExApplied
open Go.RowKit Go.ChangeShapes Go.WideShapes Go.ChangeAt
open Go.ChangeMaps (open_string shut_string)

set_option maxRecDepth 100000 in
set_option maxHeartbeats 4000000 in
theorem walk (A0 : Option Addr) (l0 : List Pr) (cap0 : Nat) (A1 : Option Addr) (l1 : List Ch) (cap1 : Nat) (w : World) (hl0 : l0.length ≤ maxLen) (hin0 : PIn w w.heap.size A0 l0) (hl1 : l1.length ≤ maxLen) (hin1 : HIn w w.heap.size A1 l1) :
    Calls Try.prog 9 #[.slice A0 l0.length cap0, .slice A1 l1.length cap1] w fun e w' => e = .returned (.bool true) ∧ Below w.heap.size w w' := by
  have es0 := eqL_self l0
  have es1 := eqCL_self l1
  have esR := eqL_self (appL l0 l1)
  have e2 : (appB l0 l1 != appB l0 l1) = false := by simp
  have IN0 := hide hin0
  have IN1 := hide hin1
  have B0 : Hid (Below w.heap.size w w) := hide (Below.refl _ _)
  clear hin0 hin1
  go_enter Try.func9, Try.ntmps9
  go_wp2_with fail
  refine (szPairS_any A0 l0 cap0 1048576 _ hl0 ((IN0.out.below B0.out).more B0.out.size) (by omega) (by omega)).mono ?_
  rintro e w1 ⟨hr1, b1⟩
  have B1 := hide (B0.out.trans (b1.mono B0.out.size))
  clear b1 B0
  rcases hr1 with rfl | ⟨r1, hr10, hr11, rfl⟩
  · go_wp2
    go_ret
    exact ⟨rfl, B1.out⟩
  have hm0 : l0.length ≤ 1048576 := by omega
  go_wp2_with fail
  refine (szChangeS_any A1 l1 cap1 r1 _ hl1 ((IN1.out.below B1.out).more B1.out.size) (by omega) (by omega)).mono ?_
  rintro e w2 ⟨hr2, b2⟩
  have B2 := hide (B1.out.trans (b2.mono B1.out.size))
  clear b2 B1
  rcases hr2 with rfl | ⟨r2, hr20, hr21, rfl⟩
  · go_wp2
    go_ret
    exact ⟨rfl, B2.out⟩
  have hm1 : l1.length ≤ 1048576 := by omega
  have zw := B2.out.size
  have hp : (appL l0 l1).length ≤ 40 := appL_len l0 l1
  have hpm : (appL l0 l1).length ≤ maxLen := by unfold maxLen; omega
  go_wp2_with fail
  refine (toPairS_any A0 l0 cap0 _ hm0 ((IN0.out.below B2.out).more B2.out.size)).mono ?_
  rintro e w3 ⟨rfl, own3, b3⟩
  have B3 := hide (B2.out.trans (b3.mono B2.out.size))
  have z3 := b3.size
  clear b3 B2 
  have rS0 := own3.row
  have S0_3 := hide own3
  clear own3
  go_wp2_with fail
  refine (toChangeS_any A1 l1 cap1 _ hm1 ((IN1.out.below B3.out).more B3.out.size)).mono ?_
  rintro e w4 ⟨rfl, own4, b4⟩
  have B4 := hide (B3.out.trans (b4.mono B3.out.size))
  have z4 := b4.size
  have S0_4 := hide (S0_3.out.below b4)
  clear b4 B3 S0_3
  have rS1 := own4.row
  have S1_4 := hide own4
  clear own4
  go_wp2_with fail
  refine (specApplied_any _ l0 l0.length _ l1 l1.length _ hl0 hm1 (S0_4.out.pin) (S1_4.out.pin)).mono ?_
  rintro e w5 ⟨AW, capW, hcW, rfl, own5, b5⟩
  have B5 := hide (B4.out.trans (b5.mono B4.out.size))
  have z5 := b5.size
  have S0_5 := hide (S0_4.out.below b5)
  have S1_5 := hide (S1_4.out.below b5)
  clear b5 B4 S0_4 S1_4
  have rW := own5.row
  have W_5 := hide own5
  clear own5
  clear S0_5
  clear S1_5
  go_wp2_with fail
  refine (toPairS_any A0 l0 cap0 _ hm0 ((IN0.out.below B5.out).more B5.out.size)).mono ?_
  rintro e w6 ⟨rfl, own6, b6⟩
  have B6 := hide (B5.out.trans (b6.mono B5.out.size))
  have z6 := b6.size
  have W_6 := hide (W_5.out.below b6)
  clear b6 B5 W_5
  have rX0 := own6.row
  have X0_6 := hide own6
  clear own6
  go_wp2_with fail
  refine (toChangeS_any A1 l1 cap1 _ hm1 ((IN1.out.below B6.out).more B6.out.size)).mono ?_
  rintro e w7 ⟨rfl, own7, b7⟩
  have B7 := hide (B6.out.trans (b7.mono B6.out.size))
  have z7 := b7.size
  have W_7 := hide (W_6.out.below b7)
  have X0_7 := hide (X0_6.out.below b7)
  clear b7 B6 W_6 X0_6
  have rX1 := own7.row
  have X1_7 := hide own7
  clear own7
  go_wp2_with fail
  refine (implApplied_any _ l0 l0.length _ l1 l1.length _ hl0 hm1 (X0_7.out.pin) (X1_7.out.pin)).mono ?_
  rintro e w8 ⟨AG, capG, hcG, rfl, own8, b8⟩
  have B8 := hide (B7.out.trans (b8.mono B7.out.size))
  have z8 := b8.size
  have W_8 := hide (W_7.out.below b8)
  have X0_8 := hide (X0_7.out.below b8)
  have X1_8 := hide (X1_7.out.below b8)
  clear b8 B7 W_7 X0_7 X1_7
  have rG := own8.row
  have G_8 := hide own8
  clear own8
  have apX0W : Hid (∀ g, rowOf (AW : Option Addr) = some g → rowOf ((some ⟨w5.heap.size, 0, none⟩) : Option Addr) ≠ some g) := hide (fun g hg x => by have h1 := rW g hg; have h2 := rX0 g x; omega)
  have apX0G : Hid (∀ g, rowOf (AG : Option Addr) = some g → rowOf ((some ⟨w5.heap.size, 0, none⟩) : Option Addr) ≠ some g) := hide (fun g hg x => by have h1 := rG g hg; have h2 := rX0 g x; omega)
  have apX0X1 : Hid (∀ g, rowOf ((some ⟨w6.heap.size, 0, none⟩) : Option Addr) = some g → rowOf ((some ⟨w5.heap.size, 0, none⟩) : Option Addr) ≠ some g) := hide (fun g hg x => by have h1 := rX1 g hg; have h2 := rX0 g x; omega)
  have hzX0 : Hid (∀ g, rowOf ((some ⟨w5.heap.size, 0, none⟩) : Option Addr) = some g → w.heap.size ≤ g) := hide (fun g hg => by have h1 := rX0 g hg; have h2 := B8.out.size; omega)
  have apX1W : Hid (∀ g, rowOf (AW : Option Addr) = some g → rowOf ((some ⟨w6.heap.size, 0, none⟩) : Option Addr) ≠ some g) := hide (fun g hg x => by have h1 := rW g hg; have h2 := rX1 g x; omega)
  have apX1G : Hid (∀ g, rowOf (AG : Option Addr) = some g → rowOf ((some ⟨w6.heap.size, 0, none⟩) : Option Addr) ≠ some g) := hide (fun g hg x => by have h1 := rG g hg; have h2 := rX1 g x; omega)
  have apX1X0 : Hid (∀ g, rowOf ((some ⟨w5.heap.size, 0, none⟩) : Option Addr) = some g → rowOf ((some ⟨w6.heap.size, 0, none⟩) : Option Addr) ≠ some g) := hide (fun g hg x => by have h1 := rX0 g hg; have h2 := rX1 g x; omega)
  have hzX1 : Hid (∀ g, rowOf ((some ⟨w6.heap.size, 0, none⟩) : Option Addr) = some g → w.heap.size ≤ g) := hide (fun g hg => by have h1 := rX1 g hg; have h2 := B8.out.size; omega)
  have apGW : Hid (∀ g, rowOf AW = some g → rowOf AG ≠ some g) := hide (fun g hg x => by have h1 := rW g hg; have h2 := rG g x; omega)
  have hzG : Hid (∀ g, rowOf AG = some g → w.heap.size ≤ g) := hide (fun g hg => by have h1 := rG g hg; omega)
  clear rW rG rX0 rX1 rS0 rS1
  go_wp2_with fail
  refine (eqPairS_any _ _ (appL l0 l1) (appL l0 l1) (capG) (capW) _ hpm hpm G_8.out.pin W_8.out.pin).mono ?_
  rintro e w9 ⟨rfl, b9⟩
  have B9 := hide (B8.out.trans (b9.mono B8.out.size))
  have z9 := b9.size
  have W_9 := hide (W_8.out.below b9)
  have X0_9 := hide (X0_8.out.below b9)
  have X1_9 := hide (X1_8.out.below b9)
  have G_9 := hide (G_8.out.below b9)
  clear b9 B8 W_8 X0_8 X1_8 G_8
  go_wp2_with fail
  refine (toPairS_any A0 l0 cap0 _ hm0 ((IN0.out.below B9.out).more B9.out.size)).mono ?_
  rintro e w10 ⟨rfl, own10, b10⟩
  have B10 := hide (B9.out.trans (b10.mono B9.out.size))
  have z10 := b10.size
  have W_10 := hide (W_9.out.below b10)
  have X0_10 := hide (X0_9.out.below b10)
  have X1_10 := hide (X1_9.out.below b10)
  have G_10 := hide (G_9.out.below b10)
  clear b10 B9 W_9 X0_9 X1_9 G_9
  have rY := own10.row
  have Y_10 := hide own10
  clear own10
  go_wp2_with fail
  refine (eqPairS_any _ _ (l0) (l0) (l0.length) (l0.length) _ hl0 hl0 X0_10.out.pin Y_10.out.pin).mono ?_
  rintro e w11 ⟨rfl, b11⟩
  have B11 := hide (B10.out.trans (b11.mono B10.out.size))
  have z11 := b11.size
  have W_11 := hide (W_10.out.below b11)
  have X0_11 := hide (X0_10.out.below b11)
  have X1_11 := hide (X1_10.out.below b11)
  have G_11 := hide (G_10.out.below b11)
  have Y_11 := hide (Y_10.out.below b11)
  clear b11 B10 W_10 X0_10 X1_10 G_10 Y_10
  clear Y_11
  clear rY
  go_wp2_with fail
  refine (toChangeS_any A1 l1 cap1 _ hm1 ((IN1.out.below B11.out).more B11.out.size)).mono ?_
  rintro e w12 ⟨rfl, own12, b12⟩
  have B12 := hide (B11.out.trans (b12.mono B11.out.size))
  have z12 := b12.size
  have W_12 := hide (W_11.out.below b12)
  have X0_12 := hide (X0_11.out.below b12)
  have X1_12 := hide (X1_11.out.below b12)
  have G_12 := hide (G_11.out.below b12)
  clear b12 B11 W_11 X0_11 X1_11 G_11
  have rY := own12.row
  have Y_12 := hide own12
  clear own12
  go_wp2_with fail
  refine (eqChangeS_any _ _ (l1) (l1) (l1.length) (l1.length) _ hl1 hl1 X1_12.out.pin Y_12.out.pin).mono ?_
  rintro e w13 ⟨rfl, b13⟩
  have B13 := hide (B12.out.trans (b13.mono B12.out.size))
  have z13 := b13.size
  have W_13 := hide (W_12.out.below b13)
  have X0_13 := hide (X0_12.out.below b13)
  have X1_13 := hide (X1_12.out.below b13)
  have G_13 := hide (G_12.out.below b13)
  have Y_13 := hide (Y_12.out.below b13)
  clear b13 B12 W_12 X0_12 X1_12 G_12 Y_12
  clear Y_13
  clear rY
  go_wp2_with fail
  refine (markPairS_int _ (l0) (l0.length) (_) (1) _ _ (by omega) (by omega) (by omega) X0_13.out).mono ?_
  rintro e w14 ⟨rfl, ow14, g14⟩
  have B14 := hide (B13.out.grown g14 B13.out.size hzX0.out)
  have W_14 := hide (W_13.out.apart g14 apX0W.out)
  have X1_14 := hide (X1_13.out.apart g14 apX0X1.out)
  have G_14 := hide (G_13.out.apart g14 apX0G.out)
  clear B13 W_13 X1_13 G_13
  clear X0_13 ow14 g14
  go_wp2_with fail
  refine (markChangeS_int _ (l1) (l1.length) (_) (1 + 2 * l0.length) _ _ (by omega) (by omega) (by omega) X1_14.out).mono ?_
  rintro e w15 ⟨rfl, ow15, g15⟩
  have B15 := hide (B14.out.grown g15 B14.out.size hzX1.out)
  have W_15 := hide (W_14.out.apart g15 apX1W.out)
  have G_15 := hide (G_14.out.apart g15 apX1G.out)
  clear B14 W_14 G_14
  clear X1_14 ow15 g15
  have hk1 : ¬ ((1 + 2 * l0.length + 5 * l1.length : Nat) : Int) < 0 := by omega
  have hk2 : ¬ (1 + 2 * (l0.length : Int) + 5 * (l1.length : Int)) < 0 := by omega
  have hk3 : decide (((1 + 2 * l0.length + 5 * l1.length : Nat) : Int) < 0) = false := decide_eq_false hk1
  have hk4 : decide ((1 + 2 * (l0.length : Int) + 5 * (l1.length : Int)) < 0) = false := decide_eq_false hk2
  go_wp2_with fail
  refine (eqPairS_any _ _ (appL l0 l1) (appL l0 l1) (capG) (capW) _ hpm hpm G_15.out.pin W_15.out.pin).mono ?_
  rintro e w16 ⟨rfl, b16⟩
  have B16 := hide (B15.out.trans (b16.mono B15.out.size))
  have z16 := b16.size
  have W_16 := hide (W_15.out.below b16)
  have G_16 := hide (G_15.out.below b16)
  clear b16 B15 W_15 G_15
  clear hk1 hk2 hk3 hk4
  go_wp2_with fail
  refine (markPairS_int _ (appL l0 l1) (capG) (_) (1) _ _ (by omega) (by omega) (by omega) G_16.out).mono ?_
  rintro e w17 ⟨rfl, ow17, g17⟩
  have B17 := hide (B16.out.grown g17 B16.out.size hzG.out)
  have W_17 := hide (W_16.out.apart g17 apGW.out)
  clear B16 W_16
  have G_17 := hide ow17
  clear G_16 ow17 g17
  go_wp2_with fail
  refine (heldPairS_any AG (appL l0 l1).length capG 1 _ (by omega) (by omega) G_17.out.pin).mono ?_
  rintro e w18 ⟨rfl, b18⟩
  have B18 := hide (B17.out.trans (b18.mono B17.out.size))
  have z18 := b18.size
  have W_18 := hide (W_17.out.below b18)
  have G_18 := hide (G_17.out.below b18)
  clear b18 B17 W_17 G_17
  have hq : ¬ (1 + 2 * ((appL l0 l1).length : Int)) < 0 := by omega
  have hq2 : ((1 + 2 * ((appL l0 l1).length : Int)) != (1 + 2 * ((appL l0 l1).length : Int))) = false := by simp
  go_wp2_with fail
  refine (toPairS_any A0 l0 cap0 _ hm0 ((IN0.out.below B18.out).more B18.out.size)).mono ?_
  rintro e w19 ⟨rfl, own19, b19⟩
  have B19 := hide (B18.out.trans (b19.mono B18.out.size))
  have z19 := b19.size
  have W_19 := hide (W_18.out.below b19)
  have G_19 := hide (G_18.out.below b19)
  clear b19 B18 W_18 G_18
  have rT0 := own19.row
  have T0_19 := hide own19
  clear own19
  go_wp2_with fail
  refine (toChangeS_any A1 l1 cap1 _ hm1 ((IN1.out.below B19.out).more B19.out.size)).mono ?_
  rintro e w20 ⟨rfl, own20, b20⟩
  have B20 := hide (B19.out.trans (b20.mono B19.out.size))
  have z20 := b20.size
  have W_20 := hide (W_19.out.below b20)
  have G_20 := hide (G_19.out.below b20)
  have T0_20 := hide (T0_19.out.below b20)
  clear b20 B19 W_19 G_19 T0_19
  have rT1 := own20.row
  have T1_20 := hide own20
  clear own20
  go_wp2_with fail
  refine (implApplied_any _ l0 l0.length _ l1 l1.length _ hl0 hm1 (T0_20.out.pin) (T1_20.out.pin)).mono ?_
  rintro e w21 ⟨AH, capH, hcH, rfl, own21, b21⟩
  have B21 := hide (B20.out.trans (b21.mono B20.out.size))
  have z21 := b21.size
  have W_21 := hide (W_20.out.below b21)
  have G_21 := hide (G_20.out.below b21)
  have T0_21 := hide (T0_20.out.below b21)
  have T1_21 := hide (T1_20.out.below b21)
  clear b21 B20 W_20 G_20 T0_20 T1_20
  have rH := own21.row
  have H_21 := hide own21
  clear own21
  clear T0_21
  clear T1_21
  go_wp2_with fail
  refine (eqPairS_any _ _ (appL l0 l1) (appL l0 l1) (capH) (capW) _ hpm hpm H_21.out.pin W_21.out.pin).mono ?_
  rintro e w22 ⟨rfl, b22⟩
  have B22 := hide (B21.out.trans (b22.mono B21.out.size))
  have z22 := b22.size
  have W_22 := hide (W_21.out.below b22)
  have G_22 := hide (G_21.out.below b22)
  have H_22 := hide (H_21.out.below b22)
  clear b22 B21 W_21 G_21 H_21
  clear H_22
  clear W_22
  go_wp2_with fail
  refine (heldPairS_any AG (appL l0 l1).length capG 1 _ (by omega) (by omega) G_22.out.pin).mono ?_
  rintro e w23 ⟨rfl, b23⟩
  have B23 := hide (B22.out.trans (b23.mono B22.out.size))
  have z23 := b23.size
  have G_23 := hide (G_22.out.below b23)
  clear b23 B22 G_22
  go_wp2
  go_ret
  exact ⟨rfl, B23.out⟩

set_option maxRecDepth 100000 in
theorem lifted (os : Os) (started : os.Started) (H : Type) (enc : TypeId × Value → H) :
    ReturnsInHanded {} Try.checked os 9 .any (Rows.fnExactAppliedSpec.pre6 enc Try.prog Try.f9 Rows.fnExactAppliedRow.domain false) (Rows.fnExactAppliedSpec.post enc Try.prog Try.f9 false true false false) := by
  refine returnsInHanded_of_change (C := Try.checked) own started (by kernel_rfl) Try.func9
    (ChangeSpec.witness6 (enc := enc) (C := Try.checked) false ⟨#[], #[.slice none 0 0, .slice none 0 0], []⟩ 8 (by kernel_rfl) (by kernel_rfl) (by kernel_rfl) (by kernel_rfl)) ?_
  intro W base args ds gs before hval0 hW hcnd _
  have hval : ∀ (j : Nat) t v, Try.f9.params[j]? = some t → args[j]? = some v → Value.okWide Try.prog W .any base t v := hval0
  have hW' := hW
  obtain ⟨p, q, hA0, hV, rfl, hfz, hnd⟩ := hW
  have hA : DataW.TrodAll enc Try.prog W 0 (fun _ => true) true Try.f9.params.toList args.toList ds p := hA0
  rw [Try.params9] at hA hval
  obtain ⟨v0, vs0, d0, ds0, p0, q0, hargs, rfl, rfl, h0, r0⟩ := trodAll_cons hA
  obtain ⟨v1, vs1, d1, ds1, p1, q1, rfl, rfl, rfl, h1, r1⟩ := trodAll_cons r0
  obtain ⟨rfl, rfl, rfl⟩ := trodAll_nil r1
  obtain rfl : args = #[v0, v1] := by cases args; simp_all
  obtain ⟨rfl, rfl⟩ := trodVars_none hV
  obtain ⟨A0, n0, cap0, rfl⟩ := okWide_slice Try.underlying46 (hval 0 46 v0 rfl rfl)
  have lt0 : ∀ x ∈ p0, x.block < W.heap.size := by obtain ⟨m, hm⟩ := h0; exact DataW.trod_lt m _ _ _ hm
  obtain ⟨l0, rfl, hl0, hin0⟩ := open_pairs h0
  obtain ⟨A1, n1, cap1, rfl⟩ := okWide_slice Try.underlying52 (hval 1 52 v1 rfl rfl)
  have lt1 : ∀ x ∈ p1, x.block < W.heap.size := by obtain ⟨m, hm⟩ := h1; exact DataW.trod_lt m _ _ _ hm
  obtain ⟨l1, rfl, hl1, hin1⟩ := open_changes h1
  clear hA0 hval0
  refine (walk A0 l0 cap0 A1 l1 cap1 W hl0 hin0 hl1 hin1).mono fun e W' ⟨he, bel⟩ => ?_
  subst he
  exact ⟨_, rfl, _, _, _, [], _, [], hW', trodAll_mk1 (shut_bool Try.underlying4 _), (trodAll_cons_mk (Below.trod laidOut (by kernel_rfl) (of_decide_eq_true (by kernel_rfl)) h0 bel lt0) (trodAll_cons_mk (Below.trod laidOut (by kernel_rfl) (of_decide_eq_true (by kernel_rfl)) h1 bel lt1) trodAll_mk0)), rfl, bel.frame _, fun h => by cases h⟩

theorem over : Rows.fnExactAppliedRow.holds Try.pinned (OpenSpec.ofChange Rows.fnExactAppliedSpec) :=
  OpenClaim.holds_of_wide 9 Try.f9 rfl rfl rfl rfl rfl rfl rfl ⟨rfl, rfl, rfl, rfl, rfl⟩ rfl rfl rfl rfl rfl (by kernel_rfl) Try.func9 (by kernel_rfl)
    (of_decide_eq_true (by kernel_rfl)) (by unfold Func.isWrapper; first | (rw [if_pos (by decide +kernel)]; kernel_rfl) | (rw [if_neg (by decide +kernel)]; exact ⟨rfl, rfl⟩))
    (fun os started H enc _ => lifted os started H enc)

end Go.Proofs.Ytcpalnkcjcgaeaa.ExApplied
namespace Go.Proofs.Ytcpalnkcjcgaeaa
theorem fnExactApplied_proved : Rows.FnExactAppliedSaid := ExApplied.over
end Go.Proofs.Ytcpalnkcjcgaeaa
