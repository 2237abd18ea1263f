/-
  For every list of refs and all texts, laws.FnExactSetRef returns true and leaves its arguments as they were: impl.SetRef answers as the reference does, keeps its arguments, and its answer is memory of its own. No conditions.
-/
import Derived.Test.YtcpalnkcjcgaeabLPairS
import Derived.Test.YtcpalnkcjcgaeabRSetI
import Derived.Test.YtcpalnkcjcgaeabLMarkI
import Derived.Test.YtcpalnkcjcgaeabLOpen
import Derived.Test.YtcpalnkcjcgaeabLFrame
namespace Go.Proofs.Ytcpalnkcjcgaeab.ExSetRef
open Go.RowKit Go.ChangeShapes Go.WideShapes Go.ChangeAt
open Go.ChangeMaps (open_string shut_string)

set_option maxRecDepth 100000 in
set_option maxHeartbeats 4000000 in
theorem walk (A0 : Option Addr) (l0 : List Pr) (cap0 : Nat) (k : ByteArray) (v : ByteArray) (w : World) (hl0 : l0.length ≤ maxLen) (hin0 : PIn w w.heap.size A0 l0) (hs1 : k.size ≤ maxLen) (hs2 : v.size ≤ maxLen) :
    Calls Try.prog 5 #[.slice A0 l0.length cap0, .string k, .string v] w fun e w' => e = .returned (.bool true) ∧ Below w.heap.size w w' := by
  have hs12 := hs1
  unfold maxLen at hs12
  by_cases hbig1 : 1048576 < k.size
  · go_enter Try.func5, Try.ntmps5
    go_wp2
    go_ret
    exact ⟨rfl, Below.refl _ _⟩
  have hs22 := hs2
  unfold maxLen at hs22
  by_cases hbig2 : 1048576 < v.size
  · go_enter Try.func5, Try.ntmps5
    go_wp2
    go_ret
    exact ⟨rfl, Below.refl _ _⟩
  have es0 := eqL_self l0
  have esR := eqL_self (stL l0 k v)
  have e2 : (stB l0 k v != stB l0 k v) = false := by simp
  have IN0 := hide hin0
  have B0 : Hid (Below w.heap.size w w) := hide (Below.refl _ _)
  clear hin0
  go_enter Try.func5, Try.ntmps5
  go_wp2_with fail
  refine (szPairS_any A0 l0 cap0 1048576 _ hl0 ((IN0.out.below B0.out).more B0.out.size) (by omega) (by omega)).mono ?_
  rintro e w1 ⟨hr1, b1⟩
  have B1 := hide (B0.out.trans (b1.mono B0.out.size))
  clear b1 B0
  rcases hr1 with rfl | ⟨r1, hr10, hr11, rfl⟩
  · go_wp2
    go_ret
    exact ⟨rfl, B1.out⟩
  have hm0 : l0.length ≤ 1048576 := by omega
  have zw := B1.out.size
  have hp : (stL l0 k v).length ≤ 20 := stL_len l0 k v
  have hpm : (stL l0 k v).length ≤ maxLen := by unfold maxLen; omega
  go_wp2_with fail
  refine (toPairS_any A0 l0 cap0 _ hm0 ((IN0.out.below B1.out).more B1.out.size)).mono ?_
  rintro e w2 ⟨rfl, own2, b2⟩
  have B2 := hide (B1.out.trans (b2.mono B1.out.size))
  have z2 := b2.size
  clear b2 B1 
  have rS0 := own2.row
  have S0_2 := hide own2
  clear own2
  go_wp2_with fail
  refine (specSetRef_any _ l0 l0.length k v _ hl0 (Nat.le_refl _) (S0_2.out.pin) hs1 hs2).mono ?_
  rintro e w3 ⟨AW, capW, hcW, rfl, own3, b3⟩
  have B3 := hide (B2.out.trans (b3.mono B2.out.size))
  have z3 := b3.size
  have S0_3 := hide (S0_2.out.below b3)
  clear b3 B2 S0_2
  have rW := own3.row
  have W_3 := hide own3
  clear own3
  clear S0_3
  go_wp2_with fail
  refine (toPairS_any A0 l0 cap0 _ hm0 ((IN0.out.below B3.out).more B3.out.size)).mono ?_
  rintro e w4 ⟨rfl, own4, b4⟩
  have B4 := hide (B3.out.trans (b4.mono B3.out.size))
  have z4 := b4.size
  have W_4 := hide (W_3.out.below b4)
  clear b4 B3 W_3
  have rX0 := own4.row
  have X0_4 := hide own4
  clear own4
  go_wp2_with fail
  refine (implSetRef_any _ l0 l0.length k v _ hl0 (X0_4.out.pin) hs1 hs2).mono ?_
  rintro e w5 ⟨AG, capG, hcG, rfl, own5, b5⟩
  have B5 := hide (B4.out.trans (b5.mono B4.out.size))
  have z5 := b5.size
  have W_5 := hide (W_4.out.below b5)
  have X0_5 := hide (X0_4.out.below b5)
  clear b5 B4 W_4 X0_4
  have rG := own5.row
  have G_5 := hide own5
  clear own5
  have apX0W : Hid (∀ g, rowOf (AW : Option Addr) = some g → rowOf ((some ⟨w3.heap.size, 0, none⟩) : Option Addr) ≠ some g) := hide (fun g hg x => by have h1 := rW g hg; have h2 := rX0 g x; omega)
  have apX0G : Hid (∀ g, rowOf (AG : Option Addr) = some g → rowOf ((some ⟨w3.heap.size, 0, none⟩) : Option Addr) ≠ some g) := hide (fun g hg x => by have h1 := rG g hg; have h2 := rX0 g x; omega)
  have hzX0 : Hid (∀ g, rowOf ((some ⟨w3.heap.size, 0, none⟩) : Option Addr) = some g → w.heap.size ≤ g) := hide (fun g hg => by have h1 := rX0 g hg; have h2 := B5.out.size; omega)
  have apGW : Hid (∀ g, rowOf AW = some g → rowOf AG ≠ some g) := hide (fun g hg x => by have h1 := rW g hg; have h2 := rG g x; omega)
  have hzG : Hid (∀ g, rowOf AG = some g → w.heap.size ≤ g) := hide (fun g hg => by have h1 := rG g hg; omega)
  clear rW rG rX0 rS0
  go_wp2_with fail
  refine (eqPairS_any _ _ (stL l0 k v) (stL l0 k v) (capG) (capW) _ hpm hpm G_5.out.pin W_5.out.pin).mono ?_
  rintro e w6 ⟨rfl, b6⟩
  have B6 := hide (B5.out.trans (b6.mono B5.out.size))
  have z6 := b6.size
  have W_6 := hide (W_5.out.below b6)
  have X0_6 := hide (X0_5.out.below b6)
  have G_6 := hide (G_5.out.below b6)
  clear b6 B5 W_5 X0_5 G_5
  go_wp2_with fail
  refine (toPairS_any A0 l0 cap0 _ hm0 ((IN0.out.below B6.out).more B6.out.size)).mono ?_
  rintro e w7 ⟨rfl, own7, b7⟩
  have B7 := hide (B6.out.trans (b7.mono B6.out.size))
  have z7 := b7.size
  have W_7 := hide (W_6.out.below b7)
  have X0_7 := hide (X0_6.out.below b7)
  have G_7 := hide (G_6.out.below b7)
  clear b7 B6 W_6 X0_6 G_6
  have rY := own7.row
  have Y_7 := hide own7
  clear own7
  go_wp2_with fail
  refine (eqPairS_any _ _ (l0) (l0) (l0.length) (l0.length) _ hl0 hl0 X0_7.out.pin Y_7.out.pin).mono ?_
  rintro e w8 ⟨rfl, b8⟩
  have B8 := hide (B7.out.trans (b8.mono B7.out.size))
  have z8 := b8.size
  have W_8 := hide (W_7.out.below b8)
  have X0_8 := hide (X0_7.out.below b8)
  have G_8 := hide (G_7.out.below b8)
  have Y_8 := hide (Y_7.out.below b8)
  clear b8 B7 W_7 X0_7 G_7 Y_7
  clear Y_8
  clear rY
  go_wp2_with fail
  refine (markPairS_int _ (l0) (l0.length) (_) (1) _ _ (by omega) (by omega) (by omega) X0_8.out).mono ?_
  rintro e w9 ⟨rfl, ow9, g9⟩
  have B9 := hide (B8.out.grown g9 B8.out.size hzX0.out)
  have W_9 := hide (W_8.out.apart g9 apX0W.out)
  have G_9 := hide (G_8.out.apart g9 apX0G.out)
  clear B8 W_8 G_8
  clear X0_8 ow9 g9
  have hk1 : ¬ ((1 + 2 * l0.length : Nat) : Int) < 0 := by omega
  have hk2 : ¬ (1 + 2 * (l0.length : Int)) < 0 := by omega
  have hk3 : decide (((1 + 2 * l0.length : Nat) : Int) < 0) = false := decide_eq_false hk1
  have hk4 : decide ((1 + 2 * (l0.length : Int)) < 0) = false := decide_eq_false hk2
  go_wp2_with fail
  refine (eqPairS_any _ _ (stL l0 k v) (stL l0 k v) (capG) (capW) _ hpm hpm G_9.out.pin W_9.out.pin).mono ?_
  rintro e w10 ⟨rfl, b10⟩
  have B10 := hide (B9.out.trans (b10.mono B9.out.size))
  have z10 := b10.size
  have W_10 := hide (W_9.out.below b10)
  have G_10 := hide (G_9.out.below b10)
  clear b10 B9 W_9 G_9
  clear hk1 hk2 hk3 hk4
  go_wp2_with fail
  refine (markPairS_int _ (stL l0 k v) (capG) (_) (1) _ _ (by omega) (by omega) (by omega) G_10.out).mono ?_
  rintro e w11 ⟨rfl, ow11, g11⟩
  have B11 := hide (B10.out.grown g11 B10.out.size hzG.out)
  have W_11 := hide (W_10.out.apart g11 apGW.out)
  clear B10 W_10
  have G_11 := hide ow11
  clear G_10 ow11 g11
  go_wp2_with fail
  refine (heldPairS_any AG (stL l0 k v).length capG 1 _ (by omega) (by omega) G_11.out.pin).mono ?_
  rintro e w12 ⟨rfl, b12⟩
  have B12 := hide (B11.out.trans (b12.mono B11.out.size))
  have z12 := b12.size
  have W_12 := hide (W_11.out.below b12)
  have G_12 := hide (G_11.out.below b12)
  clear b12 B11 W_11 G_11
  have hq : ¬ (1 + 2 * ((stL l0 k v).length : Int)) < 0 := by omega
  have hq2 : ((1 + 2 * ((stL l0 k v).length : Int)) != (1 + 2 * ((stL l0 k v).length : Int))) = false := by simp
  go_wp2_with fail
  refine (toPairS_any A0 l0 cap0 _ hm0 ((IN0.out.below B12.out).more B12.out.size)).mono ?_
  rintro e w13 ⟨rfl, own13, b13⟩
  have B13 := hide (B12.out.trans (b13.mono B12.out.size))
  have z13 := b13.size
  have W_13 := hide (W_12.out.below b13)
  have G_13 := hide (G_12.out.below b13)
  clear b13 B12 W_12 G_12
  have rT0 := own13.row
  have T0_13 := hide own13
  clear own13
  go_wp2_with fail
  refine (implSetRef_any _ l0 l0.length k v _ hl0 (T0_13.out.pin) hs1 hs2).mono ?_
  rintro e w14 ⟨AH, capH, hcH, rfl, own14, b14⟩
  have B14 := hide (B13.out.trans (b14.mono B13.out.size))
  have z14 := b14.size
  have W_14 := hide (W_13.out.below b14)
  have G_14 := hide (G_13.out.below b14)
  have T0_14 := hide (T0_13.out.below b14)
  clear b14 B13 W_13 G_13 T0_13
  have rH := own14.row
  have H_14 := hide own14
  clear own14
  clear T0_14
  go_wp2_with fail
  refine (eqPairS_any _ _ (stL l0 k v) (stL l0 k v) (capH) (capW) _ hpm hpm H_14.out.pin W_14.out.pin).mono ?_
  rintro e w15 ⟨rfl, b15⟩
  have B15 := hide (B14.out.trans (b15.mono B14.out.size))
  have z15 := b15.size
  have W_15 := hide (W_14.out.below b15)
  have G_15 := hide (G_14.out.below b15)
  have H_15 := hide (H_14.out.below b15)
  clear b15 B14 W_14 G_14 H_14
  clear H_15
  clear W_15
  go_wp2_with fail
  refine (heldPairS_any AG (stL l0 k v).length capG 1 _ (by omega) (by omega) G_15.out.pin).mono ?_
  rintro e w16 ⟨rfl, b16⟩
  have B16 := hide (B15.out.trans (b16.mono B15.out.size))
  have z16 := b16.size
  have G_16 := hide (G_15.out.below b16)
  clear b16 B15 G_15
  go_wp2
  go_ret
  exact ⟨rfl, B16.out⟩

set_option maxRecDepth 100000 in
theorem lifted (os : Os) (started : os.Started) (H : Type) (enc : TypeId × Value → H) :
    ReturnsInHanded {} Try.checked os 5 .any (Rows.fnExactSetRefSpec.pre6 enc Try.prog Try.f5 Rows.fnExactSetRefRow.domain false) (Rows.fnExactSetRefSpec.post enc Try.prog Try.f5 false true false false) := by
  refine returnsInHanded_of_change (C := Try.checked) own started (by kernel_rfl) Try.func5
    (ChangeSpec.witness6 (enc := enc) (C := Try.checked) false ⟨#[], #[.slice none 0 0, .string ByteArray.empty, .string ByteArray.empty], []⟩ 8 (by kernel_rfl) (by kernel_rfl) (by kernel_rfl) (by kernel_rfl)) ?_
  intro W base args ds gs before hval0 hW hcnd _
  have hval : ∀ (j : Nat) t v, Try.f5.params[j]? = some t → args[j]? = some v → Value.okWide Try.prog W .any base t v := hval0
  have hW' := hW
  obtain ⟨p, q, hA0, hV, rfl, hfz, hnd⟩ := hW
  have hA : DataW.TrodAll enc Try.prog W 0 (fun _ => true) true Try.f5.params.toList args.toList ds p := hA0
  rw [Try.params5] at hA hval
  obtain ⟨v0, vs0, d0, ds0, p0, q0, hargs, rfl, rfl, h0, r0⟩ := trodAll_cons hA
  obtain ⟨v1, vs1, d1, ds1, p1, q1, rfl, rfl, rfl, h1, r1⟩ := trodAll_cons r0
  obtain ⟨v2, vs2, d2, ds2, p2, q2, rfl, rfl, rfl, h2, r2⟩ := trodAll_cons r1
  obtain ⟨rfl, rfl, rfl⟩ := trodAll_nil r2
  obtain rfl : args = #[v0, v1, v2] := by cases args; simp_all
  obtain ⟨rfl, rfl⟩ := trodVars_none hV
  obtain ⟨A0, n0, cap0, rfl⟩ := okWide_slice Try.underlying22 (hval 0 22 v0 rfl rfl)
  have lt0 : ∀ x ∈ p0, x.block < W.heap.size := by obtain ⟨m, hm⟩ := h0; exact DataW.trod_lt m _ _ _ hm
  obtain ⟨l0, rfl, hl0, hin0⟩ := open_pairs h0
  obtain ⟨s1, rfl, rfl, rfl, hs1⟩ := open_string Try.underlying9 (hval 1 9 v1 rfl rfl) h1
  obtain ⟨s2, rfl, rfl, rfl, hs2⟩ := open_string Try.underlying9 (hval 2 9 v2 rfl rfl) h2
  clear hA0 hval0
  refine (walk A0 l0 cap0 s1 s2 W hl0 hin0 hs1 hs2).mono fun e W' ⟨he, bel⟩ => ?_
  subst he
  exact ⟨_, rfl, _, _, _, [], _, [], hW', trodAll_mk1 (shut_bool Try.underlying4 _), (trodAll_cons_mk (Below.trod laidOut (by kernel_rfl) (of_decide_eq_true (by kernel_rfl)) h0 bel lt0) (trodAll_cons_mk (shut_string Try.underlying9 hs1) (trodAll_cons_mk (shut_string Try.underlying9 hs2) trodAll_mk0))), rfl, bel.frame _, fun h => by cases h⟩

theorem over : Rows.fnExactSetRefRow.holds Try.pinned (OpenSpec.ofChange Rows.fnExactSetRefSpec) :=
  OpenClaim.holds_of_wide 5 Try.f5 rfl rfl rfl rfl rfl rfl rfl ⟨rfl, rfl, rfl, rfl, rfl⟩ rfl rfl rfl rfl rfl (by kernel_rfl) Try.func5 (by kernel_rfl)
    (of_decide_eq_true (by kernel_rfl)) (by unfold Func.isWrapper; first | (rw [if_pos (by decide +kernel)]; kernel_rfl) | (rw [if_neg (by decide +kernel)]; exact ⟨rfl, rfl⟩))
    (fun os started H enc _ => lifted os started H enc)

end Go.Proofs.Ytcpalnkcjcgaeab.ExSetRef
namespace Go.Proofs.Ytcpalnkcjcgaeab
theorem fnExactSetRef_proved : Rows.FnExactSetRefSaid := ExSetRef.over
end Go.Proofs.Ytcpalnkcjcgaeab
