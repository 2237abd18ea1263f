/-
  For every list of changes, laws.FnExactInverse returns true and leaves its argument as it was: impl.Inverse answers as the reference does, keeps its argument, and its answer is memory of its own. No conditions.
-/
import Derived.Test.YtggabolaohlfjaaHLawS
import Derived.Test.YtggabolaohlfjaaPDropI
import Derived.Test.YtggabolaohlfjaaHMark
import Derived.Test.YtggabolaohlfjaaHInv
import Derived.Test.YtggabolaohlfjaaHOpen
import Derived.Test.YtggabolaohlfjaaLFrame
namespace Go.Proofs.Ytggabolaohlfjaa.ExInverse
open Go.RowKit Go.ChangeShapes Go.WideShapes Go.ChangeAt
open Go.ChangeMaps (open_string shut_string)

set_option maxRecDepth 100000 in
set_option maxHeartbeats 2000000 in
theorem walk (A : Option Addr) (l : List Ch) (cap : Nat) (w : World) (hl : l.length ≤ maxLen) (hin : HIn w w.heap.size A l) :
    Calls Try.prog 3 #[.slice A l.length cap] w fun e w' => e = .returned (.bool true) ∧ Below w.heap.size w w' := by
  have es := eqCL_self l
  have es2 := eqCL_self (invL l)
  go_enter Try.func3, Try.ntmps3
  go_wp2_with fail
  refine (szChangeS_any A l cap 1048576 _ hl hin (by omega) (by omega)).mono ?_
  rintro e w1 ⟨hr, b1⟩
  rcases hr with rfl | ⟨r, hr0, hr1, rfl⟩
  · go_wp2
    go_ret
    exact ⟨rfl, b1⟩
  have hl2 : l.length ≤ 1048576 := by omega
  have IN := hide hin
  have B1 := hide b1
  have hp : (invL l).length ≤ 1048576 := by rw [invL_len]; omega
  have hpm : (invL l).length ≤ maxLen := by unfold maxLen; omega
  clear b1 hin
  go_wp2_with fail
  refine (toChangeS_any A l cap _ hl2 ((IN.out.below B1.out).more B1.out.size)).mono ?_
  rintro e w2 ⟨rfl, own2, b2⟩
  have B2 := hide (B1.out.trans (b2.mono B1.out.size))
  have z2 := b2.size
  clear b2 B1
  go_wp2_with fail
  refine (specInverse_any _ l l.length _ hl2 own2.pin).mono ?_
  rintro e w3 ⟨Aw, capw, hcw, rfl, oww, b3⟩
  have B3 := hide (B2.out.trans (b3.mono B2.out.size))
  have rw3 := oww.row
  have W3 := hide oww
  clear b3 B2 own2 oww
  go_wp2_with fail
  refine (toChangeS_any A l cap _ hl2 ((IN.out.below B3.out).more B3.out.size)).mono ?_
  rintro e w4 ⟨rfl, own4, b4⟩
  have B4 := hide (B3.out.trans (b4.mono B3.out.size))
  have W4 := hide (W3.out.below b4)
  have X4 := hide own4
  have hX : w.heap.size ≤ w3.heap.size := B3.out.size
  have z4 : w3.heap.size < w4.heap.size := by
    rcases own4.form with ⟨h, _⟩ | ⟨g, h, _, h2⟩
    · cases h
    · injection h with h; injection h with h; omega
  clear b4 B3 W3 own4
  go_wp2_with fail
  refine (implInverse_any _ l l.length _ hl2 X4.out.pin).mono ?_
  rintro e w5 ⟨Ag, capg, hcg, rfl, owg, b5⟩
  have B5 := hide (B4.out.trans (b5.mono B4.out.size))
  have W5 := hide (W4.out.below b5)
  have X5 := hide (X4.out.below b5)
  have rg5 := owg.row
  have G5 := hide owg
  clear b5 B4 W4 X4 owg
  -- the rows lie apart
  have apXW : Hid (∀ g, rowOf Aw = some g → rowOf (some (⟨w3.heap.size, 0, none⟩ : Addr)) ≠ some g) := hide (fun g hg x => by
    have := (rw3 g hg).2
    have : w3.heap.size = g := by injection x
    omega)
  have apXG : Hid (∀ g, rowOf Ag = some g → rowOf (some (⟨w3.heap.size, 0, none⟩ : Addr)) ≠ some g) := hide (fun g hg x => by
    have := (rg5 g hg).1
    have : w3.heap.size = g := by injection x
    omega)
  have apGW : Hid (∀ g, rowOf Aw = some g → rowOf Ag ≠ some g) := hide (fun g hg x => by
    have := (rw3 g hg).2
    have := (rg5 g x).1
    omega)
  have hg0 : ∀ g, rowOf Ag = some g → w.heap.size ≤ g := fun g hg => by have := (rg5 g hg).1; omega
  have HG0 := hide hg0
  clear rw3 rg5 hg0
  go_wp2_with fail
  refine (eqChangeS_any Ag Aw _ _ capg capw _ hpm hpm G5.out.pin W5.out.pin).mono ?_
  rintro e w6 ⟨rfl, b6⟩
  have B6 := hide (B5.out.trans (b6.mono B5.out.size))
  have W6 := hide (W5.out.below b6)
  have X6 := hide (X5.out.below b6)
  have G6 := hide (G5.out.below b6)
  clear b6 B5 W5 X5 G5
  go_wp2_with fail
  refine (toChangeS_any A l cap _ hl2 ((IN.out.below B6.out).more B6.out.size)).mono ?_
  rintro e w7 ⟨rfl, own7, b7⟩
  have B7 := hide (B6.out.trans (b7.mono B6.out.size))
  have W7 := hide (W6.out.below b7)
  have X7 := hide (X6.out.below b7)
  have G7 := hide (G6.out.below b7)
  clear b7 B6 W6 X6 G6
  go_wp2_with fail
  refine (eqChangeS_any _ _ l l l.length l.length _ hl hl X7.out.pin own7.pin).mono ?_
  rintro e w8 ⟨rfl, b8⟩
  have B8 := hide (B7.out.trans (b8.mono B7.out.size))
  have W8 := hide (W7.out.below b8)
  have X8 := hide (X7.out.below b8)
  have G8 := hide (G7.out.below b8)
  clear b8 B7 W7 X7 G7 own7
  go_wp2_with fail
  refine (markChangeS_any _ l l.length 1 _ _ (by omega) (by omega) X8.out).mono ?_
  rintro e w9 ⟨rfl, _, g9⟩
  have B9 := hide (B8.out.grown g9 B8.out.size (fun g hg => by have h9 := rowOf_some hg; omega))
  have W9 := hide (W8.out.apart g9 apXW.out)
  have G9 := hide (G8.out.apart g9 apXG.out)
  clear g9 B8 W8 X8 G8 apXW apXG
  have hk9 : ¬ ((1 + 5 * l.length : Nat) : Int) < 0 := by omega
  have dk9 : decide (((1 + 5 * l.length : Nat) : Int) < 0) = false := decide_eq_false hk9
  go_wp2_with fail
  refine (eqChangeS_any Ag Aw _ _ capg capw _ hpm hpm G9.out.pin W9.out.pin).mono ?_
  rintro e w10 ⟨rfl, b10⟩
  have B10 := hide (B9.out.trans (b10.mono B9.out.size))
  have W10 := hide (W9.out.below b10)
  have G10 := hide (G9.out.below b10)
  clear b10 B9 W9 G9 hk9 dk9
  go_wp2_with fail
  refine (markChangeS_any Ag _ capg 1 _ _ (by omega) (by omega) G10.out).mono ?_
  rintro e w11 ⟨rfl, ow11, g11⟩
  have B11 := hide (B10.out.grown g11 B10.out.size HG0.out)
  have W11 := hide (W10.out.apart g11 apGW.out)
  have G11 := hide ow11
  clear g11 B10 W10 G10 ow11
  go_wp2_with fail
  refine (heldChangeS_any Ag (invL l).length capg 1 _ (by omega) (by omega) G11.out.pin).mono ?_
  rintro e w12 ⟨rfl, b12⟩
  have B12 := hide (B11.out.trans (b12.mono B11.out.size))
  have W12 := hide (W11.out.below b12)
  have G12 := hide (G11.out.below b12)
  clear b12 B11 W11 G11
  have hq : ¬ (1 + 5 * ((invL l).length : Int)) < 0 := by omega
  have hq2 : ((1 + 5 * ((invL l).length : Int)) != (1 + 5 * ((invL l).length : Int))) = false := by simp
  go_wp2_with fail
  refine (toChangeS_any A l cap _ hl2 ((IN.out.below B12.out).more B12.out.size)).mono ?_
  rintro e w13 ⟨rfl, own13, b13⟩
  have B13 := hide (B12.out.trans (b13.mono B12.out.size))
  have W13 := hide (W12.out.below b13)
  have G13 := hide (G12.out.below b13)
  clear b13 B12 W12 G12
  go_wp2_with fail
  refine (implInverse_any _ l l.length _ hl2 own13.pin).mono ?_
  rintro e w14 ⟨Ah, caph, hch, rfl, owh, b14⟩
  have B14 := hide (B13.out.trans (b14.mono B13.out.size))
  have W14 := hide (W13.out.below b14)
  have G14 := hide (G13.out.below b14)
  clear b14 B13 W13 G13 own13
  go_wp2_with fail
  refine (eqChangeS_any Ah Aw _ _ caph capw _ hpm hpm owh.pin W14.out.pin).mono ?_
  rintro e w15 ⟨rfl, b15⟩
  have B15 := hide (B14.out.trans (b15.mono B14.out.size))
  have G15 := hide (G14.out.below b15)
  clear b15 B14 W14 G14 owh
  go_wp2_with fail
  refine (heldChangeS_any Ag (invL l).length capg 1 _ (by omega) (by omega) G15.out.pin).mono ?_
  rintro e w16 ⟨rfl, b16⟩
  have B16 := hide (B15.out.trans (b16.mono B15.out.size))
  clear b16 B15 G15
  go_wp2
  go_ret
  exact ⟨rfl, B16.out⟩

set_option maxRecDepth 100000 in
theorem lifted (os : Os) (started : os.Started) (H : Type) (enc : TypeId × Value → H) :
    ReturnsInHanded {} Try.checked os 3 .any (Rows.fnExactInverseSpec.pre6 enc Try.prog Try.f3 Rows.fnExactInverseRow.domain false) (Rows.fnExactInverseSpec.post enc Try.prog Try.f3 false true false false) := by
  refine returnsInHanded_of_change (C := Try.checked) own started (by kernel_rfl) Try.func3
    (ChangeSpec.witness6 (enc := enc) (C := Try.checked) false ⟨#[], #[.slice none 0 0], []⟩ 8 (by kernel_rfl) (by kernel_rfl) (by kernel_rfl) (by kernel_rfl)) ?_
  intro W base args ds gs before hval0 hW hcnd _
  have hval : ∀ (j : Nat) t v, Try.f3.params[j]? = some t → args[j]? = some v → Value.okWide Try.prog W .any base t v := hval0
  have hW' := hW
  obtain ⟨p, q, hA0, hV, rfl, hfz, hnd⟩ := hW
  have hA : DataW.TrodAll enc Try.prog W 0 (fun _ => true) true Try.f3.params.toList args.toList ds p := hA0
  rw [Try.params3] at hA hval
  obtain ⟨v0, vs0, d0, ds0, p0, q0, hargs, rfl, rfl, h0, r0⟩ := trodAll_cons hA
  obtain ⟨rfl, rfl, rfl⟩ := trodAll_nil r0
  obtain rfl : args = #[v0] := by cases args; simp_all
  obtain ⟨rfl, rfl⟩ := trodVars_none hV
  obtain ⟨A0, n0, cap0, rfl⟩ := okWide_slice Try.underlying22 (hval 0 22 v0 rfl rfl)
  have lt0 : ∀ x ∈ p0, x.block < W.heap.size := by obtain ⟨m, hm⟩ := h0; exact DataW.trod_lt m _ _ _ hm
  obtain ⟨l0, rfl, hl0, hin0⟩ := open_changes h0
  clear hA0 hval0
  refine (walk A0 l0 cap0 W hl0 hin0).mono fun e W' ⟨he, bel⟩ => ?_
  subst he
  exact ⟨_, rfl, _, _, _, [], _, [], hW', trodAll_mk1 (shut_bool Try.underlying4 _), (trodAll_cons_mk (Below.trod laidOut (by kernel_rfl) (of_decide_eq_true (by kernel_rfl)) h0 bel lt0) trodAll_mk0), rfl, bel.frame _, fun h => by cases h⟩

theorem over : Rows.fnExactInverseRow.holds Try.pinned (OpenSpec.ofChange Rows.fnExactInverseSpec) :=
  OpenClaim.holds_of_wide 3 Try.f3 rfl rfl rfl rfl rfl rfl rfl ⟨rfl, rfl, rfl, rfl, rfl⟩ rfl rfl rfl rfl rfl (by kernel_rfl) Try.func3 (by kernel_rfl)
    (of_decide_eq_true (by kernel_rfl)) (by unfold Func.isWrapper; first | (rw [if_pos (by decide +kernel)]; kernel_rfl) | (rw [if_neg (by decide +kernel)]; exact ⟨rfl, rfl⟩))
    (fun os started H enc _ => lifted os started H enc)

end Go.Proofs.Ytggabolaohlfjaa.ExInverse
namespace Go.Proofs.Ytggabolaohlfjaa
theorem fnExactInverse_proved : Rows.FnExactInverseSaid := ExInverse.over
end Go.Proofs.Ytggabolaohlfjaa
