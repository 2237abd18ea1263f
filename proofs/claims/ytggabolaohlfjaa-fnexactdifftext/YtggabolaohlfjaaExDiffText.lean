/-
  For every list of changes, laws.FnExactDiffText returns true and leaves its argument as it was: impl.DiffText answers as the reference does and keeps its argument. No conditions.
-/
import Derived.Test.YtggabolaohlfjaaHLawS
import Derived.Test.YtggabolaohlfjaaHTextI
import Derived.Test.YtggabolaohlfjaaHOpen
import Derived.Test.YtggabolaohlfjaaLFrame
namespace Go.Proofs.Ytggabolaohlfjaa.ExDiffText
open Go.RowKit Go.ChangeShapes Go.WideShapes Go.ChangeAt
open Go.ChangeMaps (open_string shut_string)

set_option maxRecDepth 100000 in
set_option maxHeartbeats 2000000 in
theorem walk (A : Option Addr) (l : List Ch) (cap : Nat) (w : World) (hl : l.length ≤ maxLen) (hin : HIn w w.heap.size A l) :
    Calls Try.prog 4 #[.slice A l.length cap] w fun e w' => e = .returned (.bool true) ∧ Below w.heap.size w w' := by
  have es := eqCL_self l
  have e2 : ((diffTextS l).toList == (diffTextS l).toList) = true := by simp
  go_enter Try.func4, Try.ntmps4
  go_wp2_with fail
  refine (szChangeS_sum A l cap 1048576 _ hl hin (by omega) (by omega)).mono ?_
  rintro e w1 ⟨hr, b1⟩
  rcases hr with rfl | ⟨r, hr0, hr1, rfl⟩
  · go_wp2
    go_ret
    exact ⟨rfl, b1⟩
  have hl2 : l.length ≤ 1048576 := by omega
  have ht : tot l ≤ 1048576 := by omega
  have IN := hide hin
  have B1 := hide b1
  clear b1 hin hr1
  go_wp2_with fail
  refine (toChangeS_any A l cap _ hl2 ((IN.out.below B1.out).more B1.out.size)).mono ?_
  rintro e w2 ⟨rfl, own2, b2⟩
  have B2 := hide (B1.out.trans (b2.mono B1.out.size))
  clear b2 B1
  go_wp2_with fail
  refine (specDiffText_any _ l l.length _ _ hl own2.pin ht).mono ?_
  rintro e w3 ⟨rfl, q3⟩
  have B3 := hide (B2.out.trans (q3.below _))
  clear q3 B2 own2
  go_wp2_with fail
  refine (toChangeS_any A l cap _ hl2 ((IN.out.below B3.out).more B3.out.size)).mono ?_
  rintro e w4 ⟨rfl, own4, b4⟩
  have B4 := hide (B3.out.trans (b4.mono B3.out.size))
  have X4 := hide own4
  clear b4 B3 own4
  go_wp2_with fail
  refine (implDiffText_any _ l l.length _ hl X4.out.pin ht).mono ?_
  rintro e w5 ⟨rfl, b5⟩
  have B5 := hide (B4.out.trans (b5.mono B4.out.size))
  have X5 := hide (X4.out.below b5)
  clear b5 B4 X4
  go_wp2_with fail
  refine (toChangeS_any A l cap _ hl2 ((IN.out.below B5.out).more B5.out.size)).mono ?_
  rintro e w7 ⟨rfl, own7, b7⟩
  have B7 := hide (B5.out.trans (b7.mono B5.out.size))
  have X7 := hide (X5.out.below b7)
  clear b7 B5 X5
  go_wp2_with fail
  refine (eqChangeS_any _ _ l l l.length l.length _ hl hl X7.out.pin own7.pin).mono ?_
  rintro e w8 ⟨rfl, b8⟩
  have B8 := hide (B7.out.trans (b8.mono B7.out.size))
  clear b8 B7 X7 own7
  go_wp2
  go_ret
  exact ⟨rfl, B8.out⟩

set_option maxRecDepth 100000 in
theorem lifted (os : Os) (started : os.Started) (H : Type) (enc : TypeId × Value → H) :
    ReturnsInHanded {} Try.checked os 4 .any (Rows.fnExactDiffTextSpec.pre6 enc Try.prog Try.f4 Rows.fnExactDiffTextRow.domain false) (Rows.fnExactDiffTextSpec.post enc Try.prog Try.f4 false true false false) := by
  refine returnsInHanded_of_change (C := Try.checked) own started (by kernel_rfl) Try.func4
    (ChangeSpec.witness6 (enc := enc) (C := Try.checked) false ⟨#[], #[.slice none 0 0], []⟩ 8 (by kernel_rfl) (by kernel_rfl) (by kernel_rfl) (by kernel_rfl)) ?_
  intro W base args ds gs before hval0 hW hcnd _
  have hval : ∀ (j : Nat) t v, Try.f4.params[j]? = some t → args[j]? = some v → Value.okWide Try.prog W .any base t v := hval0
  have hW' := hW
  obtain ⟨p, q, hA0, hV, rfl, hfz, hnd⟩ := hW
  have hA : DataW.TrodAll enc Try.prog W 0 (fun _ => true) true Try.f4.params.toList args.toList ds p := hA0
  rw [Try.params4] at hA hval
  obtain ⟨v0, vs0, d0, ds0, p0, q0, hargs, rfl, rfl, h0, r0⟩ := trodAll_cons hA
  obtain ⟨rfl, rfl, rfl⟩ := trodAll_nil r0
  obtain rfl : args = #[v0] := by cases args; simp_all
  obtain ⟨rfl, rfl⟩ := trodVars_none hV
  obtain ⟨A0, n0, cap0, rfl⟩ := okWide_slice Try.underlying22 (hval 0 22 v0 rfl rfl)
  have lt0 : ∀ x ∈ p0, x.block < W.heap.size := by obtain ⟨m, hm⟩ := h0; exact DataW.trod_lt m _ _ _ hm
  obtain ⟨l0, rfl, hl0, hin0⟩ := open_changes h0
  clear hA0 hval0
  refine (walk A0 l0 cap0 W hl0 hin0).mono fun e W' ⟨he, bel⟩ => ?_
  subst he
  exact ⟨_, rfl, _, _, _, [], _, [], hW', trodAll_mk1 (shut_bool Try.underlying4 _), (trodAll_cons_mk (Below.trod laidOut (by kernel_rfl) (of_decide_eq_true (by kernel_rfl)) h0 bel lt0) trodAll_mk0), rfl, bel.frame _, fun h => by cases h⟩

theorem over : Rows.fnExactDiffTextRow.holds Try.pinned (OpenSpec.ofChange Rows.fnExactDiffTextSpec) :=
  OpenClaim.holds_of_wide 4 Try.f4 rfl rfl rfl rfl rfl rfl rfl ⟨rfl, rfl, rfl, rfl, rfl⟩ rfl rfl rfl rfl rfl (by kernel_rfl) Try.func4 (by kernel_rfl)
    (of_decide_eq_true (by kernel_rfl)) (by unfold Func.isWrapper; first | (rw [if_pos (by decide +kernel)]; kernel_rfl) | (rw [if_neg (by decide +kernel)]; exact ⟨rfl, rfl⟩))
    (fun os started H enc _ => lifted os started H enc)

end Go.Proofs.Ytggabolaohlfjaa.ExDiffText
namespace Go.Proofs.Ytggabolaohlfjaa
theorem fnExactDiffText_proved : Rows.FnExactDiffTextSaid := ExDiffText.over
end Go.Proofs.Ytggabolaohlfjaa
