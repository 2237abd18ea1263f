/-
  For every list of refs, laws.FnExactRefsOk returns true and leaves its argument as it was: impl.RefsOk answers as the reference does. No conditions.
-/
import Derived.Test.YtcpalnkcjcgaeabLPairS
import Derived.Test.YtcpalnkcjcgaeabRTab
import Derived.Test.YtcpalnkcjcgaeabLFrame
namespace Go.Proofs.Ytcpalnkcjcgaeab.ExRefsOk
open Go.RowKit Go.ChangeShapes Go.WideShapes Go.ChangeAt
open Go.ChangeMaps (open_string shut_string)

set_option maxRecDepth 100000 in
set_option maxHeartbeats 1000000 in
theorem walk (A : Option Addr) (l : List Pr) (cap : Nat) (w : World) (hl : l.length ≤ maxLen) (hin : PIn w w.heap.size A l) :
    Calls Try.prog 3 #[.slice A l.length cap] w fun e w' => e = .returned (.bool true) ∧ Below w.heap.size w w' := by
  have ne : (refB l != refB l) = false := by simp
  have es := eqL_self l
  go_enter Try.func3, Try.ntmps3
  go_wp2_with fail
  refine (szPairS_any A l cap 1048576 _ hl hin (by omega) (by omega)).mono ?_
  rintro e w1 ⟨hr, b1⟩
  rcases hr with rfl | ⟨r, hr0, hr1, rfl⟩
  · go_wp2
    go_ret
    exact ⟨rfl, b1⟩
  · have hl2 : l.length ≤ 1048576 := by omega
    have B1 := hide b1
    have in1 := (hin.below b1).more b1.size
    clear b1 hin
    go_wp2_with fail
    refine (toPairS_any A l cap _ hl2 in1).mono ?_
    rintro e w2 ⟨rfl, own2, b2⟩
    have B2 := hide (B1.out.trans (b2.mono B1.out.size))
    have in2 := (in1.below b2).more b2.size
    clear b2 in1 B1
    go_wp2_with fail
    refine (specRefsOk_any _ l l.length _ _ hl own2.pin).mono ?_
    rintro e w3 ⟨rfl, q3⟩
    have B3 := hide (B2.out.trans (q3.below _))
    have in3 := (in2.quiet q3).more (B' := w3.heap.size) (by rw [q3.heap]; exact Nat.le_refl _)
    clear q3 in2 B2 own2
    go_wp2_with fail
    refine (toPairS_any A l cap _ hl2 in3).mono ?_
    rintro e w4 ⟨rfl, own4, b4⟩
    have B4 := hide (B3.out.trans (b4.mono B3.out.size))
    have in4 := (in3.below b4).more b4.size
    clear b4 in3 B3
    go_wp2_with fail
    refine (implRefsOk_any _ l l.length _ hl own4.pin).mono ?_
    rintro e w5 ⟨rfl, b5⟩
    have B5 := hide (B4.out.trans (b5.mono B4.out.size))
    have in5 := (in4.below b5).more b5.size
    have own5 := own4.below b5
    clear b5 in4 B4 own4
    go_wp2_with fail
    refine (toPairS_any A l cap _ hl2 in5).mono ?_
    rintro e w6 ⟨rfl, own6, b6⟩
    have B6 := hide (B5.out.trans (b6.mono B5.out.size))
    have own5b := own5.below b6
    clear b6 in5 B5 own5
    go_wp2_with fail
    refine (eqPairS_any _ _ l l l.length l.length _ hl hl own5b.pin own6.pin).mono ?_
    rintro e w7 ⟨rfl, b7⟩
    have B7 := hide (B6.out.trans (b7.mono B6.out.size))
    clear b7 B6 own5b own6
    go_wp2
    go_ret
    exact ⟨rfl, B7.out⟩

set_option maxRecDepth 100000 in
theorem lifted (os : Os) (started : os.Started) (H : Type) (enc : TypeId × Value → H) :
    ReturnsInHanded {} Try.checked os 3 .any (Rows.fnExactRefsOkSpec.pre6 enc Try.prog Try.f3 Rows.fnExactRefsOkRow.domain false) (Rows.fnExactRefsOkSpec.post enc Try.prog Try.f3 false true false false) := by
  refine returnsInHanded_of_change (C := Try.checked) own started (by kernel_rfl) Try.func3
    (ChangeSpec.witness6 (enc := enc) (C := Try.checked) false ⟨#[], #[.slice none 0 0], []⟩ 8 (by kernel_rfl) (by kernel_rfl) (by kernel_rfl) (by kernel_rfl)) ?_
  intro W base args ds gs before hval0 hW hcnd _
  have hval : ∀ (j : Nat) t v, Try.f3.params[j]? = some t → args[j]? = some v → Value.okWide Try.prog W .any base t v := hval0
  have hW' := hW
  obtain ⟨p, q, hA0, hV, rfl, hfz, hnd⟩ := hW
  have hA : DataW.TrodAll enc Try.prog W 0 (fun _ => true) true Try.f3.params.toList args.toList ds p := hA0
  rw [Try.params3] at hA hval
  obtain ⟨v0, vs0, d0, ds0, p0, q0, hargs, rfl, rfl, h0, r0⟩ := trodAll_cons hA
  obtain ⟨rfl, rfl, rfl⟩ := trodAll_nil r0
  obtain rfl : args = #[v0] := by cases args; simp_all
  obtain ⟨rfl, rfl⟩ := trodVars_none hV
  obtain ⟨A0, n0, cap0, rfl⟩ := okWide_slice Try.underlying22 (hval 0 22 v0 rfl rfl)
  have lt0 : ∀ x ∈ p0, x.block < W.heap.size := by obtain ⟨m, hm⟩ := h0; exact DataW.trod_lt m _ _ _ hm
  obtain ⟨l0, rfl, hl0, hin0⟩ := open_pairs h0
  clear hA0 hval0
  refine (walk A0 l0 cap0 W hl0 hin0).mono fun e W' ⟨he, bel⟩ => ?_
  subst he
  exact ⟨_, rfl, _, _, _, [], _, [], hW', trodAll_mk1 (shut_bool Try.underlying4 _), (trodAll_cons_mk (Below.trod laidOut (by kernel_rfl) (of_decide_eq_true (by kernel_rfl)) h0 bel lt0) trodAll_mk0), rfl, bel.frame _, fun h => by cases h⟩

theorem over : Rows.fnExactRefsOkRow.holds Try.pinned (OpenSpec.ofChange Rows.fnExactRefsOkSpec) :=
  OpenClaim.holds_of_wide 3 Try.f3 rfl rfl rfl rfl rfl rfl rfl ⟨rfl, rfl, rfl, rfl, rfl⟩ rfl rfl rfl rfl rfl (by kernel_rfl) Try.func3 (by kernel_rfl)
    (of_decide_eq_true (by kernel_rfl)) (by unfold Func.isWrapper; first | (rw [if_pos (by decide +kernel)]; kernel_rfl) | (rw [if_neg (by decide +kernel)]; exact ⟨rfl, rfl⟩))
    (fun os started H enc _ => lifted os started H enc)

end Go.Proofs.Ytcpalnkcjcgaeab.ExRefsOk
namespace Go.Proofs.Ytcpalnkcjcgaeab
theorem fnExactRefsOk_proved : Rows.FnExactRefsOkSaid := ExRefsOk.over
end Go.Proofs.Ytcpalnkcjcgaeab
