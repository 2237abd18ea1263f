/-
  For every text, laws.FnExactReadMap returns true: impl.ReadMap answers as the reference does, and its answer is memory of its own. No conditions.
-/
import Derived.Test.YtfeaooiehfcaaaaLPairS
import Derived.Test.YtfeaooiehfcaaaaLMark
import Derived.Test.YtfeaooiehfcaaaaPRead
import Derived.Test.YtfeaooiehfcaaaaLFrame
namespace Go.Proofs.Ytfeaooiehfcaaaa.ExReadMap
open Go.RowKit Go.ChangeShapes Go.WideShapes Go.ChangeAt
open Go.ChangeMaps (open_string shut_string)

theorem readL_len (s : ByteArray) : (readL s).length ≤ 40 := by
  cases h : okR s
  · rw [readL_no h]; simp
  · rw [readL_yes h]
    have h3 : mapB ((linesS s).1.map pairOf) = true := by
      unfold okR at h
      simp only [Bool.and_eq_true] at h
      exact h.2
    exact (mapB_iff.1 h3).1

set_option maxRecDepth 100000 in
set_option maxHeartbeats 2000000 in
theorem walk (s : ByteArray) (w : World) (hs : s.size ≤ maxLen) :
    Calls Try.prog 17 #[.string s] w fun e w' => e = .returned (.bool true) ∧ Below w.heap.size w w' := by
  have hs2 := hs
  unfold maxLen at hs2
  by_cases hbig : 1048576 < s.size
  · go_enter Try.func17, Try.ntmps17
    go_wp2
    go_ret
    exact ⟨rfl, Below.refl _ _⟩
  have hs1 : s.size ≤ 1048576 := by omega
  have es2 := eqL_self (readL s)
  have e2 : (okR s != okR s) = false := by simp
  have hp := readL_len s
  have hpm : (readL s).length ≤ maxLen := by unfold maxLen; omega
  have RS := hide (fun W => specReadMap_any s W hs1)
  have RI := hide (fun W => implReadMap_any s W hs1)
  generalize readL s = d at *
  generalize okR s = ok at *
  go_enter Try.func17, Try.ntmps17
  go_wp2_with fail
  refine (RS.out w).mono ?_
  rintro e w3 ⟨Aw, capw, hcw, rfl, oww, b3⟩
  have B3 := hide b3
  have rw3 := oww.row
  have hX : w.heap.size ≤ w3.heap.size := B3.out.size
  have W3 := hide oww
  clear b3 oww
  go_wp2_with fail
  refine (RI.out w3).mono ?_
  rintro e w5 ⟨Ag, capg, hcg, rfl, owg, b5⟩
  have B5 := hide (B3.out.trans (b5.mono B3.out.size))
  have W5 := hide (W3.out.below b5)
  have rg5 := owg.row
  have G5 := hide owg
  clear b5 B3 W3 owg
  have apGW : Hid (∀ g, rowOf Aw = some g → rowOf Ag ≠ some g) := hide (fun g hg x => by
    have := (rw3 g hg).2
    have := (rg5 g x).1
    omega)
  have HG0 : Hid (∀ g, rowOf Ag = some g → w.heap.size ≤ g) := hide (fun g hg => by have := (rg5 g hg).1; omega)
  clear rw3 rg5
  go_wp2_with fail
  refine (eqPairS_any Ag Aw _ _ capg capw _ hpm hpm G5.out.pin W5.out.pin).mono ?_
  rintro e w6 ⟨rfl, b6⟩
  have B6 := hide (B5.out.trans (b6.mono B5.out.size))
  have W6 := hide (W5.out.below b6)
  have G6 := hide (G5.out.below b6)
  clear b6 B5 W5 G5
  go_wp2_with fail
  refine (markPairS_any Ag _ capg 1 _ _ (by omega) (by omega) G6.out).mono ?_
  rintro e w11 ⟨rfl, ow11, g11⟩
  have B11 := hide (B6.out.grown g11 B6.out.size HG0.out)
  have W11 := hide (W6.out.apart g11 apGW.out)
  have G11 := hide ow11
  clear g11 B6 W6 G6 ow11
  go_wp2_with fail
  refine (heldPairS_any Ag d.length capg 1 _ (by omega) (by omega) G11.out.pin).mono ?_
  rintro e w12 ⟨rfl, b12⟩
  have B12 := hide (B11.out.trans (b12.mono B11.out.size))
  have W12 := hide (W11.out.below b12)
  have G12 := hide (G11.out.below b12)
  clear b12 B11 W11 G11
  have hq : ¬ (1 + 2 * (d.length : Int)) < 0 := by omega
  have hq2 : ((1 + 2 * (d.length : Int)) != (1 + 2 * (d.length : Int))) = false := by simp
  go_wp2_with fail
  refine (RI.out w12).mono ?_
  rintro e w14 ⟨Ah, caph, hch, rfl, owh, b14⟩
  have B14 := hide (B12.out.trans (b14.mono B12.out.size))
  have W14 := hide (W12.out.below b14)
  have G14 := hide (G12.out.below b14)
  clear b14 B12 W12 G12
  go_wp2_with fail
  refine (eqPairS_any Ah Aw _ _ caph capw _ hpm hpm owh.pin W14.out.pin).mono ?_
  rintro e w15 ⟨rfl, b15⟩
  have B15 := hide (B14.out.trans (b15.mono B14.out.size))
  have G15 := hide (G14.out.below b15)
  clear b15 B14 W14 G14 owh
  go_wp2_with fail
  refine (heldPairS_any Ag d.length capg 1 _ (by omega) (by omega) G15.out.pin).mono ?_
  rintro e w16 ⟨rfl, b16⟩
  have B16 := hide (B15.out.trans (b16.mono B15.out.size))
  clear b16 B15 G15
  go_wp2
  go_ret
  exact ⟨rfl, B16.out⟩

set_option maxRecDepth 100000 in
theorem lifted (os : Os) (started : os.Started) (H : Type) (enc : TypeId × Value → H) :
    ReturnsInHanded {} Try.checked os 17 .any (Rows.fnExactReadMapSpec.pre6 enc Try.prog Try.f17 Rows.fnExactReadMapRow.domain false) (Rows.fnExactReadMapSpec.post enc Try.prog Try.f17 false true false false) := by
  refine returnsInHanded_of_change (C := Try.checked) own started (by kernel_rfl) Try.func17
    (ChangeSpec.witness6 (enc := enc) (C := Try.checked) false ⟨#[], #[.string ByteArray.empty], []⟩ 8 (by kernel_rfl) (by kernel_rfl) (by kernel_rfl) (by kernel_rfl)) ?_
  intro W base args ds gs before hval0 hW hcnd _
  have hval : ∀ (j : Nat) t v, Try.f17.params[j]? = some t → args[j]? = some v → Value.okWide Try.prog W .any base t v := hval0
  have hW' := hW
  obtain ⟨p, q, hA0, hV, rfl, hfz, hnd⟩ := hW
  have hA : DataW.TrodAll enc Try.prog W 0 (fun _ => true) true Try.f17.params.toList args.toList ds p := hA0
  rw [Try.params17] at hA hval
  obtain ⟨v0, vs0, d0, ds0, p0, q0, hargs, rfl, rfl, h0, r0⟩ := trodAll_cons hA
  obtain ⟨rfl, rfl, rfl⟩ := trodAll_nil r0
  obtain rfl : args = #[v0] := by cases args; simp_all
  obtain ⟨rfl, rfl⟩ := trodVars_none hV
  obtain ⟨s0, rfl, rfl, rfl, hs0⟩ := open_string Try.underlying9 (hval 0 9 v0 rfl rfl) h0
  clear hA0 hval0
  refine (walk s0 W hs0).mono fun e W' ⟨he, bel⟩ => ?_
  subst he
  exact ⟨_, rfl, _, _, _, [], _, [], hW', trodAll_mk1 (shut_bool Try.underlying4 _), (trodAll_cons_mk (shut_string Try.underlying9 hs0) trodAll_mk0), rfl, bel.frame _, fun h => by cases h⟩

theorem over : Rows.fnExactReadMapRow.holds Try.pinned (OpenSpec.ofChange Rows.fnExactReadMapSpec) :=
  OpenClaim.holds_of_wide 17 Try.f17 rfl rfl rfl rfl rfl rfl rfl ⟨rfl, rfl, rfl, rfl, rfl⟩ rfl rfl rfl rfl rfl (by kernel_rfl) Try.func17 (by kernel_rfl)
    (of_decide_eq_true (by kernel_rfl)) (by unfold Func.isWrapper; first | (rw [if_pos (by decide +kernel)]; kernel_rfl) | (rw [if_neg (by decide +kernel)]; exact ⟨rfl, rfl⟩))
    (fun os started H enc _ => lifted os started H enc)

end Go.Proofs.Ytfeaooiehfcaaaa.ExReadMap
namespace Go.Proofs.Ytfeaooiehfcaaaa
theorem fnExactReadMap_proved : Rows.FnExactReadMapSaid := ExReadMap.over
end Go.Proofs.Ytfeaooiehfcaaaa
