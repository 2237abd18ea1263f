/-
  For every code, laws.FnMapLines returns true: a map's text is the texts of its pieces. No conditions.
-/
import Derived.Test.YtmbajcppjhfpeaaPSame
import Derived.Test.YtmbajcppjhfpeaaPAlg
import Derived.Test.YtmbajcppjhfpeaaLCode
import Derived.Test.YtmbajcppjhfpeaaPText
namespace Go.Proofs.Ytmbajcppjhfpeaa.LMapLines
open Go.RowKit Go.ChangeShapes Go.WideShapes Go.ChangeAt
open Go.ChangeMaps (open_string shut_string)

/-- the text of a map is the texts of its two pieces -/
theorem mapText_cut {l : List Pr} (hm : mapB l = true) (k : Nat) : mapTextS (l.take k) ++ mapTextS (l.drop k) = mapTextS l := by
  obtain ⟨a, b, c⟩ := mapB_all.1 hm
  have h1 : mapB (l.take k) = true := mapB_all.2 ⟨by rw [List.length_take]; omega, fun p hp => b p (List.mem_of_mem_take hp), List.Pairwise.sublist (List.take_sublist _ _) c⟩
  have h2 : mapB (l.drop k) = true := mapB_all.2 ⟨by rw [List.length_drop]; omega, fun p hp => b p (List.mem_of_mem_drop hp), List.Pairwise.sublist (List.drop_sublist _ _) c⟩
  rw [mapText_yes h1, mapText_yes h2, mapText_yes hm, ← textOf_append, List.take_append_drop]
theorem mapText_size (l : List Pr) (h : l.length ≤ 40) : (mapTextS l).size ≤ 880 := by
  cases hm : mapB l
  · rw [mapText_no hm]; simp
  · rw [mapText_yes hm]
    have := textOf_size (mapB_iff.1 hm).2.1 l.length (Nat.le_refl _)
    rw [List.take_length] at this
    omega

set_option maxRecDepth 100000 in
set_option maxHeartbeats 2000000 in
theorem walk (A : Option Addr) (n : Nat) (cap : Nat) (w : World) (hl : n ≤ maxLen) (hin : CIn w w.heap.size A n) :
    Calls Try.prog 5 #[.slice A n cap] w fun e w' => e = .returned (.bool true) ∧ Below w.heap.size w w' := by
  by_cases hbig : 1048576 < n
  · have d : decide (1048576 < n) = true := decide_eq_true hbig
    go_enter Try.func5, Try.ntmps5
    go_wp2_with (go_at_call 14; refine (big_any A n cap _ hl).mono ?_; rintro e w' ⟨rfl, rfl⟩)
    go_ret
    exact ⟨rfl, Below.refl _ _⟩
  have hn : n ≤ 1048576 := by omega
  have d : decide (1048576 < n) = false := decide_eq_false hbig
  have IN := hide hin
  have B0 : Hid (Below w.heap.size w w) := hide (Below.refl _ _)
  clear hin
  go_enter Try.func5, Try.ntmps5
  go_wp2_with fail
  refine (big_any A n cap w hl).mono ?_
  rintro e w' ⟨rfl, rfl⟩
  go_wp2_with fail
  refine (drawMapText_any A n cap w hn IN.out).mono ?_
  rintro e w1 ⟨AM, capM, l, hcM, hl40, rfl, own1, b1⟩
  have B1 := hide (B0.out.trans (b1.mono B0.out.size))
  have M_1 := hide own1
  clear b1 own1 B0
  have hlm : l.length ≤ maxLen := by unfold maxLen; omega
  have eqs : ((mapTextS l).toList == (mapTextS l).toList) = true := by simp
  go_wp2_with fail
  refine (implMapText_any AM l capM w1 hlm M_1.out.pin).mono ?_
  rintro e w2 ⟨rfl, b2⟩
  have B2 := hide (B1.out.trans (b2.mono B1.out.size))
  have M_2 := hide (M_1.out.below b2)
  clear b2 B1 M_1
  go_wp2_with fail
  refine (specMapText_any AM l capM w2 _ hlm M_2.out.pin).mono ?_
  rintro e w3 ⟨rfl, q3⟩
  have b3 := q3.below w2.heap.size
  have B3 := hide (B2.out.trans (b3.mono B2.out.size))
  have M_3 := hide (M_2.out.below b3)
  clear b3 q3 B2 M_2
  go_wp2_with fail
  refine (specMapOk_any AM l capM w3 _ hlm M_3.out.pin).mono ?_
  rintro e w4 ⟨rfl, q4⟩
  have b4 := q4.below w3.heap.size
  have B4 := hide (B3.out.trans (b4.mono B3.out.size))
  have M_4 := hide (M_3.out.below b4)
  clear b4 q4 B3 M_3
  cases hm : mapB l
  · go_wp2_with fail
    refine (specMapText_any AM l capM w4 _ hlm M_4.out.pin).mono ?_
    rintro e w5 ⟨rfl, q5⟩
    have b5 := q5.below w4.heap.size
    have B5 := hide (B4.out.trans (b5.mono B4.out.size))
    have M_5 := hide (M_4.out.below b5)
    clear b5 q5 B4 M_4
    go_wp2
    go_ret
    exact ⟨rfl, B5.out⟩
  · have hmod : Int.tmod (n : Int) ((l.length : Int) + 1) = ((n % (l.length + 1) : Nat) : Int) := by rw [show ((l.length : Int) + 1) = ((l.length + 1 : Nat) : Int) by omega]; exact (Int.ofNat_tmod n (l.length + 1)).symm
    have hkl : n % (l.length + 1) ≤ l.length := by have : n % (l.length + 1) < l.length + 1 := Nat.mod_lt n (Nat.succ_pos l.length); omega
    have TX := hide (mapText_cut hm (n % (l.length + 1)))
    have hs1 := mapText_size (l.take (n % (l.length + 1))) (by rw [List.length_take]; omega)
    have hs2 := mapText_size (l.drop (n % (l.length + 1))) (by rw [List.length_drop]; omega)
    have K1 := run_cut_h 25 Try.underlying25 AM l.length capM (n % (l.length + 1)) (by omega)
    have K2 := run_cut_l 25 Try.underlying25 AM l.length capM (n % (l.length + 1)) (by omega)
    generalize n % (l.length + 1) = k at *
    have P1 := hide (M_4.out.pin.take capM k)
    have P2 := hide (M_4.out.pin.drop hcM k)
    have E1 : (l.take k).length = k := by rw [List.length_take]; omega
    have E2 : (l.drop k).length = l.length - k := by rw [List.length_drop]
    have R1 : Hid (∀ W, Below w4.heap.size w4 W → Calls Try.prog 12 #[.slice (cutA AM capM 0) k capM] W fun e w' => e = .returned (.string (mapTextS (l.take k))) ∧ Below W.heap.size W w') := hide (fun W hW => by have := implMapText_any (cutA AM capM 0) (l.take k) capM W (by rw [E1]; omega) ((P1.out.below hW).more hW.size); rw [E1] at this; exact this)
    have R2 : Hid (∀ W, Below w4.heap.size w4 W → Calls Try.prog 12 #[.slice (cutA AM capM k) (l.length - k) (capM - k)] W fun e w' => e = .returned (.string (mapTextS (l.drop k))) ∧ Below W.heap.size W w') := hide (fun W hW => by have := implMapText_any (cutA AM capM k) (l.drop k) (capM - k) W (by rw [E2]; omega) ((P2.out.below hW).more hW.size); rw [E2] at this; exact this)
    have eq2 : ((mapTextS (l.take k) ++ mapTextS (l.drop k)).toList == (mapTextS l).toList) = true := by rw [TX.out]; simp
    clear P1 P2 E1 E2
    generalize mapTextS (l.take k) = t1 at *
    generalize mapTextS (l.drop k) = t2 at *
    generalize cutA AM capM 0 = A1 at *
    generalize cutA AM capM k = A2 at *
    generalize l.length - k = n2 at *
    generalize capM - k = c2 at *
    have z1 : (t1 ++ t2).size = t1.size + t2.size := ByteArray.size_append
    go_wp2_with fail
    have zA : ∀ W, (Op.stringOp .add t1 t2).run Try.prog W = .ok (.string (t1 ++ t2)) W := fun W => run_string_add_sum W t1 t2 (by omega)
    have zB : ¬ (9223372036854775807 < t1.size + t2.size) := by omega
    have zC : t1.size + t2.size ≤ 9223372036854775807 := by omega
    have D0 : Hid (Below w4.heap.size w4 w4.drew) := hide ((Below.refl _ _).drew)
    go_region_held3 (fun w' => True) (trivial) (first | (go_at_call 12; refine (R2.out wa Ca.out).mono ?_; rintro e wb ⟨rfl, bb⟩; have Cb := hide (Ca.out.trans (bb.mono Ca.out.size)); clear bb) | (go_at_call 12; refine (R1.out _ D0.out).mono ?_; rintro e wa ⟨rfl, ba⟩; have Ca := hide (D0.out.trans (ba.mono D0.out.size)); clear ba))
    go_wp2
    go_ret
    exact ⟨rfl, B4.out.trans (Cb.out.mono B4.out.size)⟩

set_option maxRecDepth 100000 in
theorem lifted (os : Os) (started : os.Started) (H : Type) (enc : TypeId × Value → H) :
    ReturnsInHanded {} Try.checked os 5 .any (Rows.fnMapLinesSpec.pre6 enc Try.prog Try.f5 Rows.fnMapLinesRow.domain false) (Rows.fnMapLinesSpec.post enc Try.prog Try.f5 false true false false) := by
  refine returnsInHanded_of_change (C := Try.checked) own started (by kernel_rfl) Try.func5
    (ChangeSpec.witness6 (enc := enc) (C := Try.checked) false ⟨#[], #[.slice none 0 0], []⟩ 8 (by kernel_rfl) (by kernel_rfl) (by kernel_rfl) (by kernel_rfl)) ?_
  intro W base args ds gs before hval0 hW hcnd _
  have hval : ∀ (j : Nat) t v, Try.f5.params[j]? = some t → args[j]? = some v → Value.okWide Try.prog W .any base t v := hval0
  have hW' := hW
  obtain ⟨p, q, hA0, hV, rfl, hfz, hnd⟩ := hW
  have hA : DataW.TrodAll enc Try.prog W 0 (fun _ => true) true Try.f5.params.toList args.toList ds p := hA0
  rw [Try.params5] at hA hval
  obtain ⟨v0, vs0, d0, ds0, p0, q0, hargs, rfl, rfl, h0, r0⟩ := trodAll_cons hA
  obtain ⟨rfl, rfl, rfl⟩ := trodAll_nil r0
  obtain rfl : args = #[v0] := by cases args; simp_all
  obtain ⟨rfl, rfl⟩ := trodVars_none hV
  obtain ⟨A0, n0, cap0, rfl⟩ := okWide_slice Try.underlying29 (hval 0 29 v0 rfl rfl)
  have lt0 : ∀ x ∈ p0, x.block < W.heap.size := by obtain ⟨m, hm⟩ := h0; exact DataW.trod_lt m _ _ _ hm
  obtain ⟨l0, rfl, hl0, hin0⟩ := open_code h0
  clear hA0 hval0
  refine (walk A0 n0 cap0 W hl0 hin0).mono fun e W' ⟨he, bel⟩ => ?_
  subst he
  exact ⟨_, rfl, _, _, _, [], _, [], hW', trodAll_mk1 (shut_bool Try.underlying4 _), (trodAll_cons_mk (Below.trod laidOut (by kernel_rfl) (of_decide_eq_true (by kernel_rfl)) h0 bel lt0) trodAll_mk0), rfl, bel.frame _, fun h => by cases h⟩

theorem over : Rows.fnMapLinesRow.holds Try.pinned (OpenSpec.ofChange Rows.fnMapLinesSpec) :=
  OpenClaim.holds_of_wide 5 Try.f5 rfl rfl rfl rfl rfl rfl rfl ⟨rfl, rfl, rfl, rfl, rfl⟩ rfl rfl rfl rfl rfl (by kernel_rfl) Try.func5 (by kernel_rfl)
    (of_decide_eq_true (by kernel_rfl)) (by unfold Func.isWrapper; first | (rw [if_pos (by decide +kernel)]; kernel_rfl) | (rw [if_neg (by decide +kernel)]; exact ⟨rfl, rfl⟩))
    (fun os started H enc _ => lifted os started H enc)

end Go.Proofs.Ytmbajcppjhfpeaa.LMapLines
namespace Go.Proofs.Ytmbajcppjhfpeaa
theorem fnMapLines_proved : Rows.FnMapLinesSaid := LMapLines.over
end Go.Proofs.Ytmbajcppjhfpeaa
