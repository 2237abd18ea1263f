/-
  For every code, laws.FnGetAll returns true: each pair of a map is got by its key. No conditions.
-/
import Derived.Test.YtfeaooiehfcaaaaPSame
import Derived.Test.YtfeaooiehfcaaaaPAlg
import Derived.Test.YtfeaooiehfcaaaaLCode
namespace Go.Proofs.Ytfeaooiehfcaaaa.LGetAll
open Go.RowKit Go.ChangeShapes Go.WideShapes Go.ChangeAt
open Go.ChangeMaps (open_string shut_string)

set_option maxRecDepth 100000 in
set_option maxHeartbeats 2000000 in
theorem walk (A : Option Addr) (n : Nat) (cap : Nat) (w : World) (hl : n ≤ maxLen) (hin : CIn w w.heap.size A n) :
    Calls Try.prog 8 #[.slice A n cap] w fun e w' => e = .returned (.bool true) ∧ Below w.heap.size w w' := by
  by_cases hbig : 1048576 < n
  · have d : decide (1048576 < n) = true := decide_eq_true hbig
    go_enter Try.func8, Try.ntmps8
    go_wp2_with (go_at_call 18; refine (big_any A n cap _ hl).mono ?_; rintro e w' ⟨rfl, rfl⟩)
    go_ret
    exact ⟨rfl, Below.refl _ _⟩
  have hn : n ≤ 1048576 := by omega
  have d : decide (1048576 < n) = false := decide_eq_false hbig
  have IN := hide hin
  have B0 : Hid (Below w.heap.size w w) := hide (Below.refl _ _)
  clear hin
  go_enter Try.func8, Try.ntmps8
  go_wp2_with fail
  refine (big_any A n cap w hl).mono ?_
  rintro e w' ⟨rfl, rfl⟩
  go_wp2_with fail
  refine (drawMapOk_any A n cap w hn IN.out).mono ?_
  rintro e w1 ⟨AM, capM, l, hcM, hl40, rfl, own1, b1⟩
  have B1 := hide (B0.out.trans (b1.mono B0.out.size))
  have M_1 := hide own1
  clear b1 own1 B0
  have hlm : l.length ≤ maxLen := by unfold maxLen; omega
  have hne : (mapB l != mapB l) = false := by simp
  have heq : (mapB l == mapB l) = true := by simp
  go_wp2_with fail
  refine (implMapOk_any AM l capM w1 hlm M_1.out.pin).mono ?_
  rintro e w2 ⟨rfl, b2⟩
  have B2 := hide (B1.out.trans (b2.mono B1.out.size))
  have M_2 := hide (M_1.out.below b2)
  clear b2 B1 M_1
  go_wp2_with fail
  refine (specMapOk_any AM l capM w2 _ hlm M_2.out.pin).mono ?_
  rintro e w3 ⟨rfl, q3⟩
  have b3 := q3.below w2.heap.size
  have B3 := hide (B2.out.trans (b3.mono B2.out.size))
  have M_3 := hide (M_2.out.below b3)
  clear b3 q3 B2 M_2
  go_wp2_with fail
  refine (specMapOk_any AM l capM w3 _ hlm M_3.out.pin).mono ?_
  rintro e w4 ⟨rfl, q4⟩
  have b4 := q4.below w3.heap.size
  have B4 := hide (B3.out.trans (b4.mono B3.out.size))
  have M_4 := hide (M_3.out.below b4)
  clear b4 q4 B3 M_3
  cases hm : mapB l
  · go_wp2_with fail
    refine (implMapOk_any AM l capM w4 hlm M_4.out.pin).mono ?_
    rintro e w5 ⟨rfl, b5⟩
    have B5 := hide (B4.out.trans (b5.mono B4.out.size))
    have M_5 := hide (M_4.out.below b5)
    clear b5 B4 M_4
    go_wp2_with fail
    refine (specMapOk_any AM l capM w5 _ hlm M_5.out.pin).mono ?_
    rintro e w6 ⟨rfl, q6⟩
    have b6 := q6.below w5.heap.size
    have B6 := hide (B5.out.trans (b6.mono B5.out.size))
    have M_6 := hide (M_5.out.below b6)
    clear b6 q6 B5 M_5
    go_wp2
    go_ret
    exact ⟨rfl, B6.out⟩
  · have HR := hide (mapB_all.1 hm).2.2
    generalize hnn : l.length = m at hl40 ⊢
    have HNN := hide hnn
    clear hnn
    go_wp2
    go_loopw [4] (fun i wr => ∃ j : Nat, j ≤ m ∧ i = .int .i64 j ∧ Hid (Own wr w.heap.size AM capM l) ∧ Hid (Below w.heap.size w wr)) (fun i _ => m - (intOf i).toNat)
    case atStart => exact ⟨0, Nat.zero_le _, rfl, M_4, B4⟩
    case round =>
      clear M_4 B4
      obtain ⟨j, hj, rfl, O, Q⟩ := hrel
      by_cases hlt : j < m
      · have hjl : j < l.length := by rw [HNN.out]; omega
        have hmem : (l[j], ()).1 ∈ l := List.getElem_mem _
        have hin1 := O.out.pin
        obtain ⟨b, off, rfl, hbB, hc⟩ := hin1.2 (by omega)
        obtain ⟨c1, c2⟩ := hc j hjl
        have hgv : getV l (l[j]'hjl).1 = (l[j]'hjl).2 := by rw [getV_yes hm]; exact val_of HR.out hmem
        have hgb : getB l (l[j]'hjl).1 = true := by rw [getB_yes hm]; exact (has_iff HR.out _).2 ⟨_, hmem⟩
        have R := hide (implGet_any (some ⟨b, off, none⟩) l capM (l[j]'hjl).1 wr hlm O.out.pin)
        rw [hgv, hgb, HNN.out] at R
        generalize (l[j]'hjl).1 = x at *
        generalize (l[j]'hjl).2 = y at *
        have ey : (y.toList == y.toList) = true := by simp
        clear hin1 hc hgv hgb hmem
        go_wp2_with fail
        refine R.out.mono ?_
        rintro e w9 ⟨rfl, b9⟩
        have c3 : w9.cell? ⟨b, off + j * 2 + 1, none⟩ = some (.string y) := cellB b9 hbB c2
        have O9 := hide (O.out.below b9)
        have Q9 := hide (Q.out.trans (b9.mono Q.out.size))
        clear b9 R c1 c2 O Q
        go_wp2
        go_roundw
        case rel => exact ⟨j + 1, by omega, by go_num, O9, Q9⟩
        case measure => simp [intOf]; omega
      · go_wp2
        go_ret
        exact ⟨rfl, Q.out⟩

set_option maxRecDepth 100000 in
theorem lifted (os : Os) (started : os.Started) (H : Type) (enc : TypeId × Value → H) :
    ReturnsInHanded {} Try.checked os 8 .any (Rows.fnGetAllSpec.pre6 enc Try.prog Try.f8 Rows.fnGetAllRow.domain false) (Rows.fnGetAllSpec.post enc Try.prog Try.f8 false true false false) := by
  refine returnsInHanded_of_change (C := Try.checked) own started (by kernel_rfl) Try.func8
    (ChangeSpec.witness6 (enc := enc) (C := Try.checked) false ⟨#[], #[.slice none 0 0], []⟩ 8 (by kernel_rfl) (by kernel_rfl) (by kernel_rfl) (by kernel_rfl)) ?_
  intro W base args ds gs before hval0 hW hcnd _
  have hval : ∀ (j : Nat) t v, Try.f8.params[j]? = some t → args[j]? = some v → Value.okWide Try.prog W .any base t v := hval0
  have hW' := hW
  obtain ⟨p, q, hA0, hV, rfl, hfz, hnd⟩ := hW
  have hA : DataW.TrodAll enc Try.prog W 0 (fun _ => true) true Try.f8.params.toList args.toList ds p := hA0
  rw [Try.params8] at hA hval
  obtain ⟨v0, vs0, d0, ds0, p0, q0, hargs, rfl, rfl, h0, r0⟩ := trodAll_cons hA
  obtain ⟨rfl, rfl, rfl⟩ := trodAll_nil r0
  obtain rfl : args = #[v0] := by cases args; simp_all
  obtain ⟨rfl, rfl⟩ := trodVars_none hV
  obtain ⟨A0, n0, cap0, rfl⟩ := okWide_slice Try.underlying22 (hval 0 22 v0 rfl rfl)
  have lt0 : ∀ x ∈ p0, x.block < W.heap.size := by obtain ⟨m, hm⟩ := h0; exact DataW.trod_lt m _ _ _ hm
  obtain ⟨l0, rfl, hl0, hin0⟩ := open_code h0
  clear hA0 hval0
  refine (walk A0 n0 cap0 W hl0 hin0).mono fun e W' ⟨he, bel⟩ => ?_
  subst he
  exact ⟨_, rfl, _, _, _, [], _, [], hW', trodAll_mk1 (shut_bool Try.underlying4 _), (trodAll_cons_mk (Below.trod laidOut (by kernel_rfl) (of_decide_eq_true (by kernel_rfl)) h0 bel lt0) trodAll_mk0), rfl, bel.frame _, fun h => by cases h⟩

theorem over : Rows.fnGetAllRow.holds Try.pinned (OpenSpec.ofChange Rows.fnGetAllSpec) :=
  OpenClaim.holds_of_wide 8 Try.f8 rfl rfl rfl rfl rfl rfl rfl ⟨rfl, rfl, rfl, rfl, rfl⟩ rfl rfl rfl rfl rfl (by kernel_rfl) Try.func8 (by kernel_rfl)
    (of_decide_eq_true (by kernel_rfl)) (by unfold Func.isWrapper; first | (rw [if_pos (by decide +kernel)]; kernel_rfl) | (rw [if_neg (by decide +kernel)]; exact ⟨rfl, rfl⟩))
    (fun os started H enc _ => lifted os started H enc)

end Go.Proofs.Ytfeaooiehfcaaaa.LGetAll
namespace Go.Proofs.Ytfeaooiehfcaaaa
theorem fnGetAll_proved : Rows.FnGetAllSaid := LGetAll.over
end Go.Proofs.Ytfeaooiehfcaaaa
