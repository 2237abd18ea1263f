/-
  For every code, laws.FnDropAll returns true: of a map of which each key is dropped nothing is left. No conditions.
-/
import Derived.Test.YtfeaooiehfcaaaaPSame
import Derived.Test.YtfeaooiehfcaaaaPAlg
import Derived.Test.YtfeaooiehfcaaaaLCode
namespace Go.Proofs.Ytfeaooiehfcaaaa.LDropAll
open Go.RowKit Go.ChangeShapes Go.WideShapes Go.ChangeAt
open Go.ChangeMaps (open_string shut_string)

/-- of the first j pairs the last one is dropped -/
theorem drop_last {l : List Pr} (hm : mapB l = true) (j : Nat) (hj : j < l.length) : dropL (l.take (j + 1)) l[j].1 = l.take j ∧ getB (l.take (j + 1)) l[j].1 = true := by
  obtain ⟨a, b, c⟩ := mapB_all.1 hm
  have ht : mapB (l.take (j + 1)) = true := mapB_all.2 ⟨by rw [List.length_take]; omega, fun p hp => b p (List.mem_of_mem_take hp), List.Pairwise.sublist (List.take_sublist _ _) c⟩
  have hR := (mapB_all.1 ht).2.2
  have hmem : l[j] ∈ l.take (j + 1) := by rw [List.take_succ_eq_append_getElem hj]; exact List.mem_append_right _ (List.mem_singleton.2 rfl)
  have hh : hasB (l.take (j + 1)) l[j].1 = true := (has_iff hR _).2 ⟨l[j].2, hmem⟩
  have hg : getB (l.take (j + 1)) l[j].1 = true := by rw [getB_yes ht]; exact hh
  refine ⟨?_, hg⟩
  rw [dropL_yes hg]
  refine Ris.ext (ris_erase hR _) (List.Pairwise.sublist (List.take_sublist _ _) c) fun p => ?_
  rw [mem_erase hR hh, List.take_succ_eq_append_getElem hj, List.mem_append]
  have hlt : ∀ q ∈ l.take j, ltB q.1 l[j].1 = true := by
    intro q hq
    obtain ⟨i, hi, e⟩ := List.getElem_of_mem hq
    rw [List.length_take] at hi
    rw [List.getElem_take] at e
    subst e
    exact List.pairwise_iff_getElem.1 c i j (by omega) hj (by omega)
  constructor
  · rintro ⟨h | h, n⟩
    · exact h
    · rw [List.mem_singleton] at h; subst h; exact absurd rfl n
  · intro h
    exact ⟨.inl h, ne_of_lt (hlt p h)⟩

set_option maxRecDepth 100000 in
set_option maxHeartbeats 2000000 in
theorem walk (A : Option Addr) (n : Nat) (cap : Nat) (w : World) (hl : n ≤ maxLen) (hin : CIn w w.heap.size A n) :
    Calls Try.prog 11 #[.slice A n cap] w fun e w' => e = .returned (.bool true) ∧ Below w.heap.size w w' := by
  by_cases hbig : 1048576 < n
  · have d : decide (1048576 < n) = true := decide_eq_true hbig
    go_enter Try.func11, Try.ntmps11
    go_wp2_with (go_at_call 18; refine (big_any A n cap _ hl).mono ?_; rintro e w' ⟨rfl, rfl⟩)
    go_ret
    exact ⟨rfl, Below.refl _ _⟩
  have hn : n ≤ 1048576 := by omega
  have d : decide (1048576 < n) = false := decide_eq_false hbig
  have IN := hide hin
  have B0 : Hid (Below w.heap.size w w) := hide (Below.refl _ _)
  clear hin
  go_enter Try.func11, Try.ntmps11
  go_wp2_with fail
  refine (big_any A n cap w hl).mono ?_
  rintro e w' ⟨rfl, rfl⟩
  go_wp2_with fail
  refine (drawDrop_any A n cap w hn IN.out).mono ?_
  rintro e w1 ⟨AM, capM, l, k, hcM, hl40, hk, rfl, own1, b1⟩
  have B1 := hide (B0.out.trans (b1.mono B0.out.size))
  have M_1 := hide own1
  clear b1 own1 B0
  have hlm : l.length ≤ maxLen := by unfold maxLen; omega
  have hpl := dropL_len l k
  have hpm : (dropL l k).length ≤ maxLen := by unfold maxLen; omega
  have es := eqL_self (dropL l k)
  have hne : (getB l k != getB l k) = false := by simp
  have heq : (getB l k == getB l k) = true := by simp
  go_wp2_with fail
  refine (implDrop_any AM l capM k w1 hlm hcM M_1.out.pin).mono ?_
  rintro e w2 ⟨AN, capN, hcN, rfl, own2, b2⟩
  have B2 := hide (B1.out.trans (b2.mono B1.out.size))
  have M_2 := hide (M_1.out.below b2)
  have N_2 := hide own2
  clear b2 own2 B1 M_1
  go_wp2_with fail
  refine (specDrop_any AM l capM k w2 hlm hcM M_2.out.pin).mono ?_
  rintro e w3 ⟨AT, capT, hcT, rfl, own3, b3⟩
  have B3 := hide (B2.out.trans (b3.mono B2.out.size))
  have M_3 := hide (M_2.out.below b3)
  have N_3 := hide (N_2.out.below b3)
  have T_3 := hide own3
  clear b3 own3 B2 M_2 N_2
  go_wp2_with fail
  refine (sameMap_any AN AT (dropL l k) (dropL l k) capN capT w3 _ _ hpm hpm N_3.out.pin T_3.out.pin).mono ?_
  rintro e w4 ⟨rfl, q4⟩
  have b4 := q4.below w3.heap.size
  have B4 := hide (B3.out.trans (b4.mono B3.out.size))
  have M_4 := hide (M_3.out.below b4)
  have N_4 := hide (N_3.out.below b4)
  have T_4 := hide (T_3.out.below b4)
  clear b4 q4 B3 M_3 N_3 T_3
  go_wp2_with fail
  refine (specMapOk_any AM l capM w4 _ hlm M_4.out.pin).mono ?_
  rintro e w5 ⟨rfl, q5⟩
  have b5 := q5.below w4.heap.size
  have B5 := hide (B4.out.trans (b5.mono B4.out.size))
  have M_5 := hide (M_4.out.below b5)
  have N_5 := hide (N_4.out.below b5)
  have T_5 := hide (T_4.out.below b5)
  clear b5 q5 B4 M_4 N_4 T_4
  cases hm : mapB l
  · go_wp2_with fail
    refine (sameMap_any AN AT (dropL l k) (dropL l k) capN capT w5 _ _ hpm hpm N_5.out.pin T_5.out.pin).mono ?_
    rintro e w6 ⟨rfl, q6⟩
    have b6 := q6.below w5.heap.size
    have B6 := hide (B5.out.trans (b6.mono B5.out.size))
    have M_6 := hide (M_5.out.below b6)
    have N_6 := hide (N_5.out.below b6)
    have T_6 := hide (T_5.out.below b6)
    clear b6 q6 B5 M_5 N_5 T_5
    go_wp2
    go_ret
    exact ⟨rfl, B6.out⟩
  · have HR := hide (mapB_all.1 hm).2.2
    have HM := hide hm
    have S0 : Hid (Own w5 w.heap.size AM capM (l.take l.length)) := hide (by rw [List.take_length]; exact M_5.out)
    have e0 : (l.take l.length).length = l.length := by rw [List.take_length]
    have E0 := hide e0
    clear e0
    generalize hnn : l.length = m at hl40 E0 S0 ⊢
    have HNN := hide hnn
    clear hnn
    go_wp2
    go_loopw [9, 10] (fun s i wr => ∃ (j q : Nat) (An : Option Addr) (capn : Nat), j ≤ m ∧ q = m - j ∧ i = .int .i64 j ∧ s = .slice An q capn ∧ Hid (Own wr w.heap.size An capn (l.take q)) ∧ Hid (Own wr w.heap.size AM capM l) ∧ Hid (Below w.heap.size w wr)) (fun _ i _ => m - (intOf i).toNat)
    case atStart => exact ⟨0, m, AM, capM, Nat.zero_le _, rfl, rfl, rfl, S0, M_5, B5⟩
    case round =>
      clear S0 E0 M_5 B5
      obtain ⟨j, q, An, capn, hj, hq, rfl, rfl, ON, O, Q⟩ := hrel
      have HQ := hide hq
      clear hq
      by_cases hlt : j < m
      · have hql : q - 1 < l.length := by rw [HNN.out, HQ.out]; omega
        have hin1 := O.out.pin
        obtain ⟨b, off, rfl, hbB, hc⟩ := hin1.2 (by omega)
        obtain ⟨c1, c2⟩ := hc (q - 1) hql
        have hq0 : 0 < q := by rw [HQ.out]; omega
        have hqm : q ≤ m := by rw [HQ.out]; omega
        have DT := hide (drop_last HM.out (q - 1) hql)
        rw [show q - 1 + 1 = q by omega] at DT
        have htl : (l.take q).length = q := by rw [List.length_take, HNN.out]; omega
        have R := hide (implDrop_any An (l.take q) capn (l[q - 1]'hql).1 wr (by rw [htl]; unfold maxLen; omega) ON.out.cap_le ON.out.pin)
        rw [DT.out.1, DT.out.2, htl] at R
        have htl2 : (l.take (q - 1)).length = q - 1 := by rw [List.length_take, HNN.out]; omega
        have HT2 := hide htl2
        generalize (l[q - 1]'hql).1 = x at *
        have e1 : (m : Int) - 1 - (j : Int) = ((q - 1 : Nat) : Int) := by have := HQ.out; omega
        have q1 : ((m : Int) - 1 - (j : Int)).toNat = q - 1 := by rw [e1]; omega
        have q2 : (0 : Int) ≤ (m : Int) - 1 - (j : Int) := by omega
        have q3 : (m : Int) - 1 - (j : Int) < (m : Int) := by omega
        clear hin1 hc htl htl2 DT e1 ON
        go_wp2_with fail
        refine R.out.mono ?_
        rintro e w9 ⟨A9, cap9, hc9, rfl, own9, b9⟩
        have N9 := hide (own9.more (B' := w.heap.size) Q.out.size)
        have O9 := hide (O.out.below b9)
        have Q9 := hide (Q.out.trans (b9.mono Q.out.size))
        clear b9 own9 R c1 c2 O Q q1
        rw [HT2.out]
        go_wp2
        go_roundw
        case rel => exact ⟨j + 1, q - 1, A9, cap9, by omega, by rw [HQ.out]; omega, by go_num, rfl, N9, O9, Q9⟩
        case measure => simp [intOf]; omega
      · have hq0 : q = 0 := by rw [HQ.out]; omega
        subst hq0
        go_wp2
        go_ret
        exact ⟨rfl, Q.out⟩

set_option maxRecDepth 100000 in
theorem lifted (os : Os) (started : os.Started) (H : Type) (enc : TypeId × Value → H) :
    ReturnsInHanded {} Try.checked os 11 .any (Rows.fnDropAllSpec.pre6 enc Try.prog Try.f11 Rows.fnDropAllRow.domain false) (Rows.fnDropAllSpec.post enc Try.prog Try.f11 false true false false) := by
  refine returnsInHanded_of_change (C := Try.checked) own started (by kernel_rfl) Try.func11
    (ChangeSpec.witness6 (enc := enc) (C := Try.checked) false ⟨#[], #[.slice none 0 0], []⟩ 8 (by kernel_rfl) (by kernel_rfl) (by kernel_rfl) (by kernel_rfl)) ?_
  intro W base args ds gs before hval0 hW hcnd _
  have hval : ∀ (j : Nat) t v, Try.f11.params[j]? = some t → args[j]? = some v → Value.okWide Try.prog W .any base t v := hval0
  have hW' := hW
  obtain ⟨p, q, hA0, hV, rfl, hfz, hnd⟩ := hW
  have hA : DataW.TrodAll enc Try.prog W 0 (fun _ => true) true Try.f11.params.toList args.toList ds p := hA0
  rw [Try.params11] at hA hval
  obtain ⟨v0, vs0, d0, ds0, p0, q0, hargs, rfl, rfl, h0, r0⟩ := trodAll_cons hA
  obtain ⟨rfl, rfl, rfl⟩ := trodAll_nil r0
  obtain rfl : args = #[v0] := by cases args; simp_all
  obtain ⟨rfl, rfl⟩ := trodVars_none hV
  obtain ⟨A0, n0, cap0, rfl⟩ := okWide_slice Try.underlying22 (hval 0 22 v0 rfl rfl)
  have lt0 : ∀ x ∈ p0, x.block < W.heap.size := by obtain ⟨m, hm⟩ := h0; exact DataW.trod_lt m _ _ _ hm
  obtain ⟨l0, rfl, hl0, hin0⟩ := open_code h0
  clear hA0 hval0
  refine (walk A0 n0 cap0 W hl0 hin0).mono fun e W' ⟨he, bel⟩ => ?_
  subst he
  exact ⟨_, rfl, _, _, _, [], _, [], hW', trodAll_mk1 (shut_bool Try.underlying4 _), (trodAll_cons_mk (Below.trod laidOut (by kernel_rfl) (of_decide_eq_true (by kernel_rfl)) h0 bel lt0) trodAll_mk0), rfl, bel.frame _, fun h => by cases h⟩

theorem over : Rows.fnDropAllRow.holds Try.pinned (OpenSpec.ofChange Rows.fnDropAllSpec) :=
  OpenClaim.holds_of_wide 11 Try.f11 rfl rfl rfl rfl rfl rfl rfl ⟨rfl, rfl, rfl, rfl, rfl⟩ rfl rfl rfl rfl rfl (by kernel_rfl) Try.func11 (by kernel_rfl)
    (of_decide_eq_true (by kernel_rfl)) (by unfold Func.isWrapper; first | (rw [if_pos (by decide +kernel)]; kernel_rfl) | (rw [if_neg (by decide +kernel)]; exact ⟨rfl, rfl⟩))
    (fun os started H enc _ => lifted os started H enc)

end Go.Proofs.Ytfeaooiehfcaaaa.LDropAll
namespace Go.Proofs.Ytfeaooiehfcaaaa
theorem fnDropAll_proved : Rows.FnDropAllSaid := LDropAll.over
end Go.Proofs.Ytfeaooiehfcaaaa
