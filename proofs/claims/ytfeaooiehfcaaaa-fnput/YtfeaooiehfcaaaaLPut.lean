/-
  For every code, laws.FnPut returns true: what is put is there, all else is as it was, and put twice it is there once. No conditions.
-/
import Derived.Test.YtfeaooiehfcaaaaPSame
import Derived.Test.YtfeaooiehfcaaaaPAlg
import Derived.Test.YtfeaooiehfcaaaaLCode
namespace Go.Proofs.Ytfeaooiehfcaaaa.LPut
open Go.RowKit Go.ChangeShapes Go.WideShapes Go.ChangeAt
open Go.ChangeMaps (open_string shut_string)

set_option maxRecDepth 100000 in
set_option maxHeartbeats 2000000 in
theorem walk (A : Option Addr) (n : Nat) (cap : Nat) (w : World) (hl : n ≤ maxLen) (hin : CIn w w.heap.size A n) :
    Calls Try.prog 3 #[.slice A n cap] w fun e w' => e = .returned (.bool true) ∧ Below w.heap.size w w' := by
  by_cases hbig : 1048576 < n
  · have d : decide (1048576 < n) = true := decide_eq_true hbig
    go_enter Try.func3, Try.ntmps3
    go_wp2_with (go_at_call 18; refine (big_any A n cap _ hl).mono ?_; rintro e w' ⟨rfl, rfl⟩)
    go_ret
    exact ⟨rfl, Below.refl _ _⟩
  have hn : n ≤ 1048576 := by omega
  have d : decide (1048576 < n) = false := decide_eq_false hbig
  have IN := hide hin
  have B0 : Hid (Below w.heap.size w w) := hide (Below.refl _ _)
  clear hin
  go_enter Try.func3, Try.ntmps3
  go_wp2_with fail
  refine (big_any A n cap w hl).mono ?_
  rintro e w' ⟨rfl, rfl⟩
  go_wp2_with fail
  refine (drawPut_any A n cap w hn IN.out).mono ?_
  rintro e w1 ⟨AM, capM, l, k, v, hcM, hl40, hk, hv, HKO, rfl, own1, b1⟩
  have B1 := hide (B0.out.trans (b1.mono B0.out.size))
  have M_1 := hide own1
  clear b1 own1 B0
  have hks : k.size ≤ maxLen := by unfold maxLen; omega
  have hvs : v.size ≤ maxLen := by unfold maxLen; omega
  have hlm : l.length ≤ maxLen := by unfold maxLen; omega
  have hpl := putL_len l k v
  have hpm : (putL l k v).length ≤ maxLen := by unfold maxLen; omega
  have es := eqL_self (putL l k v)
  have hne : (putB l k v != putB l k v) = false := by simp
  have heq : (putB l k v == putB l k v) = true := by simp
  go_wp2_with fail
  refine (implPut_any AM l capM k v w1 hlm hcM M_1.out.pin hks hvs).mono ?_
  rintro e w2 ⟨AN, capN, hcN, rfl, own2, b2⟩
  have B2 := hide (B1.out.trans (b2.mono B1.out.size))
  have M_2 := hide (M_1.out.below b2)
  have N_2 := hide own2
  clear b2 own2 B1 M_1
  go_wp2_with fail
  refine (specPut_any AM l capM k v w2 hlm hcM M_2.out.pin hks hvs).mono ?_
  rintro e w3 ⟨AT, capT, hcT, rfl, own3, b3⟩
  have B3 := hide (B2.out.trans (b3.mono B2.out.size))
  have M_3 := hide (M_2.out.below b3)
  have N_3 := hide (N_2.out.below b3)
  have T_3 := hide own3
  clear b3 own3 B2 M_2 N_2
  go_wp2_with fail
  refine (drawGet_any A n cap w3 hn ((IN.out.keep B3.out).more B3.out.size)).mono ?_
  rintro e w4 ⟨AX, capX, lx, kx, hcX, hx40, hkx, rfl, own4, b4⟩
  have B4 := hide (B3.out.trans (b4.mono B3.out.size))
  have M_4 := hide (M_3.out.below b4)
  have N_4 := hide (N_3.out.below b4)
  have T_4 := hide (T_3.out.below b4)
  have X_4 := hide own4
  clear b4 own4 B3 M_3 N_3 T_3
  have hxm : lx.length ≤ maxLen := by unfold maxLen; omega
  have g1 : (getB lx kx != getB lx kx) = false := by simp
  have g2 : (getB lx kx == getB lx kx) = true := by simp
  have g3 : ((getV lx kx).toList == (getV lx kx).toList) = true := by simp
  go_wp2_with fail
  refine (implGet_any AX lx capX kx w4 hxm X_4.out.pin).mono ?_
  rintro e w5 ⟨rfl, b5⟩
  have B5 := hide (B4.out.trans (b5.mono B4.out.size))
  have M_5 := hide (M_4.out.below b5)
  have N_5 := hide (N_4.out.below b5)
  have T_5 := hide (T_4.out.below b5)
  have X_5 := hide (X_4.out.below b5)
  clear b5 B4 M_4 N_4 T_4 X_4
  go_wp2_with fail
  refine (specGet_any AX lx capX kx w5 _ hxm X_5.out.pin).mono ?_
  rintro e w6 ⟨rfl, q6⟩
  have b6 := q6.below w5.heap.size
  have B6 := hide (B5.out.trans (b6.mono B5.out.size))
  have M_6 := hide (M_5.out.below b6)
  have N_6 := hide (N_5.out.below b6)
  have T_6 := hide (T_5.out.below b6)
  have X_6 := hide (X_5.out.below b6)
  clear b6 q6 B5 M_5 N_5 T_5 X_5
  go_wp2_with fail
  refine (sameMap_any AN AT (putL l k v) (putL l k v) capN capT w6 _ _ hpm hpm N_6.out.pin T_6.out.pin).mono ?_
  rintro e w7 ⟨rfl, q7⟩
  have b7 := q7.below w6.heap.size
  have B7 := hide (B6.out.trans (b7.mono B6.out.size))
  have M_7 := hide (M_6.out.below b7)
  have N_7 := hide (N_6.out.below b7)
  have T_7 := hide (T_6.out.below b7)
  have X_7 := hide (X_6.out.below b7)
  clear b7 q7 B6 M_6 N_6 T_6 X_6
  cases hb : putB l k v
  · go_wp2_with fail
    refine (sameMap_any AN AT (putL l k v) (putL l k v) capN capT w7 _ _ hpm hpm N_7.out.pin T_7.out.pin).mono ?_
    rintro e w8 ⟨rfl, q8⟩
    have b8 := q8.below w7.heap.size
    have B8 := hide (B7.out.trans (b8.mono B7.out.size))
    have M_8 := hide (M_7.out.below b8)
    have N_8 := hide (N_7.out.below b8)
    have T_8 := hide (T_7.out.below b8)
    have X_8 := hide (X_7.out.below b8)
    clear b8 q8 B7 M_7 N_7 T_7 X_7
    go_wp2
    go_ret
    exact ⟨rfl, B8.out⟩
  · obtain ⟨p1, p2, p3, p4⟩ := putB_iff.1 hb
    have HR := hide (mapB_all.1 p1).2.2
    have hn2 : putL l k v = setL l k v := putL_yes hb
    have hnm : mapB (putL l k v) = true := by rw [hn2]; exact mapB_set p1 p2 p3 p4
    have hag : putB (putL l k v) k v = true := putB_iff.2 ⟨hnm, p2, p3, .inl (by rw [hn2]; exact (has_set HR.out k v k).2 (.inl rfl))⟩
    have hag2 : putL (putL l k v) k v = putL l k v := by rw [putL_yes hag, hn2]; exact set_set HR.out k v v
    have HAG := hide hag2
    have HRN : Hid (Ris (putL l k v)) := hide (by rw [hn2]; exact ris_set HR.out k v)
    have HMEM : Hid (∀ p, p ∈ putL l k v ↔ p = (k, v) ∨ (p ∈ l ∧ p.1 ≠ k)) := hide (fun p => by rw [hn2]; exact mem_set HR.out k v p)
    clear hn2 hag2 p1 p2 p3 p4
    go_wp2_with fail
    refine (implPut_any AN (putL l k v) capN k v w7 hpm hcN N_7.out.pin hks hvs).mono ?_
    rintro e w8 ⟨AG, capG, hcG, rfl, own8, b8⟩
    have B8 := hide (B7.out.trans (b8.mono B7.out.size))
    have M_8 := hide (M_7.out.below b8)
    have N_8 := hide (N_7.out.below b8)
    have T_8 := hide (T_7.out.below b8)
    have X_8 := hide (X_7.out.below b8)
    have G_8 := hide own8
    clear b8 own8 B7 M_7 N_7 T_7 X_7
    have gk : getB (putL l k v) k = true := by rw [getB_yes hnm]; exact (has_iff HRN.out k).2 ⟨v, (HMEM.out _).2 (.inl rfl)⟩
    have gv : getV (putL l k v) k = v := by rw [getV_yes hnm]; exact val_of HRN.out ((HMEM.out _).2 (.inl rfl))
    have GK := hide gk
    have GV := hide gv
    clear gk gv
    generalize hnn : l.length = m at hl40 ⊢
    have HNN := hide hnn
    clear hnn
    go_wp2
    go_loopw [18] (fun i wr => ∃ j : Nat, j ≤ m ∧ i = .int .i64 j ∧ Hid (Own wr w1.heap.size AN capN (putL l k v)) ∧ Hid (Own wr w7.heap.size AG capG (putL (putL l k v) k v)) ∧ Hid (Own wr w.heap.size AM capM l) ∧ Hid (Below w.heap.size w wr)) (fun i _ => m - (intOf i).toNat)
    case atStart => exact ⟨0, Nat.zero_le _, rfl, N_8, G_8, M_8, B8⟩
    case round =>
      clear N_8 G_8 M_8 T_8 X_8 B8
      obtain ⟨j, hj, rfl, ON, OG, O, Q⟩ := hrel
      by_cases hlt : j < m
      · have hjl : j < l.length := by rw [HNN.out]; omega
        have hmem : ((l[j]'hjl).1, (l[j]'hjl).2) ∈ l := List.getElem_mem _
        have hin1 := O.out.pin
        obtain ⟨b, off, rfl, hbB, hc⟩ := hin1.2 (by omega)
        obtain ⟨c1, c2⟩ := hc j hjl
        have R := hide (implGet_any AN (putL l k v) capN (l[j]'hjl).1 wr hpm ON.out.pin)
        have gg : (l[j]'hjl).1 ≠ k → getB (putL l k v) (l[j]'hjl).1 = true ∧ getV (putL l k v) (l[j]'hjl).1 = (l[j]'hjl).2 := fun hne => by
          have hm2 := (HMEM.out _).2 (.inr ⟨hmem, hne⟩)
          exact ⟨by rw [getB_yes hnm]; exact (has_iff HRN.out _).2 ⟨_, hm2⟩, by rw [getV_yes hnm]; exact val_of HRN.out hm2⟩
        generalize (l[j]'hjl).1 = x at *
        generalize (l[j]'hjl).2 = y at *
        clear hin1 hc hmem
        by_cases hxk : x = k
        · have dx := eqS_yes hxk
          clear gg hxk
          go_wp2_with fail
          refine R.out.mono ?_
          rintro e w90 ⟨rfl, b9⟩
          have c3 : w90.cell? ⟨b, off + j * 2, none⟩ = some (.string x) := cellB b9 hbB c1
          have N9 := hide (ON.out.below b9)
          have G9 := hide (OG.out.below b9)
          have O9 := hide (O.out.below b9)
          have Q9 := hide (Q.out.trans (b9.mono Q.out.size))
          clear b9 R c1 c2 O Q ON OG
          go_wp2
          go_roundw
          case rel => exact ⟨j + 1, by omega, by go_num, N9, G9, O9, Q9⟩
          case measure => simp [intOf]; omega
        · have dx := eqS_no hxk
          obtain ⟨gb, gv⟩ := gg hxk
          rw [gb, gv] at R
          have ey : (y.toList == y.toList) = true := by simp
          clear hxk gb gv
          go_wp2_with fail
          refine R.out.mono ?_
          rintro e w90 ⟨rfl, b9⟩
          have c3 : w90.cell? ⟨b, off + j * 2, none⟩ = some (.string x) := cellB b9 hbB c1
          have c4 : w90.cell? ⟨b, off + j * 2 + 1, none⟩ = some (.string y) := cellB b9 hbB c2
          have N9 := hide (ON.out.below b9)
          have G9 := hide (OG.out.below b9)
          have O9 := hide (O.out.below b9)
          have Q9 := hide (Q.out.trans (b9.mono Q.out.size))
          clear b9 R c1 c2 O Q ON OG
          go_wp2
          go_roundw
          case rel => exact ⟨j + 1, by omega, by go_num, N9, G9, O9, Q9⟩
          case measure => simp [intOf]; omega
      · have R := hide (implGet_any AN (putL l k v) capN k wr hpm ON.out.pin)
        rw [GK.out, GV.out] at R
        have ev : (v.toList == v.toList) = true := by simp
        go_wp2_with fail
        refine R.out.mono ?_
        rintro e w91 ⟨rfl, b91⟩
        have N1 := hide (ON.out.below b91)
        have G1 := hide (OG.out.below b91)
        have Q1 := hide (Q.out.trans (b91.mono Q.out.size))
        clear b91 R ON OG O Q
        go_wp2_with fail
        refine (implMapOk_any AN (putL l k v) capN w91 hpm N1.out.pin).mono ?_
        rintro e w92 ⟨rfl, b92⟩
        have N2 := hide (N1.out.below b92)
        have G2 := hide (G1.out.below b92)
        have Q2 := hide (Q1.out.trans (b92.mono Q1.out.size))
        clear b92 N1 G1 Q1
        have es2 : eqL (putL (putL l k v) k v) (putL l k v) = true := by rw [HAG.out]; exact es
        have hgm : (putL (putL l k v) k v).length ≤ maxLen := by rw [HAG.out]; exact hpm
        go_wp2_with fail
        refine (sameMap_any AG AN (putL (putL l k v) k v) (putL l k v) capG capN w92 _ _ hgm hpm G2.out.pin N2.out.pin).mono ?_
        rintro e w93 ⟨rfl, q93⟩
        have Q3 := hide (Q2.out.trans (q93.below _))
        clear q93 N2 G2 Q2
        go_wp2
        go_ret
        exact ⟨rfl, Q3.out⟩

set_option maxRecDepth 100000 in
theorem lifted (os : Os) (started : os.Started) (H : Type) (enc : TypeId × Value → H) :
    ReturnsInHanded {} Try.checked os 3 .any (Rows.fnPutSpec.pre6 enc Try.prog Try.f3 Rows.fnPutRow.domain false) (Rows.fnPutSpec.post enc Try.prog Try.f3 false true false false) := by
  refine returnsInHanded_of_change (C := Try.checked) own started (by kernel_rfl) Try.func3
    (ChangeSpec.witness6 (enc := enc) (C := Try.checked) false ⟨#[], #[.slice none 0 0], []⟩ 8 (by kernel_rfl) (by kernel_rfl) (by kernel_rfl) (by kernel_rfl)) ?_
  intro W base args ds gs before hval0 hW hcnd _
  have hval : ∀ (j : Nat) t v, Try.f3.params[j]? = some t → args[j]? = some v → Value.okWide Try.prog W .any base t v := hval0
  have hW' := hW
  obtain ⟨p, q, hA0, hV, rfl, hfz, hnd⟩ := hW
  have hA : DataW.TrodAll enc Try.prog W 0 (fun _ => true) true Try.f3.params.toList args.toList ds p := hA0
  rw [Try.params3] at hA hval
  obtain ⟨v0, vs0, d0, ds0, p0, q0, hargs, rfl, rfl, h0, r0⟩ := trodAll_cons hA
  obtain ⟨rfl, rfl, rfl⟩ := trodAll_nil r0
  obtain rfl : args = #[v0] := by cases args; simp_all
  obtain ⟨rfl, rfl⟩ := trodVars_none hV
  obtain ⟨A0, n0, cap0, rfl⟩ := okWide_slice Try.underlying22 (hval 0 22 v0 rfl rfl)
  have lt0 : ∀ x ∈ p0, x.block < W.heap.size := by obtain ⟨m, hm⟩ := h0; exact DataW.trod_lt m _ _ _ hm
  obtain ⟨l0, rfl, hl0, hin0⟩ := open_code h0
  clear hA0 hval0
  refine (walk A0 n0 cap0 W hl0 hin0).mono fun e W' ⟨he, bel⟩ => ?_
  subst he
  exact ⟨_, rfl, _, _, _, [], _, [], hW', trodAll_mk1 (shut_bool Try.underlying4 _), (trodAll_cons_mk (Below.trod laidOut (by kernel_rfl) (of_decide_eq_true (by kernel_rfl)) h0 bel lt0) trodAll_mk0), rfl, bel.frame _, fun h => by cases h⟩

theorem over : Rows.fnPutRow.holds Try.pinned (OpenSpec.ofChange Rows.fnPutSpec) :=
  OpenClaim.holds_of_wide 3 Try.f3 rfl rfl rfl rfl rfl rfl rfl ⟨rfl, rfl, rfl, rfl, rfl⟩ rfl rfl rfl rfl rfl (by kernel_rfl) Try.func3 (by kernel_rfl)
    (of_decide_eq_true (by kernel_rfl)) (by unfold Func.isWrapper; first | (rw [if_pos (by decide +kernel)]; kernel_rfl) | (rw [if_neg (by decide +kernel)]; exact ⟨rfl, rfl⟩))
    (fun os started H enc _ => lifted os started H enc)

end Go.Proofs.Ytfeaooiehfcaaaa.LPut
namespace Go.Proofs.Ytfeaooiehfcaaaa
theorem fnPut_proved : Rows.FnPutSaid := LPut.over
end Go.Proofs.Ytfeaooiehfcaaaa
