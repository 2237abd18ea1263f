/-
  For every code, laws.FnDiffKeys returns true: keys of changes rise, and each is unlike in both; there are no more than both have pairs. No conditions.
-/
import Derived.Test.YtcpalnkcjcgaeaaPSame
import Derived.Test.YtcpalnkcjcgaeaaPAlg
import Derived.Test.YtcpalnkcjcgaeaaLCode
import Derived.Test.YtcpalnkcjcgaeaaHDraw
import Derived.Test.YtcpalnkcjcgaeaaHSame
import Derived.Test.YtcpalnkcjcgaeaaHDifA
import Derived.Test.YtcpalnkcjcgaeaaHDiffL
import Derived.Test.YtcpalnkcjcgaeaaPCls
import Derived.Test.YtcpalnkcjcgaeaaPGet
import Derived.Test.YtcpalnkcjcgaeaaHFitL
namespace Go.Proofs.Ytcpalnkcjcgaeaa.LDiffKeys
open Go.RowKit Go.ChangeShapes Go.WideShapes Go.ChangeAt
open Go.ChangeMaps (open_string shut_string)

set_option maxRecDepth 100000 in
set_option maxHeartbeats 2000000 in
theorem walk (A : Option Addr) (n : Nat) (cap : Nat) (w : World) (hl : n ≤ maxLen) (hin : CIn w w.heap.size A n) :
    Calls Try.prog 6 #[.slice A n cap] w fun e w' => e = .returned (.bool true) ∧ Below w.heap.size w w' := by
  by_cases hbig : 1048576 < n
  · have d : decide (1048576 < n) = true := decide_eq_true hbig
    go_enter Try.func6, Try.ntmps6
    go_wp2_with (go_at_call 12; refine (big_any A n cap _ hl).mono ?_; rintro e w' ⟨rfl, rfl⟩)
    go_ret
    exact ⟨rfl, Below.refl _ _⟩
  have hn : n ≤ 1048576 := by omega
  have d : decide (1048576 < n) = false := decide_eq_false hbig
  have IN := hide hin
  have B0 : Hid (Below w.heap.size w w) := hide (Below.refl _ _)
  clear hin
  go_enter Try.func6, Try.ntmps6
  go_wp2_with fail
  refine (big_any A n cap w hl).mono ?_
  rintro e w' ⟨rfl, rfl⟩
  go_wp2_with fail
  refine (drawDiffOf_any A n cap w hn IN.out).mono ?_
  rintro e w1 ⟨AP, capP, l, AQ, capQ, l2, hcP, hl40, mbP, hcQ, hl41, mbQ, rfl, o1, p1, b1⟩
  have B1 := hide (B0.out.trans (b1.mono B0.out.size))
  have P_1 := hide o1
  have Q_1 := hide p1
  clear b1 o1 p1 B0
  have hlm : l.length ≤ maxLen := by unfold maxLen; omega
  have hlm2 : l2.length ≤ maxLen := by unfold maxLen; omega
  have MP := hide mbP
  have MQ := hide mbQ
  clear mbP mbQ
  have dB : diffB l l2 = true := diffB_yes MP.out MQ.out
  have hdl := diffL_len l l2
  have hdm : (diffL l l2).length ≤ maxLen := by unfold maxLen; omega
  have hd1 : (diffL l l2).length ≤ 1048576 := by omega
  have es := eqCL_self (diffL l l2)
  have DE := hide (diffL_yes dB)
  go_wp2_with fail
  refine (implDiffOf_any AP (l) capP AQ (l2) capQ w1 hlm hlm2 hcP hcQ P_1.out.pin Q_1.out.pin).mono ?_
  rintro e w2 ⟨AN, capN, hcN, rfl, o2, b2⟩
  have B2 := hide (B1.out.trans (b2.mono B1.out.size))
  have P_2 := hide (P_1.out.below b2)
  have Q_2 := hide (Q_1.out.below b2)
  have N_2 := hide o2
  clear b2 o2 B1 P_1 Q_1
  go_wp2_with fail
  refine (specDiffOf_any AP (l) capP AQ (l2) capQ w2 hlm hlm2 P_2.out.pin Q_2.out.pin).mono ?_
  rintro e w3 ⟨AT, capT, hcT, rfl, o3, b3⟩
  have B3 := hide (B2.out.trans (b3.mono B2.out.size))
  have P_3 := hide (P_2.out.below b3)
  have Q_3 := hide (Q_2.out.below b3)
  have N_3 := hide (N_2.out.below b3)
  have T_3 := hide o3
  clear b3 o3 B2 P_2 Q_2 N_2
  go_wp2_with fail
  refine (sameChanges_any AN AT (diffL l l2) (diffL l l2) capN capT w3 _ _ hdm hdm N_3.out.pin T_3.out.pin).mono ?_
  rintro e w4 ⟨rfl, q4⟩
  have b4 := q4.below w3.heap.size
  have B4 := hide (B3.out.trans (b4.mono B3.out.size))
  have P_4 := hide (P_3.out.below b4)
  have Q_4 := hide (Q_3.out.below b4)
  have N_4 := hide (N_3.out.below b4)
  have T_4 := hide (T_3.out.below b4)
  clear b4 q4 B3 P_3 Q_3 N_3 T_3
  have CH : Hid (Char l l2 (diffL l l2)) := hide (by rw [DE.out]; exact dif_char _ l l2 (Nat.le_refl _) (mapB_ris MP.out) (mapB_ris MQ.out))
  have LE : Hid ((diffL l l2).length ≤ l.length + l2.length) := hide (by rw [DE.out]; exact difM_len _ l l2 (Nat.le_refl _))
  have NN := hide (N_4.out.pin)
  have PP := hide (P_4.out.pin)
  have QQ := hide (Q_4.out.pin)
  have hmp := MP.out
  have hmq := MQ.out
  clear N_4 P_4 Q_4 T_4 DE
  go_wp2
  generalize diffL l l2 = D at *
  generalize hnn : D.length = m at hdl hdm hd1 ⊢
  have HNN := hide hnn
  clear hnn
  go_loopw [9] (fun i wr => ∃ j : Nat, j ≤ m ∧ i = .int .i64 j ∧ Hid (Below w4.heap.size w4 wr)) (fun i _ => m - (intOf i).toNat)
  case atStart => exact ⟨0, Nat.zero_le _, rfl, hide (Below.refl _ _)⟩
  case round =>
    obtain ⟨j, hj, rfl, Q⟩ := hrel
    have hqs := Q.out.size
    by_cases hlt : j < m
    · have hjl : j < D.length := by rw [HNN.out]; omega
      have hin1 := NN.out.below Q.out
      obtain ⟨b, off, rfl, hbB, hc⟩ := hin1.2 (by omega)
      obtain ⟨c1, c2, c3, c4, c5⟩ := hc j hjl
      obtain ⟨ce, hne⟩ := CH.out.1 _ (List.getElem_mem hjl)
      have PR : Hid (∀ h : 0 < j, ∃ s0 : ByteArray, wr.cell? ⟨b, off + (j - 1) * 5, none⟩ = some (.string s0) ∧ ltB s0 (D[j]'hjl).1 = true) := hide (fun h => ⟨(D[j - 1]'(by omega)).1, (hc (j - 1) (by omega)).1, List.pairwise_iff_getElem.1 CH.out.2.2 (j - 1) j (by omega) hjl (by omega)⟩)
      have e1 : getV l (D[j]'hjl).1 = (D[j]'hjl).2.1 := by rw [getV_yes hmp, lk_val]; exact (congrArg (fun z : Ch => z.2.1) ce).symm
      have e2 : getV l2 (D[j]'hjl).1 = (D[j]'hjl).2.2.1 := by rw [getV_yes hmq, lk_val]; exact (congrArg (fun z : Ch => z.2.2.1) ce).symm
      have e3 : getB l (D[j]'hjl).1 = (D[j]'hjl).2.2.2.1 := by rw [getB_yes hmp, lk_has]; exact (congrArg (fun z : Ch => z.2.2.2.1) ce).symm
      have e4 : getB l2 (D[j]'hjl).1 = (D[j]'hjl).2.2.2.2 := by rw [getB_yes hmq, lk_has]; exact (congrArg (fun z : Ch => z.2.2.2.2) ce).symm
      have NE : Hid (¬ ((D[j]'hjl).2.2.2.1 = (D[j]'hjl).2.2.2.2 ∧ (D[j]'hjl).2.1 = (D[j]'hjl).2.2.1)) := hide (fun h => hne (lk_eq.2 ⟨by rw [← getB_yes hmp, ← getB_yes hmq, e3, e4]; exact h.1, by rw [← getV_yes hmp, ← getV_yes hmq, e1, e2]; exact h.2⟩))
      have R1 := hide (implGet_any AP l capP (D[j]'hjl).1 wr hlm ((PP.out.below Q.out).more hqs))
      have R2 := hide (fun (w8 : World) (b8 : Below wr.heap.size wr w8) => implGet_any AQ l2 capQ (D[j]'hjl).1 w8 hlm2 ((QQ.out.below (Q.out.trans (b8.mono hqs))).more (Nat.le_trans hqs b8.size)))
      rw [e1, e3] at R1
      rw [e2, e4] at R2
      have hbw : b < wr.heap.size := by omega
      clear hc hin1 ce hne e1 e2 e3 e4
      generalize (D[j]'hjl) = c at *
      obtain ⟨x, o, n', p, q⟩ := c
      simp only at c1 c2 c3 c4 c5
      simp only at R1 R2 NE PR
      go_wp2_with fail
      refine R1.out.mono ?_
      rintro e w8 ⟨rfl, b8⟩
      have g1 : w8.cell? ⟨b, off + j * 5, none⟩ = some (.string x) := cellB b8 hbw c1
      go_wp2_with fail
      refine (R2.out w8 b8).mono ?_
      rintro e w9 ⟨rfl, b9⟩
      have hb8 : b < w8.heap.size := by have := b8.size; omega
      have hb9 : b < w9.heap.size := by have := b9.size; omega
      have f1 : w9.cell? ⟨b, off + j * 5, none⟩ = some (.string x) := cellB b9 hb8 g1
      have f2 : w9.cell? ⟨b, off + j * 5 + 1, none⟩ = some (.string o) := cellB b9 hb8 (cellB b8 hbw c2)
      have f3 : w9.cell? ⟨b, off + j * 5 + 2, none⟩ = some (.string n') := cellB b9 hb8 (cellB b8 hbw c3)
      have f4 : w9.cell? ⟨b, off + j * 5 + 3, none⟩ = some (.bool p) := cellB b9 hb8 (cellB b8 hbw c4)
      have f5 : w9.cell? ⟨b, off + j * 5 + 4, none⟩ = some (.bool q) := cellB b9 hb8 (cellB b8 hbw c5)
      have PR9 : Hid (∀ h : 0 < j, ∃ s0 : ByteArray, w9.cell? ⟨b, off + (j - 1) * 5, none⟩ = some (.string s0) ∧ ltB s0 x = true) := hide (fun h => by obtain ⟨s0, u1, u2⟩ := PR.out h; exact ⟨s0, cellB b9 hb8 (cellB b8 hbw u1), u2⟩)
      have Q9 := hide (Q.out.trans ((b8.trans (b9.mono b8.size)).mono hqs))
      have hq9 := Q9.out.size
      clear b8 b9 c1 c2 c3 c4 c5 g1 R1 R2 PR Q hqs
      have eo : (o.toList == o.toList) = true := by simp
      have en : (n'.toList == n'.toList) = true := by simp
      have ep : (p == p) = true := by simp
      have eq' : (q == q) = true := by simp
      have y1 := cls_cell (B := w9.heap.size) hb9 f1
      have y2 := cls_cell (B := w9.heap.size) hb9 f2
      have y3 := cls_cell (B := w9.heap.size) hb9 f3
      have y4 := cls_cell (B := w9.heap.size) hb9 f4
      have y5 := cls_cell (B := w9.heap.size) hb9 f5
      have hji : (j : Int) < (m : Int) := by omega
      by_cases h0 : 0 < j
      · by_cases hpq : p = q
        · skip
          obtain ⟨s0, u1, hrise⟩ := PR9.out h0
          have hrise2 : Op.bytesLess s0.toList x.toList = true := hrise
          have y0 := cls_cell (B := w9.heap.size) hb9 u1
          have q1 : IntKind.i64.wrap ((j : Int) - 1) = (j : Int) - 1 := IntWalk.i64_in _ (by omega)
          have q2 : (0 : Int) ≤ (j : Int) - 1 := by omega
          have q3 : (1 : Int) ≤ (j : Int) := by omega
          have q4 : ((j : Int) - 1).toNat = j - 1 := by omega
          have q5 : (j : Int) - 1 < (m : Int) := by omega
          have q6 : decide (0 < j) = true := decide_eq_true h0
          have d2 := eqS_no (fun e => NE.out ⟨hpq, e⟩)
          have d1 : (p == q) = true := by rw [beq_iff_eq]; exact hpq
          clear hpq NE
          go_wp2
          refine wp_region_cls (by kernel_rfl) (by kernel_rfl) w9.heap.size ?_
          try dsimp only [List.append]
          repeat (go_big_quiet_step (fail))
          refine wpQuiet_nil ?_
          intro _ hw'
          obtain ⟨u, hw''⟩ := hw'
          subst hw''
          clear q1 q4
          go_wp2
          exact ⟨⟨j + 1, by omega, by go_num, hide (Q9.out.trans (u.below.mono hq9))⟩, by simp [intOf]; omega⟩
        · skip
          obtain ⟨s0, u1, hrise⟩ := PR9.out h0
          have hrise2 : Op.bytesLess s0.toList x.toList = true := hrise
          have y0 := cls_cell (B := w9.heap.size) hb9 u1
          have q1 : IntKind.i64.wrap ((j : Int) - 1) = (j : Int) - 1 := IntWalk.i64_in _ (by omega)
          have q2 : (0 : Int) ≤ (j : Int) - 1 := by omega
          have q3 : (1 : Int) ≤ (j : Int) := by omega
          have q4 : ((j : Int) - 1).toNat = j - 1 := by omega
          have q5 : (j : Int) - 1 < (m : Int) := by omega
          have q6 : decide (0 < j) = true := decide_eq_true h0
          have d1 : (p == q) = false := by rw [beq_eq_false_iff_ne]; exact hpq
          clear hpq NE
          go_wp2
          refine wp_region_cls (by kernel_rfl) (by kernel_rfl) w9.heap.size ?_
          try dsimp only [List.append]
          repeat (go_big_quiet_step (fail))
          refine wpQuiet_nil ?_
          intro _ hw'
          obtain ⟨u, hw''⟩ := hw'
          subst hw''
          clear q1 q4
          go_wp2
          exact ⟨⟨j + 1, by omega, by go_num, hide (Q9.out.trans (u.below.mono hq9))⟩, by simp [intOf]; omega⟩
      · by_cases hpq : p = q
        · skip
          have q6 : decide (0 < j) = false := decide_eq_false h0
          have d2 := eqS_no (fun e => NE.out ⟨hpq, e⟩)
          have d1 : (p == q) = true := by rw [beq_iff_eq]; exact hpq
          clear hpq NE
          go_wp2
          refine wp_region_cls (by kernel_rfl) (by kernel_rfl) w9.heap.size ?_
          try dsimp only [List.append]
          repeat (go_big_quiet_step (fail))
          refine wpQuiet_nil ?_
          intro _ hw'
          obtain ⟨u, hw''⟩ := hw'
          subst hw''
          go_wp2
          exact ⟨⟨j + 1, by omega, by go_num, hide (Q9.out.trans (u.below.mono hq9))⟩, by simp [intOf]; omega⟩
        · skip
          have q6 : decide (0 < j) = false := decide_eq_false h0
          have d1 : (p == q) = false := by rw [beq_eq_false_iff_ne]; exact hpq
          clear hpq NE
          go_wp2
          refine wp_region_cls (by kernel_rfl) (by kernel_rfl) w9.heap.size ?_
          try dsimp only [List.append]
          repeat (go_big_quiet_step (fail))
          refine wpQuiet_nil ?_
          intro _ hw'
          obtain ⟨u, hw''⟩ := hw'
          subst hw''
          go_wp2
          exact ⟨⟨j + 1, by omega, by go_num, hide (Q9.out.trans (u.below.mono hq9))⟩, by simp [intOf]; omega⟩
    · obtain rfl : j = m := by omega
      have hl3 : (j : Int) ≤ (l.length : Int) + (l2.length : Int) := by have := LE.out; rw [HNN.out] at this; omega
      have dl : decide ((j : Int) ≤ (l.length : Int) + (l2.length : Int)) = true := decide_eq_true hl3
      have hjj : ¬ (j : Int) < (j : Int) := by omega
      go_wp2
      go_ret
      exact ⟨rfl, B4.out.trans (Q.out.mono B4.out.size)⟩

set_option maxRecDepth 100000 in
theorem lifted (os : Os) (started : os.Started) (H : Type) (enc : TypeId × Value → H) :
    ReturnsInHanded {} Try.checked os 6 .any (Rows.fnDiffKeysSpec.pre6 enc Try.prog Try.f6 Rows.fnDiffKeysRow.domain false) (Rows.fnDiffKeysSpec.post enc Try.prog Try.f6 false true false false) := by
  refine returnsInHanded_of_change (C := Try.checked) own started (by kernel_rfl) Try.func6
    (ChangeSpec.witness6 (enc := enc) (C := Try.checked) false ⟨#[], #[.slice none 0 0], []⟩ 8 (by kernel_rfl) (by kernel_rfl) (by kernel_rfl) (by kernel_rfl)) ?_
  intro W base args ds gs before hval0 hW hcnd _
  have hval : ∀ (j : Nat) t v, Try.f6.params[j]? = some t → args[j]? = some v → Value.okWide Try.prog W .any base t v := hval0
  have hW' := hW
  obtain ⟨p, q, hA0, hV, rfl, hfz, hnd⟩ := hW
  have hA : DataW.TrodAll enc Try.prog W 0 (fun _ => true) true Try.f6.params.toList args.toList ds p := hA0
  rw [Try.params6] at hA hval
  obtain ⟨v0, vs0, d0, ds0, p0, q0, hargs, rfl, rfl, h0, r0⟩ := trodAll_cons hA
  obtain ⟨rfl, rfl, rfl⟩ := trodAll_nil r0
  obtain rfl : args = #[v0] := by cases args; simp_all
  obtain ⟨rfl, rfl⟩ := trodVars_none hV
  obtain ⟨A0, n0, cap0, rfl⟩ := okWide_slice Try.underlying22 (hval 0 22 v0 rfl rfl)
  have lt0 : ∀ x ∈ p0, x.block < W.heap.size := by obtain ⟨m, hm⟩ := h0; exact DataW.trod_lt m _ _ _ hm
  obtain ⟨l0, rfl, hl0, hin0⟩ := open_code h0
  clear hA0 hval0
  refine (walk A0 n0 cap0 W hl0 hin0).mono fun e W' ⟨he, bel⟩ => ?_
  subst he
  exact ⟨_, rfl, _, _, _, [], _, [], hW', trodAll_mk1 (shut_bool Try.underlying4 _), (trodAll_cons_mk (Below.trod laidOut (by kernel_rfl) (of_decide_eq_true (by kernel_rfl)) h0 bel lt0) trodAll_mk0), rfl, bel.frame _, fun h => by cases h⟩

theorem over : Rows.fnDiffKeysRow.holds Try.pinned (OpenSpec.ofChange Rows.fnDiffKeysSpec) :=
  OpenClaim.holds_of_wide 6 Try.f6 rfl rfl rfl rfl rfl rfl rfl ⟨rfl, rfl, rfl, rfl, rfl⟩ rfl rfl rfl rfl rfl (by kernel_rfl) Try.func6 (by kernel_rfl)
    (of_decide_eq_true (by kernel_rfl)) (by unfold Func.isWrapper; first | (rw [if_pos (by decide +kernel)]; kernel_rfl) | (rw [if_neg (by decide +kernel)]; exact ⟨rfl, rfl⟩))
    (fun os started H enc _ => lifted os started H enc)

end Go.Proofs.Ytcpalnkcjcgaeaa.LDiffKeys
namespace Go.Proofs.Ytcpalnkcjcgaeaa
theorem fnDiffKeys_proved : Rows.FnDiffKeysSaid := LDiffKeys.over
end Go.Proofs.Ytcpalnkcjcgaeaa
