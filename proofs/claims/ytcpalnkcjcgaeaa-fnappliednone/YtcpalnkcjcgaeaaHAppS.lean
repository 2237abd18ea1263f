/-
  What spec.Applied answers.
-/
import Derived.Test.YtcpalnkcjcgaeaaHApp
import Derived.Test.YtcpalnkcjcgaeaaHFitL
import Derived.Test.YtcpalnkcjcgaeaaPCls
namespace Go.Proofs.Ytcpalnkcjcgaeaa
open Go.RowKit

set_option maxRecDepth 100000 in
set_option maxHeartbeats 16000000 in
theorem specApplied_any (A : Option Addr) (m : List Pr) (cap : Nat) (A' : Option Addr) (l : List Ch) (cap' : Nat) (w : World) (hm : m.length ≤ maxLen) (hl : l.length ≤ 1048576) (hin : PIn w w.heap.size A m) (hin' : HIn w w.heap.size A' l) :
    Calls Try.prog 24 #[.slice A m.length cap, .slice A' l.length cap'] w (RetOwnB w.heap.size (appL m l) (appB m l) w) := by
  cases hmB : mapB m
  · have Z := hide (appB_map (l := l) hmB)
    go_enter Try.func24, Try.ntmps24
    go_wp2_with fail
    refine (specMapOk_any A m cap _ _ hm hin).mono ?_
    rintro e w1 ⟨rfl, q1⟩
    rw [hmB]
    go_wp2
    go_ret2
    exact retOwnB_no (appL_no Z.out) Z.out (q1.below _)
  · have h40 := (mapB_iff.1 hmB).1
    have RM := hide (mapB_ris hmB)
    have HM := hide hmB
    have IN := hide hin
    have INL := hide hin'
    have E0 : Hid ([] ++ m = appM m (l.take 0)) := hide (by simp [appM])
    have E1 : ([] ++ m).length ≤ 40 := by simp; omega
    go_enter Try.func24, Try.ntmps24
    go_wp2_with fail
    refine (specMapOk_any A m cap _ _ hm hin).mono ?_
    rintro e w1 ⟨rfl, q1⟩
    rw [hmB]
    have B1 := hide (q1.below w.heap.size)
    have hs1 := B1.out.size
    clear q1 hin hin' hmB
    go_wp2_with (at_builtin; refine wpList_app 24 Try.underlying24 rfl (.tmp 13) (.tmp 14) rfl rfl rfl rfl rfl (Own.built w1 w.heap.size hs1) ((IN.out.below B1.out).below ((Below.refl _ _).alloc hs1 _)) (by simp; omega) (by simp; omega) ?_; intro A2 cap2 w2 own2 g2 r2; have B2 := hide (B1.out.trans (((Below.refl _ w1).alloc hs1 _).trans ((Own.built w1 w.heap.size hs1).grownBelow (by rw [rowOf_own]; exact g2) (by simp; omega)))); have O2 := hide own2; clear own2 g2 r2)
    clear B1 hs1
    generalize hnn : l.length = nn at hl ⊢
    have HN := hide hnn
    clear hnn
    go_loopw [6, 7] (fun ov iv wr => ∃ (k : Nat) (A3 : Option Addr) (cap3 : Nat) (N : List Pr), k ≤ nn ∧ iv = .int .i64 k ∧ ov = .slice A3 N.length cap3 ∧ N.length ≤ 40 + k ∧ Hid (N = appM m (l.take k)) ∧ Hid (appsTo m l k) ∧ Hid (Own wr w.heap.size A3 cap3 N) ∧ Hid (Below w.heap.size w wr)) (fun _ i _ => nn - (intOf i).toNat)
    case atStart => exact ⟨0, A2, cap2, [] ++ m, Nat.zero_le _, rfl, rfl, E1, E0, hide (appsTo_zero m l), O2, B2⟩
    case round =>
      clear O2 B2 E0 E1
      obtain ⟨k, A3, cap3, N, hk, rfl, rfl, hNL, HNE, H, O, Q⟩ := hrel
      have hqs := Q.out.size
      by_cases hlt : k < nn
      · have hkl : k < l.length := by rw [HN.out]; omega
        have hin2 := INL.out.below Q.out
        obtain ⟨b, off, rfl, hbB, hc⟩ := hin2.2 (by omega)
        obtain ⟨c1, c2, c3, c4, c5⟩ := hc k hkl
        obtain ⟨s1, _, s3⟩ := hin2.1 k hkl
        have RN : Hid (Ris N) := hide (by rw [HNE.out]; exact ris_app _ RM.out)
        have FB := hide (fun h => appB_fit (m := m) hkl h)
        have FS := hide (fun h1 h2 => appsTo_succ (m := m) hkl H.out h1 h2)
        have ES := hide (appM_succ m l k hkl)
        rw [← HNE.out] at FB FS ES
        have hki : (k : Int) < (nn : Int) := by omega
        have hbw : b < wr.heap.size := by omega
        have hNm : N.length ≤ maxLen := by unfold maxLen; omega
        have hN2 : N.length ≤ 1200000 := by omega
        have hc3 := O.out.cap_le
        have PR : Hid (∀ h : 0 < k, ∃ s0 : ByteArray, wr.cell? ⟨b, off + (k - 1) * 5, none⟩ = some (.string s0) ∧ (ltB s0 (l[k]'hkl).1 = false → appB m l = false) ∧ (ltB s0 (l[k]'hkl).1 = true → ltB (l[k - 1]'(by omega)).1 (l[k]'hkl).1 = true)) := hide (fun h => ⟨(l[k - 1]'(by omega)).1, (hc (k - 1) (by omega)).1, fun z => appB_rise (m := m) (l := l) (k := k - 1) (by omega) (by simpa [show k - 1 + 1 = k by omega] using z), fun z => z⟩)
        go_wp2_with fail
        refine (l1Get_any A3 N cap3 (l[k]'hkl).1 _ _ hNm O.out.pin).mono ?_
        rintro e w' ⟨rfl, rfl⟩
        have FB2 : Hid (fitB N (l[k]'hkl) = false → appB m l = false) := hide FB.out
        have FS2 : Hid (fitB N (l[k]'hkl) = true → (∀ hp : 0 < k, ltB (l[k - 1]'(by omega)).1 (l[k]'hkl).1 = true) → appsTo m l (k + 1)) := hide FS.out
        have PR2 : Hid (∀ h : 0 < k, ∃ s0 : ByteArray, wr.cell? ⟨b, off + (k - 1) * 5, none⟩ = some (.string s0) ∧ (ltB s0 (l[k]'hkl).1 = false → appB m l = false) ∧ (ltB s0 (l[k]'hkl).1 = true → ltB (l[k - 1]'(by omega)).1 (l[k]'hkl).1 = true)) := PR
        clear hin2 hc FB FS PR
        have FS3 : Hid (fitB N (l[k]'hkl) = true → (∀ hp : 0 < k, ∃ s0 : ByteArray, wr.cell? ⟨b, off + (k - 1) * 5, none⟩ = some (.string s0) ∧ ltB s0 (l[k]'hkl).1 = true) → appsTo m l (k + 1)) := hide (fun h1 h2 => FS2.out h1 (fun hp => by
          obtain ⟨s0, g1, _, g3⟩ := PR2.out hp
          obtain ⟨s1, g4, g5⟩ := h2 hp
          rw [g1] at g4
          injection g4 with g4
          injection g4 with g4
          exact g3 (by rw [g4]; exact g5)))
        have PR3 : Hid (∀ h : 0 < k, ∃ s0 : ByteArray, wr.cell? ⟨b, off + (k - 1) * 5, none⟩ = some (.string s0) ∧ (ltB s0 (l[k]'hkl).1 = false → appB m l = false)) := hide (fun h => by obtain ⟨s0, g1, g2, _⟩ := PR2.out h; exact ⟨s0, g1, g2⟩)
        clear FS2 PR2
        generalize (l[k]'hkl) = c at *
        obtain ⟨x, o, n, p, q⟩ := c
        have FI := hide (fun h => (fit_no (m := N) (c := (x, o, n, p, q)) h))
        have FY := hide (fitB_iff (m := N) (c := (x, o, n, p, q)))
        simp only at c1 c2 c3 c4 c5 s1 s3
        have SV : Hid (hasB N x = hasB N x ∧ valOf N x = valOf N x) := hide ⟨rfl, rfl⟩
        have hdx : ∃ hd, hasB N x = hd := ⟨_, rfl⟩
        have vdx : ∃ vd, valOf N x = vd := ⟨_, rfl⟩
        obtain ⟨hd, hde⟩ := hdx
        obtain ⟨vd, vde⟩ := vdx
        have HDE := hide hde
        have VDE := hide vde
        rw [hde, vde]
        clear hde vde SV hkl
        cases hK : keyB x
        · skip
          have Z : Hid (appB m l = false) := hide (FB2.out (FI.out (fun z => by rw [hK] at z; exact absurd z.1 (by simp))))
          clear O H ES HNE RN FI FY FB2 FS3 PR3
          have y1 := cls_cell (B := wr.heap.size) hbw c1
          have y2 := cls_cell (B := wr.heap.size) hbw c2
          have y3 := cls_cell (B := wr.heap.size) hbw c3
          have y4 := cls_cell (B := wr.heap.size) hbw c4
          have y5 := cls_cell (B := wr.heap.size) hbw c5
          go_wp2
          refine wp_region_cls (by kernel_rfl) (by kernel_rfl) wr.heap.size ?_
          dsimp only [List.append]
          repeat (go_big_quiet_step ((first | (go_at_call 56; exact cls_call (Nat.le_refl _) (same_below (l1Key_any x _ s1))) | (go_at_call 57; exact cls_call (Nat.le_refl _) (same_below (l1Plain_any n 12 _ s3))))))
          refine wpQuiet_nil ?_
          intro _ hw'
          obtain ⟨u, hw''⟩ := hw'
          subst hw''
          clear y1 y2 y3 y4 y5
          go_wp2
          go_ret2
          exact retOwnB_no (appL_no Z.out) Z.out (Q.out.trans (u.below.mono hqs))
        cases hV : valB n
        · have hV2 : plainB n 12 = false := hV
          have Z : Hid (appB m l = false) := hide (FB2.out (FI.out (fun z => by rw [hV] at z; exact absurd z.2.1 (by simp))))
          clear O H ES HNE RN FI FY FB2 FS3 PR3
          have y1 := cls_cell (B := wr.heap.size) hbw c1
          have y2 := cls_cell (B := wr.heap.size) hbw c2
          have y3 := cls_cell (B := wr.heap.size) hbw c3
          have y4 := cls_cell (B := wr.heap.size) hbw c4
          have y5 := cls_cell (B := wr.heap.size) hbw c5
          go_wp2
          refine wp_region_cls (by kernel_rfl) (by kernel_rfl) wr.heap.size ?_
          dsimp only [List.append]
          repeat (go_big_quiet_step ((first | (go_at_call 56; exact cls_call (Nat.le_refl _) (same_below (l1Key_any x _ s1))) | (go_at_call 57; exact cls_call (Nat.le_refl _) (same_below (l1Plain_any n 12 _ s3))))))
          refine wpQuiet_nil ?_
          intro _ hw'
          obtain ⟨u, hw''⟩ := hw'
          subst hw''
          clear y1 y2 y3 y4 y5
          go_wp2
          go_ret2
          exact retOwnB_no (appL_no Z.out) Z.out (Q.out.trans (u.below.mono hqs))
        have hV2 : plainB n 12 = true := hV
        rcases (Classical.em (hd = p)).symm with d3 | d3
        · have d3b : (hd == p) = false := by rw [beq_eq_false_iff_ne]; exact d3
          have Z : Hid (appB m l = false) := hide (FB2.out (FI.out (fun z => d3 (HDE.out.symm.trans z.2.2.1))))
          clear O H ES HNE RN FI FY FB2 FS3 PR3
          have y1 := cls_cell (B := wr.heap.size) hbw c1
          have y2 := cls_cell (B := wr.heap.size) hbw c2
          have y3 := cls_cell (B := wr.heap.size) hbw c3
          have y4 := cls_cell (B := wr.heap.size) hbw c4
          have y5 := cls_cell (B := wr.heap.size) hbw c5
          go_wp2
          refine wp_region_cls (by kernel_rfl) (by kernel_rfl) wr.heap.size ?_
          dsimp only [List.append]
          repeat (go_big_quiet_step ((first | (go_at_call 56; exact cls_call (Nat.le_refl _) (same_below (l1Key_any x _ s1))) | (go_at_call 57; exact cls_call (Nat.le_refl _) (same_below (l1Plain_any n 12 _ s3))))))
          refine wpQuiet_nil ?_
          intro _ hw'
          obtain ⟨u, hw''⟩ := hw'
          subst hw''
          clear y1 y2 y3 y4 y5
          go_wp2
          go_ret2
          exact retOwnB_no (appL_no Z.out) Z.out (Q.out.trans (u.below.mono hqs))
        have d3b : (hd == p) = true := by rw [beq_iff_eq]; exact d3
        rcases (Classical.em (vd = o)).symm with d4 | d4
        · have d4b := eqS_no d4
          have Z : Hid (appB m l = false) := hide (FB2.out (FI.out (fun z => d4 (VDE.out.symm.trans z.2.2.2.1))))
          clear O H ES HNE RN FI FY FB2 FS3 PR3
          have y1 := cls_cell (B := wr.heap.size) hbw c1
          have y2 := cls_cell (B := wr.heap.size) hbw c2
          have y3 := cls_cell (B := wr.heap.size) hbw c3
          have y4 := cls_cell (B := wr.heap.size) hbw c4
          have y5 := cls_cell (B := wr.heap.size) hbw c5
          go_wp2
          refine wp_region_cls (by kernel_rfl) (by kernel_rfl) wr.heap.size ?_
          dsimp only [List.append]
          repeat (go_big_quiet_step ((first | (go_at_call 56; exact cls_call (Nat.le_refl _) (same_below (l1Key_any x _ s1))) | (go_at_call 57; exact cls_call (Nat.le_refl _) (same_below (l1Plain_any n 12 _ s3))))))
          refine wpQuiet_nil ?_
          intro _ hw'
          obtain ⟨u, hw''⟩ := hw'
          subst hw''
          clear y1 y2 y3 y4 y5
          go_wp2
          go_ret2
          exact retOwnB_no (appL_no Z.out) Z.out (Q.out.trans (u.below.mono hqs))
        have d4b := eqS_yes d4
        rcases q with _ | _
        · rcases (Classical.em (n = ByteArray.empty)).symm with d5 | d5
          · obtain ⟨m1, m2, m3, m4, m5⟩ := emp_ne d5
            have Z : Hid (appB m l = false) := hide (FB2.out (FI.out (fun z => z.2.2.2.2.elim (fun g => by cases g) d5)))
            clear O H ES HNE RN FI FY FB2 FS3 PR3
            have y1 := cls_cell (B := wr.heap.size) hbw c1
            have y2 := cls_cell (B := wr.heap.size) hbw c2
            have y3 := cls_cell (B := wr.heap.size) hbw c3
            have y4 := cls_cell (B := wr.heap.size) hbw c4
            have y5 := cls_cell (B := wr.heap.size) hbw c5
            go_wp2
            refine wp_region_cls (by kernel_rfl) (by kernel_rfl) wr.heap.size ?_
            dsimp only [List.append]
            repeat (go_big_quiet_step ((first | (go_at_call 56; exact cls_call (Nat.le_refl _) (same_below (l1Key_any x _ s1))) | (go_at_call 57; exact cls_call (Nat.le_refl _) (same_below (l1Plain_any n 12 _ s3))))))
            refine wpQuiet_nil ?_
            intro _ hw'
            obtain ⟨u, hw''⟩ := hw'
            subst hw''
            clear y1 y2 y3 y4 y5
            go_wp2
            go_ret2
            exact retOwnB_no (appL_no Z.out) Z.out (Q.out.trans (u.below.mono hqs))
          have HNN := hide d5
          obtain ⟨m1, m2, m3, m4, m5⟩ := emp_eq d5
          clear d5
          by_cases h0 : 0 < k
          · obtain ⟨s0, g0, g1⟩ := PR3.out h0
            cases hrise : ltB s0 x
            · have hrise2 : Op.bytesLess s0.toList x.toList = false := hrise
              have Z : Hid (appB m l = false) := hide (g1 hrise)
              have q1 : IntKind.i64.wrap ((k : Int) - 1) = (k : Int) - 1 := IntWalk.i64_in _ (by omega)
              have q2 : (0 : Int) ≤ (k : Int) - 1 := by omega
              have q3 : (1 : Int) ≤ (k : Int) := by omega
              have q4 : ((k : Int) - 1).toNat = k - 1 := by omega
              have q5 : (k : Int) - 1 < (nn : Int) := by omega
              have q6 : decide (0 < k) = true := decide_eq_true h0
              clear O H ES HNE RN FI FY FB2 FS3 PR3
              have y1 := cls_cell (B := wr.heap.size) hbw c1
              have y2 := cls_cell (B := wr.heap.size) hbw c2
              have y3 := cls_cell (B := wr.heap.size) hbw c3
              have y4 := cls_cell (B := wr.heap.size) hbw c4
              have y5 := cls_cell (B := wr.heap.size) hbw c5
              have y0 := cls_cell (B := wr.heap.size) hbw g0
              go_wp2
              refine wp_region_cls (by kernel_rfl) (by kernel_rfl) wr.heap.size ?_
              dsimp only [List.append]
              repeat (go_big_quiet_step ((first | (go_at_call 56; exact cls_call (Nat.le_refl _) (same_below (l1Key_any x _ s1))) | (go_at_call 57; exact cls_call (Nat.le_refl _) (same_below (l1Plain_any n 12 _ s3))))))
              refine wpQuiet_nil ?_
              intro _ hw'
              obtain ⟨u, hw''⟩ := hw'
              subst hw''
              clear y1 y2 y3 y4 y5 y0 q1 q4
              go_wp2
              go_ret2
              exact retOwnB_no (appL_no Z.out) Z.out (Q.out.trans (u.below.mono hqs))
            · have hrise2 : Op.bytesLess s0.toList x.toList = true := hrise
              have q1 : IntKind.i64.wrap ((k : Int) - 1) = (k : Int) - 1 := IntWalk.i64_in _ (by omega)
              have q2 : (0 : Int) ≤ (k : Int) - 1 := by omega
              have q3 : (1 : Int) ≤ (k : Int) := by omega
              have q4 : ((k : Int) - 1).toNat = k - 1 := by omega
              have q5 : (k : Int) - 1 < (nn : Int) := by omega
              have q6 : decide (0 < k) = true := decide_eq_true h0
              have FT : Hid (fitB N (x, o, n, p, false) = true) := hide (FY.out.2 ⟨hK, hV, HDE.out.trans d3, VDE.out.trans d4, .inr HNN.out⟩)
              have AT : Hid (appsTo m l (k + 1)) := hide (FS3.out FT.out (fun hp => ⟨s0, g0, hrise⟩))
              clear H FS3 PR3 FI FY FB2 FT
              have y1 := cls_cell (B := wr.heap.size) hbw c1
              have y2 := cls_cell (B := wr.heap.size) hbw c2
              have y3 := cls_cell (B := wr.heap.size) hbw c3
              have y4 := cls_cell (B := wr.heap.size) hbw c4
              have y5 := cls_cell (B := wr.heap.size) hbw c5
              have y0 := cls_cell (B := wr.heap.size) hbw g0
              go_wp2
              refine wp_region_cls (by kernel_rfl) (by kernel_rfl) wr.heap.size ?_
              dsimp only [List.append]
              repeat (go_big_quiet_step ((first | (go_at_call 56; exact cls_call (Nat.le_refl _) (same_below (l1Key_any x _ s1))) | (go_at_call 57; exact cls_call (Nat.le_refl _) (same_below (l1Plain_any n 12 _ s3))))))
              refine wpQuiet_nil ?_
              intro _ hw'
              obtain ⟨u, hw''⟩ := hw'
              subst hw''
              clear y1 y2 y3 y4 y5 y0 q1 q4
              have c1_1 : u.wo.cell? ⟨b, off + k * 5, none⟩ = some (.string x) := cellB u.below hbw c1
              have c3_1 : u.wo.cell? ⟨b, off + k * 5 + 2, none⟩ = some (.string n) := cellB u.below hbw c3
              have c5_1 : u.wo.cell? ⟨b, off + k * 5 + 4, none⟩ = some (.bool false) := cellB u.below hbw c5
              have O1 : Hid (Own u.wo w.heap.size A3 cap3 N) := hide (O.out.below u.below)
              have Q1 : Hid (Below w.heap.size w u.wo) := hide (Q.out.trans (u.below.mono hqs))
              have hq1 := Q1.out.size
              clear c1 c2 c3 c4 c5 O Q hqs
              generalize u.wo = W1 at *
              go_wp2_with fail
              refine (l1Drop_any A3 N cap3 x _ hN2 hc3 O1.out.pin).mono ?_
              rintro e w5 ⟨A5, cap5, hc5, rfl, own5, b5⟩
              have E5 : Hid (delL N x = appM m (l.take (k + 1))) := hide (by rw [ES.out, stepM_no rfl])
              have L5 : (delL N x).length ≤ 40 + (k + 1) := by have := delL_len N x; omega
              have Q5 := hide (Q1.out.trans (b5.mono hq1))
              have O5 := hide (own5.more hq1)
              clear own5 b5 O1 Q1 ES RN
              go_wp2
              exact ⟨⟨k + 1, A5, cap5, delL N x, by omega, by go_num, rfl, L5, E5, AT, O5, Q5⟩, by simp [intOf]; omega⟩
          · skip
            have q6 : decide (0 < k) = false := decide_eq_false h0
            have FT : Hid (fitB N (x, o, n, p, false) = true) := hide (FY.out.2 ⟨hK, hV, HDE.out.trans d3, VDE.out.trans d4, .inr HNN.out⟩)
            have AT : Hid (appsTo m l (k + 1)) := hide (FS3.out FT.out (fun hp => absurd hp h0))
            clear H FS3 PR3 FI FY FB2 FT
            have y1 := cls_cell (B := wr.heap.size) hbw c1
            have y2 := cls_cell (B := wr.heap.size) hbw c2
            have y3 := cls_cell (B := wr.heap.size) hbw c3
            have y4 := cls_cell (B := wr.heap.size) hbw c4
            have y5 := cls_cell (B := wr.heap.size) hbw c5
            go_wp2
            refine wp_region_cls (by kernel_rfl) (by kernel_rfl) wr.heap.size ?_
            dsimp only [List.append]
            repeat (go_big_quiet_step ((first | (go_at_call 56; exact cls_call (Nat.le_refl _) (same_below (l1Key_any x _ s1))) | (go_at_call 57; exact cls_call (Nat.le_refl _) (same_below (l1Plain_any n 12 _ s3))))))
            refine wpQuiet_nil ?_
            intro _ hw'
            obtain ⟨u, hw''⟩ := hw'
            subst hw''
            clear y1 y2 y3 y4 y5
            have c1_1 : u.wo.cell? ⟨b, off + k * 5, none⟩ = some (.string x) := cellB u.below hbw c1
            have c3_1 : u.wo.cell? ⟨b, off + k * 5 + 2, none⟩ = some (.string n) := cellB u.below hbw c3
            have c5_1 : u.wo.cell? ⟨b, off + k * 5 + 4, none⟩ = some (.bool false) := cellB u.below hbw c5
            have O1 : Hid (Own u.wo w.heap.size A3 cap3 N) := hide (O.out.below u.below)
            have Q1 : Hid (Below w.heap.size w u.wo) := hide (Q.out.trans (u.below.mono hqs))
            have hq1 := Q1.out.size
            clear c1 c2 c3 c4 c5 O Q hqs
            generalize u.wo = W1 at *
            go_wp2_with fail
            refine (l1Drop_any A3 N cap3 x _ hN2 hc3 O1.out.pin).mono ?_
            rintro e w5 ⟨A5, cap5, hc5, rfl, own5, b5⟩
            have E5 : Hid (delL N x = appM m (l.take (k + 1))) := hide (by rw [ES.out, stepM_no rfl])
            have L5 : (delL N x).length ≤ 40 + (k + 1) := by have := delL_len N x; omega
            have Q5 := hide (Q1.out.trans (b5.mono hq1))
            have O5 := hide (own5.more hq1)
            clear own5 b5 O1 Q1 ES RN
            go_wp2
            exact ⟨⟨k + 1, A5, cap5, delL N x, by omega, by go_num, rfl, L5, E5, AT, O5, Q5⟩, by simp [intOf]; omega⟩
        · skip
          by_cases h0 : 0 < k
          · obtain ⟨s0, g0, g1⟩ := PR3.out h0
            cases hrise : ltB s0 x
            · have hrise2 : Op.bytesLess s0.toList x.toList = false := hrise
              have Z : Hid (appB m l = false) := hide (g1 hrise)
              have q1 : IntKind.i64.wrap ((k : Int) - 1) = (k : Int) - 1 := IntWalk.i64_in _ (by omega)
              have q2 : (0 : Int) ≤ (k : Int) - 1 := by omega
              have q3 : (1 : Int) ≤ (k : Int) := by omega
              have q4 : ((k : Int) - 1).toNat = k - 1 := by omega
              have q5 : (k : Int) - 1 < (nn : Int) := by omega
              have q6 : decide (0 < k) = true := decide_eq_true h0
              clear O H ES HNE RN FI FY FB2 FS3 PR3
              have y1 := cls_cell (B := wr.heap.size) hbw c1
              have y2 := cls_cell (B := wr.heap.size) hbw c2
              have y3 := cls_cell (B := wr.heap.size) hbw c3
              have y4 := cls_cell (B := wr.heap.size) hbw c4
              have y5 := cls_cell (B := wr.heap.size) hbw c5
              have y0 := cls_cell (B := wr.heap.size) hbw g0
              go_wp2
              refine wp_region_cls (by kernel_rfl) (by kernel_rfl) wr.heap.size ?_
              dsimp only [List.append]
              repeat (go_big_quiet_step ((first | (go_at_call 56; exact cls_call (Nat.le_refl _) (same_below (l1Key_any x _ s1))) | (go_at_call 57; exact cls_call (Nat.le_refl _) (same_below (l1Plain_any n 12 _ s3))))))
              refine wpQuiet_nil ?_
              intro _ hw'
              obtain ⟨u, hw''⟩ := hw'
              subst hw''
              clear y1 y2 y3 y4 y5 y0 q1 q4
              go_wp2
              go_ret2
              exact retOwnB_no (appL_no Z.out) Z.out (Q.out.trans (u.below.mono hqs))
            · have hrise2 : Op.bytesLess s0.toList x.toList = true := hrise
              have q1 : IntKind.i64.wrap ((k : Int) - 1) = (k : Int) - 1 := IntWalk.i64_in _ (by omega)
              have q2 : (0 : Int) ≤ (k : Int) - 1 := by omega
              have q3 : (1 : Int) ≤ (k : Int) := by omega
              have q4 : ((k : Int) - 1).toNat = k - 1 := by omega
              have q5 : (k : Int) - 1 < (nn : Int) := by omega
              have q6 : decide (0 < k) = true := decide_eq_true h0
              have FT : Hid (fitB N (x, o, n, p, true) = true) := hide (FY.out.2 ⟨hK, hV, HDE.out.trans d3, VDE.out.trans d4, .inl rfl⟩)
              have AT : Hid (appsTo m l (k + 1)) := hide (FS3.out FT.out (fun hp => ⟨s0, g0, hrise⟩))
              clear H FS3 PR3 FI FY FB2 FT
              have y1 := cls_cell (B := wr.heap.size) hbw c1
              have y2 := cls_cell (B := wr.heap.size) hbw c2
              have y3 := cls_cell (B := wr.heap.size) hbw c3
              have y4 := cls_cell (B := wr.heap.size) hbw c4
              have y5 := cls_cell (B := wr.heap.size) hbw c5
              have y0 := cls_cell (B := wr.heap.size) hbw g0
              go_wp2
              refine wp_region_cls (by kernel_rfl) (by kernel_rfl) wr.heap.size ?_
              dsimp only [List.append]
              repeat (go_big_quiet_step ((first | (go_at_call 56; exact cls_call (Nat.le_refl _) (same_below (l1Key_any x _ s1))) | (go_at_call 57; exact cls_call (Nat.le_refl _) (same_below (l1Plain_any n 12 _ s3))))))
              refine wpQuiet_nil ?_
              intro _ hw'
              obtain ⟨u, hw''⟩ := hw'
              subst hw''
              clear y1 y2 y3 y4 y5 y0 q1 q4
              have c1_1 : u.wo.cell? ⟨b, off + k * 5, none⟩ = some (.string x) := cellB u.below hbw c1
              have c3_1 : u.wo.cell? ⟨b, off + k * 5 + 2, none⟩ = some (.string n) := cellB u.below hbw c3
              have c5_1 : u.wo.cell? ⟨b, off + k * 5 + 4, none⟩ = some (.bool true) := cellB u.below hbw c5
              have O1 : Hid (Own u.wo w.heap.size A3 cap3 N) := hide (O.out.below u.below)
              have Q1 : Hid (Below w.heap.size w u.wo) := hide (Q.out.trans (u.below.mono hqs))
              have hq1 := Q1.out.size
              clear c1 c2 c3 c4 c5 O Q hqs
              generalize u.wo = W1 at *
              go_wp2
              go_region_held3 (fun w' => w'.cell? ⟨b, off + k * 5, none⟩ = some (.string x) ∧ w'.cell? ⟨b, off + k * 5 + 2, none⟩ = some (.string n)) (first | go_keep | exact ⟨cellB b5 (by simp; omega) (by simpa using c1_1), cellB b5 (by simp; omega) (by simpa using c3_1)⟩)
                (first | (go_at_call 58; refine (l1Set_any A3 N cap3 x n _ hN2 hc3 (O1.out.drew).pin s1 s3).mono ?_; rintro e w5 ⟨A5, cap5, hc5, rfl, own5, b5⟩))
              have E5 : Hid (setS N x n = appM m (l.take (k + 1))) := hide (by rw [ES.out, stepM_yes rfl, setS_setL (ris_iff.2 RN.out)])
              have L5 : (setS N x n).length ≤ 40 + (k + 1) := by rw [setS_setL (ris_iff.2 RN.out)]; have := setL_len N x n; omega
              have Q5 := hide (Q1.out.trans (((Below.refl _ W1).drew).trans (b5.mono (by exact hq1))))
              have O5 := hide (own5.more (show w.heap.size ≤ W1.drew.heap.size from hq1))
              clear own5 b5 O1 Q1 ES RN
              go_wp2
              exact ⟨⟨k + 1, A5, cap5, setS N x n, by omega, by go_num, rfl, L5, E5, AT, O5, Q5⟩, by simp [intOf]; omega⟩
          · skip
            have q6 : decide (0 < k) = false := decide_eq_false h0
            have FT : Hid (fitB N (x, o, n, p, true) = true) := hide (FY.out.2 ⟨hK, hV, HDE.out.trans d3, VDE.out.trans d4, .inl rfl⟩)
            have AT : Hid (appsTo m l (k + 1)) := hide (FS3.out FT.out (fun hp => absurd hp h0))
            clear H FS3 PR3 FI FY FB2 FT
            have y1 := cls_cell (B := wr.heap.size) hbw c1
            have y2 := cls_cell (B := wr.heap.size) hbw c2
            have y3 := cls_cell (B := wr.heap.size) hbw c3
            have y4 := cls_cell (B := wr.heap.size) hbw c4
            have y5 := cls_cell (B := wr.heap.size) hbw c5
            go_wp2
            refine wp_region_cls (by kernel_rfl) (by kernel_rfl) wr.heap.size ?_
            dsimp only [List.append]
            repeat (go_big_quiet_step ((first | (go_at_call 56; exact cls_call (Nat.le_refl _) (same_below (l1Key_any x _ s1))) | (go_at_call 57; exact cls_call (Nat.le_refl _) (same_below (l1Plain_any n 12 _ s3))))))
            refine wpQuiet_nil ?_
            intro _ hw'
            obtain ⟨u, hw''⟩ := hw'
            subst hw''
            clear y1 y2 y3 y4 y5
            have c1_1 : u.wo.cell? ⟨b, off + k * 5, none⟩ = some (.string x) := cellB u.below hbw c1
            have c3_1 : u.wo.cell? ⟨b, off + k * 5 + 2, none⟩ = some (.string n) := cellB u.below hbw c3
            have c5_1 : u.wo.cell? ⟨b, off + k * 5 + 4, none⟩ = some (.bool true) := cellB u.below hbw c5
            have O1 : Hid (Own u.wo w.heap.size A3 cap3 N) := hide (O.out.below u.below)
            have Q1 : Hid (Below w.heap.size w u.wo) := hide (Q.out.trans (u.below.mono hqs))
            have hq1 := Q1.out.size
            clear c1 c2 c3 c4 c5 O Q hqs
            generalize u.wo = W1 at *
            go_wp2
            go_region_held3 (fun w' => w'.cell? ⟨b, off + k * 5, none⟩ = some (.string x) ∧ w'.cell? ⟨b, off + k * 5 + 2, none⟩ = some (.string n)) (first | go_keep | exact ⟨cellB b5 (by simp; omega) (by simpa using c1_1), cellB b5 (by simp; omega) (by simpa using c3_1)⟩)
              (first | (go_at_call 58; refine (l1Set_any A3 N cap3 x n _ hN2 hc3 (O1.out.drew).pin s1 s3).mono ?_; rintro e w5 ⟨A5, cap5, hc5, rfl, own5, b5⟩))
            have E5 : Hid (setS N x n = appM m (l.take (k + 1))) := hide (by rw [ES.out, stepM_yes rfl, setS_setL (ris_iff.2 RN.out)])
            have L5 : (setS N x n).length ≤ 40 + (k + 1) := by rw [setS_setL (ris_iff.2 RN.out)]; have := setL_len N x n; omega
            have Q5 := hide (Q1.out.trans (((Below.refl _ W1).drew).trans (b5.mono (by exact hq1))))
            have O5 := hide (own5.more (show w.heap.size ≤ W1.drew.heap.size from hq1))
            clear own5 b5 O1 Q1 ES RN
            go_wp2
            exact ⟨⟨k + 1, A5, cap5, setS N x n, by omega, by go_num, rfl, L5, E5, AT, O5, Q5⟩, by simp [intOf]; omega⟩
      · obtain rfl : k = nn := by omega
        have E : Hid (N = appM m l) := hide (by rw [HNE.out, ← HN.out, List.take_length])
        have AA : Hid (appsTo m l l.length) := hide (by rw [HN.out]; exact H.out)
        have hkk : ¬ (k : Int) < (k : Int) := by omega
        have hNm : N.length ≤ maxLen := by unfold maxLen; omega
        cases he : mapB N
        · have Z : Hid (appB m l = false) := hide (appB_end (by rw [← E.out]; exact he))
          go_wp2_with fail
          refine (specMapOk_any A3 N cap3 _ _ hNm O.out.pin).mono ?_
          rintro e w5 ⟨rfl, q5⟩
          rw [he]
          have Q5 := hide (Q.out.trans (q5.below _))
          clear q5
          go_wp2
          go_ret2
          exact retOwnB_no (appL_no Z.out) Z.out Q5.out
        · have Z : Hid (appB m l = true) := hide (appB_iff.2 ⟨HM.out, AA.out, by rw [← E.out]; exact he⟩)
          go_wp2_with fail
          refine (specMapOk_any A3 N cap3 _ _ hNm O.out.pin).mono ?_
          rintro e w5 ⟨rfl, q5⟩
          rw [he]
          have Q5 := hide (Q.out.trans (q5.below _))
          have O5 := hide (O.out.below (q5.below _))
          have hc5 := O.out.cap_le
          clear q5 O
          go_wp2
          go_ret2
          refine ⟨A3, cap3, ?_, ?_, ?_, Q5.out⟩
          · rw [appL_yes Z.out, ← E.out]; exact hc5
          · rw [appL_yes Z.out, Z.out, ← E.out]; rfl
          · rw [appL_yes Z.out, ← E.out]; exact O5.out
end Go.Proofs.Ytcpalnkcjcgaeaa
