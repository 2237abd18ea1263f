/-
  What spec.Merged and spec.Resolved answer.
-/
import Derived.Test.YtaofemdhgfejjaaGreatDoorMMrgS
namespace Go.Proofs.YtaofemdhgfejjaaGreatDoor
open Go.RowKit

def RetMg (B : Nat) (l : List Pr) (ks : List ByteArray) (b : Bool) (w : World) (e : Ending) (w' : World) : Prop :=
  ∃ A cap A' cap', l.length ≤ cap ∧ e = .returned (.tuple #[.slice A l.length cap, .slice A' ks.length cap', .bool b]) ∧ Own w' B A cap l ∧ ZOwn w' B A' cap' ks ∧ Below B w w' ∧ ∀ g, rowOf A = some g → rowOf A' ≠ some g
theorem retMg_no {B : Nat} {l : List Pr} {ks : List ByteArray} {b : Bool} {w w' : World} (hl : l = []) (hk : ks = []) (hb : b = false) (h : Below B w w') : RetMg B l ks b w (.returned (.tuple #[.slice none 0 0, .slice none 0 0, .bool false])) w' := by
  subst hl hk hb
  exact ⟨none, 0, none, 0, Nat.le_refl _, rfl, Own.nil _ _, ZOwn.nil _ _, h, fun g h => by cases h⟩

set_option maxRecDepth 100000 in
set_option maxHeartbeats 2000000 in
theorem specMerged_any (A0 A1 A2 : Option Addr) (l0 l1 l2 : List Pr) (c0 c1 c2 : Nat) (w : World) (h0 : l0.length ≤ maxLen) (h1 : l1.length ≤ maxLen) (h2 : l2.length ≤ maxLen) (i0 : PIn w w.heap.size A0 l0) (i1 : PIn w w.heap.size A1 l1) (i2 : PIn w w.heap.size A2 l2) :
    Calls Tryz.prog 10 #[.slice A0 l0.length c0, .slice A1 l1.length c1, .slice A2 l2.length c2] w (RetMg w.heap.size (mgL l0 l1 l2) (mgK l0 l1 l2) (mgB l0 l1 l2) w) := by
  have NO : mgB l0 l1 l2 = false → ∀ w', Below w.heap.size w w' → RetMg w.heap.size (mgL l0 l1 l2) (mgK l0 l1 l2) (mgB l0 l1 l2) w (.returned (.tuple #[.slice none 0 0, .slice none 0 0, .bool false])) w' := fun h w' q => retMg_no (mgL_no h) (mgK_no h) h q
  have NOH := hide NO
  have I0 := hide i0
  have I1 := hide i1
  have I2 := hide i2
  clear NO i0 i1 i2
  go_enter Tryz.func10, Tryz.ntmps10
  go_wp2_with fail
  refine (specMapOk_any A0 l0 c0 _ w.heap.size h0 I0.out).mono ?_
  rintro e w1 ⟨rfl, q1⟩
  have Q1 := hide q1
  clear q1
  cases hm0 : mapB l0
  · have F := hide (NOH.out (mgB_not (fun h => by rw [hm0] at h; cases h.1)))
    clear hm0
    go_wp2
    go_ret3
    exact F.out _ (Q1.out.below _)
  go_wp2_with fail
  refine (specMapOk_any A1 l1 c1 _ w.heap.size h1 (I1.out.quiet Q1.out)).mono ?_
  rintro e w2 ⟨rfl, q2⟩
  have Q2 := hide (Q1.out.trans q2)
  clear q2 Q1
  cases hm1 : mapB l1
  · have F := hide (NOH.out (mgB_not (fun h => by rw [hm1] at h; cases h.2.1)))
    clear hm0 hm1
    go_wp2
    go_ret3
    exact F.out _ (Q2.out.below _)
  go_wp2_with fail
  refine (specMapOk_any A2 l2 c2 _ w.heap.size h2 (I2.out.quiet Q2.out)).mono ?_
  rintro e w3 ⟨rfl, q3⟩
  have Q3 := hide (Q2.out.trans q3)
  clear q3 Q2
  cases hm2 : mapB l2
  · have F := hide (NOH.out (mgB_not (fun h => by rw [hm2] at h; cases h.2.2.1)))
    clear hm0 hm1 hm2
    go_wp2
    go_ret3
    exact F.out _ (Q3.out.below _)
  have n0 := (mapB_iff.1 hm0).1
  have n1 := (mapB_iff.1 hm1).1
  have n2 := (mapB_iff.1 hm2).1
  have e3 : w3.heap.size = w.heap.size := by rw [Q3.out.heap]
  go_wp2_with fail
  refine (l7Merge_any A0 A1 A2 A0 l0 l1 l2 l0 c0 c1 c2 c0 _ (by omega) (by omega) (by omega) (by omega) (by rw [e3]; exact I0.out.quiet Q3.out) (by rw [e3]; exact I1.out.quiet Q3.out) (by rw [e3]; exact I2.out.quiet Q3.out) (by rw [e3]; exact I0.out.quiet Q3.out)).mono ?_
  rw [e3]
  rintro e w4 ⟨A, cap, A', cap', hc, rfl, o4, z4, b4, ap⟩
  have O4 := hide o4
  have Z4 := hide z4
  have AP := hide ap
  have B4 := hide ((Q3.out.below w.heap.size).trans b4)
  have hlm : (merM l0 l1 l2 l0).length ≤ maxLen := by have := merM_len l0 l1 l2 l0; unfold maxLen; omega
  clear o4 z4 b4 ap e3
  go_wp2_with fail
  refine (specMapOk_any A (merM l0 l1 l2 l0) cap _ _ hlm O4.out.pin).mono ?_
  rintro e w5 ⟨rfl, q5⟩
  have q5' := q5.below w4.heap.size
  have O5 := hide (O4.out.below q5')
  have Z5 := hide (Z4.out.below q5')
  have B5 := hide (B4.out.trans (q5'.mono B4.out.size))
  clear q5 q5' O4 Z4 B4
  cases hm3 : mapB (merM l0 l1 l2 l0)
  · have F := hide (NOH.out (mgB_not (fun h => by rw [hm3] at h; cases h.2.2.2)))
    clear hm0 hm1 hm2 hm3
    generalize (merM l0 l1 l2 l0).length = n at *
    go_wp2
    go_ret3
    exact F.out _ B5.out
  have hY := mgB_iff.2 ⟨hm0, hm1, hm2, hm3⟩
  have F : Hid (RetMg w.heap.size (mgL l0 l1 l2) (mgK l0 l1 l2) (mgB l0 l1 l2) w (.returned (.tuple #[.slice A (merM l0 l1 l2 l0).length cap, .slice A' (badM l0 l1 l2).length cap', .bool true])) w5) := hide (by
    rw [mgL_yes hY, mgK_yes hY, hY]
    exact ⟨A, cap, A', cap', hc, rfl, O5.out, Z5.out, B5.out, AP.out⟩)
  clear hm0 hm1 hm2 hm3 hY O5 Z5 B5 AP NOH
  generalize (merM l0 l1 l2 l0).length = n at *
  generalize (badM l0 l1 l2).length = m at *
  go_wp2
  go_ret3
  exact F.out

theorem l1In_any (x a b : Int) (w : World) : Calls Tryz.prog 38 #[.int .i64 x, .int .i64 a, .int .i64 b] w fun e w' => e = .returned (.bool (decide (a ≤ x) && decide (x ≤ b))) ∧ w = w' := by
  by_cases h1 : a ≤ x
  · have d1 : decide (a ≤ x) = true := decide_eq_true h1
    by_cases h2 : x ≤ b
    · have d2 : decide (x ≤ b) = true := decide_eq_true h2
      go_enter Tryz.func38, Tryz.ntmps38
      go_wp2
      go_ret
      simp [h1, h2]
    · have d2 : decide (x ≤ b) = false := decide_eq_false h2
      go_enter Tryz.func38, Tryz.ntmps38
      go_wp2
      go_ret
      simp
  · have d1 : decide (a ≤ x) = false := decide_eq_false h1
    go_enter Tryz.func38, Tryz.ntmps38
    go_wp2
    go_ret
    simp

theorem in12 {side : Int} (h : side = 1 ∨ side = 2) : (decide ((1 : Int) ≤ side) && decide (side ≤ 2)) = true := by rcases h with rfl | rfl <;> rfl
theorem notIn12 {side : Int} (h : ¬ (side = 1 ∨ side = 2)) : (decide ((1 : Int) ≤ side) && decide (side ≤ 2)) = false := by
  rw [Bool.and_eq_false_iff]
  simp only [decide_eq_false_iff_not]
  omega

set_option maxRecDepth 100000 in
set_option maxHeartbeats 2000000 in
/-- behind the choice of a side -/
theorem resolvedS_tail (A0 A1 A2 A3 : Option Addr) (l0 l1 l2 l3 : List Pr) (c0 c1 c2 c3 : Nat) (side : Int) (w : World) (h : mgB l0 l1 l2 = true) (hs : side = 1 ∨ side = 2) (h3 : (A3, l3, c3) = if side = 2 then (A2, l2, c2) else (A1, l1, c1)) (i0 : PIn w w.heap.size A0 l0) (i1 : PIn w w.heap.size A1 l1) (i2 : PIn w w.heap.size A2 l2) :
    Calls Tryz.prog 18 #[.slice A0 l0.length c0, .slice A1 l1.length c1, .slice A2 l2.length c2, .int .i64 side] w (RetOwnB w.heap.size (rsL l0 l1 l2 side) (rsB l0 l1 l2 side) w) := by
  obtain ⟨hm0, hm1, hm2, _⟩ := mgB_iff.1 h
  have n0 := (mapB_iff.1 hm0).1
  have n1 := (mapB_iff.1 hm1).1
  have n2 := (mapB_iff.1 hm2).1
  have e3 : l3 = sideL l1 l2 side := by
    by_cases hh : side = 2
    · rw [if_pos hh] at h3; injection h3 with a b; injection b with b c; rw [b]; unfold sideL; rw [if_pos hh]
    · rw [if_neg hh] at h3; injection h3 with a b; injection b with b c; rw [b]; unfold sideL; rw [if_neg hh]
  have i3 : PIn w w.heap.size A3 l3 := by
    by_cases hh : side = 2
    · rw [if_pos hh] at h3; injection h3 with a b; injection b with b c; rw [a, b]; exact i2
    · rw [if_neg hh] at h3; injection h3 with a b; injection b with b c; rw [a, b]; exact i1
  have n3 : l3.length ≤ 40 := by
    by_cases hh : side = 2
    · rw [if_pos hh] at h3; injection h3 with a b; injection b with b c; rw [b]; exact n2
    · rw [if_neg hh] at h3; injection h3 with a b; injection b with b c; rw [b]; exact n1
  have hmax : (40 : Nat) ≤ maxLen := by unfold maxLen; omega
  have I0 := hide i0
  have I1 := hide i1
  have I2 := hide i2
  have I3 := hide i3
  have HG := hide h
  have HS := hide hs
  have E3 := hide e3
  clear i0 i1 i2 i3 h hm0 hm1 hm2 e3
  go_enter Tryz.func18, Tryz.ntmps18
  go_wp2_with fail
  refine (specMerged_any A0 A1 A2 l0 l1 l2 c0 c1 c2 _ (by omega) (by omega) (by omega) I0.out I1.out I2.out).mono ?_
  rintro e w1 ⟨A, cap, A', cap', hc, rfl, o1, z1, b1, ap⟩
  have B1 := hide b1
  have i3' := hide ((I3.out.below b1).more b1.size)
  have i0' := hide ((I0.out.below b1).more b1.size)
  have i1' := hide ((I1.out.below b1).more b1.size)
  have i2' := hide ((I2.out.below b1).more b1.size)
  rw [HG.out]
  clear o1 z1 b1 ap hc I0 I1 I2 I3
  generalize (mgL l0 l1 l2).length = nn at *
  generalize (mgK l0 l1 l2).length = mm at *
  go_wp2_with fail
  refine (l1In_any side 1 2 _).mono ?_
  rintro e w' ⟨rfl, rfl⟩
  rw [in12 HS.out]
  have TAIL : ∀ (w2 : World) (A : Option Addr) (cap : Nat), Own w2 w.heap.size A cap (merM l0 l1 l2 l3) → Below w.heap.size w w2 → (mapB (merM l0 l1 l2 l3) = true → RetOwnB w.heap.size (rsL l0 l1 l2 side) (rsB l0 l1 l2 side) w (.returned (.tuple #[.slice A (merM l0 l1 l2 l3).length cap, .bool true])) w2) ∧ (mapB (merM l0 l1 l2 l3) = false → RetOwnB w.heap.size (rsL l0 l1 l2 side) (rsB l0 l1 l2 side) w (.returned (.tuple #[.slice none 0 0, .bool false])) w2) := fun w2 A cap o b => ⟨fun hm => by
    have hy : rsB l0 l1 l2 side = true := rsB_iff.2 ⟨HG.out, HS.out, by rw [← E3.out]; exact hm⟩
    rw [rsL_yes hy, hy, ← E3.out]
    exact ⟨A, cap, o.cap_le, rfl, o, b⟩, fun hm => by
    have hn : rsB l0 l1 l2 side = false := rsB_not (fun x => by rw [← E3.out, hm] at x; cases x.2.2)
    exact retOwnB_no (rsL_no hn) hn b⟩
  have TL := hide TAIL
  clear TAIL
  have hlm : (merM l0 l1 l2 l3).length ≤ maxLen := by have := merM_len l0 l1 l2 l3; unfold maxLen; omega
  have MRG := hide (l7Merge_any A0 A1 A2 A3 l0 l1 l2 l3 c0 c1 c2 c3 w1 (by omega) (by omega) (by omega) (by omega) i0'.out i1'.out i2'.out i3'.out)
  clear i0' i1' i2' i3' E3 HG HS
  by_cases hh : side = 2
  · have d : (side == 2) = true := by simp [hh]
    have d' : decide (side = 2) = true := decide_eq_true hh
    rw [if_pos hh] at h3
    injection h3 with ha hb
    injection hb with hb hcc
    obtain rfl := ha.symm
    obtain rfl := hb.symm
    obtain rfl := hcc.symm
    clear hh
    go_wp2_with fail
    refine MRG.out.mono ?_
    rintro e w2 ⟨AA, capA, A', cap', hc, rfl, o2, z2, b2, ap⟩
    have B2 := hide (B1.out.trans (b2.mono B1.out.size))
    have O2 := hide (o2.more B1.out.size)
    clear o2 z2 b2 ap B1 MRG
    go_wp2_with fail
    refine (specMapOk_any AA _ capA _ _ hlm O2.out.pin).mono ?_
    rintro e w3 ⟨rfl, q3⟩
    have q3' := q3.below w2.heap.size
    have F := hide (TL.out w3 AA capA (O2.out.below q3') (B2.out.trans (q3'.mono B2.out.size)))
    clear q3 q3' O2 B2 TL
    cases hm : mapB (merM l0 l1 l2 l2)
    · have G := hide (F.out.2 hm)
      generalize (merM l0 l1 l2 l2).length = nn at *
      clear F hm
      go_wp2
      go_ret2
      exact G.out
    · have G := hide (F.out.1 hm)
      generalize (merM l0 l1 l2 l2).length = nn at *
      clear F hm
      go_wp2
      go_ret2
      exact G.out
  · have d : (side == 2) = false := by simp [hh]
    have d' : decide (side = 2) = false := decide_eq_false hh
    rw [if_neg hh] at h3
    injection h3 with ha hb
    injection hb with hb hcc
    obtain rfl := ha.symm
    obtain rfl := hb.symm
    obtain rfl := hcc.symm
    clear hh
    go_wp2_with fail
    refine MRG.out.mono ?_
    rintro e w2 ⟨AA, capA, A', cap', hc, rfl, o2, z2, b2, ap⟩
    have B2 := hide (B1.out.trans (b2.mono B1.out.size))
    have O2 := hide (o2.more B1.out.size)
    clear o2 z2 b2 ap B1 MRG
    go_wp2_with fail
    refine (specMapOk_any AA _ capA _ _ hlm O2.out.pin).mono ?_
    rintro e w3 ⟨rfl, q3⟩
    have q3' := q3.below w2.heap.size
    have F := hide (TL.out w3 AA capA (O2.out.below q3') (B2.out.trans (q3'.mono B2.out.size)))
    clear q3 q3' O2 B2 TL
    cases hm : mapB (merM l0 l1 l2 l1)
    · have G := hide (F.out.2 hm)
      generalize (merM l0 l1 l2 l1).length = nn at *
      clear F hm
      go_wp2
      go_ret2
      exact G.out
    · have G := hide (F.out.1 hm)
      generalize (merM l0 l1 l2 l1).length = nn at *
      clear F hm
      go_wp2
      go_ret2
      exact G.out

set_option maxRecDepth 100000 in
set_option maxHeartbeats 2000000 in
theorem specResolved_any (A0 A1 A2 : Option Addr) (l0 l1 l2 : List Pr) (c0 c1 c2 : Nat) (side : Int) (w : World) (h0 : l0.length ≤ maxLen) (h1 : l1.length ≤ maxLen) (h2 : l2.length ≤ maxLen) (i0 : PIn w w.heap.size A0 l0) (i1 : PIn w w.heap.size A1 l1) (i2 : PIn w w.heap.size A2 l2) :
    Calls Tryz.prog 18 #[.slice A0 l0.length c0, .slice A1 l1.length c1, .slice A2 l2.length c2, .int .i64 side] w (RetOwnB w.heap.size (rsL l0 l1 l2 side) (rsB l0 l1 l2 side) w) := by
  cases hg : mgB l0 l1 l2
  · have hn : rsB l0 l1 l2 side = false := rsB_not (fun x => by rw [hg] at x; cases x.1)
    have NO := hide (fun w' => retOwnB_no (w := w) (w' := w') (B := w.heap.size) (rsL_no hn) hn)
    have M := hide (specMerged_any A0 A1 A2 l0 l1 l2 c0 c1 c2 w h0 h1 h2 i0 i1 i2)
    rw [mgL_no hg, mgK_no hg, hg] at M
    clear i0 i1 i2 hn
    go_enter Tryz.func18, Tryz.ntmps18
    go_wp2_with fail
    refine M.out.mono ?_
    rintro e w1 ⟨A, cap, A', cap', hc, rfl, o1, z1, b1, ap⟩
    have B1 := hide b1
    clear o1 z1 b1 ap hc M hg
    go_wp2
    go_ret2
    exact NO.out _ B1.out
  · by_cases hs : side = 1 ∨ side = 2
    · by_cases hh : side = 2
      · exact resolvedS_tail A0 A1 A2 A2 l0 l1 l2 l2 c0 c1 c2 c2 side w hg hs (by rw [if_pos hh]) i0 i1 i2
      · exact resolvedS_tail A0 A1 A2 A1 l0 l1 l2 l1 c0 c1 c2 c1 side w hg hs (by rw [if_neg hh]) i0 i1 i2
    · have hn : rsB l0 l1 l2 side = false := rsB_not (fun x => hs x.2.1)
      have NO := hide (fun w' => retOwnB_no (w := w) (w' := w') (B := w.heap.size) (rsL_no hn) hn)
      have M := hide (specMerged_any A0 A1 A2 l0 l1 l2 c0 c1 c2 w h0 h1 h2 i0 i1 i2)
      rw [hg] at M
      have d := hide (notIn12 hs)
      clear i0 i1 i2 hn
      generalize (mgL l0 l1 l2) = nn at *
      generalize (mgK l0 l1 l2) = mm at *
      go_enter Tryz.func18, Tryz.ntmps18
      go_wp2_with fail
      refine M.out.mono ?_
      rintro e w1 ⟨A, cap, A', cap', hc, rfl, o1, z1, b1, ap⟩
      have B1 := hide b1
      clear o1 z1 b1 ap hc M hg hs
      go_wp2_with fail
      refine (l1In_any side 1 2 _).mono ?_
      rintro e w' ⟨rfl, rfl⟩
      rw [d.out]
      go_wp2
      go_ret2
      exact NO.out _ B1.out
end Go.Proofs.YtaofemdhgfejjaaGreatDoor
