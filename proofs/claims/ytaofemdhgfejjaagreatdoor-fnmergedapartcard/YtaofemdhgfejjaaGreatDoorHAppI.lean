/-
  What impl.Applied answers.
-/
import Derived.Test.YtaofemdhgfejjaaGreatDoorHFit
import Derived.Test.YtaofemdhgfejjaaGreatDoorHEdd
import Derived.Test.YtaofemdhgfejjaaGreatDoorHClone
namespace Go.Proofs.YtaofemdhgfejjaaGreatDoor
open Go.RowKit

set_option maxRecDepth 100000 in
set_option maxHeartbeats 16000000 in
theorem implApplied_any (A : Option Addr) (m : List Pr) (cap : Nat) (A' : Option Addr) (l : List Ch) (cap' : Nat) (w : World) (hm : m.length ≤ maxLen) (hl : l.length ≤ 1048576) (hin : PIn w w.heap.size A m) (hin' : HIn w w.heap.size A' l) :
    Calls Tryz.prog 21 #[.slice A m.length cap, .slice A' l.length cap'] w (RetOwnB w.heap.size (appL m l) (appB m l) w) := by
  have hlm : l.length ≤ maxLen := by unfold maxLen; omega
  cases hmB : mapB m
  · have Z := hide (appB_map (l := l) hmB)
    go_enter Tryz.func21, Tryz.ntmps21
    go_wp2_with fail
    refine (implMapOk_any A m cap _ hm hin).mono ?_
    rintro e w1 ⟨rfl, b1⟩
    rw [hmB]
    go_wp2
    go_ret2
    exact retOwnB_no (appL_no Z.out) Z.out b1
  cases hrB : risesB (cp l)
  · have Z := hide (appB_cp (m := m) hrB)
    go_enter Tryz.func21, Tryz.ntmps21
    go_wp2_with fail
    refine (implMapOk_any A m cap _ hm hin).mono ?_
    rintro e w1 ⟨rfl, b1⟩
    rw [hmB]
    go_wp2_with fail
    refine (risesC_any A' l cap' _ hlm ((hin'.below b1).more b1.size)).mono ?_
    rintro e w2 ⟨rfl, b2⟩
    rw [hrB]
    have B2 := hide (b1.trans (b2.mono b1.size))
    clear b1 b2
    go_wp2
    go_ret2
    exact retOwnB_no (appL_no Z.out) Z.out B2.out
  · have h40 := (mapB_iff.1 hmB).1
    have RM := hide (mapB_ris hmB)
    have HM := hide hmB
    have HR := hide (risesB_iff.1 hrB)
    have HMR := hide (mapB_iff.1 hmB).2.2
    have IN := hide hin
    have INL := hide hin'
    have E0 : Hid (m = appM m (l.take 0)) := hide (by simp [appM])
    go_enter Tryz.func21, Tryz.ntmps21
    go_wp2_with fail
    refine (implMapOk_any A m cap _ hm hin).mono ?_
    rintro e w1 ⟨rfl, b1⟩
    rw [hmB]
    go_wp2_with fail
    refine (risesC_any A' l cap' _ hlm ((hin'.below b1).more b1.size)).mono ?_
    rintro e w2 ⟨rfl, b2⟩
    rw [hrB]
    have B2 := hide (b1.trans (b2.mono b1.size))
    clear b1 b2 hin hin' hmB hrB
    go_wp2_with fail
    refine (clone_any A m cap _ (by omega) ((IN.out.below B2.out).more B2.out.size)).mono ?_
    rintro e w3 ⟨A3, cap3, hc3, rfl, own3, b3⟩
    have B3 := hide (B2.out.trans (b3.mono B2.out.size))
    have O3 := hide (own3.more B2.out.size)
    clear b3 own3 B2
    go_wp2
    generalize hnn : l.length = nn at hl ⊢
    have HN := hide hnn
    clear hnn hlm
    go_loopw [6, 21] (fun ov iv wr => ∃ (k : Nat) (A3 : Option Addr) (cap3 : Nat) (N : List Pr), k ≤ nn ∧ iv = .int .i64 k ∧ ov = .slice A3 N.length cap3 ∧ N.length ≤ 81 ∧ Hid (N = appM m (l.take k)) ∧ Hid (∀ i (h : i < l.length), i < k → fitB m l[i] = true) ∧ Hid (Own wr w.heap.size A3 cap3 N) ∧ Hid (Below w.heap.size w wr)) (fun _ i _ => nn - (intOf i).toNat)
    case atStart => exact ⟨0, A3, cap3, m, Nat.zero_le _, rfl, rfl, by omega, E0, hide (fun i _ h => absurd h (by omega)), O3, B3⟩
    case round =>
      clear O3 B3 E0 hc3
      obtain ⟨k, A4, cap4, N, hk, rfl, rfl, hNL, HNE, H, O, Q⟩ := hrel
      have hqs := Q.out.size
      by_cases hlt : k < nn
      · have hkl : k < l.length := by rw [HN.out]; omega
        have hin2 := INL.out.below Q.out
        obtain ⟨b, off, rfl, hbB, hc⟩ := hin2.2 (by omega)
        obtain ⟨c1, c2, c3, c4, c5⟩ := hc k hkl
        obtain ⟨s1, _, s3⟩ := hin2.1 k hkl
        have RN : Hid (Ris N) := hide (by rw [HNE.out]; exact ris_app _ RM.out)
        have F0 := hide (fun h => appB_fit0 HM.out HR.out hkl h)
        have LK : Hid (lk N (l[k]'hkl).1 = lk m (l[k]'hkl).1) := hide (by rw [HNE.out]; exact lk_take RM.out HR.out hkl)
        have FS : Hid (fitB m (l[k]'hkl) = true → ∀ i (h : i < l.length), i < k + 1 → fitB m l[i] = true) := hide (fun h i hi hik => by
          rcases Nat.lt_or_ge i k with g | g
          · exact H.out i hi g
          · obtain rfl : i = k := by omega
            exact h)
        have FL : Hid (80 < N.length → appB m l = false) := hide (fun h => appB_long (k := k) (by omega) (by rw [← HNE.out]; exact h))
        have ES := hide (appM_succ m l k hkl)
        rw [← HNE.out] at ES
        have hki : (k : Int) < (nn : Int) := by omega
        clear hc hin2 H
        generalize (l[k]'hkl) = c at *
        obtain ⟨x, o, n, p, q⟩ := c
        simp only at c1 c2 c3 c4 c5 s1 s3
        have bx : Hid (Below w.heap.size wr (wr.alloc (.cells #[.string x, .string o, .string n, .bool p, .bool q] 45))) := hide ((Below.refl _ _).alloc hqs _)
        have bb : Hid (Below wr.heap.size wr (wr.alloc (.cells #[.string x, .string o, .string n, .bool p, .bool q] 45))) := hide ((Below.refl _ _).alloc (Nat.le_refl _) _)
        have hbw : wr.heap.size < (wr.alloc (.cells #[.string x, .string o, .string n, .bool p, .bool q] 45)).heap.size := by simp
        have y1 : (wr.alloc (.cells #[.string x, .string o, .string n, .bool p, .bool q] 45)).cell? ⟨wr.heap.size, 0, none⟩ = some (.string x) := by simp [go_sem]
        have y2 : (wr.alloc (.cells #[.string x, .string o, .string n, .bool p, .bool q] 45)).cell? ⟨wr.heap.size, 1, none⟩ = some (.string o) := by simp [go_sem]
        have y3 : (wr.alloc (.cells #[.string x, .string o, .string n, .bool p, .bool q] 45)).cell? ⟨wr.heap.size, 2, none⟩ = some (.string n) := by simp [go_sem]
        have y4 : (wr.alloc (.cells #[.string x, .string o, .string n, .bool p, .bool q] 45)).cell? ⟨wr.heap.size, 3, none⟩ = some (.bool p) := by simp [go_sem]
        have y5 : (wr.alloc (.cells #[.string x, .string o, .string n, .bool p, .bool q] 45)).cell? ⟨wr.heap.size, 4, none⟩ = some (.bool q) := by simp [go_sem]
        have O1 := hide (O.out.alloc (.cells #[.string x, .string o, .string n, .bool p, .bool q] 45))
        have Q1 := hide (Q.out.trans bx.out)
        go_wp2_with fail
        generalize wr.alloc (.cells #[.string x, .string o, .string n, .bool p, .bool q] 45) = W1 at *
        refine (fits_any A m cap x o n p q _ (by omega) ((IN.out.below Q1.out).more Q1.out.size) HMR.out s1 s3).mono ?_
        rintro e w2 ⟨rfl, b2⟩
        have z1 : w2.cell? ⟨wr.heap.size, 0, none⟩ = some (.string x) := cellB b2 hbw y1
        have z2 : w2.cell? ⟨wr.heap.size, 1, none⟩ = some (.string o) := cellB b2 hbw y2
        have z3 : w2.cell? ⟨wr.heap.size, 2, none⟩ = some (.string n) := cellB b2 hbw y3
        have z4 : w2.cell? ⟨wr.heap.size, 3, none⟩ = some (.bool p) := cellB b2 hbw y4
        have z5 : w2.cell? ⟨wr.heap.size, 4, none⟩ = some (.bool q) := cellB b2 hbw y5
        have Q2 := hide (Q1.out.trans (b2.mono Q1.out.size))
        have O2 := hide (O1.out.below b2)
        clear b2 y1 y2 y3 y4 y5 c1 c2 c3 c4 c5 O O1 Q Q1 bx bb hbw
        cases hF : fitB m (x, o, n, p, q)
        · have Z : Hid (appB m l = false) := hide (F0.out hF)
          clear O2 F0 FS FL ES
          go_wp2
          go_ret2
          exact retOwnB_no (appL_no Z.out) Z.out Q2.out
        · by_cases hlong : 80 < N.length
          · have Z : Hid (appB m l = false) := hide (FL.out hlong)
            have dl : decide ((80 : Int) < (N.length : Int)) = true := decide_eq_true (by omega)
            clear O2 F0 FS FL ES
            go_wp2
            go_ret2
            exact retOwnB_no (appL_no Z.out) Z.out Q2.out
          · have dl : decide ((80 : Int) < (N.length : Int)) = false := decide_eq_false (by omega)
            have FN := hide (FS.out hF)
            have HP : Hid (hasB N x = p) := hide ((lk_eq.1 LK.out).1.trans (fitB_iff.1 hF).2.2.1)
            have hlen : (stepM N (x, o, n, p, q)).length ≤ 81 := by
              unfold stepM
              split
              · have := setL_len N x n; simp only; omega
              · have := delL_len N x; simp only; omega
            clear F0 FS FL LK
            go_wp2_with fail
            refine (editOf_any x o n p q _).mono ?_
            rintro e w3 ⟨rfl, b3⟩
            have Q3 := hide (Q2.out.trans (b3.mono Q2.out.size))
            have O3 := hide (O2.out.below b3)
            clear b3 Q2 O2 z1 z2 z3 z4 z5
            go_wp2_with fail
            refine (edited_any A4 N cap4 x o n p q _ w.heap.size (by omega) O3.out Q3.out.size (ris_iff.2 RN.out) s1 s3 (fun _ => HP.out)).mono ?_
            rintro e w4 ⟨A5, cap5, hc5, rfl, own5, b4⟩
            have Q4 := hide (Q3.out.trans b4)
            have O4 := hide own5
            clear own5 b4 Q3 O3
            go_wp2
            exact ⟨⟨k + 1, A5, cap5, stepM N (x, o, n, p, q), by omega, by go_num, rfl, hlen, hide ES.out.symm, FN, O4, Q4⟩, by simp [intOf]; omega⟩
      · obtain rfl : k = nn := by omega
        have E : Hid (N = appM m l) := hide (by rw [HNE.out, ← HN.out, List.take_length])
        have AA : Hid (∀ i (h : i < l.length), fitB m l[i] = true) := hide (fun i hi => H.out i hi (by rw [HN.out] at hi; exact hi))
        have hkk : ¬ (k : Int) < (k : Int) := by omega
        have hNm : N.length ≤ maxLen := by unfold maxLen; omega
        cases he : mapB N
        · have Z : Hid (appB m l = false) := hide (appB_end (by rw [← E.out]; exact he))
          go_wp2_with fail
          refine (implMapOk_any A4 N cap4 _ hNm O.out.pin).mono ?_
          rintro e w5 ⟨rfl, b5⟩
          rw [he]
          have Q5 := hide (Q.out.trans (b5.mono hqs))
          clear b5
          go_wp2
          go_ret2
          exact retOwnB_no (appL_no Z.out) Z.out Q5.out
        · have Z : Hid (appB m l = true) := hide (appB_all HM.out HR.out AA.out (by rw [← E.out]; exact he))
          go_wp2_with fail
          refine (implMapOk_any A4 N cap4 _ hNm O.out.pin).mono ?_
          rintro e w5 ⟨rfl, b5⟩
          rw [he]
          have Q5 := hide (Q.out.trans (b5.mono hqs))
          have O5 := hide (O.out.below b5)
          have hc5 := O.out.cap_le
          clear b5 O
          go_wp2
          go_ret2
          refine ⟨A4, cap4, ?_, ?_, ?_, Q5.out⟩
          · rw [appL_yes Z.out, ← E.out]; exact hc5
          · rw [appL_yes Z.out, Z.out, ← E.out]; rfl
          · rw [appL_yes Z.out, ← E.out]; exact O5.out
end Go.Proofs.YtaofemdhgfejjaaGreatDoor
