/-
  What spec.CommitOk answers.
-/
import Derived.Test.YtkhkcdmmagicmaaDoorCCom
namespace Go.Proofs.YtkhkcdmmagicmaaDoor
open Go.RowKit

theorem comB_par {t m : ByteArray} {l : List ByteArray} (h : parB l = false) : comB t l m = false := by unfold comB; rw [h]; simp
theorem comB_yes {t m : ByteArray} {l : List ByteArray} (h : parB l = true) : comB t l m = (QI.idB t && plainB m 40) := by unfold comB; rw [h]; simp
/-- the box of three cells -/
theorem box3 (w : World) (a b c : Value) (T : TypeId) : (w.alloc (.cells #[a, b, c] T)).cell? ⟨w.heap.size, 0, none⟩ = some a ∧ (w.alloc (.cells #[a, b, c] T)).cell? ⟨w.heap.size, 1, none⟩ = some b ∧ (w.alloc (.cells #[a, b, c] T)).cell? ⟨w.heap.size, 2, none⟩ = some c := by
  have h : (w.alloc (.cells #[a, b, c] T)).heap[w.heap.size]? = some (.cells #[a, b, c] T) := by
    show (w.heap.push (.cells #[a, b, c] T))[w.heap.size]? = _
    simp
  refine ⟨?_, ?_, ?_⟩ <;> (unfold World.cell?; rw [h]; rfl)

set_option maxRecDepth 100000 in
set_option maxHeartbeats 1000000 in
theorem specCommitOk_any (t m : ByteArray) (A : Option Addr) (l : List ByteArray) (cap : Nat) (w : World) (ht : t.size ≤ maxLen) (hm : m.size ≤ maxLen) (hl : l.length ≤ maxLen) (hin : SIn w w.heap.size A l) :
    Calls Tryd.prog 72 #[.agg #[.string t, .slice A l.length cap, .string m]] w fun e w' => e = .returned (.bool (comB t l m)) ∧ Below w.heap.size w w' := by
  have B1 : Hid (Below w.heap.size w (w.alloc (.cells #[.string t, .slice A l.length cap, .string m] 45))) := hide ((Below.refl _ w).alloc (Nat.le_refl _) _)
  have IN0 := hide (hin.below B1.out)
  have X := hide (box3 w (.string t) (.slice A l.length cap) (.string m) 45)
  unfold maxLen at hl
  clear hin
  generalize hn : l.length = n at *
  have HN := hide hn
  clear hn
  go_enter Tryd.func72, Tryd.ntmps72
  go_wp2
  go_loopw [3] (fun iv wr => ∃ k : Nat, k ≤ n ∧ iv = .int .i64 k ∧ Hid (parTo l k) ∧ Hid (Quiet (w.alloc (.cells #[.string t, .slice A n cap, .string m] 45)) wr)) (fun i _ => n - (intOf i).toNat)
  case atStart => exact ⟨0, Nat.zero_le _, rfl, parTo_zero l, Quiet.refl _⟩
  case round =>
    obtain ⟨k, hk, rfl, H, Q⟩ := hrel
    have IN := hide (IN0.out.below (Q.out.below _))
    have x0 := (Q.out.cell ⟨w.heap.size, 0, none⟩).trans X.out.1
    have x1 := (Q.out.cell ⟨w.heap.size, 1, none⟩).trans X.out.2.1
    have x2 := (Q.out.cell ⟨w.heap.size, 2, none⟩).trans X.out.2.2
    have BB := hide (B1.out.trans (Q.out.below _))
    clear IN0 X B1
    by_cases hlt : k < n
    · have hkl : k < l.length := by rw [HN.out]; omega
      obtain ⟨b, off, rfl, _, hc⟩ := IN.out.2 (by omega)
      have c1 := hc k hkl
      have s1 := hide (IN.out.1 k hkl)
      cases hid : QI.idB l[k]
      · have Z := hide (comB_par (t := t) (m := m) (parB_id hkl hid))
        have I1 := hide (fun W => QI.specIdOk_any l[k] W s1.out)
        rw [hid] at I1
        generalize l[k] = s at *
        clear hc
        go_wp2
        go_quiet ((go_at_call 96; exact quiet_same (I1.out _)))
        go_wp2
        go_ret
        exact ⟨ret_bool Z.out.symm, BB.out.trans ((Quiet.refl _).drewN _ |>.below _)⟩
      · have I1 := hide (fun W => QI.specIdOk_any l[k] W s1.out)
        rw [hid] at I1
        by_cases h0 : 0 < k
        · have c3 := hc (k - 1) (by omega)
          have q1 : IntKind.i64.wrap ((k : Int) - 1) = (k : Int) - 1 := IntWalk.i64_in _ (by omega)
          have q2 : (0 : Int) ≤ (k : Int) - 1 := by omega
          have q3 : (1 : Int) ≤ (k : Int) := by omega
          have q4 : ((k : Int) - 1).toNat = k - 1 := by omega
          have q5 : (k : Int) - 1 < (n : Int) := by omega
          have q6 : decide (0 < k) = true := decide_eq_true h0
          cases hrise : ltB (l[k - 1]'(by omega)) l[k]
          · have Z := hide (comB_par (t := t) (m := m) (parB_rise (l := l) (k := k - 1) (by omega) (by simpa [show k - 1 + 1 = k by omega] using hrise)))
            have hrise2 : Op.bytesLess (l[k - 1]'(by omega)).toList l[k].toList = false := hrise
            generalize l[k] = s at *
            generalize (l[k - 1]'(by omega)) = s0 at *
            clear hc hrise
            go_wp2
            go_quiet ((go_at_call 96; exact quiet_same (I1.out _)))
            clear q1 q4
            go_wp2
            go_ret
            exact ⟨ret_bool Z.out.symm, BB.out.trans ((Quiet.refl _).drewN _ |>.below _)⟩
          · have Z := hide (parTo_succ hkl H.out hid (fun _ => hrise))
            have hrise2 : Op.bytesLess (l[k - 1]'(by omega)).toList l[k].toList = true := hrise
            generalize l[k] = s at *
            generalize (l[k - 1]'(by omega)) = s0 at *
            clear hc hrise
            go_wp2
            go_quiet ((go_at_call 96; exact quiet_same (I1.out _)))
            clear q1 q4
            go_wp2
            go_roundw
            case rel => exact ⟨k + 1, by omega, by go_num, Z, Q.out.drewN _⟩
            case measure => simp [intOf]; omega
        · have Z := hide (parTo_succ hkl H.out hid (fun h => absurd h h0))
          have q6 : decide (0 < k) = false := decide_eq_false h0
          generalize l[k] = s at *
          clear hc
          go_wp2
          go_quiet ((go_at_call 96; exact quiet_same (I1.out _)))
          go_wp2
          go_roundw
          case rel => exact ⟨k + 1, by omega, by go_num, Z, Q.out.drewN _⟩
          case measure => simp [intOf]; omega
    · have ek : Hid (k = n) := hide (by omega)
      have hgt : ¬ ((k : Int) < (n : Int)) := by omega
      have I1 := hide (fun W => QI.specIdOk_any t W ht)
      have N1 := hide (fun W => l1Plain_any m 40 W hm)
      by_cases h2 : n ≤ 2
      · have Z : Hid (comB t l m = (QI.idB t && plainB m 40)) := hide (comB_yes (parB_yes (by rw [HN.out]; exact h2) (by rw [HN.out, ← ek.out]; exact H.out)))
        have d : decide ((n : Int) ≤ 2) = true := decide_eq_true (by omega)
        generalize QI.idB t = b1 at *
        generalize plainB m 40 = b3 at *
        clear hlt h2
        cases b1 <;>
        · simp only [Bool.true_and, Bool.false_and] at Z
          go_wp2_with (first
            | (go_at_call 96; refine (I1.out _).mono ?_; rintro e w' ⟨rfl, rfl⟩)
            | (go_at_call 86; refine (N1.out _).mono ?_; rintro e w' ⟨rfl, rfl⟩))
          go_ret
          exact ⟨ret_bool Z.out.symm, BB.out⟩
      · have Z : Hid (comB t l m = false) := hide (comB_par (parB_len (by rw [HN.out]; omega)))
        have d : decide ((n : Int) ≤ 2) = false := decide_eq_false (by omega)
        generalize QI.idB t = b1 at *
        clear hlt h2
        cases b1 <;>
        · go_wp2_with (go_at_call 96; refine (I1.out _).mono ?_; rintro e w' ⟨rfl, rfl⟩)
          go_ret
          exact ⟨ret_bool Z.out.symm, BB.out⟩
end Go.Proofs.YtkhkcdmmagicmaaDoor
