/-
  Commits: right or not; what spec.CommitOk, impl.parentsOk, impl.CommitOk answer, and the laws' own helpers szCommit, toCommit, eqCommit.
-/
import Derived.Test.YtkhkcdmmagicmaaDoorCStr
import Derived.Test.YtkhkcdmmagicmaaDoorPStr
import Derived.Test.YtkhkcdmmagicmaaDoorQIdOk
namespace Go.Proofs.YtkhkcdmmagicmaaDoor
open Go.RowKit

/-- the first k parents are ids, and rise -/
def parTo (l : List ByteArray) (k : Nat) : Prop := (∀ i (h : i < l.length), i < k → QI.idB l[i] = true) ∧ ∀ i (h : i + 1 < l.length), i + 1 < k → ltB l[i] l[i + 1] = true
theorem parTo_zero (l : List ByteArray) : parTo l 0 := ⟨fun _ _ h => absurd h (by omega), fun _ _ h => absurd h (by omega)⟩
theorem parTo_succ {l : List ByteArray} {k : Nat} (hk : k < l.length) (h : parTo l k) (h1 : QI.idB l[k] = true) (h3 : ∀ (hp : 0 < k), ltB (l[k - 1]'(by omega)) l[k] = true) : parTo l (k + 1) := by
  refine ⟨fun i hi hik => ?_, fun i hi hik => ?_⟩
  · rcases Nat.lt_or_ge i k with g | g
    · exact h.1 i hi g
    · obtain rfl : i = k := by omega
      exact h1
  · rcases Nat.lt_or_ge (i + 1) k with g | g
    · exact h.2 i hi g
    · obtain rfl : k = i + 1 := by omega
      simpa using h3 (by omega)
open Classical in
noncomputable def parB (l : List ByteArray) : Bool := decide (l.length ≤ 2 ∧ parTo l l.length)
open Classical in
theorem parB_iff {l : List ByteArray} : parB l = true ↔ l.length ≤ 2 ∧ parTo l l.length := by unfold parB; exact decide_eq_true_iff
theorem parB_yes {l : List ByteArray} (h : l.length ≤ 2) (k : parTo l l.length) : parB l = true := parB_iff.2 ⟨h, k⟩
theorem parB_len {l : List ByteArray} (h : 2 < l.length) : parB l = false := by
  cases e : parB l
  · rfl
  · have := (parB_iff.1 e).1; omega
theorem parB_id {l : List ByteArray} {k : Nat} (hk : k < l.length) (h : QI.idB l[k] = false) : parB l = false := by
  cases e : parB l
  · rfl
  · have := (parB_iff.1 e).2.1 k hk hk; rw [h] at this; cases this
theorem parB_rise {l : List ByteArray} {k : Nat} (hk : k + 1 < l.length) (h : ltB l[k] l[k + 1] = false) : parB l = false := by
  cases e : parB l
  · rfl
  · have := (parB_iff.1 e).2.2 k hk hk; rw [h] at this; cases this
/-- a right commit -/
noncomputable def comB (t : ByteArray) (l : List ByteArray) (m : ByteArray) : Bool := QI.idB t && parB l && plainB m 40

set_option maxRecDepth 100000 in
set_option maxHeartbeats 1000000 in
theorem parentsOk_any (A : Option Addr) (l : List ByteArray) (cap : Nat) (w : World) (B : Nat) (hl : l.length ≤ maxLen) (hin : SIn w B A l) :
    Calls Tryd.prog 109 #[.slice A l.length cap] w fun e w' => e = .returned (.bool (parB l)) ∧ w = w' := by
  unfold maxLen at hl
  have IN := hide hin
  clear hin
  generalize hn : l.length = n at *
  have HN := hide hn
  clear hn
  by_cases h2 : n ≤ 2
  · have c2 : ¬ ((2 : Int) < (n : Int)) := by omega
    go_enter Tryd.func109, Tryd.ntmps109
    go_wp2
    go_loop [10] (fun iv => ∃ k : Nat, k ≤ n ∧ iv = .int .i64 k ∧ Hid (parTo l k)) (fun i => n - (intOf i).toNat)
    case atStart => exact ⟨0, Nat.zero_le _, rfl, parTo_zero l⟩
    case round =>
      obtain ⟨k, hk, rfl, H⟩ := hrel
      by_cases hlt : k < n
      · have hkl : k < l.length := by rw [HN.out]; omega
        obtain ⟨b, off, rfl, _, hc⟩ := IN.out.2 (by omega)
        have c1 := hc k hkl
        have s1 := hide (IN.out.1 k hkl)
        cases hid : QI.idB l[k]
        · have Z := hide (parB_id hkl hid)
          have I1 := hide (QI.implIdOk_any l[k] w s1.out)
          rw [hid] at I1
          generalize l[k] = s at *
          clear hc
          go_wp2_with (go_at_call 108; refine I1.out.mono ?_; rintro e w' ⟨rfl, rfl⟩)
          go_ret
          exact ⟨ret_bool Z.out.symm, rfl⟩
        · have I1 := hide (QI.implIdOk_any l[k] w s1.out)
          rw [hid] at I1
          by_cases h0 : 0 < k
          · have c3 := hc (k - 1) (by omega)
            have q1 : IntKind.i64.wrap ((k : Int) - 1) = (k : Int) - 1 := IntWalk.i64_in _ (by omega)
            have q4 : ((k : Int) - 1).toNat = k - 1 := by omega
            have q6 : (0 : Int) < (k : Int) := by omega
            cases hrise : ltB (l[k - 1]'(by omega)) l[k]
            · have Z := hide (parB_rise (l := l) (k := k - 1) (by omega) (by simpa [show k - 1 + 1 = k by omega] using hrise))
              have hrise2 : Op.bytesLess (l[k - 1]'(by omega)).toList l[k].toList = false := hrise
              generalize l[k] = s at *
              generalize (l[k - 1]'(by omega)) = s0 at *
              clear hc
              go_wp2_with (go_at_call 108; refine I1.out.mono ?_; rintro e w' ⟨rfl, rfl⟩)
              go_ret
              exact ⟨ret_bool Z.out.symm, rfl⟩
            · have Z := hide (parTo_succ hkl H.out hid (fun _ => hrise))
              have hrise2 : Op.bytesLess (l[k - 1]'(by omega)).toList l[k].toList = true := hrise
              generalize l[k] = s at *
              generalize (l[k - 1]'(by omega)) = s0 at *
              clear hc
              go_wp2_with (go_at_call 108; refine I1.out.mono ?_; rintro e w' ⟨rfl, rfl⟩)
              go_round
              case rel => exact ⟨k + 1, by omega, by go_num, Z⟩
              case measure => simp [intOf]; omega
          · have Z := hide (parTo_succ hkl H.out hid (fun h => absurd h h0))
            have q6 : ¬ ((0 : Int) < (k : Int)) := by omega
            generalize l[k] = s at *
            clear hc
            go_wp2_with (go_at_call 108; refine I1.out.mono ?_; rintro e w' ⟨rfl, rfl⟩)
            go_round
            case rel => exact ⟨k + 1, by omega, by go_num, Z⟩
            case measure => simp [intOf]; omega
      · have ek : Hid (k = n) := hide (by omega)
        have Z : Hid (parB l = true) := hide (parB_yes (by rw [HN.out]; exact h2) (by rw [HN.out, ← ek.out]; exact H.out))
        have hgt : ¬ ((k : Int) < (n : Int)) := by omega
        clear hlt
        go_wp2
        go_ret
        exact ⟨ret_bool Z.out.symm, rfl⟩
  · have Z : Hid (parB l = false) := hide (parB_len (by rw [HN.out]; omega))
    have c2 : (2 : Int) < (n : Int) := by omega
    go_enter Tryd.func109, Tryd.ntmps109
    go_wp2
    go_ret
    exact ⟨ret_bool Z.out.symm, rfl⟩

theorem noteOk_any (s : ByteArray) (w : World) (hs : s.size ≤ maxLen) :
    Calls Tryd.prog 110 #[.string s] w fun e w' => e = .returned (.bool (plainB s 40)) ∧ w = w' := by
  go_enter Tryd.func110, Tryd.ntmps110
  go_wp2_with (go_at_call 114; refine (printable_any s 40 _ hs).mono ?_; rintro e w' ⟨rfl, rfl⟩)
  go_ret
  exact ⟨rfl, rfl⟩
set_option maxRecDepth 100000 in
set_option maxHeartbeats 1000000 in
theorem implCommitOk_any (t m : ByteArray) (A : Option Addr) (l : List ByteArray) (cap : Nat) (w : World) (ht : t.size ≤ maxLen) (hm : m.size ≤ maxLen) (hl : l.length ≤ maxLen) (hin : SIn w w.heap.size A l) :
    Calls Tryd.prog 90 #[.agg #[.string t, .slice A l.length cap, .string m]] w fun e w' => e = .returned (.bool (comB t l m)) ∧ Below w.heap.size w w' := by
  have B1 : Hid (Below w.heap.size w (w.alloc (.cells #[.string t, .slice A l.length cap, .string m] 45))) := hide ((Below.refl _ w).alloc (Nat.le_refl _) _)
  have I1 := hide (fun W => QI.implIdOk_any t W ht)
  have P1 := hide (fun W => parentsOk_any A l cap W w.heap.size hl)
  have N1 := hide (fun W => noteOk_any m W hm)
  have IN := hide (hin.below B1.out)
  have E : Hid (comB t l m = (QI.idB t && parB l && plainB m 40)) := hide rfl
  clear hin ht hm hl
  generalize l.length = n at *
  generalize QI.idB t = b1 at *
  generalize parB l = b2 at *
  generalize plainB m 40 = b3 at *
  cases b1
  · have E1 : Hid (comB t l m = false) := hide (by rw [E.out]; rfl)
    go_enter Tryd.func90, Tryd.ntmps90
    go_wp2_with (go_at_call 108; refine (I1.out _).mono ?_; rintro e w' ⟨rfl, rfl⟩)
    go_ret
    exact ⟨ret_bool E1.out.symm, B1.out⟩
  · cases b2
    · have E1 : Hid (comB t l m = false) := hide (by rw [E.out]; rfl)
      go_enter Tryd.func90, Tryd.ntmps90
      go_wp2_with (first
        | (go_at_call 108; refine (I1.out _).mono ?_; rintro e w' ⟨rfl, rfl⟩)
        | (go_at_call 109; refine (P1.out _ IN.out).mono ?_; rintro e w' ⟨rfl, rfl⟩))
      go_ret
      exact ⟨ret_bool E1.out.symm, B1.out⟩
    · have E1 : Hid (comB t l m = b3) := hide (by rw [E.out]; rfl)
      go_enter Tryd.func90, Tryd.ntmps90
      go_wp2_with (first
        | (go_at_call 108; refine (I1.out _).mono ?_; rintro e w' ⟨rfl, rfl⟩)
        | (go_at_call 109; refine (P1.out _ IN.out).mono ?_; rintro e w' ⟨rfl, rfl⟩)
        | (go_at_call 110; refine (N1.out _).mono ?_; rintro e w' ⟨rfl, rfl⟩))
      go_ret
      exact ⟨ret_bool E1.out.symm, B1.out⟩
end Go.Proofs.YtkhkcdmmagicmaaDoor
