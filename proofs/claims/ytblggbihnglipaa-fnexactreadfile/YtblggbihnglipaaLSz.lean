/-
  What the laws' own szPairS tells of each text's size.
-/
import Derived.Test.YtblggbihnglipaaLPair
namespace Go.Proofs.Ytblggbihnglipaa
open Go.RowKit

set_option maxHeartbeats 1000000 in
theorem szPair_each (a b : ByteArray) (left : Int) (w : World) (ha : a.size ≤ maxLen) (hb : b.size ≤ maxLen) (h0 : 0 ≤ left) (h1 : left ≤ 1048576) :
    Calls Try.prog 75 #[.agg #[.string a, .string b], .int .i64 left] w fun e w' => (e = .returned (.int .i64 (-1)) ∨ ∃ r : Int, 0 ≤ r ∧ r + a.size + b.size ≤ left ∧ e = .returned (.int .i64 r)) ∧ Below w.heap.size w w' := by
  unfold maxLen at ha hb
  by_cases c1 : left - a.size < 0
  · go_enter Try.func75, Try.ntmps75
    go_wp2
    go_ret
    exact ⟨.inl rfl, (Below.refl _ _).alloc (Nat.le_refl _) _⟩
  · by_cases c2 : left - a.size - b.size < 0
    · go_enter Try.func75, Try.ntmps75
      go_wp2
      go_ret
      exact ⟨.inl rfl, (Below.refl _ _).alloc (Nat.le_refl _) _⟩
    · go_enter Try.func75, Try.ntmps75
      go_wp2
      go_ret
      exact ⟨.inr ⟨left - a.size - b.size, by omega, by omega, rfl⟩, (Below.refl _ _).alloc (Nat.le_refl _) _⟩
/-- each text is short enough -/
def eachSz (l : List Pr) (k : Nat) : Prop := ∀ i (h : i < l.length), i < k → l[i].2.size ≤ 1048576
theorem eachSz_succ {l : List Pr} {k : Nat} (hk : k < l.length) (h : eachSz l k) (h1 : l[k].2.size ≤ 1048576) : eachSz l (k + 1) := by
  intro i hi hik
  by_cases e : i = k
  · subst e; exact h1
  · exact h i hi (by omega)
set_option maxRecDepth 100000 in
set_option maxHeartbeats 1000000 in
theorem szPairS_each (A : Option Addr) (l : List Pr) (cap : Nat) (left : Int) (w : World) (hl : l.length ≤ maxLen) (hin : PIn w w.heap.size A l) (h0 : 0 ≤ left) (h1 : left ≤ 1048576) :
    Calls Try.prog 39 #[.slice A l.length cap, .int .i64 left] w fun e w' => (e = .returned (.int .i64 (-1)) ∨ ∃ r : Int, 0 ≤ r ∧ r + l.length ≤ left ∧ eachSz l l.length ∧ e = .returned (.int .i64 r)) ∧ Below w.heap.size w w' := by
  unfold maxLen at hl
  generalize hn : l.length = n at *
  have HN := hide hn
  clear hn
  by_cases c1 : left - n < 0
  · go_enter Try.func39, Try.ntmps39
    go_wp2
    go_ret
    exact ⟨.inl rfl, Below.refl _ _⟩
  · go_enter Try.func39, Try.ntmps39
    go_wp2
    go_loopw [1, 5] (fun r i wr => ∃ (k : Nat) (q : Int), k ≤ n ∧ i = .int .i64 k ∧ r = .int .i64 q ∧ 0 ≤ q ∧ q ≤ left - n ∧ Hid (eachSz l k) ∧ Hid (Below w.heap.size w wr)) (fun _ i _ => n - (intOf i).toNat)
    case atStart => exact ⟨0, left - n, Nat.zero_le _, rfl, rfl, by omega, by omega, hide (fun _ _ h => absurd h (by omega)), Below.refl _ w⟩
    case round =>
      obtain ⟨k, q, hk, rfl, rfl, hq0, hq1, E, Q⟩ := hrel
      by_cases hlt : k < n
      · have hin2 := hin.below Q.out
        obtain ⟨b, off, rfl, hbB, hc⟩ := hin2.2 (by rw [HN.out]; omega)
        have hkl : k < l.length := by rw [HN.out]; omega
        obtain ⟨c1, c2⟩ := hc k hkl
        obtain ⟨s1, s2⟩ := hin2.1 k hkl
        have ES := hide (eachSz_succ hkl E.out)
        generalize (l[k]'hkl).1 = s at *
        generalize (l[k]'hkl).2 = v at *
        clear hin hin2 hc E
        go_wp2_with fail
        refine (szPair_each s v q _ s1 s2 hq0 (by omega)).mono ?_
        rintro e w' ⟨hr, hb⟩
        rcases hr with rfl | ⟨r, hr0, hr1, rfl⟩
        · go_wp2
          go_ret
          exact ⟨.inl rfl, Q.out.trans (hb.mono Q.out.size)⟩
        · have E2 := hide (ES.out (by omega))
          have hr2 : r ≤ left - n := by omega
          clear hr1 ES
          go_wp2
          go_roundw
          case rel => exact ⟨k + 1, r, by omega, by go_num, rfl, hr0, hr2, E2, Q.out.trans (hb.mono Q.out.size)⟩
          case measure => simp [intOf]; omega
      · have ek : k = n := by omega
        have EE : Hid (eachSz l n) := hide (by rw [← ek]; exact E.out)
        clear ek
        go_wp2
        go_ret
        exact ⟨.inr ⟨q, hq0, by omega, EE.out, rfl⟩, Q.out⟩
end Go.Proofs.Ytblggbihnglipaa
