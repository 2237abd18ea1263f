/-
  Numbers as a text writes them: what spec.l1Num reads; the head of a pack's piece, as plain mathematics.
-/
import Derived.Test.YtlipefnaeblhfaaDoorPCut
import Derived.Test.YtlipefnaeblhfaaDoorPStr0
namespace Go.Proofs.YtlipefnaeblhfaaDoor
open Go.RowKit

def byK (s : ByteArray) (j : Nat) : Nat := if h : j < s.size then s[j].toNat else 0
theorem byK_in {s : ByteArray} {j : Nat} (h : j < s.size) : byK s j = s[j].toNat := dif_pos h
theorem byK_lt (s : ByteArray) (j : Nat) : byK s j < 256 := by
  unfold byK
  split
  · rename_i h; exact s[j].toNat_lt
  · omega
/-- the number that the first k bytes write -/
def numK (s : ByteArray) : Nat → Nat
  | 0 => 0
  | k + 1 => 10 * numK s k + (byK s k - 48)
def digsTo (s : ByteArray) (k : Nat) : Prop := ∀ i, i < k → 48 ≤ byK s i ∧ byK s i ≤ 57
theorem digsTo_next {s : ByteArray} {k : Nat} (h : digsTo s k) (h1 : 48 ≤ byK s k) (h2 : byK s k ≤ 57) : digsTo s (k + 1) := fun i hi => by
  rcases Nat.lt_or_ge i k with g | g
  · exact h i g
  · obtain rfl : i = k := by omega
    exact ⟨h1, h2⟩
theorem numK_lt {s : ByteArray} : ∀ k, digsTo s k → numK s k < 10 ^ k
  | 0, _ => by show (0 : Nat) < 1; decide
  | k + 1, h => by
    have ih := numK_lt k (fun i hi => h i (by omega))
    have := h k (by omega)
    show 10 * numK s k + (byK s k - 48) < 10 ^ (k + 1)
    rw [Nat.pow_succ]
    omega
theorem numK_small {s : ByteArray} {k : Nat} (h : digsTo s k) (hk : k ≤ 9) : numK s k < 1000000000 := by
  have h1 := numK_lt k h
  have h2 : 10 ^ k ≤ 10 ^ 9 := Nat.pow_le_pow_right (by decide) hk
  omega
/-- a number in decimal -/
def numP (s : ByteArray) : Prop := 1 ≤ s.size ∧ s.size ≤ 9 ∧ ¬ (byK s 0 = 48 ∧ 1 < s.size) ∧ digsTo s s.size
open Classical in
noncomputable def numB (s : ByteArray) : Bool := decide (numP s)
open Classical in
theorem numB_yes {s : ByteArray} (h : numP s) : numB s = true := decide_eq_true h
open Classical in
theorem numB_no {s : ByteArray} (h : ¬ numP s) : numB s = false := decide_eq_false h
open Classical in
noncomputable def numV (s : ByteArray) : Nat := if numP s then numK s s.size else 0
theorem numV_yes {s : ByteArray} (h : numP s) : numV s = numK s s.size := if_pos h
theorem numV_no {s : ByteArray} (h : ¬ numP s) : numV s = 0 := if_neg h

set_option maxRecDepth 100000 in
set_option maxHeartbeats 1000000 in
theorem l1Num_any (s : ByteArray) (w : World) (hs : s.size ≤ maxLen) :
    Calls Tryd.prog 31 #[.string s] w fun e w' => e = .returned (.tuple #[.int .i64 (numV s : Int), .bool (numB s)]) ∧ w = w' := by
  unfold maxLen at hs
  have NO : Hid (¬ numP s → Ending.returned (.tuple #[.int .i64 0, .bool false]) = .returned (.tuple #[.int .i64 (numV s : Int), .bool (numB s)])) := hide (fun h => by rw [numV_no h, numB_no h]; rfl)
  by_cases h1 : s.size < 1
  · have N := hide (NO.out (fun h => by have := h.1; omega))
    go_enter Tryd.func31, Tryd.ntmps31
    go_wp2
    go_ret2
    exact ⟨N.out, rfl⟩
  by_cases h2 : 9 < s.size
  · have N := hide (NO.out (fun h => by have := h.2.1; omega))
    have d1 : ¬ ((s.size : Int) < 1) := by omega
    have d2 : (9 : Int) < (s.size : Int) := by omega
    go_enter Tryd.func31, Tryd.ntmps31
    go_wp2
    go_ret2
    exact ⟨N.out, rfl⟩
  have b0 : (s[0]'(by omega)).toNat = byK s 0 := (byK_in (by omega)).symm
  by_cases h3 : byK s 0 = 48 ∧ 1 < s.size
  · have N := hide (NO.out (fun h => h.2.2.1 h3))
    obtain ⟨h3, h4⟩ := h3
    have d1 : decide ((s.size : Int) < 1) = false := decide_eq_false (by omega)
    have d2 : decide ((9 : Int) < (s.size : Int)) = false := decide_eq_false (by omega)
    have d3 : decide ((1 : Int) < (s.size : Int)) = true := decide_eq_true (by omega)
    rw [h3] at b0
    go_enter Tryd.func31, Tryd.ntmps31
    go_wp2
    go_ret2
    exact ⟨N.out, rfl⟩
  have d1 : decide ((s.size : Int) < 1) = false := decide_eq_false (by omega)
  have d2 : decide ((9 : Int) < (s.size : Int)) = false := decide_eq_false (by omega)
  by_cases hx : byK s 0 = 48
  · have d3 : decide ((1 : Int) < (s.size : Int)) = false := decide_eq_false (by omega)
    have d4 : decide (1 < s.size) = false := decide_eq_false (by omega)
    rw [hx] at b0
    go_enter Tryd.func31, Tryd.ntmps31
    go_wp2
    go_loop [4, 5] (fun nv iv => ∃ i : Nat, i ≤ s.size ∧ nv = .int .i64 (numK s i : Int) ∧ iv = .int .i64 i ∧ Hid (digsTo s i)) (fun _ i => s.size - (intOf i).toNat)
    case atStart => exact ⟨0, Nat.zero_le _, rfl, rfl, hide (fun _ h => absurd h (by omega))⟩
    case round =>
      obtain ⟨i, hi, rfl, rfl, D⟩ := hrel
      by_cases hlt : i < s.size
      · have bi : s[i].toNat = byK s i := (byK_in hlt).symm
        have bl := byK_lt s i
        have hk := numK_small D.out (by omega)
        have ST : Hid (numK s (i + 1) = 10 * numK s i + (byK s i - 48)) := hide rfl
        have N1 : Hid (byK s i < 48 → ¬ numP s) := hide (fun h hp => by have := (hp.2.2.2 i hlt).1; omega)
        have N2 : Hid (57 < byK s i → ¬ numP s) := hide (fun h hp => by have := (hp.2.2.2 i hlt).2; omega)
        have DN : Hid (48 ≤ byK s i → byK s i ≤ 57 → digsTo s (i + 1)) := hide (fun a b => digsTo_next D.out a b)
        generalize byK s i = c at *
        generalize numK s i = k at *
        clear D b0
        by_cases c1 : c < 48
        · have N := hide (NO.out (N1.out c1))
          have e1 : decide ((c : Int) < 48) = true := decide_eq_true (by omega)
          have e2 : decide (c < 48) = true := decide_eq_true c1
          go_wp2
          go_ret2
          exact ⟨N.out, rfl⟩
        · have e1 : decide ((c : Int) < 48) = false := decide_eq_false (by omega)
          have e2 : decide (c < 48) = false := decide_eq_false c1
          by_cases c2 : 57 < c
          · have N := hide (NO.out (N2.out c2))
            have e3 : decide ((57 : Int) < (c : Int)) = true := decide_eq_true (by omega)
            have e4 : decide (57 < c) = true := decide_eq_true c2
            go_wp2
            go_ret2
            exact ⟨N.out, rfl⟩
          · have e3 : decide ((57 : Int) < (c : Int)) = false := decide_eq_false (by omega)
            have e4 : decide (57 < c) = false := decide_eq_false c2
            have D2 := hide (DN.out (by omega) (by omega))
            go_wp2
            go_round
            case rel => exact ⟨i + 1, by omega, by rw [ST.out]; congr 1; omega, by go_num, D2⟩
            case measure => simp [intOf]; omega
      · have Y : numP s := ⟨by omega, by omega, h3, fun j hj => D.out j (by omega)⟩
        have E : Hid (Ending.returned (.tuple #[.int .i64 (numK s i : Int), .bool true]) = .returned (.tuple #[.int .i64 (numV s : Int), .bool (numB s)])) := hide (by rw [numV_yes Y, numB_yes Y, show i = s.size by omega])
        have hgt : ¬ ((i : Int) < (s.size : Int)) := by omega
        clear hlt
        go_wp2
        go_ret2
        exact ⟨E.out, rfl⟩
  · have d3 : ((byK s 0 : Int) == 48) = false := beq_eq_false_iff_ne.2 (by omega)
    have d4 : (byK s 0 == 48) = false := beq_eq_false_iff_ne.2 hx
    go_enter Tryd.func31, Tryd.ntmps31
    go_wp2
    go_loop [4, 5] (fun nv iv => ∃ i : Nat, i ≤ s.size ∧ nv = .int .i64 (numK s i : Int) ∧ iv = .int .i64 i ∧ Hid (digsTo s i)) (fun _ i => s.size - (intOf i).toNat)
    case atStart => exact ⟨0, Nat.zero_le _, rfl, rfl, hide (fun _ h => absurd h (by omega))⟩
    case round =>
      obtain ⟨i, hi, rfl, rfl, D⟩ := hrel
      by_cases hlt : i < s.size
      · have bi : s[i].toNat = byK s i := (byK_in hlt).symm
        have bl := byK_lt s i
        have hk := numK_small D.out (by omega)
        have ST : Hid (numK s (i + 1) = 10 * numK s i + (byK s i - 48)) := hide rfl
        have N1 : Hid (byK s i < 48 → ¬ numP s) := hide (fun h hp => by have := (hp.2.2.2 i hlt).1; omega)
        have N2 : Hid (57 < byK s i → ¬ numP s) := hide (fun h hp => by have := (hp.2.2.2 i hlt).2; omega)
        have DN : Hid (48 ≤ byK s i → byK s i ≤ 57 → digsTo s (i + 1)) := hide (fun a b => digsTo_next D.out a b)
        generalize byK s i = c at *
        generalize numK s i = k at *
        clear D b0
        by_cases c1 : c < 48
        · have N := hide (NO.out (N1.out c1))
          have e1 : decide ((c : Int) < 48) = true := decide_eq_true (by omega)
          have e2 : decide (c < 48) = true := decide_eq_true c1
          go_wp2
          go_ret2
          exact ⟨N.out, rfl⟩
        · have e1 : decide ((c : Int) < 48) = false := decide_eq_false (by omega)
          have e2 : decide (c < 48) = false := decide_eq_false c1
          by_cases c2 : 57 < c
          · have N := hide (NO.out (N2.out c2))
            have e3 : decide ((57 : Int) < (c : Int)) = true := decide_eq_true (by omega)
            have e4 : decide (57 < c) = true := decide_eq_true c2
            go_wp2
            go_ret2
            exact ⟨N.out, rfl⟩
          · have e3 : decide ((57 : Int) < (c : Int)) = false := decide_eq_false (by omega)
            have e4 : decide (57 < c) = false := decide_eq_false c2
            have D2 := hide (DN.out (by omega) (by omega))
            go_wp2
            go_round
            case rel => exact ⟨i + 1, by omega, by rw [ST.out]; congr 1; omega, by go_num, D2⟩
            case measure => simp [intOf]; omega
      · have Y : numP s := ⟨by omega, by omega, h3, fun j hj => D.out j (by omega)⟩
        have E : Hid (Ending.returned (.tuple #[.int .i64 (numK s i : Int), .bool true]) = .returned (.tuple #[.int .i64 (numV s : Int), .bool (numB s)])) := hide (by rw [numV_yes Y, numB_yes Y, show i = s.size by omega])
        have hgt : ¬ ((i : Int) < (s.size : Int)) := by omega
        clear hlt
        go_wp2
        go_ret2
        exact ⟨E.out, rfl⟩
end Go.Proofs.YtlipefnaeblhfaaDoor
