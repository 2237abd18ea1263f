/-
  What both packages' IdOk give: sixteen digits or not.
-/
import Derived.Test.YtkhkcdmmagicmaaDoorPMath
import Derived.Test.YtkhkcdmmagicmaaDoorChecked
import Derived.WalkKit
import Derived.WalkLawsBesides
import Derived.ProofKit
import Derived.Lib.Hide
namespace Go.Proofs.YtkhkcdmmagicmaaDoor.QI
open Go.RowKit

/-- one digit 0 .. 9, a .. f -/
def hexI (c : Int) : Bool := (decide (97 ≤ c) && decide (c ≤ 102)) || (decide (48 ≤ c) && decide (c ≤ 57))
theorem hexI_yes {c : Int} (h : (97 ≤ c ∧ c ≤ 102) ∨ (48 ≤ c ∧ c ≤ 57)) : hexI c = true := by
  unfold hexI; rcases h with ⟨a, b⟩ | ⟨a, b⟩ <;> simp [a, b]
theorem hexI_no {c : Int} (h : (c < 97 ∨ 102 < c) ∧ (c < 48 ∨ 57 < c)) : hexI c = false := by
  unfold hexI; obtain ⟨a, b⟩ := h; rw [Bool.or_eq_false_iff, Bool.and_eq_false_iff, Bool.and_eq_false_iff]; simp; omega

/-- the first k bytes are such digits -/
def hexTo (s : ByteArray) (k : Nat) : Prop := ∀ j (h : j < s.size), j < k → hexI (s[j].toNat : Int) = true
theorem hexTo_zero (s : ByteArray) : hexTo s 0 := fun _ _ h => absurd h (by omega)
theorem hexTo_succ {s : ByteArray} {k : Nat} (hk : k < s.size) (h : hexTo s k) (hc : hexI (s[k].toNat : Int) = true) : hexTo s (k + 1) := by
  intro j hj hlt
  rcases Nat.lt_or_ge j k with h1 | h1
  · exact h j hj h1
  · obtain rfl : j = k := by omega
    exact hc

open Classical in
/-- sixteen such digits -/
noncomputable def idB (s : ByteArray) : Bool := decide (s.size = 16 ∧ hexTo s s.size)
open Classical in
theorem idB_yes {s : ByteArray} (h : s.size = 16) (k : hexTo s s.size) : idB s = true := by unfold idB; exact decide_eq_true ⟨h, k⟩
open Classical in
theorem idB_len {s : ByteArray} (h : ¬ s.size = 16) : idB s = false := by unfold idB; exact decide_eq_false fun x => h x.1
open Classical in
theorem idB_bad {s : ByteArray} {k : Nat} (hk : k < s.size) (h : hexI (s[k].toNat : Int) = false) : idB s = false := by
  unfold idB; refine decide_eq_false fun x => ?_; have := x.2 k hk hk; rw [h] at this; cases this


/-- the five places where a byte can lie -/
theorem five (c : Int) : c < 48 ∨ (48 ≤ c ∧ c ≤ 57) ∨ (57 < c ∧ c < 97) ∨ (97 ≤ c ∧ c ≤ 102) ∨ 102 < c := by omega

set_option maxRecDepth 100000 in
set_option maxHeartbeats 1000000 in
theorem specIdOk_any (s : ByteArray) (w : World) (hs : s.size ≤ maxLen) :
    Calls Tryd.prog 96 #[.string s] w fun e w' => e = .returned (.bool (idB s)) ∧ w = w' := by
  unfold maxLen at hs
  go_enter Tryd.func96, Tryd.ntmps96
  go_wp2
  go_loop [3] (fun i => ∃ k : Nat, k ≤ s.size ∧ i = .int .i64 k ∧ Hid (hexTo s k)) (fun i => s.size - (intOf i).toNat)
  case atStart => exact ⟨0, Nat.zero_le _, rfl, hexTo_zero s⟩
  case round =>
    obtain ⟨k, hk, rfl, H⟩ := hrel
    by_cases hlt : k < s.size
    · have hb : (s[k].toNat : Int) < 256 := by have := s[k].toNat_lt; omega
      rcases five (s[k].toNat : Int) with h | ⟨h, h'⟩ | ⟨h, h'⟩ | ⟨h, h'⟩ | h
      · have Z := Lib.hid (idB_bad hlt (hexI_no ⟨.inl (by omega), .inl (by omega)⟩))
        go_wp2
        go_ret
        exact ⟨ret_bool Z.out.symm, rfl⟩
      · have Z := Lib.hid (hexTo_succ hlt H.out (hexI_yes (.inr ⟨by omega, by omega⟩)))
        go_wp2
        go_round
        case rel => exact ⟨k + 1, by omega, by go_num, Z⟩
        case measure => simp [intOf]; omega
      · have Z := Lib.hid (idB_bad hlt (hexI_no ⟨.inl (by omega), .inr (by omega)⟩))
        have d4 : decide ((s[k].toNat : Int) ≤ 57) = false := decide_eq_false (by omega)
        go_wp2
        go_ret
        exact ⟨ret_bool Z.out.symm, rfl⟩
      · have Z := Lib.hid (hexTo_succ hlt H.out (hexI_yes (.inl ⟨by omega, by omega⟩)))
        have d4 : decide ((s[k].toNat : Int) ≤ 57) = false := decide_eq_false (by omega)
        go_wp2
        go_round
        case rel => exact ⟨k + 1, by omega, by go_num, Z⟩
        case measure => simp [intOf]; omega
      · have Z := Lib.hid (idB_bad hlt (hexI_no ⟨.inr (by omega), .inr (by omega)⟩))
        have d2 : decide ((s[k].toNat : Int) ≤ 102) = false := decide_eq_false (by omega)
        have d4 : decide ((s[k].toNat : Int) ≤ 57) = false := decide_eq_false (by omega)
        go_wp2
        go_ret
        exact ⟨ret_bool Z.out.symm, rfl⟩
    · obtain rfl : k = s.size := by omega
      by_cases h16 : s.size = 16
      · have Z := Lib.hid (idB_yes h16 H.out)
        have hb : ((s.size : Int) == 16) = true := by simp [h16]
        clear h16
        go_wp2
        go_ret
        exact ⟨ret_bool Z.out.symm, rfl⟩
      · have Z := Lib.hid (idB_len h16)
        have hb : ((s.size : Int) == 16) = false := by simp; omega
        clear h16
        go_wp2
        go_ret
        exact ⟨ret_bool Z.out.symm, rfl⟩

set_option maxRecDepth 100000 in
set_option maxHeartbeats 1000000 in
theorem implIdOk_any (s : ByteArray) (w : World) (hs : s.size ≤ maxLen) :
    Calls Tryd.prog 108 #[.string s] w fun e w' => e = .returned (.bool (idB s)) ∧ w = w' := by
  unfold maxLen at hs
  by_cases h16 : s.size = 16
  · have Y := Lib.hid h16
    have hb : ((s.size : Int) != 16) = false := by simp [h16]
    clear h16
    go_enter Tryd.func108, Tryd.ntmps108
    go_wp2
    go_loop [9] (fun i => ∃ k : Nat, k ≤ s.size ∧ i = .int .i64 k ∧ Hid (hexTo s k)) (fun i => s.size - (intOf i).toNat)
    case atStart => exact ⟨0, Nat.zero_le _, rfl, hexTo_zero s⟩
    case round =>
      obtain ⟨k, hk, rfl, H⟩ := hrel
      by_cases hlt : k < s.size
      · have hb2 : (s[k].toNat : Int) < 256 := by have := s[k].toNat_lt; omega
        rcases five (s[k].toNat : Int) with h | ⟨h, h'⟩ | ⟨h, h'⟩ | ⟨h, h'⟩ | h
        · have Z := Lib.hid (idB_bad hlt (hexI_no ⟨.inl (by omega), .inl (by omega)⟩))
          go_wp2
          go_ret
          exact ⟨ret_bool Z.out.symm, rfl⟩
        · have Z := Lib.hid (hexTo_succ hlt H.out (hexI_yes (.inr ⟨by omega, by omega⟩)))
          go_wp2
          go_round
          case rel => exact ⟨k + 1, by omega, by go_num, Z⟩
          case measure => simp [intOf]; omega
        · have Z := Lib.hid (idB_bad hlt (hexI_no ⟨.inl (by omega), .inr (by omega)⟩))
          have d4 : decide ((s[k].toNat : Int) ≤ 57) = false := decide_eq_false (by omega)
          go_wp2
          go_ret
          exact ⟨ret_bool Z.out.symm, rfl⟩
        · have Z := Lib.hid (hexTo_succ hlt H.out (hexI_yes (.inl ⟨by omega, by omega⟩)))
          have d4 : decide ((s[k].toNat : Int) ≤ 57) = false := decide_eq_false (by omega)
          go_wp2
          go_round
          case rel => exact ⟨k + 1, by omega, by go_num, Z⟩
          case measure => simp [intOf]; omega
        · have Z := Lib.hid (idB_bad hlt (hexI_no ⟨.inr (by omega), .inr (by omega)⟩))
          have d2 : decide ((s[k].toNat : Int) ≤ 102) = false := decide_eq_false (by omega)
          have d4 : decide ((s[k].toNat : Int) ≤ 57) = false := decide_eq_false (by omega)
          go_wp2
          go_ret
          exact ⟨ret_bool Z.out.symm, rfl⟩
      · obtain rfl : k = s.size := by omega
        have Z := Lib.hid (idB_yes Y.out H.out)
        go_wp2
        go_ret
        exact ⟨ret_bool Z.out.symm, rfl⟩
  · have Z := Lib.hid (idB_len h16)
    have hb : ((s.size : Int) != 16) = true := by simp; omega
    clear h16
    go_enter Tryd.func108, Tryd.ntmps108
    go_wp2
    go_ret
    exact ⟨ret_bool Z.out.symm, rfl⟩

end Go.Proofs.YtkhkcdmmagicmaaDoor.QI
