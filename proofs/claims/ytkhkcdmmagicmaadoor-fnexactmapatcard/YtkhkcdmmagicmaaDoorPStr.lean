/-
  What the functions on single texts answer: spec.l1Key, spec.l1Plain, impl.keyOk, impl.valOk, impl.printable (with isLetter, isDigit).
-/
import Derived.Test.YtkhkcdmmagicmaaDoorChecked
import Derived.Test.YtkhkcdmmagicmaaDoorPMath
import Derived.WalkKit
import Derived.WalkLawsBesides
namespace Go.Proofs.YtkhkcdmmagicmaaDoor
open Go.RowKit


set_option maxRecDepth 100000 in
set_option maxHeartbeats 1000000 in
theorem l1Key_any (s : ByteArray) (w : World) (hs : s.size ≤ maxLen) :
    Calls Tryd.prog 85 #[.string s] w fun e w' => e = .returned (.bool (keyB s)) ∧ w = w' := by
  unfold maxLen at hs
  go_enter Tryd.func85, Tryd.ntmps85
  go_wp2
  go_loop [3] (fun i => ∃ k : Nat, k ≤ s.size ∧ i = .int .i64 k ∧ Hid (allTo keyC s k)) (fun i => s.size - (intOf i).toNat)
  case atStart => exact ⟨0, Nat.zero_le _, rfl, allTo_zero _ s⟩
  case round =>
    obtain ⟨k, hk, rfl, H⟩ := hrel
    by_cases hlt : k < s.size
    · have hb : (s[k].toNat : Int) < 256 := by have := s[k].toNat_lt; omega
      rcases five (s[k].toNat : Int) 122 with h | ⟨h, h'⟩ | ⟨h, h'⟩ | ⟨h, h'⟩ | ⟨h, h'⟩
      · have Z : Hid (keyB s = false) := hide (okB_bad hlt (keyC_no ⟨.inl (by omega), .inl (by omega)⟩))
        go_wp2
        go_ret
        exact ⟨ret_bool Z.out.symm, rfl⟩
      · have Z := hide (allTo_succ hlt H.out (keyC_yes (.inr ⟨by omega, by omega⟩)))
        go_wp2
        go_round
        case rel => exact ⟨k + 1, by omega, by go_num, Z⟩
        case measure => simp [intOf]; omega
      · have Z : Hid (keyB s = false) := hide (okB_bad hlt (keyC_no ⟨.inl (by omega), .inr (by omega)⟩))
        have d4 : decide ((s[k].toNat : Int) ≤ 57) = false := decide_eq_false (by omega)
        go_wp2
        go_ret
        exact ⟨ret_bool Z.out.symm, rfl⟩
      · have Z := hide (allTo_succ hlt H.out (keyC_yes (.inl ⟨by omega, by omega⟩)))
        have d4 : decide ((s[k].toNat : Int) ≤ 57) = false := decide_eq_false (by omega)
        go_wp2
        go_round
        case rel => exact ⟨k + 1, by omega, by go_num, Z⟩
        case measure => simp [intOf]; omega
      · have Z : Hid (keyB s = false) := hide (okB_bad hlt (keyC_no ⟨.inr (by omega), .inr (by omega)⟩))
        have d4 : decide ((s[k].toNat : Int) ≤ 57) = false := decide_eq_false (by omega)
        have d2 : decide ((s[k].toNat : Int) ≤ 122) = false := decide_eq_false (by omega)
        go_wp2
        go_ret
        exact ⟨ret_bool Z.out.symm, rfl⟩
    · obtain rfl : k = s.size := by omega
      by_cases h1 : 1 ≤ s.size
      · by_cases h8 : s.size ≤ 8
        · have Z : Hid (keyB s = true) := hide (okB_yes (by omega) (by omega) H.out)
          have d8 : decide ((s.size : Int) ≤ 8) = true := decide_eq_true (by omega)
          go_wp2
          go_ret
          exact ⟨ret_bool Z.out.symm, rfl⟩
        · have Z : Hid (keyB s = false) := hide (okB_len (by omega))
          have d8 : decide ((s.size : Int) ≤ 8) = false := decide_eq_false (by omega)
          go_wp2
          go_ret
          exact ⟨ret_bool Z.out.symm, rfl⟩
      · have Z : Hid (keyB s = false) := hide (okB_len (by omega))
        have d1 : decide ((1 : Int) ≤ (s.size : Int)) = false := decide_eq_false (by omega)
        go_wp2
        go_ret
        exact ⟨ret_bool Z.out.symm, rfl⟩

set_option maxRecDepth 100000 in
set_option maxHeartbeats 1000000 in
theorem l1Plain_any (s : ByteArray) (most : Int) (w : World) (hs : s.size ≤ maxLen) :
    Calls Tryd.prog 86 #[.string s, .int .i64 most] w fun e w' => e = .returned (.bool (plainB s most)) ∧ w = w' := by
  unfold maxLen at hs
  go_enter Tryd.func86, Tryd.ntmps86
  go_wp2
  go_loop [5] (fun i => ∃ k : Nat, k ≤ s.size ∧ i = .int .i64 k ∧ Hid (allTo plainC s k)) (fun i => s.size - (intOf i).toNat)
  case atStart => exact ⟨0, Nat.zero_le _, rfl, allTo_zero _ s⟩
  case round =>
    obtain ⟨k, hk, rfl, H⟩ := hrel
    by_cases hlt : k < s.size
    · have hb : (s[k].toNat : Int) < 256 := by have := s[k].toNat_lt; omega
      by_cases h32 : (s[k].toNat : Int) < 32
      · have Z : Hid (plainB s most = false) := hide (okB_bad hlt (plainC_no (.inl (by omega))))
        go_wp2
        go_ret
        exact ⟨ret_bool Z.out.symm, rfl⟩
      · by_cases h126 : 126 < (s[k].toNat : Int)
        · have Z : Hid (plainB s most = false) := hide (okB_bad hlt (plainC_no (.inr (by omega))))
          go_wp2
          go_ret
          exact ⟨ret_bool Z.out.symm, rfl⟩
        · have Z := hide (allTo_succ hlt H.out (plainC_yes (by omega) (by omega)))
          go_wp2
          go_round
          case rel => exact ⟨k + 1, by omega, by go_num, Z⟩
          case measure => simp [intOf]; omega
    · obtain rfl : k = s.size := by omega
      by_cases h8 : (s.size : Int) ≤ most
      · have Z : Hid (plainB s most = true) := hide (okB_yes (by omega) (by omega) H.out)
        have d8 : decide ((s.size : Int) ≤ most) = true := decide_eq_true (by omega)
        go_wp2
        go_ret
        exact ⟨ret_bool Z.out.symm, rfl⟩
      · have Z : Hid (plainB s most = false) := hide (okB_len (by omega))
        have d8 : decide ((s.size : Int) ≤ most) = false := decide_eq_false (by omega)
        go_wp2
        go_ret
        exact ⟨ret_bool Z.out.symm, rfl⟩

set_option maxRecDepth 100000 in
set_option maxHeartbeats 1000000 in
theorem keyOk_any (s : ByteArray) (w : World) (hs : s.size ≤ maxLen) :
    Calls Tryd.prog 93 #[.string s] w fun e w' => e = .returned (.bool (keyB s)) ∧ w = w' := by
  unfold maxLen at hs
  by_cases h1 : 1 ≤ s.size
  · by_cases h8 : s.size ≤ 8
    · have d8 : decide ((8 : Int) < (s.size : Int)) = false := decide_eq_false (by omega)
      have d1 : decide ((s.size : Int) < 1) = false := decide_eq_false (by omega)
      go_enter Tryd.func93, Tryd.ntmps93
      go_wp2
      go_loop [14] (fun i => ∃ k : Nat, k ≤ s.size ∧ i = .int .i64 k ∧ Hid (allTo keyC s k)) (fun i => s.size - (intOf i).toNat)
      case atStart => exact ⟨0, Nat.zero_le _, rfl, allTo_zero _ s⟩
      case round =>
        obtain ⟨k, hk, rfl, H⟩ := hrel
        by_cases hlt : k < s.size
        · have hb : (s[k].toNat : Int) < 256 := by have := s[k].toNat_lt; omega
          rcases five (s[k].toNat : Int) 122 with h | ⟨h, h'⟩ | ⟨h, h'⟩ | ⟨h, h'⟩ | ⟨h, h'⟩
          · have Z : Hid (keyB s = false) := hide (okB_bad hlt (keyC_no ⟨.inl (by omega), .inl (by omega)⟩))
            go_wp2
            go_ret
            exact ⟨ret_bool Z.out.symm, rfl⟩
          · have Z := hide (allTo_succ hlt H.out (keyC_yes (.inr ⟨by omega, by omega⟩)))
            go_wp2
            go_round
            case rel => exact ⟨k + 1, by omega, by go_num, Z⟩
            case measure => simp [intOf]; omega
          · have Z : Hid (keyB s = false) := hide (okB_bad hlt (keyC_no ⟨.inl (by omega), .inr (by omega)⟩))
            have d4 : decide ((s[k].toNat : Int) ≤ 57) = false := decide_eq_false (by omega)
            go_wp2
            go_ret
            exact ⟨ret_bool Z.out.symm, rfl⟩
          · have Z := hide (allTo_succ hlt H.out (keyC_yes (.inl ⟨by omega, by omega⟩)))
            have d4 : decide ((s[k].toNat : Int) ≤ 57) = false := decide_eq_false (by omega)
            go_wp2
            go_round
            case rel => exact ⟨k + 1, by omega, by go_num, Z⟩
            case measure => simp [intOf]; omega
          · have Z : Hid (keyB s = false) := hide (okB_bad hlt (keyC_no ⟨.inr (by omega), .inr (by omega)⟩))
            have d4 : decide ((s[k].toNat : Int) ≤ 57) = false := decide_eq_false (by omega)
            have d2 : decide ((s[k].toNat : Int) ≤ 122) = false := decide_eq_false (by omega)
            go_wp2
            go_ret
            exact ⟨ret_bool Z.out.symm, rfl⟩
        · obtain rfl : k = s.size := by omega
          have Z : Hid (keyB s = true) := hide (okB_yes (by omega) (by omega) H.out)
          go_wp2
          go_ret
          exact ⟨ret_bool Z.out.symm, rfl⟩
    · have Z : Hid (keyB s = false) := hide (okB_len (by omega))
      go_enter Tryd.func93, Tryd.ntmps93
      go_wp2
      go_ret
      exact ⟨ret_bool Z.out.symm, rfl⟩
  · have Z : Hid (keyB s = false) := hide (okB_len (by omega))
    go_enter Tryd.func93, Tryd.ntmps93
    go_wp2
    go_ret
    exact ⟨ret_bool Z.out.symm, rfl⟩

set_option maxRecDepth 100000 in
set_option maxHeartbeats 1000000 in
theorem printable_any (s : ByteArray) (most : Int) (w : World) (hs : s.size ≤ maxLen) :
    Calls Tryd.prog 114 #[.string s, .int .i64 most] w fun e w' => e = .returned (.bool (plainB s most)) ∧ w = w' := by
  unfold maxLen at hs
  by_cases h8 : (s.size : Int) ≤ most
  · go_enter Tryd.func114, Tryd.ntmps114
    go_wp2
    go_loop [12] (fun i => ∃ k : Nat, k ≤ s.size ∧ i = .int .i64 k ∧ Hid (allTo plainC s k)) (fun i => s.size - (intOf i).toNat)
    case atStart => exact ⟨0, Nat.zero_le _, rfl, allTo_zero _ s⟩
    case round =>
      obtain ⟨k, hk, rfl, H⟩ := hrel
      by_cases hlt : k < s.size
      · have hb : (s[k].toNat : Int) < 256 := by have := s[k].toNat_lt; omega
        by_cases h32 : (s[k].toNat : Int) < 32
        · have Z : Hid (plainB s most = false) := hide (okB_bad hlt (plainC_no (.inl (by omega))))
          go_wp2
          go_ret
          exact ⟨ret_bool Z.out.symm, rfl⟩
        · by_cases h126 : 126 < (s[k].toNat : Int)
          · have Z : Hid (plainB s most = false) := hide (okB_bad hlt (plainC_no (.inr (by omega))))
            go_wp2
            go_ret
            exact ⟨ret_bool Z.out.symm, rfl⟩
          · have Z := hide (allTo_succ hlt H.out (plainC_yes (by omega) (by omega)))
            go_wp2
            go_round
            case rel => exact ⟨k + 1, by omega, by go_num, Z⟩
            case measure => simp [intOf]; omega
      · obtain rfl : k = s.size := by omega
        have Z : Hid (plainB s most = true) := hide (okB_yes (by omega) (by omega) H.out)
        go_wp2
        go_ret
        exact ⟨ret_bool Z.out.symm, rfl⟩
  · have Z : Hid (plainB s most = false) := hide (okB_len (by omega))
    go_enter Tryd.func114, Tryd.ntmps114
    go_wp2
    go_ret
    exact ⟨ret_bool Z.out.symm, rfl⟩

theorem valOk_any (s : ByteArray) (w : World) (hs : s.size ≤ maxLen) :
    Calls Tryd.prog 94 #[.string s] w fun e w' => e = .returned (.bool (valB s)) ∧ w = w' := by
  go_enter Tryd.func94, Tryd.ntmps94
  go_wp2_with (go_at_call 114; refine (printable_any s 12 _ hs).mono ?_; rintro e w' ⟨rfl, rfl⟩)
  go_ret
  exact ⟨rfl, rfl⟩
end Go.Proofs.YtkhkcdmmagicmaaDoor
