/-
  Texts that this proof leans on, joined: part 2.
-/
import Derived.Test.YtaofemdhgfejjaaGreatDoorChecked
import Derived.WalkKit
import Derived.WalkLawsBesides
import Derived.BigQuiet
import Derived.Deep.QuietTactic
import Derived.IntWalk
import Derived.Shelf.SortM.Plain
import Derived.Shelf.SortM.SortNone
import Derived.Shelf.Slices.CompactS
import Derived.Ground.SlgmProg
import Derived.Ground.NamesProg
import Derived.Test.YtaofemdhgfejjaaGreatDoorProg
import Derived.Lib.SlicesCompact
import Derived.Sort.KeysCollected
import Derived.OwnWalk
import Derived.Laws.Rows
import Derived.Laws.Tables
import Derived.Maps.AppendAt
import Derived.Deep.Slices
import Derived.Sort.OwnSorted
import Derived.Sort.Grow
import Derived.Lib.OwnBridge
import Derived.Lib.RowBridge
import Derived.Test.YtaofemdhgfejjaaGreatDoorJA1
/-
  What the functions on single texts answer: spec.l1Key, spec.l1Plain, impl.keyOk, impl.valOk, impl.printable (with isLetter, isDigit).
-/
namespace Go.Proofs.YtaofemdhgfejjaaGreatDoor
open Go.RowKit


set_option maxRecDepth 100000 in
set_option maxHeartbeats 1000000 in
theorem l1Key_any (s : ByteArray) (w : World) (hs : s.size ≤ maxLen) :
    Calls Tryz.prog 55 #[.string s] w fun e w' => e = .returned (.bool (keyB s)) ∧ w = w' := by
  unfold maxLen at hs
  go_enter Tryz.func55, Tryz.ntmps55
  go_wp2
  go_loop [3] (fun i => ∃ k : Nat, k ≤ s.size ∧ i = .int .i64 k ∧ Hid (allTo keyC s k)) (fun i => s.size - (intOf i).toNat)
  case atStart => exact ⟨0, Nat.zero_le _, rfl, allTo_zero _ s⟩
  case round =>
    obtain ⟨k, hk, rfl, H⟩ := hrel
    by_cases hlt : k < s.size
    · have hb : (s[k].toNat : Int) < 256 := by have := s[k].toNat_lt; omega
      rcases five (s[k].toNat : Int) 122 with h | ⟨h, h'⟩ | ⟨h, h'⟩ | ⟨h, h'⟩ | ⟨h, h'⟩
      · have Z : Hid (keyB s = false) := hide (okB_bad hlt (keyC_no ⟨.inl (by omega), .inl (by omega)⟩))
        go_wp2
        go_ret
        exact ⟨ret_bool Z.out.symm, rfl⟩
      · have Z := hide (allTo_succ hlt H.out (keyC_yes (.inr ⟨by omega, by omega⟩)))
        go_wp2
        go_round
        case rel => exact ⟨k + 1, by omega, by go_num, Z⟩
        case measure => simp [intOf]; omega
      · have Z : Hid (keyB s = false) := hide (okB_bad hlt (keyC_no ⟨.inl (by omega), .inr (by omega)⟩))
        have d4 : decide ((s[k].toNat : Int) ≤ 57) = false := decide_eq_false (by omega)
        go_wp2
        go_ret
        exact ⟨ret_bool Z.out.symm, rfl⟩
      · have Z := hide (allTo_succ hlt H.out (keyC_yes (.inl ⟨by omega, by omega⟩)))
        have d4 : decide ((s[k].toNat : Int) ≤ 57) = false := decide_eq_false (by omega)
        go_wp2
        go_round
        case rel => exact ⟨k + 1, by omega, by go_num, Z⟩
        case measure => simp [intOf]; omega
      · have Z : Hid (keyB s = false) := hide (okB_bad hlt (keyC_no ⟨.inr (by omega), .inr (by omega)⟩))
        have d4 : decide ((s[k].toNat : Int) ≤ 57) = false := decide_eq_false (by omega)
        have d2 : decide ((s[k].toNat : Int) ≤ 122) = false := decide_eq_false (by omega)
        go_wp2
        go_ret
        exact ⟨ret_bool Z.out.symm, rfl⟩
    · obtain rfl : k = s.size := by omega
      by_cases h1 : 1 ≤ s.size
      · by_cases h8 : s.size ≤ 8
        · have Z : Hid (keyB s = true) := hide (okB_yes (by omega) (by omega) H.out)
          have d8 : decide ((s.size : Int) ≤ 8) = true := decide_eq_true (by omega)
          go_wp2
          go_ret
          exact ⟨ret_bool Z.out.symm, rfl⟩
        · have Z : Hid (keyB s = false) := hide (okB_len (by omega))
          have d8 : decide ((s.size : Int) ≤ 8) = false := decide_eq_false (by omega)
          go_wp2
          go_ret
          exact ⟨ret_bool Z.out.symm, rfl⟩
      · have Z : Hid (keyB s = false) := hide (okB_len (by omega))
        have d1 : decide ((1 : Int) ≤ (s.size : Int)) = false := decide_eq_false (by omega)
        go_wp2
        go_ret
        exact ⟨ret_bool Z.out.symm, rfl⟩

set_option maxRecDepth 100000 in
set_option maxHeartbeats 1000000 in
theorem l1Plain_any (s : ByteArray) (most : Int) (w : World) (hs : s.size ≤ maxLen) :
    Calls Tryz.prog 56 #[.string s, .int .i64 most] w fun e w' => e = .returned (.bool (plainB s most)) ∧ w = w' := by
  unfold maxLen at hs
  go_enter Tryz.func56, Tryz.ntmps56
  go_wp2
  go_loop [5] (fun i => ∃ k : Nat, k ≤ s.size ∧ i = .int .i64 k ∧ Hid (allTo plainC s k)) (fun i => s.size - (intOf i).toNat)
  case atStart => exact ⟨0, Nat.zero_le _, rfl, allTo_zero _ s⟩
  case round =>
    obtain ⟨k, hk, rfl, H⟩ := hrel
    by_cases hlt : k < s.size
    · have hb : (s[k].toNat : Int) < 256 := by have := s[k].toNat_lt; omega
      by_cases h32 : (s[k].toNat : Int) < 32
      · have Z : Hid (plainB s most = false) := hide (okB_bad hlt (plainC_no (.inl (by omega))))
        go_wp2
        go_ret
        exact ⟨ret_bool Z.out.symm, rfl⟩
      · by_cases h126 : 126 < (s[k].toNat : Int)
        · have Z : Hid (plainB s most = false) := hide (okB_bad hlt (plainC_no (.inr (by omega))))
          go_wp2
          go_ret
          exact ⟨ret_bool Z.out.symm, rfl⟩
        · have Z := hide (allTo_succ hlt H.out (plainC_yes (by omega) (by omega)))
          go_wp2
          go_round
          case rel => exact ⟨k + 1, by omega, by go_num, Z⟩
          case measure => simp [intOf]; omega
    · obtain rfl : k = s.size := by omega
      by_cases h8 : (s.size : Int) ≤ most
      · have Z : Hid (plainB s most = true) := hide (okB_yes (by omega) (by omega) H.out)
        have d8 : decide ((s.size : Int) ≤ most) = true := decide_eq_true (by omega)
        go_wp2
        go_ret
        exact ⟨ret_bool Z.out.symm, rfl⟩
      · have Z : Hid (plainB s most = false) := hide (okB_len (by omega))
        have d8 : decide ((s.size : Int) ≤ most) = false := decide_eq_false (by omega)
        go_wp2
        go_ret
        exact ⟨ret_bool Z.out.symm, rfl⟩

set_option maxRecDepth 100000 in
set_option maxHeartbeats 1000000 in
theorem keyOk_any (s : ByteArray) (w : World) (hs : s.size ≤ maxLen) :
    Calls Tryz.prog 31 #[.string s] w fun e w' => e = .returned (.bool (keyB s)) ∧ w = w' := by
  unfold maxLen at hs
  by_cases h1 : 1 ≤ s.size
  · by_cases h8 : s.size ≤ 8
    · have d8 : decide ((8 : Int) < (s.size : Int)) = false := decide_eq_false (by omega)
      have d1 : decide ((s.size : Int) < 1) = false := decide_eq_false (by omega)
      go_enter Tryz.func31, Tryz.ntmps31
      go_wp2
      go_loop [14] (fun i => ∃ k : Nat, k ≤ s.size ∧ i = .int .i64 k ∧ Hid (allTo keyC s k)) (fun i => s.size - (intOf i).toNat)
      case atStart => exact ⟨0, Nat.zero_le _, rfl, allTo_zero _ s⟩
      case round =>
        obtain ⟨k, hk, rfl, H⟩ := hrel
        by_cases hlt : k < s.size
        · have hb : (s[k].toNat : Int) < 256 := by have := s[k].toNat_lt; omega
          rcases five (s[k].toNat : Int) 122 with h | ⟨h, h'⟩ | ⟨h, h'⟩ | ⟨h, h'⟩ | ⟨h, h'⟩
          · have Z : Hid (keyB s = false) := hide (okB_bad hlt (keyC_no ⟨.inl (by omega), .inl (by omega)⟩))
            go_wp2
            go_ret
            exact ⟨ret_bool Z.out.symm, rfl⟩
          · have Z := hide (allTo_succ hlt H.out (keyC_yes (.inr ⟨by omega, by omega⟩)))
            go_wp2
            go_round
            case rel => exact ⟨k + 1, by omega, by go_num, Z⟩
            case measure => simp [intOf]; omega
          · have Z : Hid (keyB s = false) := hide (okB_bad hlt (keyC_no ⟨.inl (by omega), .inr (by omega)⟩))
            have d4 : decide ((s[k].toNat : Int) ≤ 57) = false := decide_eq_false (by omega)
            go_wp2
            go_ret
            exact ⟨ret_bool Z.out.symm, rfl⟩
          · have Z := hide (allTo_succ hlt H.out (keyC_yes (.inl ⟨by omega, by omega⟩)))
            have d4 : decide ((s[k].toNat : Int) ≤ 57) = false := decide_eq_false (by omega)
            go_wp2
            go_round
            case rel => exact ⟨k + 1, by omega, by go_num, Z⟩
            case measure => simp [intOf]; omega
          · have Z : Hid (keyB s = false) := hide (okB_bad hlt (keyC_no ⟨.inr (by omega), .inr (by omega)⟩))
            have d4 : decide ((s[k].toNat : Int) ≤ 57) = false := decide_eq_false (by omega)
            have d2 : decide ((s[k].toNat : Int) ≤ 122) = false := decide_eq_false (by omega)
            go_wp2
            go_ret
            exact ⟨ret_bool Z.out.symm, rfl⟩
        · obtain rfl : k = s.size := by omega
          have Z : Hid (keyB s = true) := hide (okB_yes (by omega) (by omega) H.out)
          go_wp2
          go_ret
          exact ⟨ret_bool Z.out.symm, rfl⟩
    · have Z : Hid (keyB s = false) := hide (okB_len (by omega))
      go_enter Tryz.func31, Tryz.ntmps31
      go_wp2
      go_ret
      exact ⟨ret_bool Z.out.symm, rfl⟩
  · have Z : Hid (keyB s = false) := hide (okB_len (by omega))
    go_enter Tryz.func31, Tryz.ntmps31
    go_wp2
    go_ret
    exact ⟨ret_bool Z.out.symm, rfl⟩

set_option maxRecDepth 100000 in
set_option maxHeartbeats 1000000 in
theorem printable_any (s : ByteArray) (most : Int) (w : World) (hs : s.size ≤ maxLen) :
    Calls Tryz.prog 65 #[.string s, .int .i64 most] w fun e w' => e = .returned (.bool (plainB s most)) ∧ w = w' := by
  unfold maxLen at hs
  by_cases h8 : (s.size : Int) ≤ most
  · go_enter Tryz.func65, Tryz.ntmps65
    go_wp2
    go_loop [12] (fun i => ∃ k : Nat, k ≤ s.size ∧ i = .int .i64 k ∧ Hid (allTo plainC s k)) (fun i => s.size - (intOf i).toNat)
    case atStart => exact ⟨0, Nat.zero_le _, rfl, allTo_zero _ s⟩
    case round =>
      obtain ⟨k, hk, rfl, H⟩ := hrel
      by_cases hlt : k < s.size
      · have hb : (s[k].toNat : Int) < 256 := by have := s[k].toNat_lt; omega
        by_cases h32 : (s[k].toNat : Int) < 32
        · have Z : Hid (plainB s most = false) := hide (okB_bad hlt (plainC_no (.inl (by omega))))
          go_wp2
          go_ret
          exact ⟨ret_bool Z.out.symm, rfl⟩
        · by_cases h126 : 126 < (s[k].toNat : Int)
          · have Z : Hid (plainB s most = false) := hide (okB_bad hlt (plainC_no (.inr (by omega))))
            go_wp2
            go_ret
            exact ⟨ret_bool Z.out.symm, rfl⟩
          · have Z := hide (allTo_succ hlt H.out (plainC_yes (by omega) (by omega)))
            go_wp2
            go_round
            case rel => exact ⟨k + 1, by omega, by go_num, Z⟩
            case measure => simp [intOf]; omega
      · obtain rfl : k = s.size := by omega
        have Z : Hid (plainB s most = true) := hide (okB_yes (by omega) (by omega) H.out)
        go_wp2
        go_ret
        exact ⟨ret_bool Z.out.symm, rfl⟩
  · have Z : Hid (plainB s most = false) := hide (okB_len (by omega))
    go_enter Tryz.func65, Tryz.ntmps65
    go_wp2
    go_ret
    exact ⟨ret_bool Z.out.symm, rfl⟩

theorem valOk_any (s : ByteArray) (w : World) (hs : s.size ≤ maxLen) :
    Calls Tryz.prog 32 #[.string s] w fun e w' => e = .returned (.bool (valB s)) ∧ w = w' := by
  go_enter Tryz.func32, Tryz.ntmps32
  go_wp2_with (go_at_call 65; refine (printable_any s 12 _ hs).mono ?_; rintro e w' ⟨rfl, rfl⟩)
  go_ret
  exact ⟨rfl, rfl⟩
end Go.Proofs.YtaofemdhgfejjaaGreatDoor
/-
  What spec.MapOk answers.
-/
namespace Go.Proofs.YtaofemdhgfejjaaGreatDoor
open Go.RowKit

set_option maxRecDepth 100000 in
set_option maxHeartbeats 1000000 in
theorem specMapOk_any (A : Option Addr) (l : List Pr) (cap : Nat) (w : World) (B : Nat) (hl : l.length ≤ maxLen) (hin : PIn w B A l) :
    Calls Tryz.prog 28 #[.slice A l.length cap] w fun e w' => e = .returned (.bool (mapB l)) ∧ Quiet w w' := by
  unfold maxLen at hl
  generalize hn : l.length = n at *
  have HN := hide hn
  clear hn
  go_enter Tryz.func28, Tryz.ntmps28
  go_wp2
  go_loopw [3] (fun i wr => ∃ k : Nat, k ≤ n ∧ i = .int .i64 k ∧ Hid (mapTo l k) ∧ Hid (Quiet w wr)) (fun i _ => n - (intOf i).toNat)
  case atStart => exact ⟨0, Nat.zero_le _, rfl, mapTo_zero l, Quiet.refl w⟩
  case round =>
    obtain ⟨k, hk, rfl, H, Q⟩ := hrel
    by_cases hlt : k < n
    · have hin2 := hin.quiet Q.out
      obtain ⟨b, off, rfl, hbB, hc⟩ := hin2.2 (by rw [HN.out]; omega)
      have hkl : k < l.length := by rw [HN.out]; omega
      obtain ⟨c1, c2⟩ := hc k hkl
      obtain ⟨s1, s2⟩ := hin2.1 k hkl
      cases hkey : keyB (l[k]'hkl).1
      · have Z := hide (mapB_key hkl hkey)
        generalize (l[k]'hkl).1 = s at *
        generalize (l[k]'hkl).2 = v at *
        clear hin hin2 hc
        go_wp2
        go_quiet ((go_at_call 55; exact quiet_same (l1Key_any s _ s1)))
        go_wp2
        go_ret
        exact ⟨ret_bool Z.out.symm, Q.out.drewN _⟩
      · cases hval : valB (l[k]'hkl).2
        · have Z := hide (mapB_val hkl hval)
          generalize (l[k]'hkl).1 = s at *
          generalize (l[k]'hkl).2 = v at *
          have hval2 : plainB v 12 = false := hval
          clear hin hin2 hc hval
          go_wp2
          go_quiet ((first | (go_at_call 55; exact quiet_same (l1Key_any s _ s1)) | (go_at_call 56; exact quiet_same (l1Plain_any v 12 _ s2))))
          go_wp2
          go_ret
          exact ⟨ret_bool Z.out.symm, Q.out.drewN _⟩
        · by_cases h0 : 0 < k
          · obtain ⟨c3, _⟩ := hc (k - 1) (by omega)
            have e1 : ((k - 1 : Nat) : Int) = (k : Int) - 1 := by omega
            cases hrise : ltB (l[k - 1]'(by omega)).1 (l[k]'hkl).1
            · have Z := hide (mapB_rise (l := l) (k := k - 1) (by omega) (by simpa [show k - 1 + 1 = k by omega] using hrise))
              generalize (l[k]'hkl).1 = s at *
              generalize (l[k]'hkl).2 = v at *
              generalize (l[k - 1]'(by omega)).1 = s0 at *
              have hval2 : plainB v 12 = true := hval
              have hrise2 : Op.bytesLess s0.toList s.toList = false := hrise
              clear hin hin2 hc hval hrise
              have q1 : IntKind.i64.wrap ((k : Int) - 1) = (k : Int) - 1 := IntWalk.i64_in _ (by omega)
              have q2 : (0 : Int) ≤ (k : Int) - 1 := by omega
              have q3 : (1 : Int) ≤ (k : Int) := by omega
              have q4 : ((k : Int) - 1).toNat = k - 1 := by omega
              have q5 : (k : Int) - 1 < (n : Int) := by omega
              have q6 : decide (0 < k) = true := decide_eq_true h0
              clear e1
              go_wp2
              go_quiet ((first | (go_at_call 55; exact quiet_same (l1Key_any s _ s1)) | (go_at_call 56; exact quiet_same (l1Plain_any v 12 _ s2))))
              clear q1 q4
              go_wp2
              go_ret
              exact ⟨ret_bool Z.out.symm, Q.out.drewN _⟩
            · have Z := hide (mapTo_succ hkl H.out hkey hval (fun _ => hrise))
              generalize (l[k]'hkl).1 = s at *
              generalize (l[k]'hkl).2 = v at *
              generalize (l[k - 1]'(by omega)).1 = s0 at *
              have hval2 : plainB v 12 = true := hval
              have hrise2 : Op.bytesLess s0.toList s.toList = true := hrise
              clear hin hin2 hc hval hrise
              have q1 : IntKind.i64.wrap ((k : Int) - 1) = (k : Int) - 1 := IntWalk.i64_in _ (by omega)
              have q2 : (0 : Int) ≤ (k : Int) - 1 := by omega
              have q3 : (1 : Int) ≤ (k : Int) := by omega
              have q4 : ((k : Int) - 1).toNat = k - 1 := by omega
              have q5 : (k : Int) - 1 < (n : Int) := by omega
              have q6 : decide (0 < k) = true := decide_eq_true h0
              clear e1
              go_wp2
              go_quiet ((first | (go_at_call 55; exact quiet_same (l1Key_any s _ s1)) | (go_at_call 56; exact quiet_same (l1Plain_any v 12 _ s2))))
              clear q1 q4
              go_wp2
              go_roundw
              case rel => exact ⟨k + 1, by omega, by go_num, Z, Q.out.drewN _⟩
              case measure => simp [intOf]; omega
          · obtain rfl : k = 0 := by omega
            have Z := hide (mapTo_succ hkl H.out hkey hval (fun h => absurd h (by omega)))
            generalize (l[0]'hkl).1 = s at *
            generalize (l[0]'hkl).2 = v at *
            have hval2 : plainB v 12 = true := hval
            have c1' : wr.cell? ⟨b, off, none⟩ = some (.string s) := by simpa using c1
            have c2' : wr.cell? ⟨b, off + 1, none⟩ = some (.string v) := by simpa using c2
            have n0 : 0 < n := hlt
            clear hin hin2 hc hval c1 c2 hlt hk
            go_wp2
            go_quiet ((first | (go_at_call 55; exact quiet_same (l1Key_any s _ s1)) | (go_at_call 56; exact quiet_same (l1Plain_any v 12 _ s2))))
            go_wp2
            go_roundw
            case rel => exact ⟨0 + 1, by omega, rfl, Z, Q.out.drewN _⟩
            case measure => simp [intOf]; omega
    · obtain rfl : k = n := by omega
      by_cases h40 : k ≤ 40
      · have Z : Hid (mapB l = true) := hide (mapB_yes (by rw [HN.out]; omega) (by rw [HN.out]; exact H.out))
        have d : decide ((k : Int) ≤ 40) = true := decide_eq_true (by omega)
        go_wp2
        go_ret
        exact ⟨ret_bool Z.out.symm, Q.out⟩
      · have Z : Hid (mapB l = false) := hide (mapB_len (by rw [HN.out]; omega))
        have d : decide ((k : Int) ≤ 40) = false := decide_eq_false (by omega)
        go_wp2
        go_ret
        exact ⟨ret_bool Z.out.symm, Q.out⟩
end Go.Proofs.YtaofemdhgfejjaaGreatDoor
/-
  What impl.MapOk answers.
-/
namespace Go.Proofs.YtaofemdhgfejjaaGreatDoor
open Go.RowKit

set_option maxRecDepth 100000 in
set_option maxHeartbeats 1000000 in
theorem implMapOk_any (A : Option Addr) (l : List Pr) (cap : Nat) (w : World) (hl : l.length ≤ maxLen) (hin : PIn w w.heap.size A l) :
    Calls Tryz.prog 14 #[.slice A l.length cap] w fun e w' => e = .returned (.bool (mapB l)) ∧ Below w.heap.size w w' := by
  by_cases h40 : l.length ≤ 40
  · generalize hn : l.length = n at *
    have HN := hide hn
    clear hn
    go_enter Tryz.func14, Tryz.ntmps14
    go_wp2
    go_loopw [10] (fun i wr => ∃ k : Nat, k ≤ n ∧ i = .int .i64 k ∧ Hid (pairsTo l k) ∧ Hid (Below w.heap.size w wr)) (fun i _ => n - (intOf i).toNat)
    case atStart => exact ⟨0, Nat.zero_le _, rfl, pairsTo_zero l, Below.refl _ w⟩
    case round =>
      obtain ⟨k, hk, rfl, H, Q⟩ := hrel
      by_cases hlt : k < n
      · have hin2 := hin.below Q.out
        obtain ⟨b, off, rfl, hbB, hc⟩ := hin2.2 (by rw [HN.out]; omega)
        have hkl : k < l.length := by rw [HN.out]; omega
        obtain ⟨c1, c2⟩ := hc k hkl
        obtain ⟨s1, s2⟩ := hin2.1 k hkl
        cases hkey : keyB (l[k]'hkl).1
        · have Z := hide (mapB_key hkl hkey)
          generalize (l[k]'hkl).1 = s at *
          generalize (l[k]'hkl).2 = v at *
          clear hin hin2 hc
          go_wp2_with (go_at_call 31; refine (keyOk_any s _ s1).mono ?_; rintro e w' ⟨rfl, rfl⟩)
          go_ret
          exact ⟨ret_bool Z.out.symm, Q.out.alloc Q.out.size _⟩
        · cases hval : valB (l[k]'hkl).2
          · have Z := hide (mapB_val hkl hval)
            generalize (l[k]'hkl).1 = s at *
            generalize (l[k]'hkl).2 = v at *
            clear hin hin2 hc
            go_wp2_with (first | (go_at_call 31; refine (keyOk_any s _ s1).mono ?_; rintro e w' ⟨rfl, rfl⟩) | (go_at_call 32; refine (valOk_any v _ s2).mono ?_; rintro e w' ⟨rfl, rfl⟩))
            go_ret
            exact ⟨ret_bool Z.out.symm, Q.out.alloc Q.out.size _⟩
          · have Z := hide (pairsTo_succ hkl H.out hkey hval)
            generalize (l[k]'hkl).1 = s at *
            generalize (l[k]'hkl).2 = v at *
            clear hin hin2 hc
            go_wp2_with (first | (go_at_call 31; refine (keyOk_any s _ s1).mono ?_; rintro e w' ⟨rfl, rfl⟩) | (go_at_call 32; refine (valOk_any v _ s2).mono ?_; rintro e w' ⟨rfl, rfl⟩))
            go_roundw
            case rel => exact ⟨k + 1, by omega, by go_num, Z, Q.out.alloc Q.out.size _⟩
            case measure => simp [intOf]; omega
      · obtain rfl : k = n := by omega
        have Z : Hid (mapB l = risesB l) := hide (mapB_of (by rw [HN.out]; exact h40) (by rw [HN.out]; exact H.out))
        have hin2 := (hin.below Q.out).more Q.out.size
        have R := hide (rises_any A l cap wr (by rw [HN.out]; exact hl) hin2)
        rw [HN.out] at R
        clear hin hin2
        go_wp2_with (go_at_call 33; refine R.out.mono ?_; rintro e w' ⟨rfl, hb⟩)
        go_ret
        exact ⟨ret_bool Z.out.symm, Q.out.trans (hb.mono Q.out.size)⟩
  · have Z : Hid (mapB l = false) := hide (mapB_len (by omega))
    unfold maxLen at hl
    have h41 : (40 : Int) < (l.length : Int) := by omega
    go_enter Tryz.func14, Tryz.ntmps14
    go_wp2
    go_ret
    exact ⟨ret_bool Z.out.symm, Below.refl _ _⟩
end Go.Proofs.YtaofemdhgfejjaaGreatDoor
/-
  What Get tells, in the reference and in the program.
-/
namespace Go.Proofs.YtaofemdhgfejjaaGreatDoor
open Go.RowKit

set_option maxRecDepth 100000 in
set_option maxHeartbeats 1000000 in
theorem l1Get_any (A : Option Addr) (l : List Pr) (cap : Nat) (key : ByteArray) (w : World) (B : Nat) (hl : l.length ≤ maxLen) (hin : PIn w B A l) :
    Calls Tryz.prog 59 #[.slice A l.length cap, .string key] w fun e w' => e = .returned (.tuple #[.string (valOf l key), .bool (hasB l key)]) ∧ w = w' := by
  have R := hide (l1At_any A l cap key w B hl hin)
  have hle := atN_le l key
  unfold maxLen at hl
  by_cases hlt : atN l key < l.length
  · obtain ⟨b, off, rfl, hbB, hc⟩ := hin.2 (by omega)
    obtain ⟨c1, c2⟩ := hc (atN l key) hlt
    have ne : ((atN l key : Int) == (l.length : Int)) = false := by rw [beq_eq_false_iff_ne]; omega
    by_cases he : (l[atN l key]'hlt).1 = key
    · have Z := hide (ret_sb (valOf_yes hlt he) (hasB_yes hlt he))
      have d1 := eqS_yes he
      generalize (l[atN l key]'hlt).1 = s at *
      generalize (l[atN l key]'hlt).2 = v at *
      generalize atN l key = m at *
      clear hin hc he
      generalize l.length = n at *
      go_enter Tryz.func59, Tryz.ntmps59
      go_wp2_with (go_at_call 80; refine R.out.mono ?_; rintro e w' ⟨rfl, rfl⟩)
      go_ret2
      exact ⟨Z.out.symm, rfl⟩
    · have Z := hide (ret_sb (valOf_no (hasB_no hlt he)) (hasB_no hlt he))
      have d1 := eqS_no he
      generalize (l[atN l key]'hlt).1 = s at *
      generalize (l[atN l key]'hlt).2 = v at *
      generalize atN l key = m at *
      clear hin hc he
      generalize l.length = n at *
      go_enter Tryz.func59, Tryz.ntmps59
      go_wp2_with (go_at_call 80; refine R.out.mono ?_; rintro e w' ⟨rfl, rfl⟩)
      go_ret2
      exact ⟨Z.out.symm, rfl⟩
  · have Z := hide (ret_sb (valOf_no (hasB_end hlt)) (hasB_end hlt))
    have ne : ((atN l key : Int) == (l.length : Int)) = true := by rw [beq_iff_eq]; omega
    generalize atN l key = m at *
    clear hin
    generalize l.length = n at *
    go_enter Tryz.func59, Tryz.ntmps59
    go_wp2_with (go_at_call 80; refine R.out.mono ?_; rintro e w' ⟨rfl, rfl⟩)
    go_ret2
    exact ⟨Z.out.symm, rfl⟩

theorem getB_no {l : List Pr} {k : ByteArray} (h : mapB l = false) : getB l k = false := by unfold getB; rw [h]; rfl
theorem getB_yes {l : List Pr} {k : ByteArray} (h : mapB l = true) : getB l k = hasB l k := by unfold getB; rw [h]; rfl
theorem getV_no {l : List Pr} {k : ByteArray} (h : mapB l = false) : getV l k = ByteArray.empty := by unfold getV; rw [h]; rfl
theorem getV_yes {l : List Pr} {k : ByteArray} (h : mapB l = true) : getV l k = valOf l k := by unfold getV; rw [h]; rfl

set_option maxRecDepth 100000 in
set_option maxHeartbeats 1000000 in
theorem specGet_any (A : Option Addr) (l : List Pr) (cap : Nat) (key : ByteArray) (w : World) (B : Nat) (hl : l.length ≤ maxLen) (hin : PIn w B A l) :
    Calls Tryz.prog 71 #[.slice A l.length cap, .string key] w fun e w' => e = .returned (.tuple #[.string (getV l key), .bool (getB l key)]) ∧ Quiet w w' := by
  cases hm : mapB l
  · have Z := hide (ret_sb (getV_no (k := key) hm) (getB_no (k := key) hm))
    go_enter Tryz.func71, Tryz.ntmps71
    go_wp2_with (go_at_call 28; refine (specMapOk_any A l cap _ B hl hin).mono ?_; rintro e w' ⟨rfl, q⟩)
    go_ret2
    exact ⟨Z.out.symm, q⟩
  · have Z := hide (ret_sb (getV_yes (k := key) hm) (getB_yes (k := key) hm))
    go_enter Tryz.func71, Tryz.ntmps71
    go_wp2_with (first | (go_at_call 28; refine (specMapOk_any A l cap _ B hl hin).mono ?_; rintro e w' ⟨rfl, q⟩) | (go_at_call 59; refine (l1Get_any A l cap key _ B hl (hin.quiet q)).mono ?_; rintro e w'' ⟨rfl, rfl⟩))
    go_ret2
    exact ⟨Z.out.symm, q⟩

set_option maxRecDepth 100000 in
set_option maxHeartbeats 1000000 in
theorem implGet_any (A : Option Addr) (l : List Pr) (cap : Nat) (key : ByteArray) (w : World) (hl : l.length ≤ maxLen) (hin : PIn w w.heap.size A l) :
    Calls Tryz.prog 13 #[.slice A l.length cap, .string key] w fun e w' => e = .returned (.tuple #[.string (getV l key), .bool (getB l key)]) ∧ Below w.heap.size w w' := by
  cases hm : mapB l
  · have Z := hide (ret_sb (getV_no (k := key) hm) (getB_no (k := key) hm))
    go_enter Tryz.func13, Tryz.ntmps13
    go_wp2_with (go_at_call 14; refine (implMapOk_any A l cap _ hl hin).mono ?_; rintro e w' ⟨rfl, q⟩)
    go_ret2
    exact ⟨Z.out.symm, q⟩
  · have h40 := (mapB_iff.1 hm).1
    have HR := hide (mapB_iff.1 hm).2.2
    have R := hide (implMapOk_any A l cap w hl hin)
    have hle := atN_le l key
    cases hh : hasB l key
    · have Z2 := hide (ret_sb ((getV_yes (k := key) hm).trans (valOf_no hh)) ((getB_yes (k := key) hm).trans hh))
      go_enter Tryz.func13, Tryz.ntmps13
      go_wp2_with fail
      refine R.out.mono ?_
      rintro e w1 ⟨rfl, b1⟩
      have in1 := (hin.below b1).more b1.size
      go_wp2_with fail
      refine (place_any A l cap key _ (by omega) in1 HR.out).mono ?_
      rintro e w2 ⟨rfl, b2⟩
      go_wp2
      go_ret2
      exact ⟨Z2.out.symm, b1.trans (b2.mono b1.size)⟩
    · obtain ⟨hlt, he⟩ := hasB_iff.1 hh
      have Z2 := hide (ret_sb ((getV_yes (k := key) hm).trans (valOf_yes hlt he)) ((getB_yes (k := key) hm).trans hh))
      have HA := hide (hin.2 (by omega))
      go_enter Tryz.func13, Tryz.ntmps13
      go_wp2_with fail
      refine R.out.mono ?_
      rintro e w1 ⟨rfl, b1⟩
      have in1 := (hin.below b1).more b1.size
      go_wp2_with fail
      refine (place_any A l cap key _ (by omega) in1 HR.out).mono ?_
      rintro e w2 ⟨rfl, b2⟩
      have in2 := in1.below b2
      obtain ⟨b, off, rfl, hbB, hc⟩ := in2.2 (by omega)
      obtain ⟨c1, c2⟩ := hc (atN l key) hlt
      have BB := hide (b1.trans (b2.mono b1.size))
      generalize (l[atN l key]'hlt).1 = s at *
      generalize (l[atN l key]'hlt).2 = v at *
      generalize atN l key = m at *
      clear hc in1 in2 b1 b2 he HA R hin
      go_wp2
      go_ret2
      exact ⟨Z2.out.symm, BB.out⟩
end Go.Proofs.YtaofemdhgfejjaaGreatDoor
/-
  What Put and Drop answer, in the reference and in the program.
-/
namespace Go.Proofs.YtaofemdhgfejjaaGreatDoor
open Go.RowKit

theorem setS_setL {l : List Pr} (hr : risesTo l l.length) (k v : ByteArray) : setS l k v = setL l k v := by
  unfold setS setL
  cases hh : hasB l k
  · have hd : delL l k = l := by unfold delL; rw [hh]; simp
    rw [hd]
    simp
  · obtain ⟨hlt, he⟩ := hasB_iff.1 hh
    have hd : delL l k = l.eraseIdx (atN l k) := by unfold delL; rw [if_pos hh]
    have hel : (l.eraseIdx (atN l k)).length = l.length - 1 := by rw [List.length_eraseIdx, if_pos hlt]
    have ha : atN (l.eraseIdx (atN l k)) k = atN l k := by
      refine atN_eq (by omega) (fun i hi hik => ?_) (fun h => ?_)
      · rw [List.getElem_eraseIdx_of_lt (by omega) hik]
        exact atN_lt l k i hik (by omega)
      · rw [List.getElem_eraseIdx_of_ge (by omega) (Nat.le_refl _)]
        have h1 : atN l k + 1 < l.length := by omega
        have h2 := hr (atN l k) h1 h1
        rw [he] at h2
        exact ltB_asymm h2
    rw [hd, ha, List.eraseIdx_eq_take_drop_succ]
    have ht : (l.take (atN l k)).length = atN l k := by rw [List.length_take]; omega
    rw [List.take_append_of_le_length (by omega), List.take_take, Nat.min_self, List.drop_append_of_le_length (by omega), List.drop_of_length_le (by omega)]
    simp

noncomputable def putB (l : List Pr) (k v : ByteArray) : Bool := mapB l && mapB (setL l k v)
noncomputable def putL (l : List Pr) (k v : ByteArray) : List Pr := if putB l k v = true then setL l k v else []
noncomputable def dropL (l : List Pr) (k : ByteArray) : List Pr := if getB l k = true then l.eraseIdx (atN l k) else []
theorem mem_setL (l : List Pr) (k v : ByteArray) : ∃ h : atN l k < (setL l k v).length, (setL l k v)[atN l k] = (k, v) := by
  have hle := atN_le l k
  have ht : (l.take (atN l k)).length = atN l k := by rw [List.length_take]; omega
  refine ⟨by unfold setL; rw [List.length_append, ht]; simp, ?_⟩
  unfold setL
  rw [List.getElem_append_right (by omega)]
  simp [ht]
theorem putB_bad {l : List Pr} {k v : ByteArray} (h : keyB k = false ∨ valB v = false) : mapB (setL l k v) = false := by
  obtain ⟨hlt, he⟩ := mem_setL l k v
  rcases h with h | h
  · exact mapB_key hlt (by rw [he]; exact h)
  · exact mapB_val hlt (by rw [he]; exact h)
theorem putB_no {l : List Pr} {k v : ByteArray} (h : mapB l = false) : putB l k v = false := by unfold putB; rw [h]; rfl
theorem putB_no2 {l : List Pr} {k v : ByteArray} (h : mapB (setL l k v) = false) : putB l k v = false := by unfold putB; rw [h, Bool.and_false]
theorem putB_yes {l : List Pr} {k v : ByteArray} (h : mapB l = true) (h' : mapB (setL l k v) = true) : putB l k v = true := by unfold putB; rw [h, h']; rfl
theorem putL_no {l : List Pr} {k v : ByteArray} (h : putB l k v = false) : putL l k v = [] := by unfold putL; rw [h]; rfl
theorem putL_yes {l : List Pr} {k v : ByteArray} (h : putB l k v = true) : putL l k v = setL l k v := by unfold putL; rw [h]; rfl
theorem dropL_no {l : List Pr} {k : ByteArray} (h : getB l k = false) : dropL l k = [] := by unfold dropL; rw [h]; rfl
theorem dropL_yes {l : List Pr} {k : ByteArray} (h : getB l k = true) : dropL l k = l.eraseIdx (atN l k) := by unfold dropL; rw [h]; rfl
theorem setL_len (l : List Pr) (k v : ByteArray) : (setL l k v).length ≤ l.length + 1 := by
  have hle := atN_le l k
  unfold setL
  rw [List.length_append, List.length_take, List.length_cons, List.length_drop]
  split <;> omega

/-- a list of pairs of the call's own, and whether there is one -/
def RetOwnB (B : Nat) (l : List Pr) (b : Bool) (w : World) (e : Ending) (w' : World) : Prop := ∃ A cap, l.length ≤ cap ∧ e = .returned (.tuple #[.slice A l.length cap, .bool b]) ∧ Own w' B A cap l ∧ Below B w w'
theorem retOwnB_no {B : Nat} {l : List Pr} {b : Bool} {w w' : World} (hl : l = []) (hb : b = false) (h : Below B w w') : RetOwnB B l b w (.returned (.tuple #[.slice none 0 0, .bool false])) w' := by
  subst hl hb; exact ⟨none, 0, by simp, rfl, Own.nil _ _, h⟩


set_option maxRecDepth 100000 in
set_option maxHeartbeats 1000000 in
theorem specPut_any (A : Option Addr) (l : List Pr) (cap : Nat) (k v : ByteArray) (w : World) (hl : l.length ≤ maxLen) (hc : l.length ≤ cap) (hin : PIn w w.heap.size A l) (hks : k.size ≤ maxLen) (hvs : v.size ≤ maxLen) :
    Calls Tryz.prog 45 #[.slice A l.length cap, .string k, .string v] w (RetOwnB w.heap.size (putL l k v) (putB l k v) w) := by
  have R := hide (specMapOk_any A l cap w _ hl hin)
  cases hm : mapB l
  · have Z := hide (putB_no (k := k) (v := v) hm)
    go_enter Tryz.func45, Tryz.ntmps45
    go_wp2_with (go_at_call 28; refine R.out.mono ?_; rintro e w' ⟨rfl, q⟩)
    go_ret2
    exact retOwnB_no (putL_no Z.out) Z.out (q.below _)
  · cases hk : keyB k
    · have Z := hide (putB_no2 (putB_bad (l := l) (k := k) (v := v) (.inl hk)))
      go_enter Tryz.func45, Tryz.ntmps45
      go_wp2_with (first | (go_at_call 28; refine R.out.mono ?_; rintro e w' ⟨rfl, q⟩) | (go_at_call 55; refine (l1Key_any k _ hks).mono ?_; rintro e w'' ⟨rfl, rfl⟩))
      go_ret2
      exact retOwnB_no (putL_no Z.out) Z.out (q.below _)
    · cases hv : valB v
      · have Z := hide (putB_no2 (putB_bad (l := l) (k := k) (v := v) (.inr hv)))
        have hv2 : plainB v 12 = false := hv
        clear hv
        go_enter Tryz.func45, Tryz.ntmps45
        go_wp2_with (first | (go_at_call 28; refine R.out.mono ?_; rintro e w' ⟨rfl, q⟩) | (go_at_call 55; refine (l1Key_any k _ hks).mono ?_; rintro e w'' ⟨rfl, rfl⟩) | (go_at_call 56; refine (l1Plain_any v 12 _ hvs).mono ?_; rintro e w'' ⟨rfl, rfl⟩))
        go_ret2
        exact retOwnB_no (putL_no Z.out) Z.out (q.below _)
      · have h40 := (mapB_iff.1 hm).1
        have HS := hide (setS_setL (mapB_iff.1 hm).2.2 k v)
        have hsl := setL_len l k v
        have hv2 : plainB v 12 = true := hv
        clear hv
        go_enter Tryz.func45, Tryz.ntmps45
        go_wp2_with (first | (go_at_call 28; refine R.out.mono ?_; rintro e w1 ⟨rfl, q1⟩) | (go_at_call 55; refine (l1Key_any k _ hks).mono ?_; rintro e w'' ⟨rfl, rfl⟩) | (go_at_call 56; refine (l1Plain_any v 12 _ hvs).mono ?_; rintro e w'' ⟨rfl, rfl⟩))
        have in1 := (hin.quiet q1).more (B' := w1.heap.size) (by rw [q1.heap]; exact Nat.le_refl _)
        refine (l1Set_any A l cap k v w1 (by omega) hc in1 hks hvs).mono ?_
        rintro e w2 ⟨A2, cap2, hc2, rfl, own2, b2⟩
        rw [HS.out] at hc2 own2 ⊢
        have in2 := own2.pin
        go_wp2_with fail
        refine (specMapOk_any A2 (setL l k v) cap2 w2 _ (by unfold maxLen; omega) in2).mono ?_
        rintro e w3 ⟨rfl, q3⟩
        have B3 := hide (((q1.below w.heap.size).trans (b2.mono (by rw [q1.heap]; exact Nat.le_refl _))).trans (q3.below _))
        have O3 := hide ((own2.below (q3.below _)).more (B' := w.heap.size) (by rw [q1.heap]; exact Nat.le_refl _))
        clear in1 in2 own2 b2 q3 R
        cases hm2 : mapB (setL l k v)
        · have Z := hide (putB_no2 (l := l) (k := k) (v := v) hm2)
          go_wp2
          go_ret2
          exact retOwnB_no (putL_no Z.out) Z.out B3.out
        · have Z := hide (putB_yes hm hm2)
          go_wp2
          go_ret2
          refine ⟨A2, cap2, ?_, ?_, ?_, B3.out⟩
          · rw [putL_yes Z.out]; exact hc2
          · rw [putL_yes Z.out, Z.out]; rfl
          · rw [putL_yes Z.out]; exact O3.out
end Go.Proofs.YtaofemdhgfejjaaGreatDoor
/-
  What Drop answers, in the reference and in the program; rows that lie apart.
-/
namespace Go.Proofs.YtaofemdhgfejjaaGreatDoor
open Go.RowKit

theorem putL_len (l : List Pr) (k v : ByteArray) : (putL l k v).length ≤ 40 := by
  cases e : putB l k v
  · rw [putL_no e]; simp
  · rw [putL_yes e]
    have : mapB (setL l k v) = true := by
      cases h : mapB (setL l k v)
      · rw [putB_no2 h] at e; cases e
      · rfl
    exact (mapB_iff.1 this).1
theorem dropL_len (l : List Pr) (k : ByteArray) : (dropL l k).length ≤ 40 := by
  cases e : getB l k
  · rw [dropL_no e]; simp
  · rw [dropL_yes e, List.length_eraseIdx]
    have : mapB l = true := by
      cases h : mapB l
      · rw [getB_no h] at e; cases e
      · rfl
    have := (mapB_iff.1 this).1
    split <;> omega
theorem rowOf_some {b o g : Nat} (h : rowOf (some (⟨b, o, none⟩ : Addr)) = some g) : b = g := by injection h
theorem Own.apart {w w' : World} {B : Nat} {A A' : Option Addr} {cap : Nat} {l : List Pr} (h : Own w B A cap l) (hg : w.grownBy w' (rowOf A')) (hne : ∀ g, rowOf A = some g → rowOf A' ≠ some g) : Own w' B A cap l := by
  refine ⟨h.1, h.2.kept hg ?_⟩
  rw [rowOf_own]
  cases e : rowOf A with
  | none => exact .inl rfl
  | some g => exact .inr (fun x => hne g e x.symm)
theorem Own.row {w : World} {B : Nat} {A : Option Addr} {cap : Nat} {l : List Pr} (h : Own w B A cap l) : ∀ g, rowOf A = some g → B ≤ g ∧ g < w.heap.size := by
  intro g hg
  exact h.2.lt g (by rw [rowOf_own]; exact hg)


set_option maxRecDepth 100000 in
set_option maxHeartbeats 1000000 in
theorem specDrop_any (A : Option Addr) (l : List Pr) (cap : Nat) (k : ByteArray) (w : World) (hl : l.length ≤ maxLen) (hc : l.length ≤ cap) (hin : PIn w w.heap.size A l) :
    Calls Tryz.prog 48 #[.slice A l.length cap, .string k] w (RetOwnB w.heap.size (dropL l k) (getB l k) w) := by
  have R := hide (specGet_any A l cap k w _ hl hin)
  cases hg : getB l k
  · have Z := hide (dropL_no hg)
    go_enter Tryz.func48, Tryz.ntmps48
    go_wp2_with (go_at_call 71; refine R.out.mono ?_; rintro e w' ⟨rfl, q⟩)
    go_ret2
    exact retOwnB_no Z.out rfl (q.below _)
  · have hm : mapB l = true := by
      cases e : mapB l
      · rw [getB_no e] at hg; cases hg
      · rfl
    have hh : hasB l k = true := by rw [← getB_yes (k := k) hm]; exact hg
    have h40 := (mapB_iff.1 hm).1
    have HD : Hid (delL l k = dropL l k) := hide (by rw [dropL_yes hg]; unfold delL; rw [if_pos hh])
    clear hm hh
    go_enter Tryz.func48, Tryz.ntmps48
    go_wp2_with fail
    refine R.out.mono ?_
    rintro e w1 ⟨rfl, q1⟩
    have in1 := (hin.quiet q1).more (B' := w1.heap.size) (by rw [q1.heap]; exact Nat.le_refl _)
    go_wp2_with fail
    refine (l1Drop_any A l cap k w1 (by omega) hc in1).mono ?_
    rintro e w2 ⟨A2, cap2, hc2, rfl, own2, b2⟩
    rw [HD.out] at hc2 own2 ⊢
    have B2 := hide ((q1.below w.heap.size).trans (b2.mono (by rw [q1.heap]; exact Nat.le_refl _)))
    have O2 := hide (own2.more (B' := w.heap.size) (by rw [q1.heap]; exact Nat.le_refl _))
    clear own2 b2 in1 q1
    go_wp2
    go_ret2
    exact ⟨A2, cap2, hc2, rfl, O2.out, B2.out⟩
end Go.Proofs.YtaofemdhgfejjaaGreatDoor
/-
  What is drawn: maps, keys and values (loosely: that they are such). And sameMap.
-/
namespace Go.Proofs.YtaofemdhgfejjaaGreatDoor
open Go.RowKit

theorem Own.rd {w w' : World} {rb : Nat} {A : Option Addr} {cap : Nat} {l : List Pr} (h : Own w (rb + 1) A cap l) (hg : w.grownBy w' (some rb)) : Own w' (rb + 1) A cap l := by
  refine ⟨h.1, h.2.kept hg ?_⟩
  rw [rowOf_own]
  cases e : rowOf A with
  | none => exact .inl rfl
  | some g => exact .inr (fun x => by injection x with x; have := (h.row g e).1; omega)

/-- a drawn map -/
def RdL (rb : Nat) (w : World) (e : Ending) (w' : World) : Prop := ∃ A cap l, l.length ≤ cap ∧ l.length ≤ 40 ∧ e = .returned (.slice A l.length cap) ∧ Own w' (rb + 1) A cap l ∧ Rd w' rb ∧ w.grownBy w' (some rb)

set_option maxRecDepth 100000 in
set_option maxHeartbeats 1000000 in
theorem pairs_any (rb : Nat) (most : Int) (w : World) (h : Rd w rb) (h0 : 0 ≤ most) (h1 : most ≤ 100) :
    Calls Tryz.prog 23 #[.pointer (some ⟨rb, 0, none⟩), .int .i64 most] w (RdL rb w) := by
  have hlt := h.lt
  have O0 := hide (Own.built w (rb + 1) hlt)
  have r0 := h.below ((Below.refl _ w).alloc (Nat.le_refl _) (.cells #[] 60))
  clear h
  go_enter Tryz.func23, Tryz.ntmps23
  go_wp2_with fail
  refine (below_any rb (most + 1) _ r0 (by omega) (by omega)).mono ?_
  rintro e w1 ⟨x, hx0, hx1, rfl, r1, g1⟩
  obtain ⟨k0, rfl⟩ := Int.eq_ofNat_of_zero_le hx0
  have O1 := hide (O0.out.rd g1)
  have R1 := hide r1
  have G1 := hide (World.grownBy.trans (World.grownBy_alloc w _ _) g1)
  clear r0 r1 g1 O0
  go_wp2
  go_loopw [5, 6] (fun m i wr => ∃ (k : Nat) (A : Option Addr) (cap : Nat) (l : List Pr), k ≤ k0 ∧ i = .int .i64 k ∧ m = .slice A l.length cap ∧ l.length ≤ 40 ∧ Hid (Own wr (rb + 1) A cap l) ∧ Hid (Rd wr rb) ∧ Hid (w.grownBy wr (some rb))) (fun _ i _ => (intOf i).toNat)
  case atStart => exact ⟨k0, _, 0, [], Nat.le_refl _, rfl, rfl, by simp, O1, R1, G1⟩
  case round =>
    clear O1 R1 G1
    obtain ⟨k, A, cap, l, hk, rfl, rfl, hl, O, R, G⟩ := hrel
    by_cases hk0 : 0 < k
    · have hrl := R.out.lt
      go_wp2_with fail
      refine (key_any rb wr R.out).mono ?_
      rintro e w2 ⟨s, hs, _, rfl, r2, g2⟩
      have O2 := hide (O.out.rd g2)
      have G2 := hide (World.grownBy.trans G.out g2)
      clear g2 O R G
      go_wp2_with fail
      refine (val_any rb w2 r2).mono ?_
      rintro e w3 ⟨v, hv, _, rfl, r3, g3⟩
      have O3 := hide (O2.out.rd g3)
      have R3 := hide r3
      have G3 := hide (World.grownBy.trans G2.out g3)
      clear g3 O2 G2 r2 r3
      go_wp2_with fail
      refine (specPut_any A l cap s v w3 (by unfold maxLen; omega) O3.out.cap_le O3.out.pin (by unfold maxLen; omega) (by unfold maxLen; omega)).mono ?_
      rintro e w4 ⟨A4, cap4, hc4, rfl, own4, b4⟩
      have O4 := hide (own4.more (B' := rb + 1) R3.out.lt)
      have O4' := hide (O3.out.below b4)
      have R4 := hide (R3.out.below b4)
      have G4 := hide (World.grownBy.trans G3.out (grown_of_below b4))
      have hpl := putL_len l s v
      clear own4 b4 O3 R3 G3
      cases hb : putB l s v
      · go_wp2
        go_roundw
        case rel => exact ⟨k - 1, A, cap, l, by omega, by go_num, rfl, hl, O4', R4, G4⟩
        case measure => simp [intOf]; omega
      · go_wp2
        go_roundw
        case rel => exact ⟨k - 1, A4, cap4, putL l s v, by omega, by go_num, rfl, hpl, O4, R4, G4⟩
        case measure => simp [intOf]; omega
    · go_wp2
      go_ret
      exact ⟨A, cap, l, O.out.cap_le, hl, rfl, O.out, R.out, G.out⟩

/-- a drawn map, a key and a value -/
def DrawnPut (w : World) (e : Ending) (w' : World) : Prop := ∃ A cap l k v, l.length ≤ cap ∧ l.length ≤ 40 ∧ k.size ≤ 12 ∧ v.size ≤ 12 ∧ Hid (k ≠ otherS) ∧ e = .returned (.tuple #[.slice A l.length cap, .string k, .string v]) ∧ Own w' w.heap.size A cap l ∧ Below w.heap.size w w'
/-- a drawn map and a key -/
def DrawnGet (w : World) (e : Ending) (w' : World) : Prop := ∃ A cap l k, l.length ≤ cap ∧ l.length ≤ 40 ∧ k.size ≤ 12 ∧ e = .returned (.tuple #[.slice A l.length cap, .string k]) ∧ Own w' w.heap.size A cap l ∧ Below w.heap.size w w'
/-- a drawn map -/
def DrawnMap (w : World) (e : Ending) (w' : World) : Prop := ∃ A cap l, l.length ≤ cap ∧ l.length ≤ 40 ∧ e = .returned (.slice A l.length cap) ∧ Own w' w.heap.size A cap l ∧ Below w.heap.size w w'






end Go.Proofs.YtaofemdhgfejjaaGreatDoor
/-
  Right maps by their pairs: two of the same pairs are one; what is put, what is dropped, what is got. Plain mathematics.
-/
namespace Go.Proofs.YtaofemdhgfejjaaGreatDoor
open Go.RowKit

def Ris (l : List Pr) : Prop := l.Pairwise fun a b => ltB a.1 b.1 = true
theorem ris_iff {l : List Pr} : risesTo l l.length ↔ Ris l := by
  constructor
  · intro h
    unfold Ris
    rw [List.pairwise_iff_getElem]
    intro i j hi hj hij
    exact rises_lt h j hj i hij
  · intro h i hi _
    exact List.pairwise_iff_getElem.1 h i (i + 1) (by omega) hi (by omega)
theorem Ris.ext : ∀ {l l' : List Pr}, Ris l → Ris l' → (∀ p, p ∈ l ↔ p ∈ l') → l = l'
  | [], [], _, _, _ => rfl
  | [], b :: t, _, _, h => absurd ((h b).2 (List.mem_cons_self ..)) (by simp)
  | a :: t, [], _, _, h => absurd ((h a).1 (List.mem_cons_self ..)) (by simp)
  | a :: t, b :: t', h1, h2, h => by
    have h1' := List.pairwise_cons.1 h1
    have h2' := List.pairwise_cons.1 h2
    have hab : a = b := by
      rcases List.mem_cons.1 ((h a).1 (List.mem_cons_self ..)) with e | e
      · exact e
      · rcases List.mem_cons.1 ((h b).2 (List.mem_cons_self ..)) with e' | e'
        · exact e'.symm
        · have x := h2'.1 a e
          have y := h1'.1 b e'
          rw [ltB_asymm x] at y
          cases y
    subst hab
    congr 1
    refine Ris.ext h1'.2 h2'.2 fun p => ⟨fun hp => ?_, fun hp => ?_⟩
    · rcases List.mem_cons.1 ((h p).1 (List.mem_cons_of_mem _ hp)) with e | e
      · subst e; have := h1'.1 p hp; rw [ltB_irrefl] at this; cases this
      · exact e
    · rcases List.mem_cons.1 ((h p).2 (List.mem_cons_of_mem _ hp)) with e | e
      · subst e; have := h2'.1 p hp; rw [ltB_irrefl] at this; cases this
      · exact e
theorem Ris.key {l : List Pr} (h : Ris l) {k v v' : ByteArray} (a : (k, v) ∈ l) (b : (k, v') ∈ l) : v = v' := by
  obtain ⟨i, hi, e⟩ := List.getElem_of_mem a
  obtain ⟨j, hj, e'⟩ := List.getElem_of_mem b
  rcases Nat.lt_trichotomy i j with g | g | g
  · have := List.pairwise_iff_getElem.1 h i j hi hj g
    rw [e, e', ltB_irrefl] at this; cases this
  · subst g; rw [e] at e'; injection e'
  · have := List.pairwise_iff_getElem.1 h j i hj hi g
    rw [e, e', ltB_irrefl] at this; cases this
theorem ne_of_lt {a b : ByteArray} (h : ltB a b = true) : a ≠ b := by rintro rfl; rw [ltB_irrefl] at h; cases h
theorem mem_take {l : List Pr} (h : Ris l) (k : ByteArray) (p : Pr) : p ∈ l.take (atN l k) ↔ p ∈ l ∧ ltB p.1 k = true := by
  constructor
  · intro hp
    obtain ⟨i, hi, e⟩ := List.getElem_of_mem hp
    rw [List.length_take] at hi
    rw [List.getElem_take] at e
    subst e
    exact ⟨List.getElem_mem _, atN_lt l k i (by omega) (by omega)⟩
  · rintro ⟨hp, hlt⟩
    obtain ⟨i, hi, e⟩ := List.getElem_of_mem hp
    subst e
    have hia : i < atN l k := by
      rcases Nat.lt_or_ge i (atN l k) with g | g
      · exact g
      · have hn := atN_not l k (by omega)
        rcases Nat.lt_or_ge (atN l k) i with g' | g'
        · have := List.pairwise_iff_getElem.1 h (atN l k) i (by omega) hi g'
          rw [ltB_trans this hlt] at hn; cases hn
        · obtain rfl : i = atN l k := by omega
          rw [hlt] at hn; cases hn
    have : (l.take (atN l k))[i]'(by rw [List.length_take]; omega) = l[i] := List.getElem_take ..
    rw [← this]
    exact List.getElem_mem _
theorem lt_at {l : List Pr} {k : ByteArray} (hh : hasB l k = false) (h : atN l k < l.length) : ltB k l[atN l k].1 = true := by
  rcases ltB_tri l[atN l k].1 k with g | g | g
  · rw [atN_not l k h] at g; cases g
  · rw [hasB_yes h g] at hh; cases hh
  · exact g
/-- from where on the keys are greater -/
def behind (l : List Pr) (k : ByteArray) : Nat := if hasB l k = true then atN l k + 1 else atN l k
theorem mem_drop {l : List Pr} (h : Ris l) (k : ByteArray) (p : Pr) : p ∈ l.drop (behind l k) ↔ p ∈ l ∧ ltB k p.1 = true := by
  have key : ∀ i (hi : i < l.length), behind l k ≤ i ↔ ltB k l[i].1 = true := by
    intro i hi
    unfold behind
    cases hh : hasB l k
    · simp only [Bool.false_eq_true, if_false]
      constructor
      · intro g
        have h1 := lt_at hh (by omega)
        rcases Nat.lt_or_ge (atN l k) i with g' | g'
        · exact ltB_trans h1 (List.pairwise_iff_getElem.1 h (atN l k) i (by omega) hi g')
        · obtain rfl : i = atN l k := by omega
          exact h1
      · intro g
        rcases Nat.lt_or_ge i (atN l k) with g' | g'
        · have := atN_lt l k i g' hi
          rw [ltB_asymm this] at g; cases g
        · exact g'
    · obtain ⟨hlt, he⟩ := hasB_iff.1 hh
      simp only [if_true]
      constructor
      · intro g
        have := List.pairwise_iff_getElem.1 h (atN l k) i hlt hi (by omega)
        rw [he] at this
        exact this
      · intro g
        rcases Nat.lt_trichotomy i (atN l k) with g' | g' | g'
        · have := atN_lt l k i g' hi
          rw [ltB_asymm this] at g; cases g
        · subst g'
          rw [he, ltB_irrefl] at g; cases g
        · omega
  constructor
  · intro hp
    obtain ⟨i, hi, e⟩ := List.getElem_of_mem hp
    rw [List.length_drop] at hi
    rw [List.getElem_drop] at e
    subst e
    exact ⟨List.getElem_mem _, (key _ (by omega)).1 (by omega)⟩
  · rintro ⟨hp, hlt⟩
    obtain ⟨i, hi, e⟩ := List.getElem_of_mem hp
    subst e
    have hb := (key i hi).2 hlt
    have : (l.drop (behind l k))[i - behind l k]'(by rw [List.length_drop]; omega) = l[i] := by
      rw [List.getElem_drop]
      congr 1
      omega
    rw [← this]
    exact List.getElem_mem _
theorem setL_behind (l : List Pr) (k v : ByteArray) : setL l k v = l.take (atN l k) ++ (k, v) :: l.drop (behind l k) := rfl
theorem mem_set {l : List Pr} (h : Ris l) (k v : ByteArray) (p : Pr) : p ∈ setL l k v ↔ p = (k, v) ∨ (p ∈ l ∧ p.1 ≠ k) := by
  rw [setL_behind, List.mem_append, List.mem_cons, mem_take h, mem_drop h]
  constructor
  · rintro (⟨a, b⟩ | a | ⟨a, b⟩)
    · exact .inr ⟨a, ne_of_lt b⟩
    · exact .inl a
    · exact .inr ⟨a, (ne_of_lt b).symm⟩
  · rintro (a | ⟨a, b⟩)
    · exact .inr (.inl a)
    · rcases ltB_tri p.1 k with g | g | g
      · exact .inl ⟨a, g⟩
      · exact absurd g b
      · exact .inr (.inr ⟨a, g⟩)
theorem ris_set {l : List Pr} (h : Ris l) (k v : ByteArray) : Ris (setL l k v) := by
  unfold Ris
  rw [setL_behind, List.pairwise_append, List.pairwise_cons]
  refine ⟨List.Pairwise.sublist (List.take_sublist _ _) h, ⟨fun p hp => ((mem_drop h k p).1 hp).2, List.Pairwise.sublist (List.drop_sublist _ _) h⟩, fun a ha b hb => ?_⟩
  have h1 := ((mem_take h k a).1 ha).2
  rcases List.mem_cons.1 hb with e | e
  · subst e; exact h1
  · exact ltB_trans h1 ((mem_drop h k b).1 e).2
theorem at_mem {l : List Pr} {k : ByteArray} (hlt : atN l k < l.length) (he : l[atN l k].1 = k) : (k, l[atN l k].2) ∈ l := by
  have e : (k, l[atN l k].2) = l[atN l k] := Prod.ext he.symm rfl
  rw [e]
  exact List.getElem_mem _
theorem has_iff {l : List Pr} (h : Ris l) (k : ByteArray) : hasB l k = true ↔ ∃ v, (k, v) ∈ l := by
  constructor
  · intro hh
    obtain ⟨hlt, he⟩ := hasB_iff.1 hh
    exact ⟨l[atN l k].2, at_mem hlt he⟩
  · rintro ⟨v, hv⟩
    cases hh : hasB l k
    · have e1 : ¬ (k, v) ∈ l.take (atN l k) := fun x => by have := ((mem_take h k (k, v)).1 x).2; rw [ltB_irrefl] at this; cases this
      have e2 : ¬ (k, v) ∈ l.drop (behind l k) := fun x => by have := ((mem_drop h k (k, v)).1 x).2; rw [ltB_irrefl] at this; cases this
      have : behind l k = atN l k := by unfold behind; rw [hh]; rfl
      rw [this] at e2
      rw [← List.take_append_drop (atN l k) l, List.mem_append] at hv
      rcases hv with hv | hv
      · exact absurd hv e1
      · exact absurd hv e2
    · rfl
theorem val_of {l : List Pr} (h : Ris l) {k v : ByteArray} (hv : (k, v) ∈ l) : valOf l k = v := by
  obtain ⟨hlt, he⟩ := hasB_iff.1 ((has_iff h k).2 ⟨v, hv⟩)
  rw [valOf_yes hlt he]
  exact h.key (at_mem hlt he) hv
theorem mem_erase {l : List Pr} (h : Ris l) {k : ByteArray} (hh : hasB l k = true) (p : Pr) : p ∈ l.eraseIdx (atN l k) ↔ p ∈ l ∧ p.1 ≠ k := by
  rw [List.eraseIdx_eq_take_drop_succ, List.mem_append, mem_take h]
  have : atN l k + 1 = behind l k := by unfold behind; rw [hh]; rfl
  rw [this, mem_drop h]
  constructor
  · rintro (⟨a, b⟩ | ⟨a, b⟩)
    · exact ⟨a, ne_of_lt b⟩
    · exact ⟨a, (ne_of_lt b).symm⟩
  · rintro ⟨a, b⟩
    rcases ltB_tri p.1 k with g | g | g
    · exact .inl ⟨a, g⟩
    · exact absurd g b
    · exact .inr ⟨a, g⟩
theorem ris_erase {l : List Pr} (h : Ris l) (i : Nat) : Ris (l.eraseIdx i) := List.Pairwise.sublist (List.eraseIdx_sublist _ _) h
theorem len_set (l : List Pr) (k v : ByteArray) : (setL l k v).length = if hasB l k = true then l.length else l.length + 1 := by
  have hle := atN_le l k
  unfold setL
  rw [List.length_append, List.length_take, List.length_cons, List.length_drop]
  cases hh : hasB l k
  · simp; omega
  · obtain ⟨hlt, _⟩ := hasB_iff.1 hh
    simp; omega
theorem mapB_all {l : List Pr} : mapB l = true ↔ l.length ≤ 40 ∧ (∀ p ∈ l, keyB p.1 = true ∧ valB p.2 = true) ∧ Ris l := by
  rw [mapB_iff]
  constructor
  · rintro ⟨a, b, c⟩
    refine ⟨a, fun p hp => ?_, ris_iff.1 c⟩
    obtain ⟨i, hi, e⟩ := List.getElem_of_mem hp
    subst e
    exact b i hi hi
  · rintro ⟨a, b, c⟩
    exact ⟨a, fun i hi _ => b _ (List.getElem_mem _), ris_iff.2 c⟩
theorem mapB_set {l : List Pr} {k v : ByteArray} (h : mapB l = true) (hk : keyB k = true) (hv : valB v = true) (hl : hasB l k = true ∨ l.length < 40) : mapB (setL l k v) = true := by
  obtain ⟨a, b, c⟩ := mapB_all.1 h
  refine mapB_all.2 ⟨?_, fun p hp => ?_, ris_set c k v⟩
  · rw [len_set]; split
    · exact a
    · rcases hl with g | g
      · rename_i x; exact absurd g x
      · omega
  · rcases (mem_set c k v p).1 hp with e | ⟨e, _⟩
    · subst e; exact ⟨hk, hv⟩
    · exact b p e
/-- what it takes that a put is right -/
theorem putB_iff {l : List Pr} {k v : ByteArray} : putB l k v = true ↔ mapB l = true ∧ keyB k = true ∧ valB v = true ∧ (hasB l k = true ∨ l.length < 40) := by
  constructor
  · intro h
    have h1 : mapB l = true := by
      cases e : mapB l
      · rw [putB_no e] at h; cases h
      · rfl
    have h2 : mapB (setL l k v) = true := by
      cases e : mapB (setL l k v)
      · rw [putB_no2 e] at h; cases h
      · rfl
    obtain ⟨a, b, c⟩ := mapB_all.1 h2
    have hc := (mapB_all.1 h1).2.2
    have hm := b (k, v) ((mem_set hc k v _).2 (.inl rfl))
    refine ⟨h1, hm.1, hm.2, ?_⟩
    rw [len_set] at a
    cases hh : hasB l k
    · rw [hh] at a; simp at a; exact .inr (by omega)
    · exact .inl rfl
  · rintro ⟨h1, h2, h3, h4⟩
    exact putB_yes h1 (mapB_set h1 h2 h3 h4)
theorem has_set {l : List Pr} (h : Ris l) (k v k' : ByteArray) : hasB (setL l k v) k' = true ↔ k' = k ∨ hasB l k' = true := by
  rw [has_iff (ris_set h k v), has_iff h]
  constructor
  · rintro ⟨x, hx⟩
    rcases (mem_set h k v _).1 hx with e | ⟨e, _⟩
    · injection e with e1 e2; exact .inl e1
    · exact .inr ⟨x, e⟩
  · rintro (e | ⟨x, hx⟩)
    · subst e; exact ⟨v, (mem_set h _ v _).2 (.inl rfl)⟩
    · by_cases e : k' = k
      · subst e; exact ⟨v, (mem_set h _ v _).2 (.inl rfl)⟩
      · exact ⟨x, (mem_set h k v _).2 (.inr ⟨hx, e⟩)⟩
theorem set_set {l : List Pr} (h : Ris l) (k v v' : ByteArray) : setL (setL l k v') k v = setL l k v := by
  refine Ris.ext (ris_set (ris_set h k v') k v) (ris_set h k v) fun p => ?_
  rw [mem_set (ris_set h k v'), mem_set h, mem_set h]
  constructor
  · rintro (e | ⟨e | ⟨e, _⟩, n⟩)
    · exact .inl e
    · subst e; exact absurd rfl n
    · exact .inr ⟨e, n⟩
  · rintro (e | ⟨e, n⟩)
    · exact .inl e
    · exact .inr ⟨.inr ⟨e, n⟩, n⟩
theorem set_swap {l : List Pr} (h : Ris l) {k k' : ByteArray} (v v' : ByteArray) (hne : k ≠ k') : setL (setL l k v) k' v' = setL (setL l k' v') k v := by
  refine Ris.ext (ris_set (ris_set h k v) k' v') (ris_set (ris_set h k' v') k v) fun p => ?_
  rw [mem_set (ris_set h k v), mem_set h, mem_set (ris_set h k' v'), mem_set h]
  constructor
  · rintro (e | ⟨e | ⟨e, n⟩, n'⟩)
    · subst e; exact .inr ⟨.inl rfl, hne.symm⟩
    · exact .inl e
    · exact .inr ⟨.inr ⟨e, n'⟩, n⟩
  · rintro (e | ⟨e | ⟨e, n⟩, n'⟩)
    · subst e; exact .inr ⟨.inl rfl, hne⟩
    · exact .inl e
    · exact .inr ⟨.inr ⟨e, n'⟩, n⟩
theorem erase_set {l : List Pr} (h : Ris l) {k : ByteArray} (v : ByteArray) (hh : hasB l k = false) : (setL l k v).eraseIdx (atN (setL l k v) k) = l := by
  have hs : hasB (setL l k v) k = true := (has_set h k v k).2 (.inl rfl)
  refine Ris.ext (ris_erase (ris_set h k v) _) h fun p => ?_
  rw [mem_erase (ris_set h k v) hs, mem_set h]
  constructor
  · rintro ⟨e | ⟨e, _⟩, n⟩
    · subst e; exact absurd rfl n
    · exact e
  · intro e
    have n : p.1 ≠ k := by
      intro x
      have : hasB l k = true := (has_iff h k).2 ⟨p.2, by rw [← x]; exact e⟩
      rw [hh] at this; cases this
    exact ⟨.inr ⟨e, n⟩, n⟩
theorem set_erase {l : List Pr} (h : Ris l) {k : ByteArray} (hh : hasB l k = true) : setL (l.eraseIdx (atN l k)) k (valOf l k) = l := by
  obtain ⟨v, hv⟩ := (has_iff h k).1 hh
  rw [val_of h hv]
  refine Ris.ext (ris_set (ris_erase h _) k v) h fun p => ?_
  rw [mem_set (ris_erase h _), mem_erase h hh]
  constructor
  · rintro (e | ⟨⟨e, _⟩, _⟩)
    · subst e; exact hv
    · exact e
  · intro e
    by_cases n : p.1 = k
    · left
      have : (k, p.2) ∈ l := by rw [← n]; exact e
      have := h.key this hv
      exact Prod.ext n this
    · exact .inr ⟨⟨e, n⟩, n⟩
theorem has_erase {l : List Pr} (h : Ris l) {k : ByteArray} (hh : hasB l k = true) (k' : ByteArray) : hasB (l.eraseIdx (atN l k)) k' = true ↔ k' ≠ k ∧ hasB l k' = true := by
  rw [has_iff (ris_erase h _), has_iff h]
  constructor
  · rintro ⟨x, hx⟩
    have := (mem_erase h hh _).1 hx
    exact ⟨this.2, x, this.1⟩
  · rintro ⟨n, x, hx⟩
    exact ⟨x, (mem_erase h hh _).2 ⟨hx, n⟩⟩
theorem mapB_erase {l : List Pr} (h : mapB l = true) (i : Nat) : mapB (l.eraseIdx i) = true := by
  obtain ⟨a, b, c⟩ := mapB_all.1 h
  refine mapB_all.2 ⟨?_, fun p hp => b p (List.mem_of_mem_eraseIdx hp), ris_erase c i⟩
  rw [List.length_eraseIdx]; split <;> omega
end Go.Proofs.YtaofemdhgfejjaaGreatDoor
/-
  What is drawn for the laws on mergers: right maps.
-/
namespace Go.Proofs.YtaofemdhgfejjaaGreatDoor
open Go.RowKit

/-- a drawn map, which is right -/
def RdM (rb : Nat) (w : World) (e : Ending) (w' : World) : Prop := ∃ A cap l, l.length ≤ cap ∧ l.length ≤ 40 ∧ mapB l = true ∧ e = .returned (.slice A l.length cap) ∧ Own w' (rb + 1) A cap l ∧ Rd w' rb ∧ w.grownBy w' (some rb)
theorem mapB_nil : mapB [] = true := mapB_yes (by simp) ⟨fun _ h => absurd h (by simp), fun _ h => absurd h (by simp)⟩
theorem putB_map {l : List Pr} {k v : ByteArray} (h : putB l k v = true) : mapB (putL l k v) = true := by
  rw [putL_yes h]
  unfold putB at h
  rw [Bool.and_eq_true] at h
  exact h.2
theorem getB_map {l : List Pr} {k : ByteArray} (h : getB l k = true) : mapB (dropL l k) = true := by
  rw [dropL_yes h]
  refine mapB_erase ?_ _
  cases e : mapB l
  · rw [getB_no e] at h; cases h
  · rfl
set_option maxRecDepth 100000 in
set_option maxHeartbeats 1000000 in
theorem pairsM_any (rb : Nat) (most : Int) (w : World) (h : Rd w rb) (h0 : 0 ≤ most) (h1 : most ≤ 100) :
    Calls Tryz.prog 23 #[.pointer (some ⟨rb, 0, none⟩), .int .i64 most] w (RdM rb w) := by
  have hlt := h.lt
  have O0 := hide (Own.built w (rb + 1) hlt)
  have r0 := h.below ((Below.refl _ w).alloc (Nat.le_refl _) (.cells #[] 60))
  clear h
  go_enter Tryz.func23, Tryz.ntmps23
  go_wp2_with fail
  refine (below_any rb (most + 1) _ r0 (by omega) (by omega)).mono ?_
  rintro e w1 ⟨x, hx0, hx1, rfl, r1, g1⟩
  obtain ⟨k0, rfl⟩ := Int.eq_ofNat_of_zero_le hx0
  have O1 := hide (O0.out.rd g1)
  have R1 := hide r1
  have G1 := hide (World.grownBy.trans (World.grownBy_alloc w _ _) g1)
  clear r0 r1 g1 O0
  go_wp2
  go_loopw [5, 6] (fun m i wr => ∃ (k : Nat) (A : Option Addr) (cap : Nat) (l : List Pr), k ≤ k0 ∧ i = .int .i64 k ∧ m = .slice A l.length cap ∧ l.length ≤ 40 ∧ Hid (mapB l = true) ∧ Hid (Own wr (rb + 1) A cap l) ∧ Hid (Rd wr rb) ∧ Hid (w.grownBy wr (some rb))) (fun _ i _ => (intOf i).toNat)
  case atStart => exact ⟨k0, _, 0, [], Nat.le_refl _, rfl, rfl, by simp, hide mapB_nil, O1, R1, G1⟩
  case round =>
    clear O1 R1 G1
    obtain ⟨k, A, cap, l, hk, rfl, rfl, hl, MB, O, R, G⟩ := hrel
    by_cases hk0 : 0 < k
    · have hrl := R.out.lt
      go_wp2_with fail
      refine (key_any rb wr R.out).mono ?_
      rintro e w2 ⟨s, hs, _, rfl, r2, g2⟩
      have O2 := hide (O.out.rd g2)
      have G2 := hide (World.grownBy.trans G.out g2)
      clear g2 O R G
      go_wp2_with fail
      refine (val_any rb w2 r2).mono ?_
      rintro e w3 ⟨v, hv, _, rfl, r3, g3⟩
      have O3 := hide (O2.out.rd g3)
      have R3 := hide r3
      have G3 := hide (World.grownBy.trans G2.out g3)
      clear g3 O2 G2 r2 r3
      go_wp2_with fail
      refine (specPut_any A l cap s v w3 (by unfold maxLen; omega) O3.out.cap_le O3.out.pin (by unfold maxLen; omega) (by unfold maxLen; omega)).mono ?_
      rintro e w4 ⟨A4, cap4, hc4, rfl, own4, b4⟩
      have O4 := hide (own4.more (B' := rb + 1) R3.out.lt)
      have O4' := hide (O3.out.below b4)
      have R4 := hide (R3.out.below b4)
      have G4 := hide (World.grownBy.trans G3.out (grown_of_below b4))
      have hpl := putL_len l s v
      clear own4 b4 O3 R3 G3
      cases hb : putB l s v
      · go_wp2
        go_roundw
        case rel => exact ⟨k - 1, A, cap, l, by omega, by go_num, rfl, hl, MB, O4', R4, G4⟩
        case measure => simp [intOf]; omega
      · go_wp2
        go_roundw
        case rel => exact ⟨k - 1, A4, cap4, putL l s v, by omega, by go_num, rfl, hpl, hide (putB_map hb), O4, R4, G4⟩
        case measure => simp [intOf]; omega
    · go_wp2
      go_ret
      exact ⟨A, cap, l, O.out.cap_le, hl, MB.out, rfl, O.out, R.out, G.out⟩

set_option maxRecDepth 100000 in
set_option maxHeartbeats 2000000 in
theorem turned_any (rb : Nat) (A : Option Addr) (l : List Pr) (cap : Nat) (w : World) (h : Rd w rb) (hl : l.length ≤ 40) (hmb : mapB l = true) (hown : Own w (rb + 1) A cap l) :
    Calls Tryz.prog 24 #[.pointer (some ⟨rb, 0, none⟩), .slice A l.length cap] w (RdM rb w) := by
  have O0 := hide hown
  have M0 := hide hmb
  clear hown hmb
  go_enter Tryz.func24, Tryz.ntmps24
  go_wp2_with fail
  refine (below_any rb 3 _ h (by omega) (by omega)).mono ?_
  rintro e w1 ⟨x, hx0, hx1, rfl, r1, g1⟩
  obtain ⟨k0, rfl⟩ := Int.eq_ofNat_of_zero_le hx0
  have O1 := hide (O0.out.rd g1)
  have R1 := hide r1
  have G1 := hide g1
  clear h r1 g1 O0
  go_wp2
  go_loopw [1, 5] (fun m i wr => ∃ (k : Nat) (A : Option Addr) (cap : Nat) (l : List Pr), k ≤ k0 ∧ i = .int .i64 k ∧ m = .slice A l.length cap ∧ l.length ≤ 40 ∧ Hid (mapB l = true) ∧ Hid (Own wr (rb + 1) A cap l) ∧ Hid (Rd wr rb) ∧ Hid (w.grownBy wr (some rb))) (fun _ i _ => (intOf i).toNat)
  case atStart => exact ⟨k0, A, cap, l, Nat.le_refl _, rfl, rfl, hl, M0, O1, R1, G1⟩
  case round =>
    clear O1 R1 G1 hl M0
    obtain ⟨k, A, cap, l, hk, rfl, rfl, hl, MB, O, R, G⟩ := hrel
    by_cases hk0 : 0 < k
    · have hrl := R.out.lt
      go_wp2_with fail
      refine (key_any rb wr R.out).mono ?_
      rintro e w2 ⟨s, hs, _, rfl, r2, g2⟩
      have O2 := hide (O.out.rd g2)
      have G2 := hide (World.grownBy.trans G.out g2)
      clear g2 O R G
      go_wp2_with fail
      refine (val_any rb w2 r2).mono ?_
      rintro e w3 ⟨v, hv, _, rfl, r3, g3⟩
      have O3 := hide (O2.out.rd g3)
      have R3 := hide r3
      have G3 := hide (World.grownBy.trans G2.out g3)
      clear g3 O2 G2 r2 r3
      go_wp2_with fail
      refine (specPut_any A l cap s v w3 (by unfold maxLen; omega) O3.out.cap_le O3.out.pin (by unfold maxLen; omega) (by unfold maxLen; omega)).mono ?_
      rintro e w4 ⟨A4, cap4, hc4, rfl, own4, b4⟩
      have O4 := hide (own4.more (B' := rb + 1) R3.out.lt)
      have O4' := hide (O3.out.below b4)
      have R4 := hide (R3.out.below b4)
      have G4 := hide (World.grownBy.trans G3.out (grown_of_below b4))
      have hpl := putL_len l s v
      clear own4 b4 O3 R3 G3
      go_wp2_with fail
      refine (once_any rb 3 w4 R4.out (by omega) (by omega)).mono ?_
      rintro e w5 ⟨x, rfl, r5, g5⟩
      have O5 := hide (O4.out.rd g5)
      have O5' := hide (O4'.out.rd g5)
      have R5 := hide r5
      have G5 := hide (World.grownBy.trans G4.out g5)
      clear g5 r5 O4 O4' R4 G4
      cases x
      · cases hb : putB l s v
        · go_wp2
          exact ⟨⟨k - 1, A, cap, l, by omega, by go_num, rfl, hl, MB, O5', R5, G5⟩, by simp [intOf]; omega⟩
        · go_wp2
          exact ⟨⟨k - 1, A4, cap4, putL l s v, by omega, by go_num, rfl, hpl, hide (putB_map hb), O5, R5, G5⟩, by simp [intOf]; omega⟩
      · go_wp2_with fail
        refine (key_any rb w5 R5.out).mono ?_
        rintro e w6 ⟨s', hs', _, rfl, r6, g6⟩
        have O6 := hide (O5'.out.rd g6)
        have R6 := hide r6
        have G6 := hide (World.grownBy.trans G5.out g6)
        clear g6 O5 O5' R5 G5 r6
        go_wp2_with fail
        refine (specDrop_any A l cap s' w6 (by unfold maxLen; omega) O6.out.cap_le O6.out.pin).mono ?_
        rintro e w7 ⟨A7, cap7, hc7, rfl, own7, b7⟩
        have O7 := hide (own7.more (B' := rb + 1) R6.out.lt)
        have O7' := hide (O6.out.below b7)
        have R7 := hide (R6.out.below b7)
        have G7 := hide (World.grownBy.trans G6.out (grown_of_below b7))
        have hdl := dropL_len l s'
        clear own7 b7 O6 R6 G6
        cases hb : getB l s'
        · go_wp2
          exact ⟨⟨k - 1, A, cap, l, by omega, by go_num, rfl, hl, MB, O7', R7, G7⟩, by simp [intOf]; omega⟩
        · go_wp2
          exact ⟨⟨k - 1, A7, cap7, dropL l s', by omega, by go_num, rfl, hdl, hide (getB_map hb), O7, R7, G7⟩, by simp [intOf]; omega⟩
    · go_wp2
      go_ret
      exact ⟨A, cap, l, O.out.cap_le, hl, MB.out, rfl, O.out, R.out, G.out⟩

/-- three drawn maps, all right, in rows of the call's own -/
def Drawn3 (w : World) (A0 : Option Addr) (c0 : Nat) (l0 : List Pr) (A1 : Option Addr) (c1 : Nat) (l1 : List Pr) (A2 : Option Addr) (c2 : Nat) (l2 : List Pr) (w' : World) : Prop :=
  l0.length ≤ c0 ∧ l1.length ≤ c1 ∧ l2.length ≤ c2 ∧ mapB l0 = true ∧ mapB l1 = true ∧ mapB l2 = true ∧ Own w' w.heap.size A0 c0 l0 ∧ Own w' w.heap.size A1 c1 l1 ∧ Own w' w.heap.size A2 c2 l2 ∧ Below w.heap.size w w'

set_option maxRecDepth 100000 in
set_option maxHeartbeats 1000000 in
theorem drawMerged_any (A : Option Addr) (n cap : Nat) (w : World) (hn : n ≤ 1048576) (hin : CIn w w.heap.size A n) :
    Calls Tryz.prog 8 #[.slice A n cap] w fun e w' => ∃ A0 c0 l0 A1 c1 l1 A2 c2 l2, e = .returned (.tuple #[.slice A0 l0.length c0, .slice A1 l1.length c1, .slice A2 l2.length c2]) ∧ Drawn3 w A0 c0 l0 A1 c1 l1 A2 c2 l2 w' := by
  go_enter Tryz.func8, Tryz.ntmps8
  go_wp2_with fail
  refine (l1Open_any A n cap w hn hin).mono ?_
  rintro e w1 ⟨rfl, r1, b1⟩
  have B1 := hide b1
  clear b1 hin
  go_wp2_with fail
  refine (pairsM_any w.heap.size 6 w1 r1 (by omega) (by omega)).mono ?_
  rintro e w2 ⟨A0, c0, l0, hc0, hl0, mb0, rfl, own0, r2, g2⟩
  have M0 := hide mb0
  have B2 := hide (B1.out.trans (grown_below g2 B1.out.size))
  have O2 := hide own0
  clear own0 g2 r1 B1 mb0
  go_wp2_with fail
  refine (turned_any w.heap.size A0 l0 c0 w2 r2 hl0 M0.out O2.out).mono ?_
  rintro e w3 ⟨A3, c3, l3, hc3, hl3, mb3, rfl, own3, r3, g3⟩
  have M3 := hide mb3
  have B3 := hide (B2.out.trans (grown_below g3 B2.out.size))
  have O3 := hide (O2.out.rd g3)
  have P3 := hide own3
  clear own3 g3 r2 B2 O2 mb3
  go_wp2_with fail
  refine (turned_any w.heap.size A3 l3 c3 w3 r3 hl3 M3.out P3.out).mono ?_
  rintro e w4 ⟨A1, c1, l1, hc1, hl1, mb1, rfl, own1, r4, g4⟩
  have M1 := hide mb1
  have B4 := hide (B3.out.trans (grown_below g4 B3.out.size))
  have O4 := hide (O3.out.rd g4)
  have P4 := hide own1
  clear own1 g4 r3 B3 O3 mb1 P3 M3
  go_wp2_with fail
  refine (turned_any w.heap.size A0 l0 c0 w4 r4 hl0 M0.out O4.out).mono ?_
  rintro e w5 ⟨A5, c5, l5, hc5, hl5, mb5, rfl, own5, r5, g5⟩
  have M5 := hide mb5
  have B5 := hide (B4.out.trans (grown_below g5 B4.out.size))
  have O5 := hide (O4.out.rd g5)
  have P5 := hide (P4.out.rd g5)
  have S5 := hide own5
  clear own5 g5 r4 B4 O4 P4 mb5
  go_wp2_with fail
  refine (turned_any w.heap.size A5 l5 c5 w5 r5 hl5 M5.out S5.out).mono ?_
  rintro e w6 ⟨A2, c2, l2, hc2, hl2, mb2, rfl, own2, r6, g6⟩
  have M2 := hide mb2
  have B6 := hide (B5.out.trans (grown_below g6 B5.out.size))
  have O6 := hide (O5.out.rd g6)
  have P6 := hide (P5.out.rd g6)
  have S6 := hide own2
  clear own2 g6 r5 B5 O5 P5 mb2 S5 M5 r6
  go_wp2
  go_ret3
  exact ⟨A0, c0, l0, A1, c1, l1, A2, c2, l2, rfl, hc0, hc1, hc2, M0.out, M1.out, M2.out, O6.out.more (by omega), P6.out.more (by omega), S6.out.more (by omega), B6.out⟩
end Go.Proofs.YtaofemdhgfejjaaGreatDoor
/-
  DERIVED: THE SHELF's CONTRACTS AT THIS DUMP, IN PLAIN WORDS (tools/lay-plain.mjs out of 'YtaofemdhgfejjaaGreatDoorSLay.lean', which tools/lay-shelf.mjs wrote): THE SAME DECLARATIONS UNDER THE SAME NAMES: 'import', 'namespace', 'open', 'def', 'theorem' AND NOTHING ELSE: no command of the shelf's: FOR A HAND-IN. Each laying: the table of numbers ('.._ren') and one theorem, a field a fact of the dump's own or the kernel's comparison; each contract: ONE APPLICATION.
-/
namespace Go.Proofs
open Go.Shelf
def Tryz.sort73_ren : Go.Shelf.Ren := ⟨fun | 6 => 73 | 8 => 84 | 9 => 83 | 19 => 97 | 20 => 98 | 21 => 88 | 22 => 89 | 23 => 90 | 24 => 91 | 25 => 92 | 26 => 93 | 27 => 94 | 28 => 95 | 29 => 96 | 36 => 99 | 31 => 100 | 32 => 101 | 37 => 102 | 38 => 103 | 39 => 104 | 41 => 105 | n => n, fun | 27 => 27 | 29 => 9 | 3 => 3 | 32 => 152 | 26 => 27 | 0 => 0 | 44 => 171 | 46 => 153 | 4 => 4 | 36 => 164 | 35 => 163 | 41 => 61 | 5 => 5 | 9 => 9 | 53 => 173 | 57 => 176 | 63 => 178 | 64 => 179 | n => n, fun | n => n⟩
theorem Tryz.sort73 : Go.Proofs.SlLaysM.n6 Tryz.prog Tryz.sort73_ren := {
  mixed := by kernel_rfl
  f6 := ⟨Tryz.f73.name, by decide, Tryz.func73.trans (congrArg some (by kernel_rfl))⟩
  f8 := Tryz.func84.trans (congrArg some (by kernel_rfl))
  f9 := ⟨Tryz.f83.name, by decide, Tryz.func83.trans (congrArg some (by kernel_rfl))⟩
  f19 := Tryz.func97.trans (congrArg some (by kernel_rfl))
  f20 := Tryz.func98.trans (congrArg some (by kernel_rfl))
  f21 := ⟨Tryz.f88.name, by decide, Tryz.func88.trans (congrArg some (by kernel_rfl))⟩
  f22 := ⟨Tryz.f89.name, by decide, Tryz.func89.trans (congrArg some (by kernel_rfl))⟩
  f23 := ⟨Tryz.f90.name, by decide, Tryz.func90.trans (congrArg some (by kernel_rfl))⟩
  f24 := ⟨Tryz.f91.name, by decide, Tryz.func91.trans (congrArg some (by kernel_rfl))⟩
  f25 := ⟨Tryz.f92.name, by decide, Tryz.func92.trans (congrArg some (by kernel_rfl))⟩
  f26 := ⟨Tryz.f93.name, by decide, Tryz.func93.trans (congrArg some (by kernel_rfl))⟩
  f27 := ⟨Tryz.f94.name, by decide, Tryz.func94.trans (congrArg some (by kernel_rfl))⟩
  f28 := ⟨Tryz.f95.name, by decide, Tryz.func95.trans (congrArg some (by kernel_rfl))⟩
  f29 := ⟨Tryz.f96.name, by decide, Tryz.func96.trans (congrArg some (by kernel_rfl))⟩
  f31 := Tryz.func100.trans (congrArg some (by kernel_rfl))
  f32 := Tryz.func101.trans (congrArg some (by kernel_rfl))
  f36 := ⟨Tryz.f99.name, by decide, Tryz.func99.trans (congrArg some (by kernel_rfl))⟩
  f37 := ⟨Tryz.f102.name, by decide, Tryz.func102.trans (congrArg some (by kernel_rfl))⟩
  f38 := ⟨Tryz.f103.name, by decide, Tryz.func103.trans (congrArg some (by kernel_rfl))⟩
  f39 := ⟨Tryz.f104.name, by decide, Tryz.func104.trans (congrArg some (by kernel_rfl))⟩
  f41 := ⟨Tryz.f105.name, by decide, Tryz.func105.trans (congrArg some (by kernel_rfl))⟩
  t0 := Tryz.underlying0
  a0 := Tryz.isAgg0
  z0 := Tryz.sizeOf0
  v0 := Tryz.zeroValue0
  t3 := Tryz.underlying3
  a3 := Tryz.isAgg3
  z3 := Tryz.sizeOf3
  v3 := Tryz.zeroValue3
  t4 := Tryz.underlying4
  a4 := Tryz.isAgg4
  z4 := Tryz.sizeOf4
  v4 := Tryz.zeroValue4
  t5 := Tryz.underlying5
  a5 := Tryz.isAgg5
  z5 := Tryz.sizeOf5
  v5 := Tryz.zeroValue5
  t9 := Tryz.underlying9
  a9 := Tryz.isAgg9
  z9 := Tryz.sizeOf9
  v9 := Tryz.zeroValue9
  t26 := Tryz.underlying27
  a26 := Tryz.isAgg27
  z26 := Tryz.sizeOf27
  v26 := Tryz.zeroValue27
  t27 := Tryz.underlying27
  a27 := Tryz.isAgg27
  z27 := Tryz.sizeOf27
  v27 := Tryz.zeroValue27
  t29 := Tryz.underlying9
  a29 := Tryz.isAgg9
  z29 := Tryz.sizeOf9
  v29 := Tryz.zeroValue9
  t32 := Tryz.underlying152
  a32 := Tryz.isAgg152
  z32 := Tryz.sizeOf152
  v32 := Tryz.zeroValue152
  t35 := Tryz.underlying163
  a35 := Tryz.isAgg163
  z35 := Tryz.sizeOf163
  v35 := Tryz.zeroValue163
  t36 := Tryz.underlying164
  a36 := Tryz.isAgg164
  z36 := Tryz.sizeOf164
  v36 := Tryz.zeroValue164
  t41 := Tryz.underlying61
  a41 := Tryz.isAgg61
  z41 := Tryz.sizeOf61
  v41 := Tryz.zeroValue61
  t44 := Tryz.underlying171
  a44 := Tryz.isAgg171
  z44 := Tryz.sizeOf171
  v44 := Tryz.zeroValue171
  t46 := Tryz.underlying153
  a46 := Tryz.isAgg153
  z46 := Tryz.sizeOf153
  v46 := Tryz.zeroValue153
  t53 := Tryz.underlying173
  a53 := Tryz.isAgg173
  z53 := Tryz.sizeOf173
  v53 := Tryz.zeroValue173
  t57 := Tryz.underlying176
  a57 := Tryz.isAgg176
  z57 := Tryz.sizeOf176
  v57 := Tryz.zeroValue176
  t63 := Tryz.underlying178
  a63 := Tryz.isAgg178
  z63 := Tryz.sizeOf178
  v63 := Tryz.zeroValue178
  t64 := Tryz.underlying179
  a64 := Tryz.isAgg179
  z64 := Tryz.sizeOf179
  v64 := Tryz.zeroValue179 }
def Tryz.compact74_ren : Go.Shelf.Ren := ⟨fun | 194 => 74 | n => n, fun | 31 => 27 | 9 => 9 | 3 => 3 | 4 => 4 | 0 => 0 | n => n, fun | n => n⟩
theorem Tryz.compact74 : Go.Proofs.Lays.n194 Tryz.prog Tryz.compact74_ren := {
  mixed := by kernel_rfl
  f194 := Tryz.func74.trans (congrArg some (by kernel_rfl))
  t0 := Tryz.underlying0
  a0 := Tryz.isAgg0
  z0 := Tryz.sizeOf0
  v0 := Tryz.zeroValue0
  t3 := Tryz.underlying3
  a3 := Tryz.isAgg3
  z3 := Tryz.sizeOf3
  v3 := Tryz.zeroValue3
  t4 := Tryz.underlying4
  a4 := Tryz.isAgg4
  z4 := Tryz.sizeOf4
  v4 := Tryz.zeroValue4
  t9 := Tryz.underlying9
  a9 := Tryz.isAgg9
  z9 := Tryz.sizeOf9
  v9 := Tryz.zeroValue9
  t31 := Tryz.underlying27
  a31 := Tryz.isAgg27
  z31 := Tryz.sizeOf27
  v31 := Tryz.zeroValue27 }
end Go.Proofs
/-
  Rising texts: two of the same members are one; one more. Plain mathematics.
-/
namespace Go.Proofs.YtaofemdhgfejjaaGreatDoor
open Go.RowKit

/-- rising texts -/
def RisK (l : List ByteArray) : Prop := l.Pairwise fun a b => ltB a b = true
theorem RisK.ext : ∀ {l l' : List ByteArray}, RisK l → RisK l' → (∀ p, p ∈ l ↔ p ∈ l') → l = l'
  | [], [], _, _, _ => rfl
  | [], b :: t, _, _, h => absurd ((h b).2 (List.mem_cons_self ..)) (by simp)
  | a :: s, [], _, _, h => absurd ((h a).1 (List.mem_cons_self ..)) (by simp)
  | a :: s, b :: t, ha, hb, h => by
    have ha' := List.pairwise_cons.1 ha
    have hb' := List.pairwise_cons.1 hb
    have e : a = b := by
      rcases List.mem_cons.1 ((h a).1 (List.mem_cons_self ..)) with e | m
      · exact e
      · rcases List.mem_cons.1 ((h b).2 (List.mem_cons_self ..)) with e | m'
        · exact e.symm
        · have h1 := hb'.1 a m
          have h2 := ha'.1 b m'
          rw [ltB_asymm h1] at h2
          cases h2
    subst e
    congr 1
    refine RisK.ext ha'.2 hb'.2 fun p => ?_
    constructor
    · intro hp
      rcases List.mem_cons.1 ((h p).1 (List.mem_cons_of_mem _ hp)) with e | m
      · have := ha'.1 p hp
        rw [e, ltB_irrefl] at this
        cases this
      · exact m
    · intro hp
      rcases List.mem_cons.1 ((h p).2 (List.mem_cons_of_mem _ hp)) with e | m
      · have := hb'.1 p hp
        rw [e, ltB_irrefl] at this
        cases this
      · exact m
/-- a rising list with one more -/
def putK : List ByteArray → ByteArray → List ByteArray
  | [], s => [s]
  | x :: r, s => if ltB x s = true then x :: putK r s else if x = s then x :: r else s :: x :: r
theorem mem_putK : ∀ (l : List ByteArray) (s t : ByteArray), t ∈ putK l s ↔ t ∈ l ∨ t = s
  | [], s, t => by simp [putK]
  | x :: r, s, t => by
    unfold putK
    split
    · rw [List.mem_cons, List.mem_cons, mem_putK r s t]
      constructor
      · rintro (h | h | h)
        · exact .inl (.inl h)
        · exact .inl (.inr h)
        · exact .inr h
      · rintro ((h | h) | h)
        · exact .inl h
        · exact .inr (.inl h)
        · exact .inr (.inr h)
    · split
      next e => subst e; simp; intro h; exact .inl h
      next => simp [or_comm, or_left_comm]
theorem risK_put : ∀ {l : List ByteArray}, RisK l → ∀ s, RisK (putK l s)
  | [], _, s => List.pairwise_cons.2 ⟨fun _ h => absurd h (by simp), List.Pairwise.nil⟩
  | x :: r, h, s => by
    have h' := List.pairwise_cons.1 h
    unfold putK
    split
    next e =>
      refine List.pairwise_cons.2 ⟨fun t ht => ?_, risK_put h'.2 s⟩
      rcases (mem_putK r s t).1 ht with m | rfl
      · exact h'.1 t m
      · exact e
    next e =>
      split
      · exact h
      next ne =>
        have hlt : ltB s x = true := by
          rcases ltB_tri x s with g | g | g
          · exact absurd g e
          · exact absurd g ne
          · exact g
        refine List.pairwise_cons.2 ⟨fun t ht => ?_, h⟩
        rcases List.mem_cons.1 ht with rfl | m
        · exact hlt
        · exact ltB_trans hlt (h'.1 t m)
/-- found by what stands ahead of the place -/
theorem putK_there : ∀ (l : List ByteArray) (s : ByteArray) (k : Nat) (h : k < l.length), (∀ i (hi : i < l.length), i < k → ltB l[i] s = true) → l[k] = s → putK l s = l
  | x :: r, s, 0, _, _, he => by
    have he : x = s := he
    subst he
    unfold putK
    rw [ltB_irrefl]
    simp
  | x :: r, s, k + 1, h, hl, he => by
    have h0 : ltB x s = true := hl 0 (by simp) (by omega)
    unfold putK
    rw [if_pos h0, putK_there r s k (by simpa using h) (fun i hi hik => hl (i + 1) (by simpa using hi) (by omega)) (by simpa using he)]
theorem putK_new : ∀ (l : List ByteArray) (s : ByteArray) (k : Nat), k ≤ l.length → (∀ i (hi : i < l.length), i < k → ltB l[i] s = true) → (∀ (h : k < l.length), ltB l[k] s = false ∧ ¬ l[k] = s) → putK l s = l.take k ++ s :: l.drop k
  | [], s, k, hk, _, _ => by
    have : k = 0 := by simpa using hk
    subst this
    rfl
  | x :: r, s, 0, _, _, hn => by
    obtain ⟨h1, h2⟩ := hn (by simp)
    have h1 : ltB x s = false := h1
    have h2 : ¬ x = s := h2
    unfold putK
    rw [h1, if_neg (by simp), if_neg h2]
    rfl
  | x :: r, s, k + 1, hk, hl, hn => by
    have h0 : ltB x s = true := hl 0 (by simp) (by omega)
    unfold putK
    rw [if_pos h0, putK_new r s k (by simpa using hk) (fun i hi hik => hl (i + 1) (by simpa using hi) (by omega)) (fun h => hn (by simpa using h))]
    rfl
end Go.Proofs.YtaofemdhgfejjaaGreatDoor
/-
  Texts sorted, each once: the rising list of the same members. Plain mathematics.
-/
namespace Go.Proofs.YtaofemdhgfejjaaGreatDoor
open Go.RowKit Go.Lib

theorem le_of_ltL : ∀ {x y : List UInt8}, Op.bytesLess x y = true → x ≤ y
  | _, [], h => by simp [Op.bytesLess] at h
  | [], _ :: _, _ => List.nil_le _
  | a :: x, b :: y, h => by
    simp only [Op.bytesLess, Bool.or_eq_true, Bool.and_eq_true, decide_eq_true_eq, beq_iff_eq] at h
    rw [List.cons_le_cons_iff]
    rcases h with h | ⟨h, h'⟩
    · exact .inl h
    · exact .inr ⟨h, le_of_ltL h'⟩
theorem ofL_toL (x : List UInt8) : (ByteArray.mk x.toArray).toList = x := by rw [Go.ByteArray.toList_eq]
theorem lt_of_le_ne {x y : List UInt8} (h : x ≤ y) (hne : x ≠ y) : ltB (ByteArray.mk x.toArray) (ByteArray.mk y.toArray) = true := by
  rcases ltB_tri (ByteArray.mk x.toArray) (ByteArray.mk y.toArray) with g | g | g
  · exact g
  · have e : (ByteArray.mk x.toArray).toList = (ByteArray.mk y.toArray).toList := by rw [g]
    rw [ofL_toL, ofL_toL] at e
    exact absurd e hne
  · unfold ltB at g
    rw [ofL_toL, ofL_toL] at g
    exact absurd (List.le_antisymm h (le_of_ltL g)) hne
theorem kept_first (d : Array (List UInt8)) (x : List UInt8) : ∀ i, d[i]! = x → ∃ j, j ≤ i ∧ keeps d j = true ∧ d[j]! = x
  | 0, h => ⟨0, Nat.le_refl _, by simp [keeps], h⟩
  | i + 1, h => by
    by_cases e : d[i + 1]! = d[i]!
    · obtain ⟨j, h1, h2, h3⟩ := kept_first d x i (by rw [← e]; exact h)
      exact ⟨j, by omega, h2, h3⟩
    · exact ⟨i + 1, Nat.le_refl _, keeps_pos e, h⟩
theorem compact_mem (zs : List (List UInt8)) (x : List UInt8) : x ∈ compact zs ↔ x ∈ zs := by
  have hget : ∀ i, i < zs.length → zs.toArray[i]! ∈ zs := fun i hi => by
    have : zs.toArray[i]! = zs[i] := by simp [hi]
    rw [this]
    exact List.getElem_mem hi
  unfold compact compactUpTo
  rw [List.mem_map]
  constructor
  · rintro ⟨i, hi, rfl⟩
    exact hget i (List.mem_range.1 (List.mem_filter.1 hi).1)
  · intro hx
    obtain ⟨i, hi, rfl⟩ := List.mem_iff_getElem.1 hx
    obtain ⟨j, h1, h2, h3⟩ := kept_first zs.toArray zs[i] i (by simp [hi])
    exact ⟨j, List.mem_filter.2 ⟨List.mem_range.2 (by omega), h2⟩, h3⟩
theorem compact_rise (zs : List (List UInt8)) (h : zs.Pairwise fun x y => x ≤ y) : (compact zs).Pairwise fun x y => x ≤ y ∧ x ≠ y := by
  have hget : ∀ i (hi : i < zs.length), zs.toArray[i]! = zs[i] := fun i hi => by simp [hi]
  have hle : ∀ i j, i ≤ j → j < zs.length → zs.toArray[i]! ≤ zs.toArray[j]! := fun i j hij hj => by
    rw [hget i (by omega), hget j hj]
    rcases Nat.lt_or_ge i j with g | g
    · exact List.pairwise_iff_getElem.1 h i j (by omega) hj g
    · obtain rfl : i = j := by omega
      exact List.le_refl _
  unfold compact compactUpTo
  rw [List.pairwise_map, List.pairwise_filter]
  refine List.Pairwise.imp_of_mem (R := fun i j => i < j) ?_ List.pairwise_lt_range
  intro i j hi hj hij _ hk
  have hj' := List.mem_range.1 hj
  refine ⟨hle i j (by omega) hj', fun e => ?_⟩
  have h1 := hle i (j - 1) (by omega) (by omega)
  have h2 := hle (j - 1) j (by omega) hj'
  rw [e] at h1
  have h3 := List.le_antisymm h2 h1
  unfold keeps at hk
  have hk := of_decide_eq_true hk
  rcases hk with x | x
  · omega
  · exact x h3.symm
/-- the texts of bs, sorted, each once -/
theorem uniq_keys {bs ks : List ByteArray} (hk : RisK ks) (hm : ∀ x, x ∈ ks ↔ x ∈ bs) : compact ((bs.map fun b => b.data.toList).mergeSort fun x y => decide (x ≤ y)) = ks.map fun b => b.data.toList := by
  have tr : ∀ a b c : List UInt8, decide (a ≤ b) = true → decide (b ≤ c) = true → decide (a ≤ c) = true := fun a b c h1 h2 => by simp only [decide_eq_true_eq] at *; exact List.le_trans h1 h2
  have to : ∀ a b : List UInt8, (decide (a ≤ b) || decide (b ≤ a)) = true := fun a b => by simp only [Bool.or_eq_true, decide_eq_true_eq]; exact List.le_total a b
  have hs := List.pairwise_mergeSort tr to (bs.map fun b => b.data.toList)
  have hr := compact_rise _ (hs.imp fun {x y} h => of_decide_eq_true h)
  have h1 : RisK ((compact ((bs.map fun b => b.data.toList).mergeSort fun x y => decide (x ≤ y))).map fun l => ByteArray.mk l.toArray) := List.pairwise_map.2 (hr.imp fun {x y} h => lt_of_le_ne h.1 h.2)
  have back : ∀ b : ByteArray, ByteArray.mk b.data.toList.toArray = b := fun b => by simp
  have e : (compact ((bs.map fun b => b.data.toList).mergeSort fun x y => decide (x ≤ y))).map (fun l => ByteArray.mk l.toArray) = ks := by
    refine RisK.ext h1 hk fun x => ?_
    rw [hm, List.mem_map]
    constructor
    · rintro ⟨l, hl, rfl⟩
      rw [compact_mem, List.mem_mergeSort, List.mem_map] at hl
      obtain ⟨b, hb, rfl⟩ := hl
      rw [back]
      exact hb
    · intro hx
      exact ⟨x.data.toList, (compact_mem _ _).2 (List.mem_mergeSort.2 (List.mem_map.2 ⟨x, hx, rfl⟩)), back x⟩
  rw [← e, List.map_map]
  conv => lhs; rw [← List.map_id (compact _)]
  refine List.map_congr_left fun l _ => ?_
  simp
end Go.Proofs.YtaofemdhgfejjaaGreatDoor
/-
  Slices of strings: read, copied, compared; what laws.szStringS, laws.toStringS, laws.eqStringS answer.
-/
namespace Go.Proofs.YtaofemdhgfejjaaGreatDoor
open Go.RowKit

def slenS (l : List ByteArray) : Prop := ∀ i (h : i < l.length), l[i].size ≤ maxLen
/-- the slice at A reads as the texts l, and lies below block B -/
def SIn (w : World) (B : Nat) (A : Option Addr) (l : List ByteArray) : Prop :=
  slenS l ∧ (0 < l.length → ∃ b off, A = some ⟨b, off, none⟩ ∧ b < B ∧ ∀ i (h : i < l.length), w.cell? ⟨b, off + i, none⟩ = some (.string l[i]))
theorem SIn.below {w w' : World} {B : Nat} {A : Option Addr} {l : List ByteArray} (h : SIn w B A l) (q : Below B w w') : SIn w' B A l :=
  ⟨h.1, fun hp => by
    obtain ⟨b, off, e, hb, hc⟩ := h.2 hp
    exact ⟨b, off, e, hb, fun i hi => (q.cell (p := ⟨b, off + i, none⟩) hb).trans (hc i hi)⟩⟩
theorem SIn.more {w : World} {B B' : Nat} {A : Option Addr} {l : List ByteArray} (h : SIn w B A l) (hB : B ≤ B') : SIn w B' A l :=
  ⟨h.1, fun hp => by obtain ⟨b, off, e, hb, hc⟩ := h.2 hp; exact ⟨b, off, e, by omega, hc⟩⟩
/-- n texts as cells -/
def strsA (f : Nat → ByteArray) (n : Nat) : Array Value := ((List.range n).map fun j => Value.string (f j)).toArray
theorem strsA_size (f : Nat → ByteArray) (n : Nat) : (strsA f n).size = n := by simp [strsA]
theorem strsA_get (f : Nat → ByteArray) {n j : Nat} (h : j < n) : (strsA f n)[j]? = some (.string (f j)) := by simp [strsA, h]
theorem strsA_eq {f : Nat → ByteArray} {n : Nat} {cs : Array Value} (hs : cs.size = n) (h : ∀ j, j < n → cs[j]? = some (.string (f j))) : cs = strsA f n := by
  apply Array.ext_getElem?
  intro j
  by_cases hj : j < n
  · rw [h j hj, strsA_get f hj]
  · rw [Array.getElem?_eq_none (by omega), Array.getElem?_eq_none (by rw [strsA_size]; omega)]
theorem strsA_set (f : Nat → ByteArray) (n k : Nat) (c : ByteArray) : (strsA f n).setIfInBounds k (.string c) = strsA (fun j => if j = k then c else f j) n := by
  refine strsA_eq (by simp [strsA_size]) fun j hj => ?_
  by_cases e : j = k
  · subst e
    rw [Array.getElem?_setIfInBounds_self_of_lt (by rw [strsA_size]; exact hj), if_pos rfl]
  · rw [Array.getElem?_setIfInBounds_ne (by omega), if_neg e, strsA_get f hj]
theorem strsA_congr {f f' : Nat → ByteArray} {n : Nat} (h : ∀ j, j < n → f j = f' j) : strsA f n = strsA f' n := by
  refine strsA_eq (strsA_size f n) fun j hj => ?_
  rw [strsA_get f hj, h j hj]
/-- the first k texts of l, nothing behind them -/
def cutF (l : List ByteArray) (k : Nat) : Nat → ByteArray := fun j => if j < k then l.getD j ByteArray.empty else ByteArray.empty
theorem cutF_step (l : List ByteArray) (n k : Nat) (hk : k < l.length) : strsA (cutF l (k + 1)) n = (strsA (cutF l k) n).setIfInBounds k (.string l[k]) := by
  rw [strsA_set]
  refine strsA_congr fun j hj => ?_
  unfold cutF
  by_cases e : j = k
  · subst e; rw [if_pos (by omega), if_pos rfl]; simp [hk]
  · rw [if_neg e]
    by_cases h' : j < k
    · rw [if_pos (by omega), if_pos h']
    · rw [if_neg (by omega), if_neg h']
/-- a block that holds the texts l reads as them -/
theorem SIn.row {w : World} {g B : Nat} {l : List ByteArray} {t : TypeId} {fr : Nat × Nat} (hl : slenS l) (hB : g < B) (h : w.heap[g]? = some (.cells (strsA (cutF l l.length) l.length) t fr)) : SIn w B (some ⟨g, 0, none⟩) l :=
  ⟨hl, fun _ => ⟨g, 0, rfl, hB, fun i hi => by
    rw [Nat.zero_add, cell_of_row w g i _ t fr h, strsA_get _ hi]
    unfold cutF
    rw [if_pos hi]
    simp [hi]⟩⟩

theorem infoS1 : (Tryz.prog.info? 9).map (fun i => (i.zero, i.size, i.bytes)) = some (some (.string ByteArray.empty), 1, 16) := by kernel_rfl
theorem made_strs (n : Nat) : madeCells #[.string ByteArray.empty] n = strsA (fun _ => ByteArray.empty) n := by
  refine strsA_eq (size_madeCells _ _) fun j hj => ?_
  simp [madeCells, hj, Nat.mod_one]
theorem run_mks (w : World) (n : Nat) (hn : n ≤ 1048576) : (Instr.makeSlice 27 (.int .i64 (n : Int)) (.int .i64 (n : Int))).run Tryz.prog w = .ok (.slice (some ⟨w.heap.size, 0, none⟩) n n) (w.alloc (.cells (strsA (fun _ => ByteArray.empty) n) 9)) := by
  obtain ⟨i, hi, hz0, hz1, hz2⟩ := info_parts infoS1
  have h := run_make (P := Tryz.prog) w 27 9 i _ Tryz.underlying27 hi hz0 .i64 .i64 (n : Int) (n : Int) (by omega) (by omega) (by rw [hz2]; omega) (by omega)
  rw [hz1, Int.toNat_natCast, Nat.mul_one] at h
  rw [h, ← made_strs]
  rfl

/-- what szStringS leaves: -1, or what is left -/
def SzS (n : Nat) (left : Int) (w : World) (e : Ending) (w' : World) : Prop := (e = .returned (.int .i64 (-1)) ∨ ∃ r : Int, 0 ≤ r ∧ r + n ≤ left ∧ e = .returned (.int .i64 r)) ∧ w = w'

end Go.Proofs.YtaofemdhgfejjaaGreatDoor
/-
  Words for memory: rows of texts of the call's own.
-/
namespace Go.Proofs.YtaofemdhgfejjaaGreatDoor
open Go.RowKit

/-- the slice at A has these texts -/
def ZIn (w : World) (B : Nat) (A : Option Addr) (bs : List ByteArray) : Prop :=
  0 < bs.length → ∃ b off, A = some ⟨b, off, none⟩ ∧ b < B ∧ ∀ i (h : i < bs.length), w.cell? ⟨b, off + i, none⟩ = some (Value.string bs[i])
theorem ZIn.below {w w' : World} {B : Nat} {A : Option Addr} {bs : List ByteArray} (h : ZIn w B A bs) (q : Below B w w') : ZIn w' B A bs := fun hp => by
  obtain ⟨b, off, e, hb, hc⟩ := h hp
  exact ⟨b, off, e, hb, fun i hi => cellB q hb (hc i hi)⟩
theorem ZIn.more {w : World} {B B' : Nat} {A : Option Addr} {bs : List ByteArray} (h : ZIn w B A bs) (hB : B ≤ B') : ZIn w B' A bs := fun hp => by
  obtain ⟨b, off, e, hb, hc⟩ := h hp
  exact ⟨b, off, e, by omega, hc⟩
def ZOwn (w : World) (B : Nat) (A : Option Addr) (cap : Nat) (bs : List ByteArray) : Prop := w.ownsRow B 9 1 (.slice A bs.length cap) bs.length (bs.map Value.string)
theorem ZOwn.nil (w : World) (B : Nat) : ZOwn w B none 0 [] := World.ownsRow_nil _ _ _ _
theorem ZOwn.form {w : World} {B : Nat} {A : Option Addr} {cap : Nat} {bs : List ByteArray} (h : ZOwn w B A cap bs) : (A = none ∧ cap = 0 ∧ bs = []) ∨ ∃ g, A = some ⟨g, 0, none⟩ ∧ B ≤ g ∧ g < w.heap.size := by
  rcases h.2 with ⟨e, e'⟩ | ⟨g, c, cur, e, hb, hg, _⟩
  · injection e with e1 e2 e3
    exact .inl ⟨e1, e3, List.eq_nil_of_length_eq_zero e2⟩
  · injection e with e1 e2 e3
    exact .inr ⟨g, e1, hb, (Array.getElem?_eq_some_iff.1 hg).1⟩
theorem ZOwn.zin {w : World} {B : Nat} {A : Option Addr} {cap : Nat} {bs : List ByteArray} (h : ZOwn w B A cap bs) : ZIn w w.heap.size A bs := fun hp => by
  rcases h.form with ⟨_, _, rfl⟩ | ⟨g, rfl, _, hg⟩
  · simp at hp
  · refine ⟨g, 0, rfl, hg, fun i hi => ?_⟩
    have h1 := h.cellAt i (by omega)
    rw [Nat.zero_add]
    refine h1.trans ?_
    simp [hi]
theorem ZOwn.cap_le {w : World} {B : Nat} {A : Option Addr} {cap : Nat} {bs : List ByteArray} (h : ZOwn w B A cap bs) : bs.length ≤ cap := by
  rcases h.2 with ⟨e, e'⟩ | ⟨g, c, cur, e, _, _, hnc, _⟩
  · injection e with e1 e2 e3; omega
  · injection e with e1 e2 e3; omega
theorem ZOwn.below {w w' : World} {B : Nat} {A : Option Addr} {cap : Nat} {bs : List ByteArray} (h : ZOwn w B A cap bs) (hb : Below w.heap.size w w') : ZOwn w' B A cap bs := by
  refine World.ownsRow.kept h (Below.toGrown hb none) ?_
  cases hv : (Value.slice A bs.length cap).ownBlock <;> simp
theorem ZOwn.more {w : World} {B B' : Nat} {A : Option Addr} {cap : Nat} {bs : List ByteArray} (h : ZOwn w B A cap bs) (hB : B' ≤ B) : ZOwn w B' A cap bs := by
  refine ⟨h.1, ?_⟩
  rcases h.2 with e | ⟨g, c, cur, e, hb, r⟩
  · exact .inl e
  · exact .inr ⟨g, c, cur, e, Nat.le_trans hB hb, r⟩
theorem ZOwn.row {w : World} {B : Nat} {A : Option Addr} {cap : Nat} {bs : List ByteArray} (h : ZOwn w B A cap bs) : ∀ g, rowOf A = some g → B ≤ g ∧ g < w.heap.size := by
  intro g hg
  exact h.lt g (by rw [rowOf_own]; exact hg)
theorem ZOwn.grownBelow {w w' : World} {B : Nat} {A : Option Addr} {cap : Nat} {bs : List ByteArray} (h : ZOwn w B A cap bs) (hg : w.grownBy w' (rowOf A)) (hB : B ≤ w.heap.size) : Below B w w' :=
  (Below.refl B w).grown hg hB (fun k hk => (h.row k hk).1)
theorem ZIn.one {w : World} (g : ByteArray) (t : TypeId) {s : Nat} (hs : w.heap.size = s) : ZIn (w.alloc (.cells #[Value.string g] t)) (s + 1) (some ⟨s, 0, none⟩) [g] := fun _ => by
  subst hs
  refine ⟨w.heap.size, 0, rfl, by omega, fun i hi => ?_⟩
  obtain rfl : i = 0 := by simpa using hi
  exact cell_of_row _ w.heap.size 0 #[Value.string g] t (0, 0) (heap_alloc_new w (.cells #[Value.string g] t))
/-- where a slice of pointers that is cut from place k on begins -/
def cutZ (A : Option Addr) (cap k : Nat) : Option Addr := if cap = k then A else A.map (·.add k)
theorem ZIn.take {w : World} {B : Nat} {A : Option Addr} {bs : List ByteArray} (h : ZIn w B A bs) (cap k : Nat) : ZIn w B (cutZ A cap 0) (bs.take k) := fun hp => by
  have e : cutZ A cap 0 = A := by
    unfold cutZ
    split
    · rfl
    · cases A <;> simp [Addr.add]
  rw [e]
  obtain ⟨b, off, e, hb, hc⟩ := h (by rw [List.length_take] at hp; omega)
  refine ⟨b, off, e, hb, fun i hi => ?_⟩
  rw [List.getElem_take]
  exact hc i (by rw [List.length_take] at hi; omega)
theorem ZIn.drop {w : World} {B : Nat} {A : Option Addr} {bs : List ByteArray} (h : ZIn w B A bs) {cap : Nat} (hc : bs.length ≤ cap) (k : Nat) : ZIn w B (cutZ A cap k) (bs.drop k) := fun hp => by
  rw [List.length_drop] at hp
  obtain ⟨b, off, e, hb, hc⟩ := h (by omega)
  refine ⟨b, off + k, ?_, hb, fun i hi => ?_⟩
  · unfold cutZ
    rw [if_neg (by omega), e, Option.map_some, add_pl]
  · rw [List.length_drop] at hi
    rw [List.getElem_drop, Nat.add_assoc]
    exact hc (k + i) (by omega)
theorem infoZ : (Tryz.prog.info? 9).map (fun i => (i.zero, i.size, i.bytes)) = some (some (.string ByteArray.empty), 1, 16) := by kernel_rfl

section
variable (t ty : TypeId) (ht : Tryz.prog.underlying t = some (.slice 9))
include ht
set_option maxRecDepth 100000 in
theorem run_appZ {w : World} {B B' : Nat} {A A' : Option Addr} {cap c : Nat} {l l' : List ByteArray} (hown : ZOwn w B A cap l) (hin : ZIn w B' A' l') (hB : B ≤ w.heap.size) (hb : l.length + l'.length ≤ 3000000) :
    ∃ A2 cap2 w', (Builtin.append_ #[t, t] ty #[.slice A l.length cap, .slice A' l'.length c]).run Tryz.prog w = .ok (.slice A2 (l ++ l').length cap2) w' ∧ ZOwn w' B A2 cap2 (l ++ l') ∧ w.grownBy w' (rowOf A) ∧ (rowOf A2 = rowOf A ∨ rowOf A2 = some w.heap.size) := by
  obtain ⟨i, hi, hz0, hz1, hz2⟩ := info_parts infoZ
  have hlen : (l ++ l').length = l.length + l'.length := List.length_append
  cases A' with
  | none =>
    have h0 : l' = [] := by
      rcases Nat.eq_zero_or_pos l'.length with e | e
      · exact List.eq_nil_of_length_eq_zero e
      · obtain ⟨_, _, x, _⟩ := hin e
        cases x
    subst h0
    refine ⟨A, cap, w, ?_, by simpa using hown, World.grownBy.refl _ _, .inl rfl⟩
    rcases hown.2 with ⟨e, e'⟩ | ⟨g, cap', cur, e, _, _, hnc, _⟩
    · injection e with e1 e2 e3
      subst e1 e3
      simp [Builtin.append_, run_underlying ht, sizeOf, typeInfo, hi, Builtin.lenOf, Builtin.firstCells, e2]
    · injection e with e1 e2 e3
      subst e1 e3
      simp [Builtin.append_, run_underlying ht, sizeOf, typeInfo, hi, Builtin.lenOf, Builtin.firstCells, hnc, storeCells]
  | some a =>
    have hcells : ∀ j u, (l'.map Value.string)[j]? = some u → w.cell? (a.add j) = some u := by
      intro j u hu
      have hj : j < l'.length := by
        have := (List.getElem?_eq_some_iff.1 hu).1
        rw [List.length_map] at this
        exact this
      obtain ⟨b, off, e, _, hc⟩ := hin (by omega)
      injection e with e
      subst e
      rw [add_pl, hc j hj, ← hu]
      simp [hj]
    obtain ⟨v', w', hrun, h2, h3, _, h5⟩ := run_append_own_at (P := Tryz.prog) w B t ty 9 i _ 1 16 ht hi hz0 hz1 hz2 rfl (by omega) (.slice A l.length cap) l.length (l.map Value.string) hown a l'.length c (l'.map Value.string) (by simp) hcells (by
        intro u hu
        obtain ⟨g, _, rfl⟩ := List.mem_map.1 hu
        rfl)
      (by simp only [maxLen]; omega) (by omega) hB
    have hv : ∃ A2 cap2, v' = .slice A2 (l.length + l'.length) cap2 := by
      rcases h2.2 with ⟨e, e'⟩ | ⟨g, cap', cur, e, _⟩
      · exact ⟨none, 0, by rw [e, e']⟩
      · exact ⟨_, _, e⟩
    obtain ⟨A2, cap2, rfl⟩ := hv
    refine ⟨A2, cap2, w', by rw [hlen]; exact hrun, ?_, by rw [← rowOf_own A l.length cap]; exact h3, ?_⟩
    · unfold ZOwn
      rw [hlen, List.map_append]
      exact h2
    · rw [rowOf_own, rowOf_own] at h5
      exact h5

theorem wp_appZ {w : World} {o : Oper} {a : Act} {K : Act → World → Prop} {Q : Exit → Act → World → Prop} (s x : Operand)
    (ho : o.op = .call { callee := .builtin .append, args := #[s, x], argTypes := #[t, t] })
    {B B' : Nat} {A A' : Option Addr} {cap c n m : Nat} {l l' : List ByteArray} (hs : a.eval s = .slice A n cap) (hx : a.eval x = .slice A' m c) (hn : n = l.length) (hm : m = l'.length)
    (hown : ZOwn w B A cap l) (hin : ZIn w B' A' l') (hB : B ≤ w.heap.size) (hb : l.length + l'.length ≤ 3000000)
    (h : ∀ A2 cap2 w', ZOwn w' B A2 cap2 (l ++ l') → w.grownBy w' (rowOf A) → (rowOf A2 = rowOf A ∨ rowOf A2 = some w.heap.size) → K (a.put o.dst (.slice A2 (l ++ l').length cap2)) w') : o.wp Tryz.prog a w K Q := by
  subst hn hm
  obtain ⟨A2, cap2, w', hrun, h2, h3, h4⟩ := run_appZ t o.type ht (c := c) hown hin hB hb
  unfold Oper.wp execOp
  simp only [ho, resolve, invoke, builtin, Sem.run_bind, Sem.run_pure, Result.andThen_ok, List.map_toArray, List.map_cons, List.map_nil, hs, hx, hrun]
  exact h A2 cap2 w' h2 h3 h4

theorem wpList_appZ {w : World} {ops : Array Oper} {rest : List Oper} {o : Oper} {a : Act} {Q : Exit → Act → World → Prop} (hgd : o.guard = none) (s x : Operand)
    (ho : o.op = .call { callee := .builtin .append, args := #[s, x], argTypes := #[t, t] })
    {B B' : Nat} {A A' : Option Addr} {cap c n m : Nat} {l l' : List ByteArray} (hs : a.eval s = .slice A n cap) (hx : a.eval x = .slice A' m c) (hn : n = l.length) (hm : m = l'.length)
    (hown : ZOwn w B A cap l) (hin : ZIn w B' A' l') (hB : B ≤ w.heap.size) (hb : l.length + l'.length ≤ 3000000)
    (h : ∀ A2 cap2 w', ZOwn w' B A2 cap2 (l ++ l') → w.grownBy w' (rowOf A) → (rowOf A2 = rowOf A ∨ rowOf A2 = some w.heap.size) → wpList Tryz.prog ops Q rest (a.put o.dst (.slice A2 (l ++ l').length cap2)) w') : wpList Tryz.prog ops Q (o :: rest) a w :=
  wpList_plain hgd fun _ hK => wp_appZ t ht s x ho hs hx hn hm hown hin hB hb fun A2 cap2 w' h2 h3 h4 => hK _ _ (h A2 cap2 w' h2 h3 h4)

theorem run_cutZ_h (A : Option Addr) (n cap k : Nat) (hk : k ≤ cap) (w : World) : (Instr.slice t (.slice A n cap) none (some (.int .i64 (k : Int))) none).run Tryz.prog w = .ok (.slice (cutZ A cap 0) k cap) w := by
  have hs : ((sizeOf 9).run Tryz.prog w) = .ok 1 w := by kernel_rfl
  have he : Tryz.prog.elem t = 9 := by simp [Program.elem, ht]
  rw [run_slice_h (P := Tryz.prog) (t := t) (a := A) (len := n) (cap := cap) (w := w) (by rw [he]; exact ht) .i64 k (by omega) (by omega), he, hs]
  simp [Result.andThen, sliced, cutZ]
theorem run_cutZ_l (A : Option Addr) (n cap k : Nat) (hk : k ≤ n) (w : World) : (Instr.slice t (.slice A n cap) (some (.int .i64 (k : Int))) none none).run Tryz.prog w = .ok (.slice (cutZ A cap k) (n - k) (cap - k)) w := by
  have hs : ((sizeOf 9).run Tryz.prog w) = .ok 1 w := by kernel_rfl
  have he : Tryz.prog.elem t = 9 := by simp [Program.elem, ht]
  rw [run_slice_l (P := Tryz.prog) (t := t) (a := A) (len := n) (cap := cap) (w := w) (by rw [he]; exact ht) .i64 k (by omega) (by omega), he, hs]
  simp [Result.andThen, sliced, cutZ]
end

theorem ZOwn.alloc {w : World} {B : Nat} {A : Option Addr} {cap : Nat} {l : List ByteArray} (h : ZOwn w B A cap l) (o : Obj) : ZOwn (w.alloc o) B A cap l := h.below ((Below.refl _ _).alloc (Nat.le_refl _) o)
theorem ZOwn.built (w : World) (B : Nat) (hB : B ≤ w.heap.size) : ZOwn (w.alloc (.cells #[] 9)) B (some ⟨w.heap.size, 0, none⟩) 0 [] := World.ownsRow_made w #[] 0 hB (by simp [maxLen]) rfl
theorem ZOwn.kept {w w' : World} {B r : Nat} {A : Option Addr} {cap : Nat} {bs : List ByteArray} (h : ZOwn w B A cap bs) (hg : w.grownBy w' (some r)) (hne : rowOf A ≠ some r) : ZOwn w' B A cap bs := by
  refine World.ownsRow.kept h hg ?_
  rw [rowOf_own]
  cases e : rowOf A with
  | none => exact .inl rfl
  | some g => exact .inr (fun x => hne (by rw [e, x]))
end Go.Proofs.YtaofemdhgfejjaaGreatDoor
/-
  What slices.Sort and slices.Compact do to a row of texts of the call's own, by the library's contracts.
-/
namespace Go.Proofs.YtaofemdhgfejjaaGreatDoor
open Go.RowKit Go.Lib Go.Sort

/-- texts as lists of bytes -/
def toLs (bs : List ByteArray) : List (List UInt8) := bs.map fun b => b.data.toList
def sortL (zs : List (List UInt8)) : List (List UInt8) := zs.mergeSort fun x y => decide (x ≤ y)
theorem sortL_len (zs : List (List UInt8)) : (sortL zs).length = zs.length := List.length_mergeSort zs
theorem toLs_len (bs : List ByteArray) : (toLs bs).length = bs.length := by unfold toLs; simp
theorem toLs_enc (bs : List ByteArray) : (toLs bs).map encStr = bs.map Value.string := by
  unfold toLs
  rw [List.map_map]
  refine List.map_congr_left fun p _ => ?_
  simp [encStr]
/-- a row of the call's own, its texts as lists of bytes -/
def LOwn (w : World) (B : Nat) (A : Option Addr) (cap : Nat) (zs : List (List UInt8)) : Prop := w.ownsRow B 9 1 (.slice A zs.length cap) zs.length (zs.map encStr)
theorem ZOwn.toL {w : World} {B : Nat} {A : Option Addr} {cap : Nat} {bs : List ByteArray} (h : ZOwn w B A cap bs) : LOwn w B A cap (toLs bs) := by
  unfold LOwn
  rw [toLs_enc, toLs_len]
  exact h
theorem LOwn.toZ {w : World} {B : Nat} {A : Option Addr} {cap : Nat} {bs : List ByteArray} (h : LOwn w B A cap (toLs bs)) : ZOwn w B A cap bs := by
  unfold LOwn at h
  rw [toLs_enc, toLs_len] at h
  exact h
theorem LOwn.form {w : World} {B : Nat} {A : Option Addr} {cap : Nat} {zs : List (List UInt8)} (h : LOwn w B A cap zs) : (A = none ∧ cap = 0 ∧ zs = []) ∨ ∃ g cur, A = some ⟨g, 0, none⟩ ∧ B ≤ g ∧ g < w.heap.size ∧ w.heap[g]? = some (.cells cur 9 (0, 0)) ∧ zs.length ≤ cap ∧ cap ≤ maxLen ∧ cur.size = cap * 1 ∧ Holds encStr w g 0 zs.toArray := by
  rcases h.2 with ⟨e, e'⟩ | ⟨g, c, cur, e, hb, hg, h1, h2, h3, h4⟩
  · injection e with e1 e2 e3
    exact .inl ⟨e1, e3, List.eq_nil_of_length_eq_zero e2⟩
  · injection e with e1 e2 e3
    obtain ⟨g', cap', e', _, _, _, _, _, hH⟩ := holds_of_ownsRow h (by rw [e1]; simp)
    rw [e1] at e'
    injection e' with e4 e5 e6
    injection e4 with e4
    injection e4 with e4
    subst e4 e3
    exact .inr ⟨g, cur, e1, hb, (Array.getElem?_eq_some_iff.1 hg).1, hg, h1, h2, h3, hH⟩

theorem sort_any (A : Option Addr) (zs : List (List UInt8)) (cap : Nat) (w : World) (B : Nat) (hown : LOwn w B A cap zs) (hl : zs.length ≤ 100000) :
    Calls Tryz.prog 73 #[.slice A zs.length cap] w fun e w' => e = .returned (.tuple #[]) ∧ LOwn w' B A cap (sortL zs) ∧ w.grownBy w' (rowOf A) := by
  rcases hown.form with ⟨rfl, rfl, rfl⟩ | ⟨g, cur, rfl, hB, hg, hc, h1, h2, h3, hH⟩
  · refine (show Calls Tryz.prog 73 #[.slice none 0 0] w fun e w' => e = .returned (.tuple #[]) ∧ w' = w from AnyM.slices_Sort_string_none Tryz.sort73 none 0 w).mono ?_
    rintro e w' ⟨rfl, rfl⟩
    exact ⟨rfl, by simpa [sortL] using hown, World.grownBy.refl _ _⟩
  · refine (show Calls Tryz.prog 73 #[.slice (some ⟨g, 0, none⟩) zs.length cap] w _ from AnyM.slices_Sort_string Tryz.sort73 g 0 cap zs w hH hg (by omega)).mono ?_
    rintro e w' ⟨rfl, n, os, rfl⟩
    refine ⟨rfl, ?_, grownBy_sorted _⟩
    have hs := ownsRow_sorted (n := n) (os := os) (ts := sortL zs) (sortL_len zs) hB hc h1 h2 h3
    unfold LOwn
    rw [sortL_len]
    exact hs

theorem compact_any (A : Option Addr) (zs : List (List UInt8)) (cap : Nat) (w : World) (B : Nat) (hown : LOwn w B A cap zs) (hl : zs.length ≤ 100000) :
    Calls Tryz.prog 74 #[.slice A zs.length cap] w fun e w' => e = .returned (.slice A (compact zs).length cap) ∧ LOwn w' B A cap (compact zs) ∧ w.grownBy w' (rowOf A) := by
  rcases hown.form with ⟨rfl, rfl, rfl⟩ | ⟨g, cur, rfl, hB, hg, hc, h1, h2, h3, hH⟩
  · refine (show Calls Tryz.prog 74 #[.slice none 0 0] w fun e w' => e = .returned (.slice none 0 0) ∧ w' = w from Any.slices_Compact_string_empty Tryz.compact74 none 0 w).mono ?_
    rintro e w' ⟨rfl, rfl⟩
    exact ⟨rfl, hown, World.grownBy.refl _ _⟩
  · refine (show Calls Tryz.prog 74 #[.slice (some ⟨g, 0, none⟩) zs.length cap] w _ from Any.slices_Compact_string Tryz.compact74 g 0 cap zs w hH (by omega) h1).mono ?_
    rintro e w' ⟨rfl, q, rfl⟩
    have hle := compact_length_le zs
    have hcc := ownsRow_putRow (q := q) (k := (compact zs).length) (ys := compact zs ++ List.replicate (zs.length - (compact zs).length) []) hown (by simp; omega) hle
    rw [List.take_left] at hcc
    refine ⟨rfl, hcc, ?_⟩
    refine ⟨rfl, rfl, rfl, by simp [putRow, mapBlock, Sort.ahead], fun k hk hne => ?_⟩
    have : g ≠ k := fun e => hne (by rw [e]; rfl)
    simp [putRow, mapBlock, Sort.ahead, Array.getElem?_modify, this]
/-- a row that is sorted, each once -/
theorem uniq_own {w : World} {B : Nat} {A : Option Addr} {cap : Nat} {bs ks : List ByteArray} (hk : RisK ks) (hm : ∀ x, x ∈ ks ↔ x ∈ bs) (h : LOwn w B A cap (compact (sortL (toLs bs)))) : ZOwn w B A cap ks ∧ (compact (sortL (toLs bs))).length = ks.length := by
  have e : compact (sortL (toLs bs)) = toLs ks := uniq_keys hk hm
  rw [e] at h ⊢
  exact ⟨h.toZ, toLs_len ks⟩
end Go.Proofs.YtaofemdhgfejjaaGreatDoor
/-
  Right maps by what they tell of each key. Plain mathematics.
-/
namespace Go.Proofs.YtaofemdhgfejjaaGreatDoor
open Go.RowKit

/-- what a map has of a key -/
def lk (l : List Pr) (k : ByteArray) : Option ByteArray := if hasB l k = true then some (valOf l k) else none
theorem lk_yes {l : List Pr} {k : ByteArray} (h : hasB l k = true) : lk l k = some (valOf l k) := by unfold lk; rw [if_pos h]
theorem lk_no {l : List Pr} {k : ByteArray} (h : hasB l k = false) : lk l k = none := by unfold lk; rw [h]; rfl
theorem lk_some {l : List Pr} (h : Ris l) {k v : ByteArray} : lk l k = some v ↔ (k, v) ∈ l := by
  cases hh : hasB l k
  · rw [lk_no hh]
    constructor
    · intro x; cases x
    · intro x
      have := (has_iff h k).2 ⟨v, x⟩
      rw [hh] at this
      cases this
  · rw [lk_yes hh]
    obtain ⟨v', hv⟩ := (has_iff h k).1 hh
    rw [val_of h hv]
    constructor
    · intro x; injection x with x; rw [← x]; exact hv
    · intro x; rw [h.key x hv]
theorem lk_has (l : List Pr) (k : ByteArray) : hasB l k = (lk l k).isSome := by
  cases hh : hasB l k
  · rw [lk_no hh]; rfl
  · rw [lk_yes hh]; rfl
theorem lk_val (l : List Pr) (k : ByteArray) : valOf l k = (lk l k).getD ByteArray.empty := by
  cases hh : hasB l k
  · rw [lk_no hh, valOf_no hh]; rfl
  · rw [lk_yes hh]; rfl
theorem lk_eq {l l' : List Pr} {k k' : ByteArray} : lk l k = lk l' k' ↔ hasB l k = hasB l' k' ∧ valOf l k = valOf l' k' := by
  constructor
  · intro h
    rw [lk_has, lk_has, lk_val, lk_val, h]
    exact ⟨rfl, rfl⟩
  · rintro ⟨h1, h2⟩
    unfold lk
    rw [h1, h2]
theorem lk_nil (k : ByteArray) : lk [] k = none := lk_no (hasB_end (by simp))
theorem ext_lk {l l' : List Pr} (h : Ris l) (h' : Ris l') (e : ∀ k, lk l k = lk l' k) : l = l' :=
  h.ext h' fun p => by
    have h1 := lk_some h (k := p.1) (v := p.2)
    have h2 := lk_some h' (k := p.1) (v := p.2)
    rw [e] at h1
    exact h1.symm.trans h2
theorem lk_set {l : List Pr} (h : Ris l) (k v k' : ByteArray) : lk (setL l k v) k' = if k' = k then some v else lk l k' := by
  apply Option.ext
  intro a
  rw [lk_some (ris_set h k v), mem_set h]
  by_cases e : k' = k
  · subst e
    rw [if_pos rfl]
    constructor
    · rintro (x | ⟨_, x⟩)
      · injection x with _ x; rw [x]
      · exact absurd rfl x
    · intro x; injection x with x; rw [x]; exact .inl rfl
  · rw [if_neg e, lk_some h]
    constructor
    · rintro (x | ⟨x, _⟩)
      · injection x with x; exact absurd x e
      · exact x
    · intro x; exact .inr ⟨x, e⟩
theorem ris_del {l : List Pr} (h : Ris l) (k : ByteArray) : Ris (delL l k) := by
  unfold delL
  split
  · exact ris_erase h _
  · exact h
theorem mem_del {l : List Pr} (h : Ris l) (k : ByteArray) (p : Pr) : p ∈ delL l k ↔ p ∈ l ∧ p.1 ≠ k := by
  unfold delL
  split
  next hh => exact mem_erase h hh p
  next hh =>
    constructor
    · intro x
      refine ⟨x, fun e => hh ((has_iff h k).2 ⟨p.2, ?_⟩)⟩
      rw [← e]
      exact x
    · exact fun x => x.1
theorem lk_del {l : List Pr} (h : Ris l) (k k' : ByteArray) : lk (delL l k) k' = if k' = k then none else lk l k' := by
  apply Option.ext
  intro a
  rw [lk_some (ris_del h k), mem_del h]
  by_cases e : k' = k
  · rw [if_pos e]
    constructor
    · intro x; exact absurd e x.2
    · intro x; cases x
  · rw [if_neg e, lk_some h]
    exact ⟨fun x => x.1, fun x => ⟨x, e⟩⟩
theorem at_mono (m : List Pr) {k k' : ByteArray} (h : ltB k k' = true) : atN m k ≤ atN m k' := by
  rcases Nat.lt_or_ge (atN m k') (atN m k) with g | g
  · have hl : atN m k' < m.length := by have := atN_le m k; omega
    have h1 := atN_lt m k _ g hl
    have h2 := atN_not m k' hl
    rw [ltB_trans h1 h] at h2
    cases h2
  · exact g
theorem at_mono_has {m : List Pr} {k k' : ByteArray} (hh : hasB m k = true) (h : ltB k k' = true) : atN m k + 1 ≤ atN m k' := by
  have hm := at_mono m h
  rcases Nat.lt_or_ge (atN m k) (atN m k') with g | g
  · exact g
  · have e : atN m k' = atN m k := by omega
    obtain ⟨hl, he⟩ := hasB_iff.1 hh
    have h2 := atN_not m k' (by rw [e]; exact hl)
    simp only [e] at h2
    rw [he, h] at h2
    cases h2
theorem mapB_ris {l : List Pr} (h : mapB l = true) : Ris l := (mapB_all.1 h).2.2
end Go.Proofs.YtaofemdhgfejjaaGreatDoor
