/-
  Texts that this proof leans on, joined: JC.
-/
import Derived.Test.YtdahpnjamlfakaaGreatDoorChecked
import Derived.Test.YtdahpnjamlfakaaGreatDoorPMath
import Derived.WalkKit
import Derived.WalkLawsBesides
import Derived.Test.YtdahpnjamlfakaaGreatDoorPCell
import Derived.Test.YtdahpnjamlfakaaGreatDoorJO
import Derived.OwnWalk
import Derived.IntWalk
import Derived.BigQuiet
import Derived.Laws.Rows
import Derived.Laws.Tables
import Derived.ProofKit
import Derived.Lib.Hide
import Derived.Lib.IndexLaws
import Derived.Lib.Bytealg
import Derived.Maps.AppendAt
import Derived.Deep.Slices
import Derived.Deep.RegionHeld3
import Derived.Deep.RegionLaw
import Derived.StillTailTactics
import Derived.RegionTactic
import Derived.RegionDies
import Derived.Defers
import Derived.Recover
import Derived.Laws.Pointers
import Derived.Test.YtdahpnjamlfakaaGreatDoorQLaid
import Derived.LaidHandle
import Derived.Stop.LaidErr
/-
  What the functions on single texts answer: spec.l1Key, spec.l1Plain, impl.keyOk, impl.valOk, impl.printable (with isLetter, isDigit).
-/
namespace Go.Proofs.YtdahpnjamlfakaaGreatDoor
open Go.RowKit


set_option maxRecDepth 100000 in
set_option maxHeartbeats 1000000 in
theorem l1Key_any (s : ByteArray) (w : World) (hs : s.size ≤ maxLen) :
    Calls Tryz.prog 99 #[.string s] w fun e w' => e = .returned (.bool (keyB s)) ∧ w = w' := by
  unfold maxLen at hs
  go_enter Tryz.func99, Tryz.ntmps99
  go_wp2
  go_loop [3] (fun i => ∃ k : Nat, k ≤ s.size ∧ i = .int .i64 k ∧ Hid (allTo keyC s k)) (fun i => s.size - (intOf i).toNat)
  case atStart => exact ⟨0, Nat.zero_le _, rfl, allTo_zero _ s⟩
  case round =>
    obtain ⟨k, hk, rfl, H⟩ := hrel
    by_cases hlt : k < s.size
    · have hb : (s[k].toNat : Int) < 256 := by have := s[k].toNat_lt; omega
      rcases five (s[k].toNat : Int) 122 with h | ⟨h, h'⟩ | ⟨h, h'⟩ | ⟨h, h'⟩ | ⟨h, h'⟩
      · have Z : Hid (keyB s = false) := hide (okB_bad hlt (keyC_no ⟨.inl (by omega), .inl (by omega)⟩))
        go_wp2
        go_ret
        exact ⟨ret_bool Z.out.symm, rfl⟩
      · have Z := hide (allTo_succ hlt H.out (keyC_yes (.inr ⟨by omega, by omega⟩)))
        go_wp2
        go_round
        case rel => exact ⟨k + 1, by omega, by go_num, Z⟩
        case measure => simp [intOf]; omega
      · have Z : Hid (keyB s = false) := hide (okB_bad hlt (keyC_no ⟨.inl (by omega), .inr (by omega)⟩))
        have d4 : decide ((s[k].toNat : Int) ≤ 57) = false := decide_eq_false (by omega)
        go_wp2
        go_ret
        exact ⟨ret_bool Z.out.symm, rfl⟩
      · have Z := hide (allTo_succ hlt H.out (keyC_yes (.inl ⟨by omega, by omega⟩)))
        have d4 : decide ((s[k].toNat : Int) ≤ 57) = false := decide_eq_false (by omega)
        go_wp2
        go_round
        case rel => exact ⟨k + 1, by omega, by go_num, Z⟩
        case measure => simp [intOf]; omega
      · have Z : Hid (keyB s = false) := hide (okB_bad hlt (keyC_no ⟨.inr (by omega), .inr (by omega)⟩))
        have d4 : decide ((s[k].toNat : Int) ≤ 57) = false := decide_eq_false (by omega)
        have d2 : decide ((s[k].toNat : Int) ≤ 122) = false := decide_eq_false (by omega)
        go_wp2
        go_ret
        exact ⟨ret_bool Z.out.symm, rfl⟩
    · obtain rfl : k = s.size := by omega
      by_cases h1 : 1 ≤ s.size
      · by_cases h8 : s.size ≤ 8
        · have Z : Hid (keyB s = true) := hide (okB_yes (by omega) (by omega) H.out)
          have d8 : decide ((s.size : Int) ≤ 8) = true := decide_eq_true (by omega)
          go_wp2
          go_ret
          exact ⟨ret_bool Z.out.symm, rfl⟩
        · have Z : Hid (keyB s = false) := hide (okB_len (by omega))
          have d8 : decide ((s.size : Int) ≤ 8) = false := decide_eq_false (by omega)
          go_wp2
          go_ret
          exact ⟨ret_bool Z.out.symm, rfl⟩
      · have Z : Hid (keyB s = false) := hide (okB_len (by omega))
        have d1 : decide ((1 : Int) ≤ (s.size : Int)) = false := decide_eq_false (by omega)
        go_wp2
        go_ret
        exact ⟨ret_bool Z.out.symm, rfl⟩

set_option maxRecDepth 100000 in
set_option maxHeartbeats 1000000 in
theorem l1Plain_any (s : ByteArray) (most : Int) (w : World) (hs : s.size ≤ maxLen) :
    Calls Tryz.prog 100 #[.string s, .int .i64 most] w fun e w' => e = .returned (.bool (plainB s most)) ∧ w = w' := by
  unfold maxLen at hs
  go_enter Tryz.func100, Tryz.ntmps100
  go_wp2
  go_loop [5] (fun i => ∃ k : Nat, k ≤ s.size ∧ i = .int .i64 k ∧ Hid (allTo plainC s k)) (fun i => s.size - (intOf i).toNat)
  case atStart => exact ⟨0, Nat.zero_le _, rfl, allTo_zero _ s⟩
  case round =>
    obtain ⟨k, hk, rfl, H⟩ := hrel
    by_cases hlt : k < s.size
    · have hb : (s[k].toNat : Int) < 256 := by have := s[k].toNat_lt; omega
      by_cases h32 : (s[k].toNat : Int) < 32
      · have Z : Hid (plainB s most = false) := hide (okB_bad hlt (plainC_no (.inl (by omega))))
        go_wp2
        go_ret
        exact ⟨ret_bool Z.out.symm, rfl⟩
      · by_cases h126 : 126 < (s[k].toNat : Int)
        · have Z : Hid (plainB s most = false) := hide (okB_bad hlt (plainC_no (.inr (by omega))))
          go_wp2
          go_ret
          exact ⟨ret_bool Z.out.symm, rfl⟩
        · have Z := hide (allTo_succ hlt H.out (plainC_yes (by omega) (by omega)))
          go_wp2
          go_round
          case rel => exact ⟨k + 1, by omega, by go_num, Z⟩
          case measure => simp [intOf]; omega
    · obtain rfl : k = s.size := by omega
      by_cases h8 : (s.size : Int) ≤ most
      · have Z : Hid (plainB s most = true) := hide (okB_yes (by omega) (by omega) H.out)
        have d8 : decide ((s.size : Int) ≤ most) = true := decide_eq_true (by omega)
        go_wp2
        go_ret
        exact ⟨ret_bool Z.out.symm, rfl⟩
      · have Z : Hid (plainB s most = false) := hide (okB_len (by omega))
        have d8 : decide ((s.size : Int) ≤ most) = false := decide_eq_false (by omega)
        go_wp2
        go_ret
        exact ⟨ret_bool Z.out.symm, rfl⟩

set_option maxRecDepth 100000 in
set_option maxHeartbeats 1000000 in
theorem keyOk_any (s : ByteArray) (w : World) (hs : s.size ≤ maxLen) :
    Calls Tryz.prog 83 #[.string s] w fun e w' => e = .returned (.bool (keyB s)) ∧ w = w' := by
  unfold maxLen at hs
  by_cases h1 : 1 ≤ s.size
  · by_cases h8 : s.size ≤ 8
    · have d8 : decide ((8 : Int) < (s.size : Int)) = false := decide_eq_false (by omega)
      have d1 : decide ((s.size : Int) < 1) = false := decide_eq_false (by omega)
      go_enter Tryz.func83, Tryz.ntmps83
      go_wp2
      go_loop [14] (fun i => ∃ k : Nat, k ≤ s.size ∧ i = .int .i64 k ∧ Hid (allTo keyC s k)) (fun i => s.size - (intOf i).toNat)
      case atStart => exact ⟨0, Nat.zero_le _, rfl, allTo_zero _ s⟩
      case round =>
        obtain ⟨k, hk, rfl, H⟩ := hrel
        by_cases hlt : k < s.size
        · have hb : (s[k].toNat : Int) < 256 := by have := s[k].toNat_lt; omega
          rcases five (s[k].toNat : Int) 122 with h | ⟨h, h'⟩ | ⟨h, h'⟩ | ⟨h, h'⟩ | ⟨h, h'⟩
          · have Z : Hid (keyB s = false) := hide (okB_bad hlt (keyC_no ⟨.inl (by omega), .inl (by omega)⟩))
            go_wp2
            go_ret
            exact ⟨ret_bool Z.out.symm, rfl⟩
          · have Z := hide (allTo_succ hlt H.out (keyC_yes (.inr ⟨by omega, by omega⟩)))
            go_wp2
            go_round
            case rel => exact ⟨k + 1, by omega, by go_num, Z⟩
            case measure => simp [intOf]; omega
          · have Z : Hid (keyB s = false) := hide (okB_bad hlt (keyC_no ⟨.inl (by omega), .inr (by omega)⟩))
            have d4 : decide ((s[k].toNat : Int) ≤ 57) = false := decide_eq_false (by omega)
            go_wp2
            go_ret
            exact ⟨ret_bool Z.out.symm, rfl⟩
          · have Z := hide (allTo_succ hlt H.out (keyC_yes (.inl ⟨by omega, by omega⟩)))
            have d4 : decide ((s[k].toNat : Int) ≤ 57) = false := decide_eq_false (by omega)
            go_wp2
            go_round
            case rel => exact ⟨k + 1, by omega, by go_num, Z⟩
            case measure => simp [intOf]; omega
          · have Z : Hid (keyB s = false) := hide (okB_bad hlt (keyC_no ⟨.inr (by omega), .inr (by omega)⟩))
            have d4 : decide ((s[k].toNat : Int) ≤ 57) = false := decide_eq_false (by omega)
            have d2 : decide ((s[k].toNat : Int) ≤ 122) = false := decide_eq_false (by omega)
            go_wp2
            go_ret
            exact ⟨ret_bool Z.out.symm, rfl⟩
        · obtain rfl : k = s.size := by omega
          have Z : Hid (keyB s = true) := hide (okB_yes (by omega) (by omega) H.out)
          go_wp2
          go_ret
          exact ⟨ret_bool Z.out.symm, rfl⟩
    · have Z : Hid (keyB s = false) := hide (okB_len (by omega))
      go_enter Tryz.func83, Tryz.ntmps83
      go_wp2
      go_ret
      exact ⟨ret_bool Z.out.symm, rfl⟩
  · have Z : Hid (keyB s = false) := hide (okB_len (by omega))
    go_enter Tryz.func83, Tryz.ntmps83
    go_wp2
    go_ret
    exact ⟨ret_bool Z.out.symm, rfl⟩

set_option maxRecDepth 100000 in
set_option maxHeartbeats 1000000 in
theorem printable_any (s : ByteArray) (most : Int) (w : World) (hs : s.size ≤ maxLen) :
    Calls Tryz.prog 126 #[.string s, .int .i64 most] w fun e w' => e = .returned (.bool (plainB s most)) ∧ w = w' := by
  unfold maxLen at hs
  by_cases h8 : (s.size : Int) ≤ most
  · go_enter Tryz.func126, Tryz.ntmps126
    go_wp2
    go_loop [12] (fun i => ∃ k : Nat, k ≤ s.size ∧ i = .int .i64 k ∧ Hid (allTo plainC s k)) (fun i => s.size - (intOf i).toNat)
    case atStart => exact ⟨0, Nat.zero_le _, rfl, allTo_zero _ s⟩
    case round =>
      obtain ⟨k, hk, rfl, H⟩ := hrel
      by_cases hlt : k < s.size
      · have hb : (s[k].toNat : Int) < 256 := by have := s[k].toNat_lt; omega
        by_cases h32 : (s[k].toNat : Int) < 32
        · have Z : Hid (plainB s most = false) := hide (okB_bad hlt (plainC_no (.inl (by omega))))
          go_wp2
          go_ret
          exact ⟨ret_bool Z.out.symm, rfl⟩
        · by_cases h126 : 126 < (s[k].toNat : Int)
          · have Z : Hid (plainB s most = false) := hide (okB_bad hlt (plainC_no (.inr (by omega))))
            go_wp2
            go_ret
            exact ⟨ret_bool Z.out.symm, rfl⟩
          · have Z := hide (allTo_succ hlt H.out (plainC_yes (by omega) (by omega)))
            go_wp2
            go_round
            case rel => exact ⟨k + 1, by omega, by go_num, Z⟩
            case measure => simp [intOf]; omega
      · obtain rfl : k = s.size := by omega
        have Z : Hid (plainB s most = true) := hide (okB_yes (by omega) (by omega) H.out)
        go_wp2
        go_ret
        exact ⟨ret_bool Z.out.symm, rfl⟩
  · have Z : Hid (plainB s most = false) := hide (okB_len (by omega))
    go_enter Tryz.func126, Tryz.ntmps126
    go_wp2
    go_ret
    exact ⟨ret_bool Z.out.symm, rfl⟩

theorem valOk_any (s : ByteArray) (w : World) (hs : s.size ≤ maxLen) :
    Calls Tryz.prog 84 #[.string s] w fun e w' => e = .returned (.bool (valB s)) ∧ w = w' := by
  go_enter Tryz.func84, Tryz.ntmps84
  go_wp2_with (go_at_call 126; refine (printable_any s 12 _ hs).mono ?_; rintro e w' ⟨rfl, rfl⟩)
  go_ret
  exact ⟨rfl, rfl⟩
end Go.Proofs.YtdahpnjamlfakaaGreatDoor
/-
  Slices of strings: read, copied, compared; what laws.szStringS, laws.toStringS, laws.eqStringS answer.
-/
namespace Go.Proofs.YtdahpnjamlfakaaGreatDoor
open Go.RowKit

def slenS (l : List ByteArray) : Prop := ∀ i (h : i < l.length), l[i].size ≤ maxLen
/-- the slice at A reads as the texts l, and lies below block B -/
def SIn (w : World) (B : Nat) (A : Option Addr) (l : List ByteArray) : Prop :=
  slenS l ∧ (0 < l.length → ∃ b off, A = some ⟨b, off, none⟩ ∧ b < B ∧ ∀ i (h : i < l.length), w.cell? ⟨b, off + i, none⟩ = some (.string l[i]))
theorem SIn.below {w w' : World} {B : Nat} {A : Option Addr} {l : List ByteArray} (h : SIn w B A l) (q : Below B w w') : SIn w' B A l :=
  ⟨h.1, fun hp => by
    obtain ⟨b, off, e, hb, hc⟩ := h.2 hp
    exact ⟨b, off, e, hb, fun i hi => (q.cell (p := ⟨b, off + i, none⟩) hb).trans (hc i hi)⟩⟩
theorem SIn.more {w : World} {B B' : Nat} {A : Option Addr} {l : List ByteArray} (h : SIn w B A l) (hB : B ≤ B') : SIn w B' A l :=
  ⟨h.1, fun hp => by obtain ⟨b, off, e, hb, hc⟩ := h.2 hp; exact ⟨b, off, e, by omega, hc⟩⟩
/-- n texts as cells -/
def strsA (f : Nat → ByteArray) (n : Nat) : Array Value := ((List.range n).map fun j => Value.string (f j)).toArray
theorem strsA_size (f : Nat → ByteArray) (n : Nat) : (strsA f n).size = n := by simp [strsA]
theorem strsA_get (f : Nat → ByteArray) {n j : Nat} (h : j < n) : (strsA f n)[j]? = some (.string (f j)) := by simp [strsA, h]
theorem strsA_eq {f : Nat → ByteArray} {n : Nat} {cs : Array Value} (hs : cs.size = n) (h : ∀ j, j < n → cs[j]? = some (.string (f j))) : cs = strsA f n := by
  apply Array.ext_getElem?
  intro j
  by_cases hj : j < n
  · rw [h j hj, strsA_get f hj]
  · rw [Array.getElem?_eq_none (by omega), Array.getElem?_eq_none (by rw [strsA_size]; omega)]
theorem strsA_set (f : Nat → ByteArray) (n k : Nat) (c : ByteArray) : (strsA f n).setIfInBounds k (.string c) = strsA (fun j => if j = k then c else f j) n := by
  refine strsA_eq (by simp [strsA_size]) fun j hj => ?_
  by_cases e : j = k
  · subst e
    rw [Array.getElem?_setIfInBounds_self_of_lt (by rw [strsA_size]; exact hj), if_pos rfl]
  · rw [Array.getElem?_setIfInBounds_ne (by omega), if_neg e, strsA_get f hj]
theorem strsA_congr {f f' : Nat → ByteArray} {n : Nat} (h : ∀ j, j < n → f j = f' j) : strsA f n = strsA f' n := by
  refine strsA_eq (strsA_size f n) fun j hj => ?_
  rw [strsA_get f hj, h j hj]
/-- the first k texts of l, nothing behind them -/
def cutF (l : List ByteArray) (k : Nat) : Nat → ByteArray := fun j => if j < k then l.getD j ByteArray.empty else ByteArray.empty
theorem cutF_step (l : List ByteArray) (n k : Nat) (hk : k < l.length) : strsA (cutF l (k + 1)) n = (strsA (cutF l k) n).setIfInBounds k (.string l[k]) := by
  rw [strsA_set]
  refine strsA_congr fun j hj => ?_
  unfold cutF
  by_cases e : j = k
  · subst e; rw [if_pos (by omega), if_pos rfl]; simp [hk]
  · rw [if_neg e]
    by_cases h' : j < k
    · rw [if_pos (by omega), if_pos h']
    · rw [if_neg (by omega), if_neg h']
/-- a block that holds the texts l reads as them -/
theorem SIn.row {w : World} {g B : Nat} {l : List ByteArray} {t : TypeId} {fr : Nat × Nat} (hl : slenS l) (hB : g < B) (h : w.heap[g]? = some (.cells (strsA (cutF l l.length) l.length) t fr)) : SIn w B (some ⟨g, 0, none⟩) l :=
  ⟨hl, fun _ => ⟨g, 0, rfl, hB, fun i hi => by
    rw [Nat.zero_add, cell_of_row w g i _ t fr h, strsA_get _ hi]
    unfold cutF
    rw [if_pos hi]
    simp [hi]⟩⟩

theorem infoS1 : (Tryz.prog.info? 9).map (fun i => (i.zero, i.size, i.bytes)) = some (some (.string ByteArray.empty), 1, 16) := by kernel_rfl
theorem made_strs (n : Nat) : madeCells #[.string ByteArray.empty] n = strsA (fun _ => ByteArray.empty) n := by
  refine strsA_eq (size_madeCells _ _) fun j hj => ?_
  simp [madeCells, hj, Nat.mod_one]
theorem run_mks (w : World) (n : Nat) (hn : n ≤ 1048576) : (Instr.makeSlice 28 (.int .i64 (n : Int)) (.int .i64 (n : Int))).run Tryz.prog w = .ok (.slice (some ⟨w.heap.size, 0, none⟩) n n) (w.alloc (.cells (strsA (fun _ => ByteArray.empty) n) 9)) := by
  obtain ⟨i, hi, hz0, hz1, hz2⟩ := info_parts infoS1
  have h := run_make (P := Tryz.prog) w 28 9 i _ Tryz.underlying28 hi hz0 .i64 .i64 (n : Int) (n : Int) (by omega) (by omega) (by rw [hz2]; omega) (by omega)
  rw [hz1, Int.toNat_natCast, Nat.mul_one] at h
  rw [h, ← made_strs]
  rfl

/-- what szStringS leaves: -1, or what is left -/
def SzS (n : Nat) (left : Int) (w : World) (e : Ending) (w' : World) : Prop := (e = .returned (.int .i64 (-1)) ∨ ∃ r : Int, 0 ≤ r ∧ r + n ≤ left ∧ e = .returned (.int .i64 r)) ∧ w = w'

end Go.Proofs.YtdahpnjamlfakaaGreatDoor
/-
  What both packages' IdOk give: sixteen digits or not.
-/
namespace Go.Proofs.YtdahpnjamlfakaaGreatDoor.QI
open Go.RowKit

/-- one digit 0 .. 9, a .. f -/
def hexI (c : Int) : Bool := (decide (97 ≤ c) && decide (c ≤ 102)) || (decide (48 ≤ c) && decide (c ≤ 57))
theorem hexI_yes {c : Int} (h : (97 ≤ c ∧ c ≤ 102) ∨ (48 ≤ c ∧ c ≤ 57)) : hexI c = true := by
  unfold hexI; rcases h with ⟨a, b⟩ | ⟨a, b⟩ <;> simp [a, b]
theorem hexI_no {c : Int} (h : (c < 97 ∨ 102 < c) ∧ (c < 48 ∨ 57 < c)) : hexI c = false := by
  unfold hexI; obtain ⟨a, b⟩ := h; rw [Bool.or_eq_false_iff, Bool.and_eq_false_iff, Bool.and_eq_false_iff]; simp; omega

/-- the first k bytes are such digits -/
def hexTo (s : ByteArray) (k : Nat) : Prop := ∀ j (h : j < s.size), j < k → hexI (s[j].toNat : Int) = true
theorem hexTo_zero (s : ByteArray) : hexTo s 0 := fun _ _ h => absurd h (by omega)
theorem hexTo_succ {s : ByteArray} {k : Nat} (hk : k < s.size) (h : hexTo s k) (hc : hexI (s[k].toNat : Int) = true) : hexTo s (k + 1) := by
  intro j hj hlt
  rcases Nat.lt_or_ge j k with h1 | h1
  · exact h j hj h1
  · obtain rfl : j = k := by omega
    exact hc

open Classical in
/-- sixteen such digits -/
noncomputable def idB (s : ByteArray) : Bool := decide (s.size = 16 ∧ hexTo s s.size)
open Classical in
theorem idB_yes {s : ByteArray} (h : s.size = 16) (k : hexTo s s.size) : idB s = true := by unfold idB; exact decide_eq_true ⟨h, k⟩
open Classical in
theorem idB_len {s : ByteArray} (h : ¬ s.size = 16) : idB s = false := by unfold idB; exact decide_eq_false fun x => h x.1
open Classical in
theorem idB_bad {s : ByteArray} {k : Nat} (hk : k < s.size) (h : hexI (s[k].toNat : Int) = false) : idB s = false := by
  unfold idB; refine decide_eq_false fun x => ?_; have := x.2 k hk hk; rw [h] at this; cases this


/-- the five places where a byte can lie -/
theorem five (c : Int) : c < 48 ∨ (48 ≤ c ∧ c ≤ 57) ∨ (57 < c ∧ c < 97) ∨ (97 ≤ c ∧ c ≤ 102) ∨ 102 < c := by omega

set_option maxRecDepth 100000 in
set_option maxHeartbeats 1000000 in
theorem specIdOk_any (s : ByteArray) (w : World) (hs : s.size ≤ maxLen) :
    Calls Tryz.prog 102 #[.string s] w fun e w' => e = .returned (.bool (idB s)) ∧ w = w' := by
  unfold maxLen at hs
  go_enter Tryz.func102, Tryz.ntmps102
  go_wp2
  go_loop [3] (fun i => ∃ k : Nat, k ≤ s.size ∧ i = .int .i64 k ∧ Hid (hexTo s k)) (fun i => s.size - (intOf i).toNat)
  case atStart => exact ⟨0, Nat.zero_le _, rfl, hexTo_zero s⟩
  case round =>
    obtain ⟨k, hk, rfl, H⟩ := hrel
    by_cases hlt : k < s.size
    · have hb : (s[k].toNat : Int) < 256 := by have := s[k].toNat_lt; omega
      rcases five (s[k].toNat : Int) with h | ⟨h, h'⟩ | ⟨h, h'⟩ | ⟨h, h'⟩ | h
      · have Z := Lib.hid (idB_bad hlt (hexI_no ⟨.inl (by omega), .inl (by omega)⟩))
        go_wp2
        go_ret
        exact ⟨ret_bool Z.out.symm, rfl⟩
      · have Z := Lib.hid (hexTo_succ hlt H.out (hexI_yes (.inr ⟨by omega, by omega⟩)))
        go_wp2
        go_round
        case rel => exact ⟨k + 1, by omega, by go_num, Z⟩
        case measure => simp [intOf]; omega
      · have Z := Lib.hid (idB_bad hlt (hexI_no ⟨.inl (by omega), .inr (by omega)⟩))
        have d4 : decide ((s[k].toNat : Int) ≤ 57) = false := decide_eq_false (by omega)
        go_wp2
        go_ret
        exact ⟨ret_bool Z.out.symm, rfl⟩
      · have Z := Lib.hid (hexTo_succ hlt H.out (hexI_yes (.inl ⟨by omega, by omega⟩)))
        have d4 : decide ((s[k].toNat : Int) ≤ 57) = false := decide_eq_false (by omega)
        go_wp2
        go_round
        case rel => exact ⟨k + 1, by omega, by go_num, Z⟩
        case measure => simp [intOf]; omega
      · have Z := Lib.hid (idB_bad hlt (hexI_no ⟨.inr (by omega), .inr (by omega)⟩))
        have d2 : decide ((s[k].toNat : Int) ≤ 102) = false := decide_eq_false (by omega)
        have d4 : decide ((s[k].toNat : Int) ≤ 57) = false := decide_eq_false (by omega)
        go_wp2
        go_ret
        exact ⟨ret_bool Z.out.symm, rfl⟩
    · obtain rfl : k = s.size := by omega
      by_cases h16 : s.size = 16
      · have Z := Lib.hid (idB_yes h16 H.out)
        have hb : ((s.size : Int) == 16) = true := by simp [h16]
        clear h16
        go_wp2
        go_ret
        exact ⟨ret_bool Z.out.symm, rfl⟩
      · have Z := Lib.hid (idB_len h16)
        have hb : ((s.size : Int) == 16) = false := by simp; omega
        clear h16
        go_wp2
        go_ret
        exact ⟨ret_bool Z.out.symm, rfl⟩

set_option maxRecDepth 100000 in
set_option maxHeartbeats 1000000 in
theorem implIdOk_any (s : ByteArray) (w : World) (hs : s.size ≤ maxLen) :
    Calls Tryz.prog 88 #[.string s] w fun e w' => e = .returned (.bool (idB s)) ∧ w = w' := by
  unfold maxLen at hs
  by_cases h16 : s.size = 16
  · have Y := Lib.hid h16
    have hb : ((s.size : Int) != 16) = false := by simp [h16]
    clear h16
    go_enter Tryz.func88, Tryz.ntmps88
    go_wp2
    go_loop [9] (fun i => ∃ k : Nat, k ≤ s.size ∧ i = .int .i64 k ∧ Hid (hexTo s k)) (fun i => s.size - (intOf i).toNat)
    case atStart => exact ⟨0, Nat.zero_le _, rfl, hexTo_zero s⟩
    case round =>
      obtain ⟨k, hk, rfl, H⟩ := hrel
      by_cases hlt : k < s.size
      · have hb2 : (s[k].toNat : Int) < 256 := by have := s[k].toNat_lt; omega
        rcases five (s[k].toNat : Int) with h | ⟨h, h'⟩ | ⟨h, h'⟩ | ⟨h, h'⟩ | h
        · have Z := Lib.hid (idB_bad hlt (hexI_no ⟨.inl (by omega), .inl (by omega)⟩))
          go_wp2
          go_ret
          exact ⟨ret_bool Z.out.symm, rfl⟩
        · have Z := Lib.hid (hexTo_succ hlt H.out (hexI_yes (.inr ⟨by omega, by omega⟩)))
          go_wp2
          go_round
          case rel => exact ⟨k + 1, by omega, by go_num, Z⟩
          case measure => simp [intOf]; omega
        · have Z := Lib.hid (idB_bad hlt (hexI_no ⟨.inl (by omega), .inr (by omega)⟩))
          have d4 : decide ((s[k].toNat : Int) ≤ 57) = false := decide_eq_false (by omega)
          go_wp2
          go_ret
          exact ⟨ret_bool Z.out.symm, rfl⟩
        · have Z := Lib.hid (hexTo_succ hlt H.out (hexI_yes (.inl ⟨by omega, by omega⟩)))
          have d4 : decide ((s[k].toNat : Int) ≤ 57) = false := decide_eq_false (by omega)
          go_wp2
          go_round
          case rel => exact ⟨k + 1, by omega, by go_num, Z⟩
          case measure => simp [intOf]; omega
        · have Z := Lib.hid (idB_bad hlt (hexI_no ⟨.inr (by omega), .inr (by omega)⟩))
          have d2 : decide ((s[k].toNat : Int) ≤ 102) = false := decide_eq_false (by omega)
          have d4 : decide ((s[k].toNat : Int) ≤ 57) = false := decide_eq_false (by omega)
          go_wp2
          go_ret
          exact ⟨ret_bool Z.out.symm, rfl⟩
      · obtain rfl : k = s.size := by omega
        have Z := Lib.hid (idB_yes Y.out H.out)
        go_wp2
        go_ret
        exact ⟨ret_bool Z.out.symm, rfl⟩
  · have Z := Lib.hid (idB_len h16)
    have hb : ((s.size : Int) != 16) = true := by simp; omega
    clear h16
    go_enter Tryz.func88, Tryz.ntmps88
    go_wp2
    go_ret
    exact ⟨ret_bool Z.out.symm, rfl⟩

end Go.Proofs.YtdahpnjamlfakaaGreatDoor.QI
/-
  Commits: right or not; what spec.CommitOk, impl.parentsOk, impl.CommitOk answer, and the laws' own helpers szCommit, toCommit, eqCommit.
-/
namespace Go.Proofs.YtdahpnjamlfakaaGreatDoor
open Go.RowKit

/-- the first k parents are ids, and rise -/
def parTo (l : List ByteArray) (k : Nat) : Prop := (∀ i (h : i < l.length), i < k → QI.idB l[i] = true) ∧ ∀ i (h : i + 1 < l.length), i + 1 < k → ltB l[i] l[i + 1] = true
theorem parTo_zero (l : List ByteArray) : parTo l 0 := ⟨fun _ _ h => absurd h (by omega), fun _ _ h => absurd h (by omega)⟩
theorem parTo_succ {l : List ByteArray} {k : Nat} (hk : k < l.length) (h : parTo l k) (h1 : QI.idB l[k] = true) (h3 : ∀ (hp : 0 < k), ltB (l[k - 1]'(by omega)) l[k] = true) : parTo l (k + 1) := by
  refine ⟨fun i hi hik => ?_, fun i hi hik => ?_⟩
  · rcases Nat.lt_or_ge i k with g | g
    · exact h.1 i hi g
    · obtain rfl : i = k := by omega
      exact h1
  · rcases Nat.lt_or_ge (i + 1) k with g | g
    · exact h.2 i hi g
    · obtain rfl : k = i + 1 := by omega
      simpa using h3 (by omega)
open Classical in
noncomputable def parB (l : List ByteArray) : Bool := decide (l.length ≤ 2 ∧ parTo l l.length)
open Classical in
theorem parB_iff {l : List ByteArray} : parB l = true ↔ l.length ≤ 2 ∧ parTo l l.length := by unfold parB; exact decide_eq_true_iff
theorem parB_yes {l : List ByteArray} (h : l.length ≤ 2) (k : parTo l l.length) : parB l = true := parB_iff.2 ⟨h, k⟩
theorem parB_len {l : List ByteArray} (h : 2 < l.length) : parB l = false := by
  cases e : parB l
  · rfl
  · have := (parB_iff.1 e).1; omega
theorem parB_id {l : List ByteArray} {k : Nat} (hk : k < l.length) (h : QI.idB l[k] = false) : parB l = false := by
  cases e : parB l
  · rfl
  · have := (parB_iff.1 e).2.1 k hk hk; rw [h] at this; cases this
theorem parB_rise {l : List ByteArray} {k : Nat} (hk : k + 1 < l.length) (h : ltB l[k] l[k + 1] = false) : parB l = false := by
  cases e : parB l
  · rfl
  · have := (parB_iff.1 e).2.2 k hk hk; rw [h] at this; cases this
/-- a right commit -/
noncomputable def comB (t : ByteArray) (l : List ByteArray) (m : ByteArray) : Bool := QI.idB t && parB l && plainB m 40

set_option maxRecDepth 100000 in
set_option maxHeartbeats 1000000 in
theorem parentsOk_any (A : Option Addr) (l : List ByteArray) (cap : Nat) (w : World) (B : Nat) (hl : l.length ≤ maxLen) (hin : SIn w B A l) :
    Calls Tryz.prog 89 #[.slice A l.length cap] w fun e w' => e = .returned (.bool (parB l)) ∧ w = w' := by
  unfold maxLen at hl
  have IN := hide hin
  clear hin
  generalize hn : l.length = n at *
  have HN := hide hn
  clear hn
  by_cases h2 : n ≤ 2
  · have c2 : ¬ ((2 : Int) < (n : Int)) := by omega
    go_enter Tryz.func89, Tryz.ntmps89
    go_wp2
    go_loop [10] (fun iv => ∃ k : Nat, k ≤ n ∧ iv = .int .i64 k ∧ Hid (parTo l k)) (fun i => n - (intOf i).toNat)
    case atStart => exact ⟨0, Nat.zero_le _, rfl, parTo_zero l⟩
    case round =>
      obtain ⟨k, hk, rfl, H⟩ := hrel
      by_cases hlt : k < n
      · have hkl : k < l.length := by rw [HN.out]; omega
        obtain ⟨b, off, rfl, _, hc⟩ := IN.out.2 (by omega)
        have c1 := hc k hkl
        have s1 := hide (IN.out.1 k hkl)
        cases hid : QI.idB l[k]
        · have Z := hide (parB_id hkl hid)
          have I1 := hide (QI.implIdOk_any l[k] w s1.out)
          rw [hid] at I1
          generalize l[k] = s at *
          clear hc
          go_wp2_with (go_at_call 88; refine I1.out.mono ?_; rintro e w' ⟨rfl, rfl⟩)
          go_ret
          exact ⟨ret_bool Z.out.symm, rfl⟩
        · have I1 := hide (QI.implIdOk_any l[k] w s1.out)
          rw [hid] at I1
          by_cases h0 : 0 < k
          · have c3 := hc (k - 1) (by omega)
            have q1 : IntKind.i64.wrap ((k : Int) - 1) = (k : Int) - 1 := IntWalk.i64_in _ (by omega)
            have q4 : ((k : Int) - 1).toNat = k - 1 := by omega
            have q6 : (0 : Int) < (k : Int) := by omega
            cases hrise : ltB (l[k - 1]'(by omega)) l[k]
            · have Z := hide (parB_rise (l := l) (k := k - 1) (by omega) (by simpa [show k - 1 + 1 = k by omega] using hrise))
              have hrise2 : Op.bytesLess (l[k - 1]'(by omega)).toList l[k].toList = false := hrise
              generalize l[k] = s at *
              generalize (l[k - 1]'(by omega)) = s0 at *
              clear hc
              go_wp2_with (go_at_call 88; refine I1.out.mono ?_; rintro e w' ⟨rfl, rfl⟩)
              go_ret
              exact ⟨ret_bool Z.out.symm, rfl⟩
            · have Z := hide (parTo_succ hkl H.out hid (fun _ => hrise))
              have hrise2 : Op.bytesLess (l[k - 1]'(by omega)).toList l[k].toList = true := hrise
              generalize l[k] = s at *
              generalize (l[k - 1]'(by omega)) = s0 at *
              clear hc
              go_wp2_with (go_at_call 88; refine I1.out.mono ?_; rintro e w' ⟨rfl, rfl⟩)
              go_round
              case rel => exact ⟨k + 1, by omega, by go_num, Z⟩
              case measure => simp [intOf]; omega
          · have Z := hide (parTo_succ hkl H.out hid (fun h => absurd h h0))
            have q6 : ¬ ((0 : Int) < (k : Int)) := by omega
            generalize l[k] = s at *
            clear hc
            go_wp2_with (go_at_call 88; refine I1.out.mono ?_; rintro e w' ⟨rfl, rfl⟩)
            go_round
            case rel => exact ⟨k + 1, by omega, by go_num, Z⟩
            case measure => simp [intOf]; omega
      · have ek : Hid (k = n) := hide (by omega)
        have Z : Hid (parB l = true) := hide (parB_yes (by rw [HN.out]; exact h2) (by rw [HN.out, ← ek.out]; exact H.out))
        have hgt : ¬ ((k : Int) < (n : Int)) := by omega
        clear hlt
        go_wp2
        go_ret
        exact ⟨ret_bool Z.out.symm, rfl⟩
  · have Z : Hid (parB l = false) := hide (parB_len (by rw [HN.out]; omega))
    have c2 : (2 : Int) < (n : Int) := by omega
    go_enter Tryz.func89, Tryz.ntmps89
    go_wp2
    go_ret
    exact ⟨ret_bool Z.out.symm, rfl⟩

theorem noteOk_any (s : ByteArray) (w : World) (hs : s.size ≤ maxLen) :
    Calls Tryz.prog 90 #[.string s] w fun e w' => e = .returned (.bool (plainB s 40)) ∧ w = w' := by
  go_enter Tryz.func90, Tryz.ntmps90
  go_wp2_with (go_at_call 126; refine (printable_any s 40 _ hs).mono ?_; rintro e w' ⟨rfl, rfl⟩)
  go_ret
  exact ⟨rfl, rfl⟩
set_option maxRecDepth 100000 in
set_option maxHeartbeats 1000000 in
theorem implCommitOk_any (t m : ByteArray) (A : Option Addr) (l : List ByteArray) (cap : Nat) (w : World) (ht : t.size ≤ maxLen) (hm : m.size ≤ maxLen) (hl : l.length ≤ maxLen) (hin : SIn w w.heap.size A l) :
    Calls Tryz.prog 48 #[.agg #[.string t, .slice A l.length cap, .string m]] w fun e w' => e = .returned (.bool (comB t l m)) ∧ Below w.heap.size w w' := by
  have B1 : Hid (Below w.heap.size w (w.alloc (.cells #[.string t, .slice A l.length cap, .string m] 30))) := hide ((Below.refl _ w).alloc (Nat.le_refl _) _)
  have I1 := hide (fun W => QI.implIdOk_any t W ht)
  have P1 := hide (fun W => parentsOk_any A l cap W w.heap.size hl)
  have N1 := hide (fun W => noteOk_any m W hm)
  have IN := hide (hin.below B1.out)
  have E : Hid (comB t l m = (QI.idB t && parB l && plainB m 40)) := hide rfl
  clear hin ht hm hl
  generalize l.length = n at *
  generalize QI.idB t = b1 at *
  generalize parB l = b2 at *
  generalize plainB m 40 = b3 at *
  cases b1
  · have E1 : Hid (comB t l m = false) := hide (by rw [E.out]; rfl)
    go_enter Tryz.func48, Tryz.ntmps48
    go_wp2_with (go_at_call 88; refine (I1.out _).mono ?_; rintro e w' ⟨rfl, rfl⟩)
    go_ret
    exact ⟨ret_bool E1.out.symm, B1.out⟩
  · cases b2
    · have E1 : Hid (comB t l m = false) := hide (by rw [E.out]; rfl)
      go_enter Tryz.func48, Tryz.ntmps48
      go_wp2_with (first
        | (go_at_call 88; refine (I1.out _).mono ?_; rintro e w' ⟨rfl, rfl⟩)
        | (go_at_call 89; refine (P1.out _ IN.out).mono ?_; rintro e w' ⟨rfl, rfl⟩))
      go_ret
      exact ⟨ret_bool E1.out.symm, B1.out⟩
    · have E1 : Hid (comB t l m = b3) := hide (by rw [E.out]; rfl)
      go_enter Tryz.func48, Tryz.ntmps48
      go_wp2_with (first
        | (go_at_call 88; refine (I1.out _).mono ?_; rintro e w' ⟨rfl, rfl⟩)
        | (go_at_call 89; refine (P1.out _ IN.out).mono ?_; rintro e w' ⟨rfl, rfl⟩)
        | (go_at_call 90; refine (N1.out _).mono ?_; rintro e w' ⟨rfl, rfl⟩))
      go_ret
      exact ⟨ret_bool E1.out.symm, B1.out⟩
end Go.Proofs.YtdahpnjamlfakaaGreatDoor
/-
  What spec.CommitOk answers.
-/
namespace Go.Proofs.YtdahpnjamlfakaaGreatDoor
open Go.RowKit

theorem comB_par {t m : ByteArray} {l : List ByteArray} (h : parB l = false) : comB t l m = false := by unfold comB; rw [h]; simp
theorem comB_yes {t m : ByteArray} {l : List ByteArray} (h : parB l = true) : comB t l m = (QI.idB t && plainB m 40) := by unfold comB; rw [h]; simp
/-- the box of three cells -/
theorem box3 (w : World) (a b c : Value) (T : TypeId) : (w.alloc (.cells #[a, b, c] T)).cell? ⟨w.heap.size, 0, none⟩ = some a ∧ (w.alloc (.cells #[a, b, c] T)).cell? ⟨w.heap.size, 1, none⟩ = some b ∧ (w.alloc (.cells #[a, b, c] T)).cell? ⟨w.heap.size, 2, none⟩ = some c := by
  have h : (w.alloc (.cells #[a, b, c] T)).heap[w.heap.size]? = some (.cells #[a, b, c] T) := by
    show (w.heap.push (.cells #[a, b, c] T))[w.heap.size]? = _
    simp
  refine ⟨?_, ?_, ?_⟩ <;> (unfold World.cell?; rw [h]; rfl)

set_option maxRecDepth 100000 in
set_option maxHeartbeats 1000000 in
theorem specCommitOk_any (t m : ByteArray) (A : Option Addr) (l : List ByteArray) (cap : Nat) (w : World) (ht : t.size ≤ maxLen) (hm : m.size ≤ maxLen) (hl : l.length ≤ maxLen) (hin : SIn w w.heap.size A l) :
    Calls Tryz.prog 57 #[.agg #[.string t, .slice A l.length cap, .string m]] w fun e w' => e = .returned (.bool (comB t l m)) ∧ Below w.heap.size w w' := by
  have B1 : Hid (Below w.heap.size w (w.alloc (.cells #[.string t, .slice A l.length cap, .string m] 30))) := hide ((Below.refl _ w).alloc (Nat.le_refl _) _)
  have IN0 := hide (hin.below B1.out)
  have X := hide (box3 w (.string t) (.slice A l.length cap) (.string m) 30)
  unfold maxLen at hl
  clear hin
  generalize hn : l.length = n at *
  have HN := hide hn
  clear hn
  go_enter Tryz.func57, Tryz.ntmps57
  go_wp2
  go_loopw [3] (fun iv wr => ∃ k : Nat, k ≤ n ∧ iv = .int .i64 k ∧ Hid (parTo l k) ∧ Hid (Quiet (w.alloc (.cells #[.string t, .slice A n cap, .string m] 30)) wr)) (fun i _ => n - (intOf i).toNat)
  case atStart => exact ⟨0, Nat.zero_le _, rfl, parTo_zero l, Quiet.refl _⟩
  case round =>
    obtain ⟨k, hk, rfl, H, Q⟩ := hrel
    have IN := hide (IN0.out.below (Q.out.below _))
    have x0 := (Q.out.cell ⟨w.heap.size, 0, none⟩).trans X.out.1
    have x1 := (Q.out.cell ⟨w.heap.size, 1, none⟩).trans X.out.2.1
    have x2 := (Q.out.cell ⟨w.heap.size, 2, none⟩).trans X.out.2.2
    have BB := hide (B1.out.trans (Q.out.below _))
    clear IN0 X B1
    by_cases hlt : k < n
    · have hkl : k < l.length := by rw [HN.out]; omega
      obtain ⟨b, off, rfl, _, hc⟩ := IN.out.2 (by omega)
      have c1 := hc k hkl
      have s1 := hide (IN.out.1 k hkl)
      cases hid : QI.idB l[k]
      · have Z := hide (comB_par (t := t) (m := m) (parB_id hkl hid))
        have I1 := hide (fun W => QI.specIdOk_any l[k] W s1.out)
        rw [hid] at I1
        generalize l[k] = s at *
        clear hc
        go_wp2
        go_quiet ((go_at_call 102; exact quiet_same (I1.out _)))
        go_wp2
        go_ret
        exact ⟨ret_bool Z.out.symm, BB.out.trans ((Quiet.refl _).drewN _ |>.below _)⟩
      · have I1 := hide (fun W => QI.specIdOk_any l[k] W s1.out)
        rw [hid] at I1
        by_cases h0 : 0 < k
        · have c3 := hc (k - 1) (by omega)
          have q1 : IntKind.i64.wrap ((k : Int) - 1) = (k : Int) - 1 := IntWalk.i64_in _ (by omega)
          have q2 : (0 : Int) ≤ (k : Int) - 1 := by omega
          have q3 : (1 : Int) ≤ (k : Int) := by omega
          have q4 : ((k : Int) - 1).toNat = k - 1 := by omega
          have q5 : (k : Int) - 1 < (n : Int) := by omega
          have q6 : decide (0 < k) = true := decide_eq_true h0
          cases hrise : ltB (l[k - 1]'(by omega)) l[k]
          · have Z := hide (comB_par (t := t) (m := m) (parB_rise (l := l) (k := k - 1) (by omega) (by simpa [show k - 1 + 1 = k by omega] using hrise)))
            have hrise2 : Op.bytesLess (l[k - 1]'(by omega)).toList l[k].toList = false := hrise
            generalize l[k] = s at *
            generalize (l[k - 1]'(by omega)) = s0 at *
            clear hc hrise
            go_wp2
            go_quiet ((go_at_call 102; exact quiet_same (I1.out _)))
            clear q1 q4
            go_wp2
            go_ret
            exact ⟨ret_bool Z.out.symm, BB.out.trans ((Quiet.refl _).drewN _ |>.below _)⟩
          · have Z := hide (parTo_succ hkl H.out hid (fun _ => hrise))
            have hrise2 : Op.bytesLess (l[k - 1]'(by omega)).toList l[k].toList = true := hrise
            generalize l[k] = s at *
            generalize (l[k - 1]'(by omega)) = s0 at *
            clear hc hrise
            go_wp2
            go_quiet ((go_at_call 102; exact quiet_same (I1.out _)))
            clear q1 q4
            go_wp2
            go_roundw
            case rel => exact ⟨k + 1, by omega, by go_num, Z, Q.out.drewN _⟩
            case measure => simp [intOf]; omega
        · have Z := hide (parTo_succ hkl H.out hid (fun h => absurd h h0))
          have q6 : decide (0 < k) = false := decide_eq_false h0
          generalize l[k] = s at *
          clear hc
          go_wp2
          go_quiet ((go_at_call 102; exact quiet_same (I1.out _)))
          go_wp2
          go_roundw
          case rel => exact ⟨k + 1, by omega, by go_num, Z, Q.out.drewN _⟩
          case measure => simp [intOf]; omega
    · have ek : Hid (k = n) := hide (by omega)
      have hgt : ¬ ((k : Int) < (n : Int)) := by omega
      have I1 := hide (fun W => QI.specIdOk_any t W ht)
      have N1 := hide (fun W => l1Plain_any m 40 W hm)
      by_cases h2 : n ≤ 2
      · have Z : Hid (comB t l m = (QI.idB t && plainB m 40)) := hide (comB_yes (parB_yes (by rw [HN.out]; exact h2) (by rw [HN.out, ← ek.out]; exact H.out)))
        have d : decide ((n : Int) ≤ 2) = true := decide_eq_true (by omega)
        generalize QI.idB t = b1 at *
        generalize plainB m 40 = b3 at *
        clear hlt h2
        cases b1 <;>
        · simp only [Bool.true_and, Bool.false_and] at Z
          go_wp2_with (first
            | (go_at_call 102; refine (I1.out _).mono ?_; rintro e w' ⟨rfl, rfl⟩)
            | (go_at_call 100; refine (N1.out _).mono ?_; rintro e w' ⟨rfl, rfl⟩))
          go_ret
          exact ⟨ret_bool Z.out.symm, BB.out⟩
      · have Z : Hid (comB t l m = false) := hide (comB_par (parB_len (by rw [HN.out]; omega)))
        have d : decide ((n : Int) ≤ 2) = false := decide_eq_false (by omega)
        generalize QI.idB t = b1 at *
        clear hlt h2
        cases b1 <;>
        · go_wp2_with (go_at_call 102; refine (I1.out _).mono ?_; rintro e w' ⟨rfl, rfl⟩)
          go_ret
          exact ⟨ret_bool Z.out.symm, BB.out⟩
end Go.Proofs.YtdahpnjamlfakaaGreatDoor
/-
  The laws' own helpers on commits: szCommit, toCommit, eqCommit.
-/
namespace Go.Proofs.YtdahpnjamlfakaaGreatDoor
open Go.RowKit

theorem alloc3 (w : World) (A B C : Obj) : (((w.alloc A).alloc B).alloc C).heap[w.heap.size]? = some A ∧ (((w.alloc A).alloc B).alloc C).heap[w.heap.size + 1]? = some B ∧ (((w.alloc A).alloc B).alloc C).heap[w.heap.size + 1 + 1]? = some C := by
  have h : (((w.alloc A).alloc B).alloc C).heap = ((w.heap.push A).push B).push C := rfl
  rw [h]
  refine ⟨?_, ?_, ?_⟩
  · rw [Array.getElem?_push, if_neg (by simp; omega), Array.getElem?_push, if_neg (by simp), Array.getElem?_push, if_pos rfl]
  · rw [Array.getElem?_push, if_neg (by simp), Array.getElem?_push, if_pos (by simp)]
  · rw [Array.getElem?_push, if_pos (by simp)]

end Go.Proofs.YtdahpnjamlfakaaGreatDoor
/-
  The text of a commit: the model, and what spec.l4Text, spec.CommitText answer.
-/
namespace Go.Proofs.YtdahpnjamlfakaaGreatDoor
open Go.RowKit

/-- the text's first line, up to parent k -/
def headTo (t : ByteArray) (l : List ByteArray) : Nat → ByteArray
  | 0 => ⟨#[99, 111, 109, 109, 105, 116, 32]⟩ ++ t
  | k + 1 => headTo t l k ++ ⟨#[32]⟩ ++ l.getD k ByteArray.empty
def textC (t : ByteArray) (l : List ByteArray) (m : ByteArray) : ByteArray := headTo t l l.length ++ ⟨#[10]⟩ ++ m
noncomputable def comTextS (t : ByteArray) (l : List ByteArray) (m : ByteArray) : ByteArray := if comB t l m then textC t l m else ByteArray.empty
theorem comText_no {t m : ByteArray} {l : List ByteArray} (h : comB t l m = false) : comTextS t l m = ByteArray.empty := by unfold comTextS; rw [h]; rfl
theorem comText_yes {t m : ByteArray} {l : List ByteArray} (h : comB t l m = true) : comTextS t l m = textC t l m := by unfold comTextS; rw [h]; rfl
def par16 (l : List ByteArray) : Prop := ∀ i (h : i < l.length), l[i].size ≤ 16
theorem headTo_size {t : ByteArray} {l : List ByteArray} (ht : t.size ≤ 16) (hl : par16 l) : ∀ k, (headTo t l k).size ≤ 23 + 17 * k
  | 0 => by
    have e : (ByteArray.mk #[99, 111, 109, 109, 105, 116, 32]).size = 7 := rfl
    rw [headTo, ByteArray.size_append, e]; omega
  | k + 1 => by
    have e : (ByteArray.mk #[32]).size = 1 := rfl
    have h := headTo_size ht hl k
    have g : (l.getD k ByteArray.empty).size ≤ 16 := by
      by_cases hk : k < l.length
      · rw [show l.getD k ByteArray.empty = l[k] by simp [hk]]; exact hl k hk
      · rw [show l.getD k ByteArray.empty = ByteArray.empty by simp [hk]]; decide
    rw [headTo, ByteArray.size_append, ByteArray.size_append, e]; omega
theorem headTo_next {t : ByteArray} {l : List ByteArray} {k : Nat} (h : k < l.length) : headTo t l (k + 1) = headTo t l k ++ ⟨#[32]⟩ ++ l[k] := by
  rw [headTo, show l.getD k ByteArray.empty = l[k] by simp [h]]
/-- what a right commit's parts measure -/
def comSz (t : ByteArray) (l : List ByteArray) (m : ByteArray) : Prop := t.size ≤ 16 ∧ l.length ≤ 2 ∧ par16 l ∧ m.size ≤ 40

set_option maxRecDepth 100000 in
set_option maxHeartbeats 1000000 in
theorem l4Text_any (t m : ByteArray) (A : Option Addr) (l : List ByteArray) (cap : Nat) (w : World) (hz : comSz t l m) (hin : SIn w w.heap.size A l) :
    Calls Tryz.prog 59 #[.agg #[.string t, .slice A l.length cap, .string m]] w fun e w' => e = .returned (.string (textC t l m)) ∧ Below w.heap.size w w' := by
  have B1 : Hid (Below w.heap.size w (w.alloc (.cells #[.string t, .slice A l.length cap, .string m] 30))) := hide ((Below.refl _ w).alloc (Nat.le_refl _) _)
  have IN0 := hide (hin.below B1.out)
  have X := hide (box3 w (.string t) (.slice A l.length cap) (.string m) 30)
  obtain ⟨h1, h2, h3, h4⟩ := hz
  have S := hide (headTo_size h1 h3)
  have H3 := hide h3
  clear hin h3
  have T : Hid (textC t l m = headTo t l l.length ++ ⟨#[10]⟩ ++ m) := hide rfl
  generalize hn : l.length = n at *
  have HN := hide hn
  clear hn
  have e7 : (ByteArray.mk #[99, 111, 109, 109, 105, 116, 32]).size = 7 := rfl
  have e1 : (ByteArray.mk #[32]).size = 1 := rfl
  have e10 : (ByteArray.mk #[10]).size = 1 := rfl
  go_enter Tryz.func59, Tryz.ntmps59
  go_wp2
  go_loopw [3, 4] (fun sv iv wr => ∃ (k : Nat) (s : ByteArray), k ≤ n ∧ iv = .int .i64 k ∧ sv = .string s ∧ Hid (s = headTo t l k) ∧ Hid (Quiet (w.alloc (.cells #[.string t, .slice A n cap, .string m] 30)) wr)) (fun _ i _ => n - (intOf i).toNat)
  case atStart => exact ⟨0, _, Nat.zero_le _, rfl, rfl, rfl, Quiet.refl _⟩
  case round =>
    obtain ⟨k, s, hk, rfl, rfl, H, Q⟩ := hrel
    have IN := hide (IN0.out.below (Q.out.below _))
    have x0 := (Q.out.cell ⟨w.heap.size, 0, none⟩).trans X.out.1
    have x1 := (Q.out.cell ⟨w.heap.size, 1, none⟩).trans X.out.2.1
    have x2 := (Q.out.cell ⟨w.heap.size, 2, none⟩).trans X.out.2.2
    have BB := hide (B1.out.trans (Q.out.below _))
    have s0 : s.size ≤ 23 + 17 * k := by rw [H.out]; exact S.out k
    clear IN0 X B1 S
    by_cases hlt : k < n
    · have hkl : k < l.length := by rw [HN.out]; omega
      obtain ⟨b, off, rfl, _, hc⟩ := IN.out.2 (by omega)
      have c1 := hc k hkl
      have s1 := H3.out k hkl
      have Z : Hid (s ++ ⟨#[32]⟩ ++ l[k] = headTo t l (k + 1)) := hide (by rw [headTo_next hkl, H.out])
      generalize l[k] = x at *
      clear hc
      have z1 : (s ++ ByteArray.mk #[32]).size = s.size + 1 := by rw [ByteArray.size_append, e1]
      go_wp2
      exact ⟨⟨k + 1, _, by omega, by go_num, rfl, Z, Q⟩, by simp [intOf]; omega⟩
    · obtain rfl : k = n := by omega
      have Z : Hid (s ++ ⟨#[10]⟩ ++ m = textC t l m) := hide (by rw [T.out, H.out])
      have z1 : (s ++ ByteArray.mk #[10]).size = s.size + 1 := by rw [ByteArray.size_append, e10]
      go_wp2
      go_ret
      exact ⟨ret_str Z.out, BB.out⟩

theorem idB_sz {s : ByteArray} (h : QI.idB s = true) : s.size = 16 := by
  by_cases g : s.size = 16
  · exact g
  · rw [QI.idB_len g] at h; cases h
theorem comSz_of {t m : ByteArray} {l : List ByteArray} (h : comB t l m = true) : comSz t l m := by
  unfold comB at h
  simp only [Bool.and_eq_true] at h
  obtain ⟨⟨a, b⟩, c⟩ := h
  obtain ⟨b1, b2, _⟩ := parB_iff.1 b
  exact ⟨by have := idB_sz a; omega, b1, fun i hi => by have := idB_sz (b2 i hi hi); omega, by have := (okB_iff.1 c).2.1; omega⟩

set_option maxRecDepth 100000 in
set_option maxHeartbeats 1000000 in
theorem specCommitText_any (t m : ByteArray) (A : Option Addr) (l : List ByteArray) (cap : Nat) (w : World) (ht : t.size ≤ maxLen) (hm : m.size ≤ maxLen) (hl : l.length ≤ maxLen) (hin : SIn w w.heap.size A l) :
    Calls Tryz.prog 111 #[.agg #[.string t, .slice A l.length cap, .string m]] w fun e w' => e = .returned (.string (comTextS t l m)) ∧ Below w.heap.size w w' := by
  have B1 : Hid (Below w.heap.size w (w.alloc (.cells #[.string t, .slice A l.length cap, .string m] 30))) := hide ((Below.refl _ w).alloc (Nat.le_refl _) _)
  have X := hide (box3 w (.string t) (.slice A l.length cap) (.string m) 30)
  have R := hide (specCommitOk_any t m A l cap _ ht hm hl ((hin.below B1.out).more B1.out.size))
  have IN := hide hin
  clear hin
  cases hc : comB t l m
  · rw [hc] at R
    have Z := hide (comText_no hc)
    go_enter Tryz.func111, Tryz.ntmps111
    go_wp2_with fail
    refine R.out.mono ?_
    rintro e w1 ⟨rfl, b1⟩
    have BB := hide (B1.out.trans (b1.mono B1.out.size))
    clear b1
    go_wp2
    go_ret
    exact ⟨ret_str Z.out.symm, BB.out⟩
  · rw [hc] at R
    have Z := hide (comText_yes hc)
    have HS := hide (comSz_of hc)
    go_enter Tryz.func111, Tryz.ntmps111
    go_wp2_with fail
    refine R.out.mono ?_
    rintro e w1 ⟨rfl, b1⟩
    have lt : w.heap.size < (w.alloc (.cells #[.string t, .slice A l.length cap, .string m] 30)).heap.size := by simp
    have x0 := cellB b1 lt X.out.1
    have x1 := cellB b1 lt X.out.2.1
    have x2 := cellB b1 lt X.out.2.2
    have BB := hide (B1.out.trans (b1.mono B1.out.size))
    have in1 := (IN.out.below BB.out).more BB.out.size
    clear b1 R X B1 lt
    go_wp2_with fail
    refine (l4Text_any t m A l cap w1 HS.out in1).mono ?_
    rintro e w2 ⟨rfl, b2⟩
    have B2 := hide (BB.out.trans (b2.mono BB.out.size))
    clear b2
    go_wp2
    go_ret
    exact ⟨ret_str Z.out.symm, B2.out⟩
end Go.Proofs.YtdahpnjamlfakaaGreatDoor
/-
  A text that is cut at its first byte of a kind: in the reference (spec.l1Cut) and in the library (strings.Cut at one byte).
-/
namespace Go.Proofs.YtdahpnjamlfakaaGreatDoor
open Go.RowKit

/-- where the first byte c stands; the size where there is none -/
def posB (s : ByteArray) (c : UInt8) : Nat := s.data.toList.findIdx (· == c)
theorem posB_le (s : ByteArray) (c : UInt8) : posB s c ≤ s.size := by
  unfold posB
  exact List.findIdx_le_length
theorem posB_hit {s : ByteArray} {c : UInt8} {k : Nat} (h : k < s.size) (hc : s[k] = c) (hb : ∀ j (h : j < s.size), j < k → s[j] ≠ c) : posB s c = k := by
  unfold posB
  have hl : k < s.data.toList.length := h
  rw [List.findIdx_eq hl]
  refine ⟨beq_iff_eq.2 hc, fun j hj => ?_⟩
  have := hb j (by omega) hj
  exact beq_eq_false_iff_ne.2 this
theorem posB_miss {s : ByteArray} {c : UInt8} (hb : ∀ j (h : j < s.size), s[j] ≠ c) : posB s c = s.size := by
  unfold posB
  have : List.findIdx (fun x => x == c) s.data.toList = s.data.toList.length := by
    rw [List.findIdx_eq_length]
    intro x hx
    obtain ⟨i, hi, e⟩ := List.getElem_of_mem hx
    have := hb i hi
    rw [beq_eq_false_iff_ne]
    rw [← e]
    exact this
  rw [this]; rfl
theorem indexByte_pos : ∀ (l : List UInt8) (c : UInt8), Lib.indexByte l c = if l.findIdx (· == c) < l.length then (l.findIdx (· == c) : Int) else -1
  | [], c => by simp [Lib.indexByte]
  | b :: l, c => by
    have ih := indexByte_pos l c
    rw [Lib.indexByte, ih, List.findIdx_cons]
    cases hbc : b == c
    · by_cases h : l.findIdx (· == c) < l.length
      · rw [if_pos h]
        have : ((l.findIdx (· == c) : Int) == -1) = false := by rw [beq_eq_false_iff_ne]; omega
        simp [this, h]
      · rw [if_neg h]
        simp [h]
    · simp
/-- the two pieces, and whether it was cut -/
def cutS (s : ByteArray) (c : UInt8) : ByteArray × ByteArray × Bool := if posB s c < s.size then (s.extract 0 (posB s c), s.extract (posB s c + 1) s.size, true) else (s, ByteArray.empty, false)
theorem cutS_yes {s : ByteArray} {c : UInt8} (h : posB s c < s.size) : cutS s c = (s.extract 0 (posB s c), s.extract (posB s c + 1) s.size, true) := by unfold cutS; rw [if_pos h]
theorem cutS_no {s : ByteArray} {c : UInt8} (h : ¬ posB s c < s.size) : cutS s c = (s, ByteArray.empty, false) := by unfold cutS; rw [if_neg h]
def RetCut (s : ByteArray) (c : UInt8) (w : World) (e : Ending) (w' : World) : Prop := e = .returned (.tuple #[.string (cutS s c).1, .string (cutS s c).2.1, .bool (cutS s c).2.2]) ∧ Quiet w w'

set_option maxRecDepth 100000 in
set_option maxHeartbeats 1000000 in
theorem l1Cut_any (s : ByteArray) (c : UInt8) (ci : Int) (w : World) (hs : s.size ≤ maxLen) (hci : ci = (c.toNat : Int)) :
    Calls Tryz.prog 109 #[.string s, .int .u8 ci] w (RetCut s c w) := by
  unfold maxLen at hs
  have HC := hide hci
  clear hci
  go_enter Tryz.func109, Tryz.ntmps109
  go_wp2
  go_loop [7] (fun i => ∃ k : Nat, k ≤ s.size ∧ i = .int .i64 k ∧ Hid (∀ j (h : j < s.size), j < k → s[j] ≠ c)) (fun i => s.size - (intOf i).toNat)
  case atStart => exact ⟨0, Nat.zero_le _, rfl, fun j _ h => absurd h (by omega)⟩
  case round =>
    obtain ⟨k, hk, rfl, H⟩ := hrel
    by_cases hlt : k < s.size
    · have hb : (s[k].toNat : Int) < 256 := by have := s[k].toNat_lt; omega
      by_cases he : s[k] = c
      · have q1 : ((s[k].toNat : Int) == ci) = true := by rw [HC.out, he]; simp
        have Z := hide (posB_hit hlt he H.out)
        clear he
        go_wp2
        go_quiet (fail)
        go_wp2
        go_ret3
        have hz : posB s c < s.size := by rw [Z.out]; exact hlt
        refine ⟨?_, (Quiet.refl w).drewN _⟩
        rw [cutS_yes hz, Z.out]; rfl
      · have q1 : ((s[k].toNat : Int) == ci) = false := by
          rw [HC.out, beq_eq_false_iff_ne]
          intro h
          exact he (UInt8.toNat_inj.1 (by omega))
        have Z : Hid (∀ j (h : j < s.size), j < k + 1 → s[j] ≠ c) := hide (fun j h hj => by
          rcases Nat.lt_succ_iff_lt_or_eq.1 hj with h' | rfl
          · exact H.out j h h'
          · exact he)
        go_wp2
        go_round
        case rel => exact ⟨k + 1, by omega, by go_num, Z⟩
        case measure => simp [intOf]; omega
    · have Z := hide (posB_miss (s := s) (c := c) fun j h => H.out j h (by omega))
      go_wp2
      go_ret3
      have hz : ¬ posB s c < s.size := by rw [Z.out]; omega
      refine ⟨?_, Quiet.refl w⟩
      rw [cutS_no hz]; rfl

set_option maxRecDepth 100000 in
theorem indexByte_any (s : ByteArray) (c : Int) (w : World) :
    Calls Tryz.prog 186 #[.string s, .int .u8 c] w fun e w' => e = .returned (.int .i64 (Lib.indexByte s.data.toList c.toNat.toUInt8)) ∧ w = w' := by
  go_enter Tryz.func186, Tryz.ntmps186
  go_wp2
  rw [run_callFunc_extern Tryz.func190 (by kernel_rfl) (by kernel_rfl) (by kernel_rfl) (e := Extern.BytealgIndexByte.indexByte) (by kernel_rfl), Lib.run_indexByteString]
  simp only [Result.andThen]
  rw [Oper.upon_value]
  go_wp2
  go_ret
  exact ⟨rfl, rfl⟩

set_option maxRecDepth 100000 in
set_option maxHeartbeats 1000000 in
theorem index_any (s : ByteArray) (c : UInt8) (w : World) :
    Calls Tryz.prog 185 #[.string s, .string ⟨#[c]⟩] w fun e w' => e = .returned (.int .i64 (Lib.indexByte s.data.toList c)) ∧ w = w' := by
  have R := hide (indexByte_any s (c.toNat : Int) w)
  have e1 : ((c.toNat : Int)).toNat.toUInt8 = c := by simp
  rw [e1] at R
  have z1 : (ByteArray.mk #[c]).size = 1 := rfl
  cases q : ([c] == s.toList)
  · go_enter Tryz.func185, Tryz.ntmps185
    go_wp2_with fail
    refine R.out.mono ?_
    rintro e w' ⟨rfl, rfl⟩
    go_wp2
    go_ret
    exact ⟨rfl, rfl⟩
  · have Z : Hid (Lib.indexByte s.data.toList c = 0) := hide (by
      have h := beq_iff_eq.1 q
      rw [Go.ByteArray.toList_eq] at h
      rw [← h]
      simp [Lib.indexByte])
    clear R
    go_enter Tryz.func185, Tryz.ntmps185
    go_wp2_with fail
    go_ret
    refine ⟨?_, rfl⟩
    rw [Z.out]; rfl

set_option maxRecDepth 100000 in
set_option maxHeartbeats 1000000 in
theorem slCut_any (s : ByteArray) (c : UInt8) (w : World) (hs : s.size ≤ maxLen) :
    Calls Tryz.prog 182 #[.string s, .string ⟨#[c]⟩] w (RetCut s c w) := by
  unfold maxLen at hs
  have R := hide (index_any s c w)
  rw [indexByte_pos] at R
  have z1 : (ByteArray.mk #[c]).size = 1 := rfl
  by_cases h : posB s c < s.size
  · have E := hide (cutS_yes h)
    have R2 : Hid (Calls Tryz.prog 185 #[.string s, .string ⟨#[c]⟩] w fun e w' => e = .returned (.int .i64 (posB s c : Int)) ∧ w = w') := hide (by have := R.out; rw [if_pos (show List.findIdx (fun x => x == c) s.data.toList < s.data.toList.length from h)] at this; exact this)
    clear R
    generalize posB s c = k at *
    go_enter Tryz.func182, Tryz.ntmps182
    go_wp2_with fail
    refine R2.out.mono ?_
    rintro e w' ⟨rfl, rfl⟩
    go_wp2
    go_quiet (fail)
    go_wp2
    go_ret3
    refine ⟨?_, (Quiet.refl w).drewN _⟩
    rw [E.out]; rfl
  · have E := hide (cutS_no h)
    have R2 : Hid (Calls Tryz.prog 185 #[.string s, .string ⟨#[c]⟩] w fun e w' => e = .returned (.int .i64 (-1)) ∧ w = w') := hide (by have := R.out; rw [if_neg (show ¬ List.findIdx (fun x => x == c) s.data.toList < s.data.toList.length from h)] at this; exact this)
    clear R
    go_enter Tryz.func182, Tryz.ntmps182
    go_wp2_with fail
    refine R2.out.mono ?_
    rintro e w' ⟨rfl, rfl⟩
    go_wp2
    go_ret3
    refine ⟨?_, Quiet.refl w⟩
    rw [E.out]; rfl

set_option maxRecDepth 100000 in
theorem stringsCut_any (s : ByteArray) (c : UInt8) (w : World) (hs : s.size ≤ maxLen) :
    Calls Tryz.prog 172 #[.string s, .string ⟨#[c]⟩] w (RetCut s c w) := by
  go_enter Tryz.func172, Tryz.ntmps172
  go_wp2_with fail
  refine (slCut_any s c w hs).mono ?_
  rintro e w' ⟨rfl, q⟩
  go_wp2
  go_ret3
  exact ⟨rfl, q⟩
end Go.Proofs.YtdahpnjamlfakaaGreatDoor
/-
  Words for memory: rows of texts of the call's own.
-/
namespace Go.Proofs.YtdahpnjamlfakaaGreatDoor
open Go.RowKit

/-- the slice at A has these texts -/
def ZIn (w : World) (B : Nat) (A : Option Addr) (bs : List ByteArray) : Prop :=
  0 < bs.length → ∃ b off, A = some ⟨b, off, none⟩ ∧ b < B ∧ ∀ i (h : i < bs.length), w.cell? ⟨b, off + i, none⟩ = some (Value.string bs[i])
theorem ZIn.below {w w' : World} {B : Nat} {A : Option Addr} {bs : List ByteArray} (h : ZIn w B A bs) (q : Below B w w') : ZIn w' B A bs := fun hp => by
  obtain ⟨b, off, e, hb, hc⟩ := h hp
  exact ⟨b, off, e, hb, fun i hi => cellB q hb (hc i hi)⟩
theorem ZIn.more {w : World} {B B' : Nat} {A : Option Addr} {bs : List ByteArray} (h : ZIn w B A bs) (hB : B ≤ B') : ZIn w B' A bs := fun hp => by
  obtain ⟨b, off, e, hb, hc⟩ := h hp
  exact ⟨b, off, e, by omega, hc⟩
def ZOwn (w : World) (B : Nat) (A : Option Addr) (cap : Nat) (bs : List ByteArray) : Prop := w.ownsRow B 9 1 (.slice A bs.length cap) bs.length (bs.map Value.string)
theorem ZOwn.nil (w : World) (B : Nat) : ZOwn w B none 0 [] := World.ownsRow_nil _ _ _ _
theorem ZOwn.form {w : World} {B : Nat} {A : Option Addr} {cap : Nat} {bs : List ByteArray} (h : ZOwn w B A cap bs) : (A = none ∧ cap = 0 ∧ bs = []) ∨ ∃ g, A = some ⟨g, 0, none⟩ ∧ B ≤ g ∧ g < w.heap.size := by
  rcases h.2 with ⟨e, e'⟩ | ⟨g, c, cur, e, hb, hg, _⟩
  · injection e with e1 e2 e3
    exact .inl ⟨e1, e3, List.eq_nil_of_length_eq_zero e2⟩
  · injection e with e1 e2 e3
    exact .inr ⟨g, e1, hb, (Array.getElem?_eq_some_iff.1 hg).1⟩
theorem ZOwn.zin {w : World} {B : Nat} {A : Option Addr} {cap : Nat} {bs : List ByteArray} (h : ZOwn w B A cap bs) : ZIn w w.heap.size A bs := fun hp => by
  rcases h.form with ⟨_, _, rfl⟩ | ⟨g, rfl, _, hg⟩
  · simp at hp
  · refine ⟨g, 0, rfl, hg, fun i hi => ?_⟩
    have h1 := h.cellAt i (by omega)
    rw [Nat.zero_add]
    refine h1.trans ?_
    simp [hi]
theorem ZOwn.cap_le {w : World} {B : Nat} {A : Option Addr} {cap : Nat} {bs : List ByteArray} (h : ZOwn w B A cap bs) : bs.length ≤ cap := by
  rcases h.2 with ⟨e, e'⟩ | ⟨g, c, cur, e, _, _, hnc, _⟩
  · injection e with e1 e2 e3; omega
  · injection e with e1 e2 e3; omega
theorem ZOwn.below {w w' : World} {B : Nat} {A : Option Addr} {cap : Nat} {bs : List ByteArray} (h : ZOwn w B A cap bs) (hb : Below w.heap.size w w') : ZOwn w' B A cap bs := by
  refine World.ownsRow.kept h (Below.toGrown hb none) ?_
  cases hv : (Value.slice A bs.length cap).ownBlock <;> simp
theorem ZOwn.more {w : World} {B B' : Nat} {A : Option Addr} {cap : Nat} {bs : List ByteArray} (h : ZOwn w B A cap bs) (hB : B' ≤ B) : ZOwn w B' A cap bs := by
  refine ⟨h.1, ?_⟩
  rcases h.2 with e | ⟨g, c, cur, e, hb, r⟩
  · exact .inl e
  · exact .inr ⟨g, c, cur, e, Nat.le_trans hB hb, r⟩
theorem ZOwn.row {w : World} {B : Nat} {A : Option Addr} {cap : Nat} {bs : List ByteArray} (h : ZOwn w B A cap bs) : ∀ g, rowOf A = some g → B ≤ g ∧ g < w.heap.size := by
  intro g hg
  exact h.lt g (by rw [rowOf_own]; exact hg)
theorem ZOwn.grownBelow {w w' : World} {B : Nat} {A : Option Addr} {cap : Nat} {bs : List ByteArray} (h : ZOwn w B A cap bs) (hg : w.grownBy w' (rowOf A)) (hB : B ≤ w.heap.size) : Below B w w' :=
  (Below.refl B w).grown hg hB (fun k hk => (h.row k hk).1)
theorem ZIn.one {w : World} (g : ByteArray) (t : TypeId) {s : Nat} (hs : w.heap.size = s) : ZIn (w.alloc (.cells #[Value.string g] t)) (s + 1) (some ⟨s, 0, none⟩) [g] := fun _ => by
  subst hs
  refine ⟨w.heap.size, 0, rfl, by omega, fun i hi => ?_⟩
  obtain rfl : i = 0 := by simpa using hi
  exact cell_of_row _ w.heap.size 0 #[Value.string g] t (0, 0) (heap_alloc_new w (.cells #[Value.string g] t))
/-- where a slice of pointers that is cut from place k on begins -/
def cutZ (A : Option Addr) (cap k : Nat) : Option Addr := if cap = k then A else A.map (·.add k)
theorem ZIn.take {w : World} {B : Nat} {A : Option Addr} {bs : List ByteArray} (h : ZIn w B A bs) (cap k : Nat) : ZIn w B (cutZ A cap 0) (bs.take k) := fun hp => by
  have e : cutZ A cap 0 = A := by
    unfold cutZ
    split
    · rfl
    · cases A <;> simp [Addr.add]
  rw [e]
  obtain ⟨b, off, e, hb, hc⟩ := h (by rw [List.length_take] at hp; omega)
  refine ⟨b, off, e, hb, fun i hi => ?_⟩
  rw [List.getElem_take]
  exact hc i (by rw [List.length_take] at hi; omega)
theorem ZIn.drop {w : World} {B : Nat} {A : Option Addr} {bs : List ByteArray} (h : ZIn w B A bs) {cap : Nat} (hc : bs.length ≤ cap) (k : Nat) : ZIn w B (cutZ A cap k) (bs.drop k) := fun hp => by
  rw [List.length_drop] at hp
  obtain ⟨b, off, e, hb, hc⟩ := h (by omega)
  refine ⟨b, off + k, ?_, hb, fun i hi => ?_⟩
  · unfold cutZ
    rw [if_neg (by omega), e, Option.map_some, add_pl]
  · rw [List.length_drop] at hi
    rw [List.getElem_drop, Nat.add_assoc]
    exact hc (k + i) (by omega)
theorem infoZ : (Tryz.prog.info? 9).map (fun i => (i.zero, i.size, i.bytes)) = some (some (.string ByteArray.empty), 1, 16) := by kernel_rfl

section
variable (t ty : TypeId) (ht : Tryz.prog.underlying t = some (.slice 9))
include ht
set_option maxRecDepth 100000 in
theorem run_appZ {w : World} {B B' : Nat} {A A' : Option Addr} {cap c : Nat} {l l' : List ByteArray} (hown : ZOwn w B A cap l) (hin : ZIn w B' A' l') (hB : B ≤ w.heap.size) (hb : l.length + l'.length ≤ 3000000) :
    ∃ A2 cap2 w', (Builtin.append_ #[t, t] ty #[.slice A l.length cap, .slice A' l'.length c]).run Tryz.prog w = .ok (.slice A2 (l ++ l').length cap2) w' ∧ ZOwn w' B A2 cap2 (l ++ l') ∧ w.grownBy w' (rowOf A) ∧ (rowOf A2 = rowOf A ∨ rowOf A2 = some w.heap.size) := by
  obtain ⟨i, hi, hz0, hz1, hz2⟩ := info_parts infoZ
  have hlen : (l ++ l').length = l.length + l'.length := List.length_append
  cases A' with
  | none =>
    have h0 : l' = [] := by
      rcases Nat.eq_zero_or_pos l'.length with e | e
      · exact List.eq_nil_of_length_eq_zero e
      · obtain ⟨_, _, x, _⟩ := hin e
        cases x
    subst h0
    refine ⟨A, cap, w, ?_, by simpa using hown, World.grownBy.refl _ _, .inl rfl⟩
    rcases hown.2 with ⟨e, e'⟩ | ⟨g, cap', cur, e, _, _, hnc, _⟩
    · injection e with e1 e2 e3
      subst e1 e3
      simp [Builtin.append_, run_underlying ht, sizeOf, typeInfo, hi, Builtin.lenOf, Builtin.firstCells, e2]
    · injection e with e1 e2 e3
      subst e1 e3
      simp [Builtin.append_, run_underlying ht, sizeOf, typeInfo, hi, Builtin.lenOf, Builtin.firstCells, hnc, storeCells]
  | some a =>
    have hcells : ∀ j u, (l'.map Value.string)[j]? = some u → w.cell? (a.add j) = some u := by
      intro j u hu
      have hj : j < l'.length := by
        have := (List.getElem?_eq_some_iff.1 hu).1
        rw [List.length_map] at this
        exact this
      obtain ⟨b, off, e, _, hc⟩ := hin (by omega)
      injection e with e
      subst e
      rw [add_pl, hc j hj, ← hu]
      simp [hj]
    obtain ⟨v', w', hrun, h2, h3, _, h5⟩ := run_append_own_at (P := Tryz.prog) w B t ty 9 i _ 1 16 ht hi hz0 hz1 hz2 rfl (by omega) (.slice A l.length cap) l.length (l.map Value.string) hown a l'.length c (l'.map Value.string) (by simp) hcells (by
        intro u hu
        obtain ⟨g, _, rfl⟩ := List.mem_map.1 hu
        rfl)
      (by simp only [maxLen]; omega) (by omega) hB
    have hv : ∃ A2 cap2, v' = .slice A2 (l.length + l'.length) cap2 := by
      rcases h2.2 with ⟨e, e'⟩ | ⟨g, cap', cur, e, _⟩
      · exact ⟨none, 0, by rw [e, e']⟩
      · exact ⟨_, _, e⟩
    obtain ⟨A2, cap2, rfl⟩ := hv
    refine ⟨A2, cap2, w', by rw [hlen]; exact hrun, ?_, by rw [← rowOf_own A l.length cap]; exact h3, ?_⟩
    · unfold ZOwn
      rw [hlen, List.map_append]
      exact h2
    · rw [rowOf_own, rowOf_own] at h5
      exact h5

theorem wp_appZ {w : World} {o : Oper} {a : Act} {K : Act → World → Prop} {Q : Exit → Act → World → Prop} (s x : Operand)
    (ho : o.op = .call { callee := .builtin .append, args := #[s, x], argTypes := #[t, t] })
    {B B' : Nat} {A A' : Option Addr} {cap c n m : Nat} {l l' : List ByteArray} (hs : a.eval s = .slice A n cap) (hx : a.eval x = .slice A' m c) (hn : n = l.length) (hm : m = l'.length)
    (hown : ZOwn w B A cap l) (hin : ZIn w B' A' l') (hB : B ≤ w.heap.size) (hb : l.length + l'.length ≤ 3000000)
    (h : ∀ A2 cap2 w', ZOwn w' B A2 cap2 (l ++ l') → w.grownBy w' (rowOf A) → (rowOf A2 = rowOf A ∨ rowOf A2 = some w.heap.size) → K (a.put o.dst (.slice A2 (l ++ l').length cap2)) w') : o.wp Tryz.prog a w K Q := by
  subst hn hm
  obtain ⟨A2, cap2, w', hrun, h2, h3, h4⟩ := run_appZ t o.type ht (c := c) hown hin hB hb
  unfold Oper.wp execOp
  simp only [ho, resolve, invoke, builtin, Sem.run_bind, Sem.run_pure, Result.andThen_ok, List.map_toArray, List.map_cons, List.map_nil, hs, hx, hrun]
  exact h A2 cap2 w' h2 h3 h4

theorem wpList_appZ {w : World} {ops : Array Oper} {rest : List Oper} {o : Oper} {a : Act} {Q : Exit → Act → World → Prop} (hgd : o.guard = none) (s x : Operand)
    (ho : o.op = .call { callee := .builtin .append, args := #[s, x], argTypes := #[t, t] })
    {B B' : Nat} {A A' : Option Addr} {cap c n m : Nat} {l l' : List ByteArray} (hs : a.eval s = .slice A n cap) (hx : a.eval x = .slice A' m c) (hn : n = l.length) (hm : m = l'.length)
    (hown : ZOwn w B A cap l) (hin : ZIn w B' A' l') (hB : B ≤ w.heap.size) (hb : l.length + l'.length ≤ 3000000)
    (h : ∀ A2 cap2 w', ZOwn w' B A2 cap2 (l ++ l') → w.grownBy w' (rowOf A) → (rowOf A2 = rowOf A ∨ rowOf A2 = some w.heap.size) → wpList Tryz.prog ops Q rest (a.put o.dst (.slice A2 (l ++ l').length cap2)) w') : wpList Tryz.prog ops Q (o :: rest) a w :=
  wpList_plain hgd fun _ hK => wp_appZ t ht s x ho hs hx hn hm hown hin hB hb fun A2 cap2 w' h2 h3 h4 => hK _ _ (h A2 cap2 w' h2 h3 h4)

theorem run_cutZ_h (A : Option Addr) (n cap k : Nat) (hk : k ≤ cap) (w : World) : (Instr.slice t (.slice A n cap) none (some (.int .i64 (k : Int))) none).run Tryz.prog w = .ok (.slice (cutZ A cap 0) k cap) w := by
  have hs : ((sizeOf 9).run Tryz.prog w) = .ok 1 w := by kernel_rfl
  have he : Tryz.prog.elem t = 9 := by simp [Program.elem, ht]
  rw [run_slice_h (P := Tryz.prog) (t := t) (a := A) (len := n) (cap := cap) (w := w) (by rw [he]; exact ht) .i64 k (by omega) (by omega), he, hs]
  simp [Result.andThen, sliced, cutZ]
theorem run_cutZ_l (A : Option Addr) (n cap k : Nat) (hk : k ≤ n) (w : World) : (Instr.slice t (.slice A n cap) (some (.int .i64 (k : Int))) none none).run Tryz.prog w = .ok (.slice (cutZ A cap k) (n - k) (cap - k)) w := by
  have hs : ((sizeOf 9).run Tryz.prog w) = .ok 1 w := by kernel_rfl
  have he : Tryz.prog.elem t = 9 := by simp [Program.elem, ht]
  rw [run_slice_l (P := Tryz.prog) (t := t) (a := A) (len := n) (cap := cap) (w := w) (by rw [he]; exact ht) .i64 k (by omega) (by omega), he, hs]
  simp [Result.andThen, sliced, cutZ]
end

theorem ZOwn.alloc {w : World} {B : Nat} {A : Option Addr} {cap : Nat} {l : List ByteArray} (h : ZOwn w B A cap l) (o : Obj) : ZOwn (w.alloc o) B A cap l := h.below ((Below.refl _ _).alloc (Nat.le_refl _) o)
theorem ZOwn.built (w : World) (B : Nat) (hB : B ≤ w.heap.size) : ZOwn (w.alloc (.cells #[] 9)) B (some ⟨w.heap.size, 0, none⟩) 0 [] := World.ownsRow_made w #[] 0 hB (by simp [maxLen]) rfl
theorem ZOwn.kept {w w' : World} {B r : Nat} {A : Option Addr} {cap : Nat} {bs : List ByteArray} (h : ZOwn w B A cap bs) (hg : w.grownBy w' (some r)) (hne : rowOf A ≠ some r) : ZOwn w' B A cap bs := by
  refine World.ownsRow.kept h hg ?_
  rw [rowOf_own]
  cases e : rowOf A with
  | none => exact .inl rfl
  | some g => exact .inr (fun x => hne (by rw [e, x]))
end Go.Proofs.YtdahpnjamlfakaaGreatDoor
/-
  What laws.markStringS and laws.heldStringS answer over rows of texts of the call's own.
-/
namespace Go.Proofs.YtdahpnjamlfakaaGreatDoor
open Go.RowKit

/-- n marks from k on -/
def marksZ (k n : Nat) : List ByteArray := (List.range n).map fun i => markS (k + i)
theorem marksZ_len (k n : Nat) : (marksZ k n).length = n := by unfold marksZ; simp
theorem marksZ_succ (k n : Nat) : marksZ k (n + 1) = marksZ k n ++ [markS (k + n)] := by unfold marksZ; rw [List.range_succ, List.map_append]; rfl
theorem marksZ_get (k n i : Nat) (h : i < (marksZ k n).length) : (marksZ k n)[i] = markS (k + i) := by simp only [marksZ, List.getElem_map, List.getElem_range]
theorem marksZ_step (k : Nat) (l : List ByteArray) (i : Nat) (h : i < l.length) : (marksZ k i ++ l.drop i).set i (markS (k + i)) = marksZ k (i + 1) ++ l.drop (i + 1) := by
  rw [List.set_append_right _ _ (by rw [marksZ_len]; exact Nat.le_refl _), marksZ_len, Nat.sub_self, List.drop_eq_getElem_cons h, List.set_cons_zero, marksZ_succ, List.append_assoc]
  rfl
def MarkRetZ (k : Nat) (w : World) (B : Nat) (A : Option Addr) (cap n : Nat) (e : Ending) (w' : World) : Prop := e = .returned (.int .i64 (k + n : Nat)) ∧ ZOwn w' B A cap (marksZ k n) ∧ w.grownBy w' (rowOf A)

end Go.Proofs.YtdahpnjamlfakaaGreatDoor
/-
  Rising texts: two of the same members are one; one more. Plain mathematics.
-/
namespace Go.Proofs.YtdahpnjamlfakaaGreatDoor
open Go.RowKit

/-- rising texts -/
def RisK (l : List ByteArray) : Prop := l.Pairwise fun a b => ltB a b = true
theorem RisK.ext : ∀ {l l' : List ByteArray}, RisK l → RisK l' → (∀ p, p ∈ l ↔ p ∈ l') → l = l'
  | [], [], _, _, _ => rfl
  | [], b :: t, _, _, h => absurd ((h b).2 (List.mem_cons_self ..)) (by simp)
  | a :: s, [], _, _, h => absurd ((h a).1 (List.mem_cons_self ..)) (by simp)
  | a :: s, b :: t, ha, hb, h => by
    have ha' := List.pairwise_cons.1 ha
    have hb' := List.pairwise_cons.1 hb
    have e : a = b := by
      rcases List.mem_cons.1 ((h a).1 (List.mem_cons_self ..)) with e | m
      · exact e
      · rcases List.mem_cons.1 ((h b).2 (List.mem_cons_self ..)) with e | m'
        · exact e.symm
        · have h1 := hb'.1 a m
          have h2 := ha'.1 b m'
          rw [ltB_asymm h1] at h2
          cases h2
    subst e
    congr 1
    refine RisK.ext ha'.2 hb'.2 fun p => ?_
    constructor
    · intro hp
      rcases List.mem_cons.1 ((h p).1 (List.mem_cons_of_mem _ hp)) with e | m
      · have := ha'.1 p hp
        rw [e, ltB_irrefl] at this
        cases this
      · exact m
    · intro hp
      rcases List.mem_cons.1 ((h p).2 (List.mem_cons_of_mem _ hp)) with e | m
      · have := hb'.1 p hp
        rw [e, ltB_irrefl] at this
        cases this
      · exact m
/-- a rising list with one more -/
def putK : List ByteArray → ByteArray → List ByteArray
  | [], s => [s]
  | x :: r, s => if ltB x s = true then x :: putK r s else if x = s then x :: r else s :: x :: r
theorem mem_putK : ∀ (l : List ByteArray) (s t : ByteArray), t ∈ putK l s ↔ t ∈ l ∨ t = s
  | [], s, t => by simp [putK]
  | x :: r, s, t => by
    unfold putK
    split
    · rw [List.mem_cons, List.mem_cons, mem_putK r s t]
      constructor
      · rintro (h | h | h)
        · exact .inl (.inl h)
        · exact .inl (.inr h)
        · exact .inr h
      · rintro ((h | h) | h)
        · exact .inl h
        · exact .inr (.inl h)
        · exact .inr (.inr h)
    · split
      next e => subst e; simp; intro h; exact .inl h
      next => simp [or_comm, or_left_comm]
theorem risK_put : ∀ {l : List ByteArray}, RisK l → ∀ s, RisK (putK l s)
  | [], _, s => List.pairwise_cons.2 ⟨fun _ h => absurd h (by simp), List.Pairwise.nil⟩
  | x :: r, h, s => by
    have h' := List.pairwise_cons.1 h
    unfold putK
    split
    next e =>
      refine List.pairwise_cons.2 ⟨fun t ht => ?_, risK_put h'.2 s⟩
      rcases (mem_putK r s t).1 ht with m | rfl
      · exact h'.1 t m
      · exact e
    next e =>
      split
      · exact h
      next ne =>
        have hlt : ltB s x = true := by
          rcases ltB_tri x s with g | g | g
          · exact absurd g e
          · exact absurd g ne
          · exact g
        refine List.pairwise_cons.2 ⟨fun t ht => ?_, h⟩
        rcases List.mem_cons.1 ht with rfl | m
        · exact hlt
        · exact ltB_trans hlt (h'.1 t m)
/-- found by what stands ahead of the place -/
theorem putK_there : ∀ (l : List ByteArray) (s : ByteArray) (k : Nat) (h : k < l.length), (∀ i (hi : i < l.length), i < k → ltB l[i] s = true) → l[k] = s → putK l s = l
  | x :: r, s, 0, _, _, he => by
    have he : x = s := he
    subst he
    unfold putK
    rw [ltB_irrefl]
    simp
  | x :: r, s, k + 1, h, hl, he => by
    have h0 : ltB x s = true := hl 0 (by simp) (by omega)
    unfold putK
    rw [if_pos h0, putK_there r s k (by simpa using h) (fun i hi hik => hl (i + 1) (by simpa using hi) (by omega)) (by simpa using he)]
theorem putK_new : ∀ (l : List ByteArray) (s : ByteArray) (k : Nat), k ≤ l.length → (∀ i (hi : i < l.length), i < k → ltB l[i] s = true) → (∀ (h : k < l.length), ltB l[k] s = false ∧ ¬ l[k] = s) → putK l s = l.take k ++ s :: l.drop k
  | [], s, k, hk, _, _ => by
    have : k = 0 := by simpa using hk
    subst this
    rfl
  | x :: r, s, 0, _, _, hn => by
    obtain ⟨h1, h2⟩ := hn (by simp)
    have h1 : ltB x s = false := h1
    have h2 : ¬ x = s := h2
    unfold putK
    rw [h1, if_neg (by simp), if_neg h2]
    rfl
  | x :: r, s, k + 1, hk, hl, hn => by
    have h0 : ltB x s = true := hl 0 (by simp) (by omega)
    unfold putK
    rw [if_pos h0, putK_new r s k (by simpa using hk) (fun i hi hik => hl (i + 1) (by simpa using hi) (by omega)) (fun h => hn (by simpa using h))]
    rfl
end Go.Proofs.YtdahpnjamlfakaaGreatDoor
/-
  What laws.sameTexts, laws.eqStringS, laws.has and laws.rises answer.
-/
namespace Go.Proofs.YtdahpnjamlfakaaGreatDoor
open Go.RowKit

theorem ZIn.quiet {w w' : World} {B : Nat} {A : Option Addr} {bs : List ByteArray} (h : ZIn w B A bs) (q : Quiet w w') : ZIn w' B A bs := h.below (q.below B)
set_option maxRecDepth 100000 in
set_option maxHeartbeats 1000000 in
theorem sameTexts_same (A A' : Option Addr) (l : List ByteArray) (cap cap' : Nat) (w : World) (B B' : Nat) (hl : l.length ≤ maxLen) (hin : ZIn w B A l) (hin' : ZIn w B' A' l) :
    Calls Tryz.prog 16 #[.slice A l.length cap, .slice A' l.length cap'] w fun e w' => e = .returned (.bool true) ∧ Quiet w w' := by
  unfold maxLen at hl
  have IN := hide hin
  have IN' := hide hin'
  clear hin hin'
  generalize hn : l.length = n at *
  have HN := hide hn
  clear hn
  have e0 : ((n : Int) != (n : Int)) = false := by simp
  go_enter Tryz.func16, Tryz.ntmps16
  go_wp2
  go_loopw [5] (fun iv wr => ∃ k : Nat, k ≤ n ∧ iv = .int .i64 k ∧ Hid (Quiet w wr)) (fun i _ => n - (intOf i).toNat)
  case atStart => exact ⟨0, Nat.zero_le _, rfl, Quiet.refl w⟩
  case round =>
    obtain ⟨k, hk, rfl, Q⟩ := hrel
    by_cases hlt : k < n
    · have hkl : k < l.length := by rw [HN.out]; omega
      obtain ⟨b, off, rfl, _, hc⟩ := IN.out (by omega)
      obtain ⟨b', off', rfl, _, hc'⟩ := IN'.out (by omega)
      have c1 := (Q.out.cell _).trans (hc k hkl)
      have c2 := (Q.out.cell _).trans (hc' k hkl)
      have e1 : (l[k].toList == l[k].toList) = true := by simp
      generalize l[k] = s at *
      clear hc hc'
      go_wp2
      go_quiet (fail)
      go_wp2
      exact ⟨⟨k + 1, by omega, by go_num, Q.out.drewN _⟩, by simp [intOf]; omega⟩
    · have hgt : ¬ ((k : Int) < (n : Int)) := by omega
      clear hlt
      go_wp2
      go_ret
      exact ⟨rfl, Q.out⟩
open Classical in
/-- is the text one of these? -/
noncomputable def hasK (l : List ByteArray) (s : ByteArray) : Bool := decide (s ∈ l)
open Classical in
theorem hasK_yes {l : List ByteArray} {s : ByteArray} (h : s ∈ l) : hasK l s = true := by unfold hasK; exact decide_eq_true h
open Classical in
theorem hasK_no {l : List ByteArray} {s : ByteArray} (h : ¬ s ∈ l) : hasK l s = false := by unfold hasK; exact decide_eq_false h
set_option maxRecDepth 100000 in
set_option maxHeartbeats 1000000 in
theorem lawsHas_any (A : Option Addr) (l : List ByteArray) (cap : Nat) (s : ByteArray) (w : World) (B : Nat) (hl : l.length ≤ maxLen) (hin : ZIn w B A l) :
    Calls Tryz.prog 35 #[.slice A l.length cap, .string s] w fun e w' => e = .returned (.bool (hasK l s)) ∧ w = w' := by
  unfold maxLen at hl
  have IN := hide hin
  clear hin
  generalize hn : l.length = n at *
  have HN := hide hn
  clear hn
  go_enter Tryz.func35, Tryz.ntmps35
  go_wp2
  go_loop [5] (fun iv => ∃ k : Nat, k ≤ n ∧ iv = .int .i64 k ∧ Hid (∀ i (h : i < l.length), i < k → ¬ l[i] = s)) (fun i => n - (intOf i).toNat)
  case atStart => exact ⟨0, Nat.zero_le _, rfl, hide (fun _ _ h => absurd h (by omega))⟩
  case round =>
    obtain ⟨k, hk, rfl, H⟩ := hrel
    by_cases hlt : k < n
    · have hkl : k < l.length := by rw [HN.out]; omega
      obtain ⟨b, off, rfl, _, hc⟩ := IN.out (by omega)
      have c1 := hc k hkl
      by_cases he : l[k]'hkl = s
      · have Z : Hid (hasK l s = true) := hide (hasK_yes (he ▸ List.getElem_mem hkl))
        have d1 := eqS_yes he
        generalize l[k]'hkl = x at *
        clear hc he H
        go_wp2
        go_ret
        exact ⟨ret_bool Z.out.symm, rfl⟩
      · have d1 := eqS_no he
        have H2 : Hid (∀ i (h : i < l.length), i < k + 1 → ¬ l[i] = s) := hide (fun i hi hik => by
          rcases Nat.lt_or_ge i k with g | g
          · exact H.out i hi g
          · obtain rfl : i = k := by omega
            exact he)
        generalize l[k]'hkl = x at *
        clear hc he H
        go_wp2
        go_round
        case rel => exact ⟨k + 1, by omega, by go_num, H2⟩
        case measure => simp [intOf]; omega
    · have Z : Hid (hasK l s = false) := hide (hasK_no (fun hm => by
        obtain ⟨i, hi, hx⟩ := List.mem_iff_getElem.1 hm
        exact absurd hx (H.out i hi (by rw [HN.out] at hi; omega))))
      go_wp2
      go_ret
      exact ⟨ret_bool Z.out.symm, rfl⟩
end Go.Proofs.YtdahpnjamlfakaaGreatDoor
/-
  Which texts are those of right commits, and of which. Plain mathematics.
-/
namespace Go.Proofs.YtdahpnjamlfakaaGreatDoor
open Go.RowKit

/-- a commit: its tree, its parents, its note -/
abbrev Com := ByteArray × List ByteArray × ByteArray
/-- what stands behind a tree's id: each parent with a blank ahead, a byte 10, the note -/
def tailL : List ByteArray → ByteArray → List UInt8
  | [], m => 10 :: m.data.toList
  | p :: r, m => 32 :: (p.data.toList ++ tailL r m)
def comW : List UInt8 := [99, 111, 109, 109, 105, 116, 32]
theorem headTo_list (t : ByteArray) (l : List ByteArray) : ∀ k, k ≤ l.length → (headTo t l k).data.toList = comW ++ t.data.toList ++ (l.take k).flatMap fun p => 32 :: p.data.toList
  | 0, _ => by simp [headTo, comW]
  | k + 1, h => by
    rw [headTo_next (by omega), List.take_succ_eq_append_getElem (by omega), List.flatMap_append]
    simp [headTo_list t l k (by omega)]
theorem tail_flat : ∀ (l : List ByteArray) (m : ByteArray), tailL l m = (l.flatMap fun p => 32 :: p.data.toList) ++ 10 :: m.data.toList
  | [], m => rfl
  | p :: r, m => by rw [tailL, tail_flat r m]; simp
theorem textC_list (t : ByteArray) (l : List ByteArray) (m : ByteArray) : (textC t l m).data.toList = comW ++ (t.data.toList ++ tailL l m) := by
  unfold textC
  rw [tail_flat]
  simp [headTo_list t l l.length (Nat.le_refl _)]
/-- the text is that of this right commit -/
def isCom (s : ByteArray) (c : Com) : Prop := comB c.1 c.2.1 c.2.2 = true ∧ textC c.1 c.2.1 c.2.2 = s
theorem ba_ext {a b : ByteArray} (h : a.data.toList = b.data.toList) : a = b := Go.WideShapes.bytes_inj h
theorem isCom_list {s : ByteArray} {c : Com} (h : isCom s c) : s.data.toList = comW ++ (c.1.data.toList ++ tailL c.2.1 c.2.2) := by rw [← h.2, textC_list]
theorem com_parts {c : Com} (h : comB c.1 c.2.1 c.2.2 = true) : c.1.size = 16 ∧ c.2.1.length ≤ 2 ∧ (∀ p ∈ c.2.1, p.size = 16) := by
  unfold comB at h
  rw [Bool.and_eq_true, Bool.and_eq_true] at h
  obtain ⟨⟨h1, h2⟩, _⟩ := h
  obtain ⟨h3, h4⟩ := parB_iff.1 h2
  refine ⟨idB_sz h1, h3, fun p hp => ?_⟩
  obtain ⟨i, hi, rfl⟩ := List.mem_iff_getElem.1 hp
  exact idB_sz (h4.1 i hi hi)
theorem tail_inj : ∀ (l l' : List ByteArray) (m m' : ByteArray), (∀ p ∈ l, p.size = 16) → (∀ p ∈ l', p.size = 16) → tailL l m = tailL l' m' → l = l' ∧ m = m'
  | [], [], m, m', _, _, h => ⟨rfl, ba_ext (by simpa [tailL] using h)⟩
  | [], p :: r, m, m', _, _, h => by simp [tailL] at h
  | p :: r, [], m, m', _, _, h => by simp [tailL] at h
  | p :: r, p' :: r', m, m', h1, h2, h => by
    simp only [tailL, List.cons.injEq, true_and] at h
    have e1 : p.data.toList.length = p'.data.toList.length := by
      have a := h1 p (List.mem_cons_self ..)
      have b := h2 p' (List.mem_cons_self ..)
      simpa using a.trans b.symm
    obtain ⟨ha, hb⟩ := List.append_inj h e1
    obtain ⟨hc, hd⟩ := tail_inj r r' m m' (fun q hq => h1 q (List.mem_cons_of_mem _ hq)) (fun q hq => h2 q (List.mem_cons_of_mem _ hq)) hb
    exact ⟨by rw [ba_ext ha, hc], hd⟩
theorem isCom_one {s : ByteArray} {c c' : Com} (h : isCom s c) (h' : isCom s c') : c = c' := by
  have e := (isCom_list h).symm.trans (isCom_list h')
  have e2 := List.append_cancel_left e
  obtain ⟨s1, _, p1⟩ := com_parts h.1
  obtain ⟨s2, _, p2⟩ := com_parts h'.1
  obtain ⟨ha, hb⟩ := List.append_inj e2 (by simpa using s1.trans s2.symm)
  obtain ⟨hc, hd⟩ := tail_inj _ _ _ _ p1 p2 hb
  exact Prod.ext (ba_ext ha) (Prod.ext hc hd)
open Classical in
/-- what a text reads as -/
noncomputable def rdOk (s : ByteArray) : Bool := decide (∃ c, isCom s c)
open Classical in
noncomputable def rdC (s : ByteArray) : Com := if h : ∃ c, isCom s c then h.choose else (ByteArray.empty, [], ByteArray.empty)
open Classical in
theorem rd_yes {s : ByteArray} {c : Com} (h : isCom s c) : rdOk s = true ∧ rdC s = c := by
  have hx : ∃ c, isCom s c := ⟨c, h⟩
  refine ⟨decide_eq_true hx, ?_⟩
  unfold rdC
  rw [dif_pos hx]
  exact isCom_one hx.choose_spec h
open Classical in
theorem rd_no {s : ByteArray} (h : ¬ ∃ c, isCom s c) : rdOk s = false ∧ rdC s = (ByteArray.empty, [], ByteArray.empty) := by
  refine ⟨decide_eq_false h, ?_⟩
  unfold rdC
  rw [dif_neg h]
/-! ### as the program reads: what is left, and what all right commits of the text have in common so far -/
/-- behind the tree and these parents the rest is left -/
def Left (s t : ByteArray) (ps : List ByteArray) (r : List UInt8) : Prop :=
  s.data.toList = comW ++ (t.data.toList ++ ((ps.flatMap fun p => 32 :: p.data.toList) ++ r)) ∧ t.size = 16 ∧ (∀ p ∈ ps, p.size = 16) ∧ ∀ c, isCom s c → c.1 = t ∧ ∃ l2, c.2.1 = ps ++ l2 ∧ r = tailL l2 c.2.2
theorem left_tree {s t : ByteArray} {r : List UInt8} (h : s.data.toList = comW ++ (t.data.toList ++ r)) (ht : t.size = 16) : Left s t [] r := by
  refine ⟨by simpa using h, ht, fun p hp => by simp at hp, fun c hc => ?_⟩
  have e := (isCom_list hc).symm.trans h
  obtain ⟨s1, _, p1⟩ := com_parts hc.1
  obtain ⟨ha, hb⟩ := List.append_inj (List.append_cancel_left e) (by simpa using s1.trans ht.symm)
  exact ⟨ba_ext ha, c.2.1, rfl, hb.symm⟩
theorem left_parent {s t p : ByteArray} {ps : List ByteArray} {r : List UInt8} (h : Left s t ps (32 :: (p.data.toList ++ r))) (hp : p.size = 16) : Left s t (ps ++ [p]) r := by
  obtain ⟨h1, h2, h3, h4⟩ := h
  refine ⟨by rw [h1]; simp, h2, fun q hq => ?_, fun c hc => ?_⟩
  · rcases List.mem_append.1 hq with x | x
    · exact h3 q x
    · rw [List.mem_singleton.1 x]; exact hp
  · obtain ⟨e1, l2, e2, e3⟩ := h4 c hc
    refine ⟨e1, ?_⟩
    obtain ⟨_, _, p1⟩ := com_parts hc.1
    cases l2 with
    | nil => simp [tailL] at e3
    | cons q l3 =>
      simp only [tailL, List.cons.injEq, true_and] at e3
      have hq : q.size = 16 := p1 q (by rw [e2]; simp)
      obtain ⟨ha, hb⟩ := List.append_inj e3 (by simpa using hp.trans hq.symm)
      refine ⟨l3, ?_, hb⟩
      rw [e2, ba_ext ha]
      simp
theorem left_short {s t : ByteArray} {ps : List ByteArray} {r : List UInt8} (h : Left s t ps (32 :: r)) (hr : r.length < 16) : ¬ ∃ c, isCom s c := by
  rintro ⟨c, hc⟩
  obtain ⟨_, l2, e2, e3⟩ := h.2.2.2 c hc
  obtain ⟨_, _, p1⟩ := com_parts hc.1
  cases l2 with
  | nil => simp [tailL] at e3
  | cons q l3 =>
    simp only [tailL, List.cons.injEq, true_and] at e3
    have hq : q.size = 16 := p1 q (by rw [e2]; simp)
    have hl := congrArg List.length e3
    have : q.data.toList.length = 16 := by simpa using hq
    rw [List.length_append] at hl
    omega
theorem left_end {s t : ByteArray} {ps : List ByteArray} {r : List UInt8} (h : Left s t ps r) (hr : ps.length = 2 ∨ r.head? ≠ some 32) (hn : r.head? ≠ some 10) : ¬ ∃ c, isCom s c := by
  rintro ⟨c, hc⟩
  obtain ⟨_, l2, e2, e3⟩ := h.2.2.2 c hc
  obtain ⟨_, hl, _⟩ := com_parts hc.1
  cases l2 with
  | nil => rw [e3] at hn; simp [tailL] at hn
  | cons q l3 =>
    rcases hr with hr | hr
    · rw [e2] at hl; simp at hl; omega
    · rw [e3] at hr; simp [tailL] at hr
theorem left_note {s t m : ByteArray} {ps : List ByteArray} (h : Left s t ps (10 :: m.data.toList)) : (comB t ps m = true → isCom s (t, ps, m)) ∧ (comB t ps m = false → ¬ ∃ c, isCom s c) := by
  refine ⟨fun hb => ⟨hb, ba_ext ?_⟩, fun hb => ?_⟩
  · rw [textC_list, h.1, tail_flat]
  · rintro ⟨c, hc⟩
    obtain ⟨e1, l2, e2, e3⟩ := h.2.2.2 c hc
    cases l2 with
    | cons q l3 => simp [tailL] at e3
    | nil =>
      have em : m = c.2.2 := ba_ext (by simpa [tailL] using e3)
      have := hc.1
      rw [e1, e2, List.append_nil, ← em, hb] at this
      cases this
theorem no_start {s : ByteArray} (h : ¬ comW <+: s.data.toList) : ¬ ∃ c, isCom s c := by
  rintro ⟨c, hc⟩
  exact h ⟨_, (isCom_list hc).symm⟩
theorem no_tree {s : ByteArray} {r : List UInt8} (h : s.data.toList = comW ++ r) (hr : r.length < 16) : ¬ ∃ c, isCom s c := by
  rintro ⟨c, hc⟩
  have e := List.append_cancel_left ((isCom_list hc).symm.trans h)
  obtain ⟨s1, _, _⟩ := com_parts hc.1
  have hl := congrArg List.length e
  have : c.1.data.toList.length = 16 := by simpa using s1
  rw [List.length_append] at hl
  omega
end Go.Proofs.YtdahpnjamlfakaaGreatDoor
/-
  What stands between blanks: as a list, and of a right commit's first line. Plain mathematics.
-/
namespace Go.Proofs.YtdahpnjamlfakaaGreatDoor
open Go.RowKit

theorem cutA_rest {s : ByteArray} {c : UInt8} (h : (cutS s c).2.2 = true) : (cutS s c).1.size + 1 + (cutS s c).2.1.size = s.size := by
  unfold cutS at h ⊢
  have := posB_le s c
  split at h
  · rename_i hp
    simp only [if_pos hp, ByteArray.size_extract]
    omega
  · simp at h
theorem cutA_one {s : ByteArray} {c : UInt8} : (cutS s c).1.size ≤ s.size ∧ (cutS s c).2.1.size ≤ s.size := by
  unfold cutS
  split
  · simp only [ByteArray.size_extract]; omega
  · simp
theorem cutA_app {a b : ByteArray} {c : UInt8} (h : ∀ x ∈ a.data.toList, x ≠ c) : cutS (a ++ ⟨#[c]⟩ ++ b) c = (a, b, true) := by
  have hl : (a ++ ⟨#[c]⟩ ++ b).data.toList = a.data.toList ++ (c :: b.data.toList) := by simp [ByteArray.data_append]
  have hp : posB (a ++ ⟨#[c]⟩ ++ b) c = a.size := by
    unfold posB
    rw [hl, List.findIdx_append]
    have : List.findIdx (fun x => x == c) a.data.toList = a.data.toList.length := by
      rw [List.findIdx_eq_length]
      intro x hx
      exact beq_eq_false_iff_ne.2 (h x hx)
    have hc0 : List.findIdx (fun x => x == c) (c :: b.data.toList) = 0 := by rw [List.findIdx_cons]; simp
    rw [this, if_neg (Nat.lt_irrefl _), hc0, Nat.zero_add]
    rfl
  have hz : (a ++ ⟨#[c]⟩ ++ b).size = a.size + 1 + b.size := by
    simp only [ByteArray.size_append]; rfl
  rw [cutS_yes (by rw [hp, hz]; omega), hp, hz]
  have e1 : (a ++ ⟨#[c]⟩ ++ b).extract 0 a.size = a := by
    apply Go.WideShapes.bytes_inj
    rw [ByteArray.data_extract, Array.toList_extract, hl]
    show List.take (a.size - 0) (List.drop 0 (a.data.toList ++ c :: b.data.toList)) = a.data.toList
    rw [List.drop_zero, Nat.sub_zero]
    exact List.take_left' rfl
  have e2 : (a ++ ⟨#[c]⟩ ++ b).extract (a.size + 1) (a.size + 1 + b.size) = b := by
    apply Go.WideShapes.bytes_inj
    rw [ByteArray.data_extract, Array.toList_extract, hl]
    show List.take (a.size + 1 + b.size - (a.size + 1)) (List.drop (a.size + 1) (a.data.toList ++ c :: b.data.toList)) = b.data.toList
    rw [show a.data.toList ++ c :: b.data.toList = (a.data.toList ++ [c]) ++ b.data.toList by simp, List.drop_left' (by rw [List.length_append]; rfl), Nat.add_sub_cancel_left]
    exact List.take_of_length_le (Nat.le_refl _)
  rw [e1, e2]
/-- what stands between blanks -/
def splitF : Nat → ByteArray → List ByteArray
  | 0, s => [s]
  | n + 1, s => if (cutS s 32).2.2 = true then (cutS s 32).1 :: splitF n (cutS s 32).2.1 else [(cutS s 32).1]
theorem splitF_more {n : Nat} {s : ByteArray} (h : (cutS s 32).2.2 = true) : splitF (n + 1) s = (cutS s 32).1 :: splitF n (cutS s 32).2.1 := by rw [splitF, if_pos h]
theorem splitF_last {n : Nat} {s : ByteArray} (h : (cutS s 32).2.2 = false) : splitF (n + 1) s = [(cutS s 32).1] := by rw [splitF, h]; rfl
theorem cut_none {s : ByteArray} {c : UInt8} (h : ∀ x ∈ s.data.toList, x ≠ c) : cutS s c = (s, ByteArray.empty, false) := by
  refine cutS_no fun hp => ?_
  have hp' : List.findIdx (fun x => x == c) s.data.toList < s.data.toList.length := hp
  have hc : s.data.toList[List.findIdx (fun x => x == c) s.data.toList] = c := by
    have := List.findIdx_getElem (w := hp')
    simpa using this
  exact h _ (List.getElem_mem hp') hc
theorem split_one {n : Nat} {s : ByteArray} (h : ∀ x ∈ s.data.toList, x ≠ 32) : splitF n s = [s] := by
  cases n with
  | zero => rfl
  | succ n => rw [splitF_last (by rw [cut_none h]), cut_none h]
theorem split_step {n : Nat} {a b : ByteArray} (h : ∀ x ∈ a.data.toList, x ≠ 32) : splitF (n + 1) (a ++ ⟨#[32]⟩ ++ b) = a :: splitF n b := by
  rw [splitF_more (by rw [cutA_app h]), cutA_app h]
/-- the parents, each with a blank ahead -/
def blanks : List ByteArray → ByteArray
  | [] => ByteArray.empty
  | p :: r => ⟨#[32]⟩ ++ p ++ blanks r
theorem split_all : ∀ (l : List ByteArray) (n : Nat) (t : ByteArray), l.length ≤ n → (∀ x ∈ t.data.toList, x ≠ 32) → (∀ p ∈ l, ∀ x ∈ p.data.toList, x ≠ 32) → splitF n (t ++ blanks l) = t :: l
  | [], n, t, _, ht, _ => by
    have : t ++ blanks [] = t := ba_ext (by simp [blanks])
    rw [this]
    exact split_one ht
  | p :: r, 0, t, hn, _, _ => by simp at hn
  | p :: r, n + 1, t, hn, ht, hp => by
    have e : t ++ blanks (p :: r) = t ++ ⟨#[32]⟩ ++ (p ++ blanks r) := ba_ext (by simp [blanks])
    rw [e, split_step ht, split_all r n p (by simpa using hn) (hp p (List.mem_cons_self ..)) (fun q hq => hp q (List.mem_cons_of_mem _ hq))]
theorem blanks_list : ∀ (l : List ByteArray), (blanks l).data.toList = l.flatMap fun p => 32 :: p.data.toList
  | [] => by simp [blanks]
  | p :: r => by simp [blanks, blanks_list r]
open Classical in
theorem hex_bytes {s : ByteArray} (h : QI.idB s = true) : ∀ x ∈ s.data.toList, x ≠ 32 ∧ x ≠ 10 := by
  intro x hx
  obtain ⟨i, hi, e⟩ := List.getElem_of_mem hx
  unfold QI.idB at h
  have h1 := (of_decide_eq_true h).2 i hi hi
  rw [show s[i] = x from e] at h1
  constructor <;> (rintro rfl; exact absurd h1 (by decide))
/-- the first line of a right commit's text, parted -/
theorem com_head {c : Com} (h : comB c.1 c.2.1 c.2.2 = true) : cutS (textC c.1 c.2.1 c.2.2) 10 = (⟨#[99, 111, 109, 109, 105, 116]⟩ ++ blanks (c.1 :: c.2.1), c.2.2, true) ∧ ∀ n, 3 ≤ n → splitF n (⟨#[99, 111, 109, 109, 105, 116]⟩ ++ blanks (c.1 :: c.2.1)) = ⟨#[99, 111, 109, 109, 105, 116]⟩ :: c.1 :: c.2.1 := by
  have h0 := h
  unfold comB at h
  rw [Bool.and_eq_true, Bool.and_eq_true] at h
  obtain ⟨⟨h1, h2⟩, _⟩ := h
  obtain ⟨h3, h4⟩ := parB_iff.1 h2
  have hall : ∀ p ∈ c.1 :: c.2.1, ∀ x ∈ p.data.toList, x ≠ 32 ∧ x ≠ 10 := by
    intro p hp
    rcases List.mem_cons.1 hp with rfl | hp
    · exact hex_bytes h1
    · obtain ⟨i, hi, rfl⟩ := List.mem_iff_getElem.1 hp
      exact hex_bytes (h4.1 i hi hi)
  constructor
  · have e : textC c.1 c.2.1 c.2.2 = (⟨#[99, 111, 109, 109, 105, 116]⟩ ++ blanks (c.1 :: c.2.1)) ++ ⟨#[10]⟩ ++ c.2.2 := ba_ext (by
      rw [textC_list, tail_flat]
      simp [blanks_list, comW])
    rw [e]
    refine cutA_app fun x hx => ?_
    simp only [ByteArray.data_append, Array.toList_append, List.mem_append, blanks_list, List.mem_flatMap, List.mem_cons] at hx
    rcases hx with hx | ⟨p, hp, hx | hx⟩
    · simp at hx; rcases hx with rfl | rfl | rfl | rfl | rfl | rfl <;> decide
    · subst hx; decide
    · exact (hall p (List.mem_cons.2 hp) x hx).2
  · intro n hn
    refine split_all (c.1 :: c.2.1) n _ (by simp; omega) ?_ (fun p hp x hx => (hall p hp x hx).1)
    intro x hx
    simp at hx
    rcases hx with rfl | rfl | rfl | rfl | rfl | rfl <;> decide
end Go.Proofs.YtdahpnjamlfakaaGreatDoor
/-
  What impl's commitReader does: skip, id; each goes on, or panics with the sentinel.
-/
namespace Go.Proofs.YtdahpnjamlfakaaGreatDoor
open Go.RowKit

/-- the sentinel that the reader panics with -/
def ErrC (w : World) (a : Addr) : Prop := w.cell? ⟨0, 0, none⟩ = some (.iface 205 (.pointer (some a))) ∧ 0 < w.heap.size
theorem ErrC.below {w w' : World} {a : Addr} (h : ErrC w a) (q : Below w.heap.size w w') : ErrC w' a := ⟨cellB q h.2 h.1, Nat.lt_of_lt_of_le h.2 q.size⟩
theorem ErrC.belowB {w w' : World} {a : Addr} {B : Nat} (h : ErrC w a) (q : Below B w w') (h1 : 0 < B) : ErrC w' a := ⟨cellB q h1 h.1, Nat.lt_of_lt_of_le h.2 q.size⟩
def pan (a : Addr) : Ending := .panicked [{ v := .iface 205 (.pointer (some a)), recovered := false }]
/-- what the reader has left -/
def RdR (w : World) (rb : Nat) (r : ByteArray) : Prop := w.heap[rb]? = some (.cells #[.string r] 93 (0, 0))
theorem ext_front {r want r' : ByteArray} (h : r.data.toList = want.data.toList ++ r'.data.toList) : want.size ≤ r.size ∧ r.extract 0 want.size = want ∧ r.extract want.size r.size = r' := by
  have hl : r.size = want.size + r'.size := by
    have := congrArg List.length h
    simpa using this
  refine ⟨by omega, ba_ext ?_, ba_ext ?_⟩
  · rw [ByteArray.data_extract, Array.toList_extract, h]
    show List.take (want.size - 0) (List.drop 0 (want.data.toList ++ r'.data.toList)) = want.data.toList
    rw [List.drop_zero, Nat.sub_zero]
    exact List.take_left' rfl
  · rw [ByteArray.data_extract, Array.toList_extract, h]
    show List.take (r.size - want.size) (List.drop want.size (want.data.toList ++ r'.data.toList)) = r'.data.toList
    rw [List.drop_left' (show want.data.toList.length = want.size from rfl)]
    exact List.take_of_length_le (by show r'.size ≤ _; omega)
theorem rd_cell {w : World} {rb : Nat} {r : ByteArray} (h : RdR w rb r) : w.cell? ⟨rb, 0, none⟩ = some (.string r) ∧ w.frozen? ⟨rb, 0, none⟩ = false := ⟨cell_of_row w rb 0 _ _ _ h, frozen_of_row w rb 0 _ _ h⟩
theorem rd_set {w : World} {rb : Nat} {r : ByteArray} (h : RdR w rb r) (r' : ByteArray) : RdR (w.setCell ⟨rb, 0, none⟩ (.string r')) rb r' := heap_setCell_same w rb 0 _ _ _ h

set_option maxRecDepth 100000 in
set_option maxHeartbeats 1000000 in
theorem skip_yes (rb : Nat) (r want r' : ByteArray) (w : World) (hw : RdR w rb r) (h : r.data.toList = want.data.toList ++ r'.data.toList) :
    Calls Tryz.prog 112 #[.pointer (some ⟨rb, 0, none⟩), .string want] w fun e w' => e = .returned (.tuple #[]) ∧ w' = w.setCell ⟨rb, 0, none⟩ (.string r') := by
  obtain ⟨h1, h2, h3⟩ := ext_front h
  obtain ⟨c0, f0⟩ := rd_cell hw
  have d1 : decide ((want.size : Int) ≤ (r.size : Int)) = true := decide_eq_true (by omega)
  have d2 : (want.toList == want.toList) = true := by simp
  have hle : (want.size : Int) ≤ (r.size : Int) := by omega
  clear hw h
  go_enter Tryz.func112, Tryz.ntmps112
  go_wp2
  go_end0
  exact ⟨rfl, rfl⟩

set_option maxRecDepth 100000 in
set_option maxHeartbeats 1000000 in
theorem skip_no (rb : Nat) (r want : ByteArray) (a : Addr) (w : World) (hw : RdR w rb r) (hE : ErrC w a) (h : ¬ want.data.toList <+: r.data.toList) :
    Calls Tryz.prog 112 #[.pointer (some ⟨rb, 0, none⟩), .string want] w fun e w' => e = pan a ∧ w = w' := by
  obtain ⟨c0, f0⟩ := rd_cell hw
  have x0 := hE.1
  by_cases hs : want.size ≤ r.size
  · have d1 : decide ((want.size : Int) ≤ (r.size : Int)) = true := decide_eq_true (by omega)
    have hle : (want.size : Int) ≤ (r.size : Int) := by omega
    have d2 : ((r.extract 0 want.size).toList == want.toList) = false := eqS_no (fun e => h (by
      have e1 : want.data.toList = r.data.toList.take want.size := by
        conv => lhs; rw [← e]
        rw [ByteArray.data_extract, Array.toList_extract]
        simp
      rw [e1]
      exact List.take_prefix _ _))
    clear hw h hE
    go_enter Tryz.func112, Tryz.ntmps112
    go_wp2
    exact ⟨rfl, rfl, rfl⟩
  · have d1 : decide ((want.size : Int) ≤ (r.size : Int)) = false := decide_eq_false (by omega)
    have hle : ¬ (want.size : Int) ≤ (r.size : Int) := by omega
    clear hw h hE
    go_enter Tryz.func112, Tryz.ntmps112
    go_wp2
    exact ⟨rfl, rfl, rfl⟩

set_option maxRecDepth 100000 in
set_option maxHeartbeats 1000000 in
theorem id_yes (rb : Nat) (r x r' : ByteArray) (w : World) (hw : RdR w rb r) (hx : x.size = 16) (h : r.data.toList = x.data.toList ++ r'.data.toList) :
    Calls Tryz.prog 113 #[.pointer (some ⟨rb, 0, none⟩)] w fun e w' => e = .returned (.string x) ∧ w' = w.setCell ⟨rb, 0, none⟩ (.string r') := by
  obtain ⟨h1, h2, h3⟩ := ext_front h
  rw [hx] at h1 h2 h3
  obtain ⟨c0, f0⟩ := rd_cell hw
  have d1 : ¬ (r.size : Int) < 16 := by omega
  clear hw h hx
  go_enter Tryz.func113, Tryz.ntmps113
  go_wp2
  go_ret
  exact ⟨rfl, rfl⟩

set_option maxRecDepth 100000 in
set_option maxHeartbeats 1000000 in
theorem id_no (rb : Nat) (r : ByteArray) (a : Addr) (w : World) (hw : RdR w rb r) (hE : ErrC w a) (h : r.data.toList.length < 16) :
    Calls Tryz.prog 113 #[.pointer (some ⟨rb, 0, none⟩)] w fun e w' => e = pan a ∧ w = w' := by
  obtain ⟨c0, f0⟩ := rd_cell hw
  have x0 := hE.1
  have hz : r.size < 16 := h
  have d1 : (r.size : Int) < 16 := by omega
  clear hw h hE
  go_enter Tryz.func113, Tryz.ntmps113
  go_wp2
  exact ⟨rfl, rfl, rfl⟩

theorem hasPrefix_any (r : ByteArray) (c : UInt8) (w : World) :
    Calls Tryz.prog 114 #[.string r, .string ⟨#[c]⟩] w fun e w' => e = .returned (.bool (decide (r.data.toList.head? = some c))) ∧ w = w' := by
  have hz : (ByteArray.mk #[c]).size = 1 := rfl
  by_cases hs : 1 ≤ r.size
  · have d1 : decide ((1 : Int) ≤ (r.size : Int)) = true := decide_eq_true (by omega)
    have hle : (1 : Int) ≤ (r.size : Int) := by omega
    by_cases he : r.data.toList.head? = some c
    · have D3 : Hid (decide (r.data.toList.head? = some c) = true) := hide (decide_eq_true he)
      have e1 : r.extract 0 1 = ⟨#[c]⟩ := ba_ext (by
        rw [ByteArray.data_extract, Array.toList_extract]
        cases hl : r.data.toList with
        | nil => rw [hl] at he; simp at he
        | cons x y => rw [hl] at he; simp at he; subst he; simp)
      clear he
      go_enter Tryz.func114, Tryz.ntmps114
      go_wp2
      go_ret
      exact ⟨ret_bool D3.out.symm, rfl⟩
    · have D3 : Hid (decide (r.data.toList.head? = some c) = false) := hide (decide_eq_false he)
      have d2 : ((r.extract 0 1).toList == (ByteArray.mk #[c]).toList) = false := eqS_no (fun e => he (by
        have e1 := congrArg (fun b : ByteArray => b.data.toList) e
        simp only [ByteArray.data_extract, Array.toList_extract] at e1
        cases hl : r.data.toList with
        | nil => rw [hl] at e1; simp at e1
        | cons x y => rw [hl] at e1; simp at e1; subst e1; rfl))
      have d4 : ((r.extract 0 1).toList == [c]) = false := by
        have e : (ByteArray.mk #[c]).toList = [c] := by rw [Go.ByteArray.toList_eq]
        rw [← e]; exact d2
      clear he
      go_enter Tryz.func114, Tryz.ntmps114
      go_wp2
      go_ret
      exact ⟨ret_bool D3.out.symm, rfl⟩
  · have D3 : Hid (decide (r.data.toList.head? = some c) = false) := hide (decide_eq_false (fun he => by
      have : r.data.toList = [] := List.eq_nil_of_length_eq_zero (by show r.size = 0; omega)
      rw [this] at he
      cases he))
    have hle : ¬ (1 : Int) ≤ (r.size : Int) := by omega
    go_enter Tryz.func114, Tryz.ntmps114
    go_wp2
    go_ret
    exact ⟨ret_bool D3.out.symm, rfl⟩
end Go.Proofs.YtdahpnjamlfakaaGreatDoor
/-
  What spec.l1Split does: what stands between blanks, in a row of the call's own.
-/
namespace Go.Proofs.YtdahpnjamlfakaaGreatDoor
open Go.RowKit

def more (sv bv : Value) : Nat := match sv, bv with
  | .string r, .bool true => r.size + 1
  | _, _ => 0
theorem more_t (r : ByteArray) : more (.string r) (.bool true) = r.size + 1 := rfl
theorem more_f (r : ByteArray) : more (.string r) (.bool false) = 0 := rfl

set_option maxRecDepth 100000 in
set_option maxHeartbeats 1000000 in
theorem l1Split_any (s : ByteArray) (w : World) (hs : s.size ≤ 1048576) :
    Calls Tryz.prog 110 #[.string s] w fun e w' => ∃ A cap, e = .returned (.slice A (splitF (s.size + 1) s).length cap) ∧ ZOwn w' w.heap.size A cap (splitF (s.size + 1) s) ∧ Below w.heap.size w w' ∧ (splitF (s.size + 1) s).length ≤ s.size + 1 := by
  have O0 := hide (ZOwn.built w w.heap.size (Nat.le_refl _))
  have B0 := hide ((Below.refl w.heap.size w).alloc (Nat.le_refl _) (.cells #[] 9))
  have E0 : Hid (splitF (s.size + 1) s = [] ++ splitF (s.size + 1) s) := hide (by simp)
  go_enter Tryz.func110, Tryz.ntmps110
  go_wp2
  go_loopw [0, 3, 4] (fun sv ov bv wr => ∃ (r : ByteArray) (d : List ByteArray) (A : Option Addr) (cap k : Nat) (b : Bool), sv = .string r ∧ ov = .slice A d.length cap ∧ bv = .bool b ∧ d.length + k ≤ s.size + 1 ∧ (b = true → r.size + 1 ≤ k) ∧ Hid (splitF (s.size + 1) s = if b then d ++ splitF k r else d) ∧ Hid (ZOwn wr w.heap.size A cap d) ∧ Hid (Below w.heap.size w wr)) (fun sv _ bv _ => more sv bv)
  case atStart => exact ⟨s, [], _, 0, s.size + 1, true, rfl, rfl, rfl, by simp, fun _ => Nat.le_refl _, E0, O0, B0⟩
  case round =>
    clear O0 B0 E0
    obtain ⟨r, d, A, cap, k, b, rfl, rfl, rfl, hd, hk, E, O, Q⟩ := hrel
    cases b
    · have Z : Hid (splitF (s.size + 1) s = d) := hide E.out
      clear E hk
      go_wp2
      go_ret
      exact ⟨A, cap, by rw [Z.out]; rfl, by rw [Z.out]; exact O.out, Q.out, by rw [Z.out]; omega⟩
    · obtain ⟨k, rfl⟩ : ∃ j, k = j + 1 := ⟨k - 1, by have := hk rfl; omega⟩
      have hk' : r.size ≤ k := by have := hk rfl; omega
      have hE : splitF (s.size + 1) s = d ++ splitF (k + 1) r := E.out
      have HE := hide hE
      clear E hk hE
      go_wp2_with fail
      refine (l1Cut_any r 32 32 wr (by unfold maxLen; omega) rfl).mono ?_
      rintro e w1 ⟨rfl, q1⟩
      have O1 := hide (O.out.below (q1.below _))
      have Q1 := hide (Q.out.trans (q1.below _))
      have hq1 := Q1.out.size
      clear q1 O Q
      cases hc : (cutS r 32).2.2
      · have Z : Hid (splitF (s.size + 1) s = d ++ [(cutS r 32).1]) := hide (by rw [HE.out, splitF_last hc])
        generalize (cutS r 32).1 = x at *
        generalize (cutS r 32).2.1 = y at *
        have hl1 : (d ++ [x]).length = d.length + 1 := by simp
        go_wp2_with (at_builtin; refine wpList_appZ (l := d) (l' := [x]) 28 Tryz.underlying28 rfl (.tmp 14) (.tmp 16) rfl rfl rfl rfl rfl (O1.out.alloc _) (ZIn.one x _ rfl) (Nat.le_trans hq1 (by simp)) (by simp; omega) ?_; intro A3 cap3 w3 own3 g3 r3; have B3 := hide (Q1.out.trans (((Below.refl _ w1).alloc hq1 (.cells #[Value.string x] 9)).trans ((O1.out.alloc (.cells #[Value.string x] 9)).grownBelow g3 (Nat.le_trans hq1 (by simp))))); have O3 := hide own3; clear own3 g3 r3)
        go_roundw
        case rel => exact ⟨y, d ++ [x], A3, cap3, 0, false, rfl, by rw [hl1], rfl, by rw [hl1]; omega, fun h => (Bool.noConfusion h), Z, O3, B3⟩
        case measure => simp only [more_t, more_f]; omega
      · have Z : Hid (splitF (s.size + 1) s = (d ++ [(cutS r 32).1]) ++ splitF k (cutS r 32).2.1) := hide (by rw [HE.out, splitF_more hc]; simp)
        have hrr := cutA_rest hc
        generalize (cutS r 32).1 = x at *
        generalize (cutS r 32).2.1 = y at *
        have hl1 : (d ++ [x]).length = d.length + 1 := by simp
        go_wp2_with (at_builtin; refine wpList_appZ (l := d) (l' := [x]) 28 Tryz.underlying28 rfl (.tmp 14) (.tmp 16) rfl rfl rfl rfl rfl (O1.out.alloc _) (ZIn.one x _ rfl) (Nat.le_trans hq1 (by simp)) (by simp; omega) ?_; intro A3 cap3 w3 own3 g3 r3; have B3 := hide (Q1.out.trans (((Below.refl _ w1).alloc hq1 (.cells #[Value.string x] 9)).trans ((O1.out.alloc (.cells #[Value.string x] 9)).grownBelow g3 (Nat.le_trans hq1 (by simp))))); have O3 := hide own3; clear own3 g3 r3)
        go_roundw
        case rel => exact ⟨y, d ++ [x], A3, cap3, k, true, rfl, by rw [hl1], rfl, by rw [hl1]; omega, fun _ => by omega, Z, O3, B3⟩
        case measure => simp only [more_t]; omega
end Go.Proofs.YtdahpnjamlfakaaGreatDoor
/-
  What impl's commitReader.commit does: it returns the right commit whose text is read, or panics with the sentinel where there is none.
-/
namespace Go.Proofs.YtdahpnjamlfakaaGreatDoor
open Go.RowKit

def C3 (t : ByteArray) (A : Option Addr) (n cap : Nat) (m : ByteArray) : Obj := .cells #[.string t, .slice A n cap, .string m] 30 (0, 0)
/-- the reader at work: what is left, the result's block, the commit that is made, its parents' row -/
structure St (w wr : World) (rb g : Nat) (r t : ByteArray) (A : Option Addr) (cap : Nat) (ps : List ByteArray) (m : ByteArray) : Prop where
  rd : RdR wr rb r
  c1 : wr.heap[g]? = some (C3 ByteArray.empty none 0 0 ByteArray.empty)
  c2 : wr.heap[g + 1]? = some (C3 t A ps.length cap m)
  own : ZOwn wr (g + 1 + 1) A cap ps
  bl : Below rb w wr
  lt : rb < g
  sz : g + 1 + 1 ≤ wr.heap.size
theorem St.drew {w wr : World} {rb g : Nat} {r t : ByteArray} {A : Option Addr} {cap : Nat} {ps : List ByteArray} {m : ByteArray} (h : St w wr rb g r t A cap ps m) : St w wr.drew rb g r t A cap ps m :=
  ⟨h.rd, h.c1, h.c2, h.own.below (Below.refl _ _).drew, h.bl.drew, h.lt, h.sz⟩
theorem St.below {w wr w' : World} {rb g : Nat} {r t : ByteArray} {A : Option Addr} {cap : Nat} {ps : List ByteArray} {m : ByteArray} (h : St w wr rb g r t A cap ps m) (q : Below wr.heap.size wr w') : St w w' rb g r t A cap ps m := by
  have h1 := h.lt
  have h2 := h.sz
  exact ⟨(q.block _ (by omega)).trans h.rd, (q.block _ (by omega)).trans h.c1, (q.block _ (by omega)).trans h.c2, h.own.below q, h.bl.trans (q.mono (by omega)), h1, Nat.le_trans h2 q.size⟩
theorem St.setR {w wr : World} {rb g : Nat} {r t : ByteArray} {A : Option Addr} {cap : Nat} {ps : List ByteArray} {m : ByteArray} (h : St w wr rb g r t A cap ps m) (r' : ByteArray) : St w (wr.setCell ⟨rb, 0, none⟩ (.string r')) rb g r' t A cap ps m := by
  have h1 := h.lt
  exact ⟨rd_set h.rd r', (Below.heap_setCell _ _ _ _ (by show g ≠ rb; omega)).trans h.c1, (Below.heap_setCell _ _ _ _ (by show g + 1 ≠ rb; omega)).trans h.c2, ownsRow_setCell_below h.own (by show rb < _; omega) _, h.bl.setCell (Nat.le_refl _) _, h1, Nat.le_trans h.sz ((Below.refl rb wr).setCell (p := ⟨rb, 0, none⟩) (Nat.le_refl _) (.string r')).size⟩
theorem St.setT {w wr : World} {rb g : Nat} {r t : ByteArray} {A : Option Addr} {cap : Nat} {ps : List ByteArray} {m : ByteArray} (h : St w wr rb g r t A cap ps m) (t' : ByteArray) : St w (wr.setCell ⟨g + 1, 0, none⟩ (.string t')) rb g r t' A cap ps m := by
  have h1 := h.lt
  exact ⟨(Below.heap_setCell _ _ _ _ (by show rb ≠ g + 1; omega)).trans h.rd, (Below.heap_setCell _ _ _ _ (by show g ≠ g + 1; omega)).trans h.c1, heap_setCell_same wr (g + 1) 0 _ _ _ h.c2, ownsRow_setCell_below h.own (by show g + 1 < _; omega) _, h.bl.setCell (by show rb ≤ g + 1; omega) _, h1, Nat.le_trans h.sz ((Below.refl rb wr).setCell (p := ⟨g + 1, 0, none⟩) (by show rb ≤ g + 1; omega) (.string t')).size⟩
theorem St.setM {w wr : World} {rb g : Nat} {r t : ByteArray} {A : Option Addr} {cap : Nat} {ps : List ByteArray} {m : ByteArray} (h : St w wr rb g r t A cap ps m) (m' : ByteArray) : St w (wr.setCell ⟨g + 1, 2, none⟩ (.string m')) rb g r t A cap ps m' := by
  have h1 := h.lt
  exact ⟨(Below.heap_setCell _ _ _ _ (by show rb ≠ g + 1; omega)).trans h.rd, (Below.heap_setCell _ _ _ _ (by show g ≠ g + 1; omega)).trans h.c1, heap_setCell_same wr (g + 1) 2 _ _ _ h.c2, ownsRow_setCell_below h.own (by show g + 1 < _; omega) _, h.bl.setCell (by show rb ≤ g + 1; omega) _, h1, Nat.le_trans h.sz ((Below.refl rb wr).setCell (p := ⟨g + 1, 2, none⟩) (by show rb ≤ g + 1; omega) (.string m')).size⟩
/-- the row has grown by one, and the cell takes it -/
theorem St.more {w wr w' : World} {rb g : Nat} {r t : ByteArray} {A A' : Option Addr} {cap cap' : Nat} {ps : List ByteArray} {m p : ByteArray} (h : St w wr rb g r t A cap ps m) (q : Below (g + 1 + 1) wr w') (o : ZOwn w' (g + 1 + 1) A' cap' (ps ++ [p])) : St w (w'.setCell ⟨g + 1, 1, none⟩ (.slice A' (ps ++ [p]).length cap')) rb g r t A' cap' (ps ++ [p]) m := by
  have h1 := h.lt
  have e2 : w'.heap[g + 1]? = some (C3 t A ps.length cap m) := (q.block _ (by omega)).trans h.c2
  exact ⟨(Below.heap_setCell _ _ _ _ (by show rb ≠ g + 1; omega)).trans ((q.block _ (by omega)).trans h.rd), (Below.heap_setCell _ _ _ _ (by show g ≠ g + 1; omega)).trans ((q.block _ (by omega)).trans h.c1), heap_setCell_same w' (g + 1) 1 _ _ _ e2, ownsRow_setCell_below o (by show g + 1 < _; omega) _, (h.bl.trans (q.mono (by omega))).setCell (by show rb ≤ g + 1; omega) _, h1, Nat.le_trans (Nat.le_trans h.sz q.size) ((Below.refl rb w').setCell (p := ⟨g + 1, 1, none⟩) (by show rb ≤ g + 1; omega) _).size⟩
theorem St.cells {w wr : World} {rb g : Nat} {r t : ByteArray} {A : Option Addr} {cap : Nat} {ps : List ByteArray} {m : ByteArray} (h : St w wr rb g r t A cap ps m) :
    wr.cell? ⟨rb, 0, none⟩ = some (.string r) ∧ wr.cell? ⟨g + 1, 0, none⟩ = some (.string t) ∧ wr.cell? ⟨g + 1, 1, none⟩ = some (.slice A ps.length cap) ∧ wr.cell? ⟨g + 1, 2, none⟩ = some (.string m) ∧ wr.frozen? ⟨g + 1, 0, none⟩ = false ∧ wr.frozen? ⟨g + 1, 1, none⟩ = false ∧ wr.frozen? ⟨g + 1, 2, none⟩ = false :=
  ⟨cell_of_row _ _ 0 _ _ _ h.rd, cell_of_row _ _ 0 _ _ _ h.c2, cell_of_row _ _ 1 _ _ _ h.c2, cell_of_row _ _ 2 _ _ _ h.c2, frozen_of_row _ _ 0 _ _ h.c2, frozen_of_row _ _ 1 _ _ h.c2, frozen_of_row _ _ 2 _ _ h.c2⟩
theorem St.cells1 {w wr : World} {rb g : Nat} {r t : ByteArray} {A : Option Addr} {cap : Nat} {ps : List ByteArray} {m : ByteArray} (h : St w wr rb g r t A cap ps m) :
    wr.cell? ⟨g, 0, none⟩ = some (.string ByteArray.empty) ∧ wr.cell? ⟨g, 1, none⟩ = some (.slice none 0 0) ∧ wr.cell? ⟨g, 2, none⟩ = some (.string ByteArray.empty) ∧ wr.frozen? ⟨g, 0, none⟩ = false ∧ wr.frozen? ⟨g, 1, none⟩ = false ∧ wr.frozen? ⟨g, 2, none⟩ = false :=
  ⟨cell_of_row _ _ 0 _ _ _ h.c1, cell_of_row _ _ 1 _ _ _ h.c1, cell_of_row _ _ 2 _ _ _ h.c1, frozen_of_row _ _ 0 _ _ h.c1, frozen_of_row _ _ 1 _ _ h.c1, frozen_of_row _ _ 2 _ _ h.c1⟩
theorem St.start {w : World} {rb : Nat} {r : ByteArray} (h : RdR w rb r) (hb : rb < w.heap.size) : St w ((w.alloc (.cells #[.string ByteArray.empty, .slice none 0 0, .string ByteArray.empty] 30)).alloc (.cells #[.string ByteArray.empty, .slice none 0 0, .string ByteArray.empty] 30)) rb w.heap.size r ByteArray.empty none 0 [] ByteArray.empty :=
  ⟨(Below.heap_alloc _ _ _ (by simp; omega)).trans ((Below.heap_alloc _ _ _ hb).trans h), heap_alloc2_old w _ _, heap_alloc2_new w _ _, ZOwn.nil _ _, ((Below.refl rb w).alloc (by omega) _).alloc (by simp; omega) _, hb, by simp⟩
def lenAt (w : World) (p : Addr) : Nat := match w.cell? p with
  | some (.slice _ n _) => n
  | _ => 0
theorem lenAt_of {w : World} {p : Addr} {A : Option Addr} {n cap : Nat} (h : w.cell? p = some (.slice A n cap)) : lenAt w p = n := by unfold lenAt; rw [h]
section
variable (t ty : TypeId) (ht : Tryz.prog.underlying t = some (.slice 9))
include ht
theorem step_appZ {w : World} {ops : Array Oper} {o : Oper} {a : Act} {K : Act → World → Prop} {Q : Exit → Act → World → Prop} {E : Prop} (hgd : o.guard = none) (s x : Operand)
    (ho : o.op = .call { callee := .builtin .append, args := #[s, x], argTypes := #[t, t] })
    {B B' : Nat} {A A' : Option Addr} {cap c n m : Nat} {l l' : List ByteArray} (hs : a.eval s = .slice A n cap) (hx : a.eval x = .slice A' m c) (hn : n = l.length) (hm : m = l'.length)
    (hown : ZOwn w B A cap l) (hin : ZIn w B' A' l') (hB : B ≤ w.heap.size) (hb : l.length + l'.length ≤ 3000000)
    (h : ∀ A2 cap2 w', ZOwn w' B A2 cap2 (l ++ l') → w.grownBy w' (rowOf A) → (rowOf A2 = rowOf A ∨ rowOf A2 = some w.heap.size) → K (a.put o.dst (.slice A2 (l ++ l').length cap2)) w') :
    if Region.wanted o (yielded ops a.tmps) = true then Oper.wp Tryz.prog o a w K Q else E := by
  have hw : Region.wanted o (yielded ops a.tmps) = true := by simp [Region.wanted, hgd]
  rw [if_pos hw]
  exact wp_appZ t ht s x ho hs hx hn hm hown hin hB hb h
end
end Go.Proofs.YtdahpnjamlfakaaGreatDoor
/-
  The walk of impl's commitReader.commit.
-/
namespace Go.Proofs.YtdahpnjamlfakaaGreatDoor
open Go.RowKit

def RetRd (s : ByteArray) (rb : Nat) (a : Addr) (w : World) (e : Ending) (w' : World) : Prop :=
  Below rb w w' ∧ ((∃ A cap t ps m, isCom s (t, ps, m) ∧ e = .returned (.agg #[.string t, .slice A ps.length cap, .string m]) ∧ ZOwn w' (w.heap.size + 1 + 1) A cap ps) ∨ ((¬ ∃ c, isCom s c) ∧ e = pan a))
theorem split_at {r : ByteArray} {n : Nat} (h : n ≤ r.size) : ∃ x r' : ByteArray, x.size = n ∧ r.data.toList = x.data.toList ++ r'.data.toList :=
  ⟨⟨(r.data.toList.take n).toArray⟩, ⟨(r.data.toList.drop n).toArray⟩, by
    show (r.data.toList.take n).toArray.size = n
    have h2 : r.data.toList.length = r.size := by simp
    rw [List.size_toArray, List.length_take, h2]
    omega, by simp⟩
theorem pre_rest {r : ByteArray} {l : List UInt8} (h : l <+: r.data.toList) : ∃ r' : ByteArray, r.data.toList = l ++ r'.data.toList := by
  obtain ⟨x, hx⟩ := h
  exact ⟨⟨x.toArray⟩, by simp [hx]⟩
theorem head_rest {r : ByteArray} {c : UInt8} (h : r.data.toList.head? = some c) : ∃ r' : ByteArray, r.data.toList = c :: r'.data.toList := by
  cases hl : r.data.toList with
  | nil => rw [hl] at h; cases h
  | cons x y => rw [hl] at h; simp at h; subst h; exact ⟨⟨y.toArray⟩, by simp⟩
theorem head_not {r : ByteArray} {c : UInt8} (h : ¬ r.data.toList.head? = some c) : ¬ (ByteArray.mk #[c]).data.toList <+: r.data.toList := by
  rintro ⟨x, hx⟩
  exact h (by rw [← hx]; rfl)
theorem left_len {s t m : ByteArray} {ps : List ByteArray} {x : UInt8} (h : Left s t ps (x :: m.data.toList)) : m.size ≤ s.size := by
  have := congrArg List.length h.1
  simp at this
  omega
theorem ZOwn.sin16 {w : World} {B : Nat} {A : Option Addr} {cap : Nat} {l : List ByteArray} (h : ZOwn w B A cap l) (hs : ∀ p ∈ l, p.size = 16) : SIn w w.heap.size A l := ⟨fun i hi => by have := hs _ (List.getElem_mem hi); unfold maxLen; omega, h.zin⟩

set_option maxRecDepth 100000 in
set_option maxHeartbeats 4000000 in
theorem commit_any (rb : Nat) (s : ByteArray) (a : Addr) (w : World) (hs : s.size ≤ maxLen) (hb : rb < w.heap.size) (hG : 0 < rb) (hw : RdR w rb s) (hE : ErrC w a) :
    Calls Tryz.prog 67 #[.pointer (some ⟨rb, 0, none⟩)] w (RetRd s rb a w) := by
  have S0 := hide (St.start hw hb)
  have EE := hide hE
  clear hw hE
  go_enter Tryz.func67, Tryz.ntmps67
  go_wp2_with fail
  by_cases h1 : comW <+: s.data.toList
  case neg =>
    refine (skip_no rb s _ a _ S0.out.rd (EE.out.belowB S0.out.bl hG) h1).mono ?_
    rintro e w1 ⟨rfl, rfl⟩
    exact ⟨rfl, S0.out.bl, .inr ⟨no_start h1, rfl⟩⟩
  obtain ⟨r1, hr1⟩ := pre_rest h1
  refine (skip_yes rb s _ r1 _ S0.out.rd hr1).mono ?_
  rintro e w1 ⟨rfl, hw1⟩
  have S1 : Hid (St w w1 rb w.heap.size r1 ByteArray.empty none 0 [] ByteArray.empty) := hide (hw1 ▸ S0.out.setR r1)
  have R1 := hide hr1
  clear hw1 hr1 S0 h1
  go_wp2_with fail
  by_cases h2 : 16 ≤ r1.size
  case neg =>
    refine (id_no rb r1 a _ S1.out.rd (EE.out.belowB S1.out.bl hG) (by show r1.size < 16; omega)).mono ?_
    rintro e w2 ⟨rfl, rfl⟩
    exact ⟨rfl, S1.out.bl, .inr ⟨no_tree R1.out (by show r1.size < 16; omega), rfl⟩⟩
  obtain ⟨t, r2, ht, hr2⟩ := split_at h2
  refine (id_yes rb r1 t r2 _ S1.out.rd ht hr2).mono ?_
  rintro e w2 ⟨rfl, hw2⟩
  have S2 : Hid (St w w2 rb w.heap.size r2 ByteArray.empty none 0 [] ByteArray.empty) := hide (hw2 ▸ S1.out.setR r2)
  have L2 : Hid (Left s t [] r2.data.toList) := hide (left_tree (by rw [R1.out, hr2]) ht)
  clear hw2 hr2 h2 S1 R1
  obtain ⟨-, x0, -, -, f0, -, -⟩ := S2.out.cells
  have S3 := hide (S2.out.setT t)
  clear S2
  go_wp2
  go_loopw [] (fun wr => ∃ (r : ByteArray) (ps : List ByteArray) (A : Option Addr) (cap : Nat), ps.length ≤ 2 ∧ Hid (Left s t ps r.data.toList) ∧ Hid (St w wr rb w.heap.size r t A cap ps ByteArray.empty)) (fun wr => 2 - lenAt wr ⟨w.heap.size + 1, 1, none⟩)
  case atStart => exact ⟨r2, [], none, 0, by simp, L2, S3⟩
  case round =>
    clear L2 S3 x0 f0
    obtain ⟨r, ps, A, cap, hps, L, S⟩ := hrel
    obtain ⟨y0, -, y1, -, -, f1, -⟩ := S.out.cells
    have Y := hide (lenAt_of y1)
    by_cases hlt : ps.length < 2
    · have hlti : (ps.length : Int) < 2 := by omega
      by_cases hh : r.data.toList.head? = some 32
      · obtain ⟨r3, hr3⟩ := head_rest hh
        have hd := decide_eq_true hh
        have HP := hide (hasPrefix_any r 32)
        rw [hd] at HP
        go_wp2_with (go_at_call 114; refine (HP.out wr).mono ?_; rintro e w' ⟨rfl, rfl⟩)
        refine (skip_yes rb r ⟨#[32]⟩ r3 _ S.out.rd hr3).mono ?_
        rintro e w3 ⟨rfl, hw3⟩
        have S3 : Hid (St w w3 rb w.heap.size r3 t A cap ps ByteArray.empty) := hide (hw3 ▸ S.out.setR r3)
        have L3 : Hid (Left s t ps (32 :: r3.data.toList)) := hide (hr3 ▸ L.out)
        clear hw3 hr3 S L y0 y1 f1 hd HP hh
        by_cases h16 : 16 ≤ r3.size
        · obtain ⟨p, r4, hp, hr4⟩ := split_at h16
          have L4 : Hid (Left s t (ps ++ [p]) r4.data.toList) := hide (left_parent (by rw [← hr4]; exact L3.out) hp)
          have S3d := hide S3.out.drew
          have y1 := S3d.out.cells.2.2.1
          have hl1 : (ps ++ [p]).length = ps.length + 1 := by simp
          clear S3 L3 h16
          go_wp2_with fail
          go_region_law (first
            | (refine step_appZ (n := ps.length) (m := 1) (A := A) (cap := cap) (A' := some ⟨w4.heap.size, 0, none⟩) (c := 1) (l := ps) (l' := [p]) 28 Tryz.underlying28 rfl (.tmp 23) (.tmp 26) rfl (by simp [Act.eval]) (by simp [Act.eval]) rfl rfl (S4.out.own.alloc _) (ZIn.one p _ rfl) (Nat.le_trans S4.out.sz (by simp)) (by simp; omega) ?_; intro A5 cap5 w5 own5 g5 r5; have B5 := hide (((Below.refl (w.heap.size + 1 + 1) w4).alloc S4.out.sz (.cells #[Value.string p] 9)).trans ((S4.out.own.alloc (.cells #[Value.string p] 9)).grownBelow g5 (Nat.le_trans S4.out.sz (by simp)))); have O5 := hide own5; have z5 := cellB B5.out (show w.heap.size + 1 < w.heap.size + 1 + 1 by omega) S4.out.cells.2.2.1; have zf5 : w5.frozen? ⟨w.heap.size + 1, 1, none⟩ = false := (B5.out.frozen (p := ⟨w.heap.size + 1, 1, none⟩) (by show w.heap.size + 1 < w.heap.size + 1 + 1; omega)).trans S4.out.cells.2.2.2.2.2.1; clear own5 g5 r5)
            | (go_simp; go_at_call 113; refine (id_yes rb r3 p r4 _ S3d.out.rd hp hr4).mono ?_; rintro e w4 ⟨rfl, hw4⟩; have S4 : Hid (St w w4 rb w.heap.size r4 t A cap ps ByteArray.empty) := hide (hw4 ▸ S3d.out.setR r4); have z4 := S4.out.cells.2.2.1; have z4a := cellB ((Below.refl w4.heap.size w4).alloc (Nat.le_refl _) (.cells #[Value.string p] 9)) (show w.heap.size + 1 < w4.heap.size by have := S4.out.sz; omega) S4.out.cells.2.2.1; clear hw4))
          all_goals
            have S6 := hide (S4.out.more B5.out O5.out)
            have y6 := lenAt_of S6.out.cells.2.2.1
            rw [hl1] at S6 y6
            go_wp2
            exact ⟨⟨r4, ps ++ [p], A5, cap5, by rw [hl1]; omega, L4, S6⟩, by rw [y6, Y.out]; omega⟩
        · have S3d := hide S3.out.drew
          have y1 := S3d.out.cells.2.2.1
          have h16' : r3.data.toList.length < 16 := by show r3.size < 16; omega
          go_wp2_with fail
          go_region_dies
          all_goals
            go_at_call 113
            refine (id_no rb r3 a _ S3d.out.rd (EE.out.belowB S3d.out.bl hG) h16').mono ?_
            rintro e w4 ⟨rfl, rfl⟩
            exact ⟨rfl, S3d.out.bl, .inr ⟨left_short L3.out h16', rfl⟩⟩
      · have HP := hide (hasPrefix_any r 32)
        rw [decide_eq_false hh] at HP
        go_wp2_with (go_at_call 114; refine (HP.out wr).mono ?_; rintro e w' ⟨rfl, rfl⟩)
        by_cases h10 : r.data.toList.head? = some 10
        case neg =>
          refine (skip_no rb r ⟨#[10]⟩ a _ S.out.rd (EE.out.belowB S.out.bl hG) (head_not h10)).mono ?_
          rintro e w3 ⟨rfl, rfl⟩
          exact ⟨rfl, S.out.bl, .inr ⟨left_end L.out (.inr hh) h10, rfl⟩⟩
        obtain ⟨m, hm⟩ := head_rest h10
        refine (skip_yes rb r ⟨#[10]⟩ m _ S.out.rd hm).mono ?_
        rintro e w3 ⟨rfl, hw3⟩
        have S3 : Hid (St w w3 rb w.heap.size m t A cap ps ByteArray.empty) := hide (hw3 ▸ S.out.setR m)
        have L3 : Hid (Left s t ps (10 :: m.data.toList)) := hide (hm ▸ L.out)
        have hms : m.size ≤ maxLen := Nat.le_trans (left_len L3.out) hs
        clear hw3 hm S L y0 y1 f1 h10 Y
        obtain ⟨z0, z1, z2, z3, -, -, f2⟩ := S3.out.cells
        have S4 := hide (S3.out.setM m)
        clear S3
        go_wp2_with fail
        refine (implCommitOk_any t m A ps cap _ (by rw [ht]; unfold maxLen; omega) hms (by unfold maxLen; omega) (S4.out.own.sin16 L3.out.2.2.1)).mono ?_
        rintro e w5 ⟨rfl, q5⟩
        have S5 := hide (S4.out.below q5)
        clear q5 S4 z0 z1 z2 z3 f2
        cases hc : comB t ps m
        · have x0 := (EE.out.belowB S5.out.bl hG).1
          go_wp2
          exact ⟨rfl, S5.out.bl, .inr ⟨(left_note L3.out).2 hc, rfl⟩⟩
        · obtain ⟨-, z1, z2, z3, -, -, -⟩ := S5.out.cells
          obtain ⟨g1, g2, g3, k1, k2, k3⟩ := S5.out.cells1
          have hrb : rb ≤ w.heap.size := by omega
          have O5 := hide (ownsRow_setCell_below (ownsRow_setCell_below (ownsRow_setCell_below S5.out.own (a := ⟨w.heap.size, 0, none⟩) (by show w.heap.size < _; omega) (.string t)) (a := ⟨w.heap.size, 1, none⟩) (by show w.heap.size < _; omega) (.slice A ps.length cap)) (a := ⟨w.heap.size, 2, none⟩) (by show w.heap.size < _; omega) (.string m))
          have B5 := hide (((S5.out.bl.setCell (p := ⟨w.heap.size, 0, none⟩) hrb (.string t)).setCell (p := ⟨w.heap.size, 1, none⟩) hrb (.slice A ps.length cap)).setCell (p := ⟨w.heap.size, 2, none⟩) hrb (.string m))
          go_wp2
          exact bodyPost_ret (v := .agg #[.string t, .slice A ps.length cap, .string m]) (by simp [results, Tryz.results67, go_sem, g1, g2, g3]) rfl ⟨B5.out, .inl ⟨A, cap, t, ps, m, (left_note L3.out).1 hc, rfl, O5.out⟩⟩
    · have hlti : ¬ (ps.length : Int) < 2 := by omega
      go_wp2_with fail
      by_cases h10 : r.data.toList.head? = some 10
      case neg =>
        refine (skip_no rb r ⟨#[10]⟩ a _ S.out.rd (EE.out.belowB S.out.bl hG) (head_not h10)).mono ?_
        rintro e w3 ⟨rfl, rfl⟩
        exact ⟨rfl, S.out.bl, .inr ⟨left_end L.out (.inl (by omega)) h10, rfl⟩⟩
      obtain ⟨m, hm⟩ := head_rest h10
      refine (skip_yes rb r ⟨#[10]⟩ m _ S.out.rd hm).mono ?_
      rintro e w3 ⟨rfl, hw3⟩
      have S3 : Hid (St w w3 rb w.heap.size m t A cap ps ByteArray.empty) := hide (hw3 ▸ S.out.setR m)
      have L3 : Hid (Left s t ps (10 :: m.data.toList)) := hide (hm ▸ L.out)
      have hms : m.size ≤ maxLen := Nat.le_trans (left_len L3.out) hs
      clear hw3 hm S L y0 y1 f1 h10 Y
      obtain ⟨z0, z1, z2, z3, -, -, f2⟩ := S3.out.cells
      have S4 := hide (S3.out.setM m)
      clear S3
      go_wp2_with fail
      refine (implCommitOk_any t m A ps cap _ (by rw [ht]; unfold maxLen; omega) hms (by unfold maxLen; omega) (S4.out.own.sin16 L3.out.2.2.1)).mono ?_
      rintro e w5 ⟨rfl, q5⟩
      have S5 := hide (S4.out.below q5)
      clear q5 S4 z0 z1 z2 z3 f2
      cases hc : comB t ps m
      · have x0 := (EE.out.belowB S5.out.bl hG).1
        go_wp2
        exact ⟨rfl, S5.out.bl, .inr ⟨(left_note L3.out).2 hc, rfl⟩⟩
      · obtain ⟨-, z1, z2, z3, -, -, -⟩ := S5.out.cells
        obtain ⟨g1, g2, g3, k1, k2, k3⟩ := S5.out.cells1
        have hrb : rb ≤ w.heap.size := by omega
        have O5 := hide (ownsRow_setCell_below (ownsRow_setCell_below (ownsRow_setCell_below S5.out.own (a := ⟨w.heap.size, 0, none⟩) (by show w.heap.size < _; omega) (.string t)) (a := ⟨w.heap.size, 1, none⟩) (by show w.heap.size < _; omega) (.slice A ps.length cap)) (a := ⟨w.heap.size, 2, none⟩) (by show w.heap.size < _; omega) (.string m))
        have B5 := hide (((S5.out.bl.setCell (p := ⟨w.heap.size, 0, none⟩) hrb (.string t)).setCell (p := ⟨w.heap.size, 1, none⟩) hrb (.slice A ps.length cap)).setCell (p := ⟨w.heap.size, 2, none⟩) hrb (.string m))
        go_wp2
        exact bodyPost_ret (v := .agg #[.string t, .slice A ps.length cap, .string m]) (by simp [results, Tryz.results67, go_sem, g1, g2, g3]) rfl ⟨B5.out, .inl ⟨A, cap, t, ps, m, (left_note L3.out).1 hc, rfl, O5.out⟩⟩
end Go.Proofs.YtdahpnjamlfakaaGreatDoor
/-
  The walk of impl.ReadCommit: what the reader's panic, caught, and its answer come to.
-/
namespace Go.Proofs.YtdahpnjamlfakaaGreatDoor
open Go.RowKit

def RetCom (s : ByteArray) (w : World) (e : Ending) (w' : World) : Prop :=
  ∃ A cap, e = .returned (.tuple #[.agg #[.string (rdC s).1, .slice A (rdC s).2.1.length cap, .string (rdC s).2.2], .bool (rdOk s)]) ∧ ZOwn w' w.heap.size A cap (rdC s).2.1 ∧ Below w.heap.size w w'
theorem rc_panicking (g : Nat) (u : TypeId) (pv : Value) (older : List PanicEntry) (w : World) (t m : ByteArray) (A : Option Addr) (n cap : Nat) (b : Bool) (h0 : w.heap[g]? = some (C3 t A n cap m)) (h1 : w.heap[g + 1]? = some (.cells #[.bool b] 4 (0, 0))) :
    CallsD Tryz.prog 66 #[.pointer (some ⟨g, 0, none⟩), .pointer (some ⟨g + 1, 0, none⟩)] (.panicking ({ v := .iface u pv, recovered := false } :: older)) w fun e u' w' =>
      e = .returned (.tuple #[]) ∧ u' = .panicking ({ v := .iface u pv, recovered := true } :: older) ∧ w' = (((w.setCell ⟨g, 0, none⟩ (.string ByteArray.empty)).setCell ⟨g, 1, none⟩ (.slice none 0 0)).setCell ⟨g, 2, none⟩ (.string ByteArray.empty)).setCell ⟨g + 1, 0, none⟩ (.bool false) := by
  have c0 := cell_of_row _ _ 0 _ _ _ h0
  have c1 := cell_of_row _ _ 1 _ _ _ h0
  have c2 := cell_of_row _ _ 2 _ _ _ h0
  have c3 := cell_of_row _ _ 0 _ _ _ h1
  have f0 := frozen_of_row _ _ 0 _ _ h0
  have f1 := frozen_of_row _ _ 1 _ _ h0
  have f2 := frozen_of_row _ _ 2 _ _ h0
  have f3 := frozen_of_row _ _ 0 _ _ h1
  refine callsD_of_wpS Tryz.func66 rfl fun c₀ cs hu => ?_
  apply wpS_seq
  apply wpS_region
  simp [wpOpsS, go_sem, recoverD, hu, Tryz.ntmps66, Exit.thenS]
  refine wpS_cond (t := true) (by simp [Act.eval, Array.replicate]) ?_
  simp only [if_true]
  apply wpS_region
  simp [wpOpsS, go_sem, c0, c1, c2, c3, f0, f1, f2, f3, bodyPostS, results, Tryz.results66]
  rfl

theorem rc_idle (p q : Addr) (w : World) :
    CallsD Tryz.prog 66 #[.pointer (some p), .pointer (some q)] .returning w fun e u' w' => e = .returned (.tuple #[]) ∧ u' = .returning ∧ w' = w := by
  refine callsD_of_wpS Tryz.func66 rfl fun c₀ cs hu => ?_
  apply wpS_seq
  apply wpS_region
  simp [wpOpsS, go_sem, recoverD, hu, Tryz.ntmps66, Exit.thenS]
  refine wpS_cond (t := false) (by simp [Act.eval, Array.replicate]) ?_
  simp only [Bool.false_eq_true, if_false]
  refine wpS_of_wp (wp_skip ?_)
  cases c₀
  simp_all [bodyPostS, results, Tryz.results66]
set_option maxRecDepth 100000 in
set_option maxHeartbeats 2000000 in
theorem implReadCommit_any (s : ByteArray) (a : Addr) (w : World) (hs : s.size ≤ maxLen) (hE : ErrC w a) :
    Calls Tryz.prog 31 #[.string s] w (RetCom s w) := by
  have hmf : ∀ (fn : Fn) (first cap : Array Value) (w : World), (Instr.makeFunc fn first cap).run Tryz.prog w = .ok (.func fn first cap) w := fun _ _ _ _ => rfl
  have A3 := hide (alloc3 w (.cells #[.string ByteArray.empty, .slice none 0 0, .string ByteArray.empty] 30) (.cells #[.bool false] 4) (.cells #[.string s] 93))
  have B3 := hide (((((Below.refl w.heap.size w).alloc (Nat.le_refl _) (.cells #[.string ByteArray.empty, .slice none 0 0, .string ByteArray.empty] 30)).alloc (by simp) (.cells #[.bool false] 4))).alloc (by simp; omega) (.cells #[.string s] 93))
  have hz3 : (((w.alloc (.cells #[.string ByteArray.empty, .slice none 0 0, .string ByteArray.empty] 30)).alloc (.cells #[.bool false] 4)).alloc (.cells #[.string s] 93)).heap.size = w.heap.size + 1 + 1 + 1 := by simp
  have C := hide (commit_any (w.heap.size + 1 + 1) s a _ hs (by rw [hz3]; omega) (by have := hE.2; omega) A3.out.2.2 (hE.below B3.out))
  go_enter_defers Tryz.func31, Tryz.ntmps31
  go_wp2_with fail
  refine C.out.mono ?_
  rintro e w1 ⟨q1, hh⟩
  have X0 := (q1.block w.heap.size (by omega)).trans A3.out.1
  have X1 := (q1.block (w.heap.size + 1) (by omega)).trans A3.out.2.1
  have BB := hide (B3.out.trans (q1.mono (by omega)))
  rcases hh with ⟨A, cap, t, ps, m, hc, rfl, own⟩ | ⟨hn, rfl⟩
  · obtain ⟨e1, e2⟩ := rd_yes hc
    have O := hide (own.more (B' := w.heap.size + 1 + 1) (by rw [hz3]; omega))
    clear own
    have c0 := cell_of_row _ _ 0 _ _ _ X0
    have c1 := cell_of_row _ _ 1 _ _ _ X0
    have c2 := cell_of_row _ _ 2 _ _ _ X0
    have c3 := cell_of_row _ _ 0 _ _ _ X1
    have f0 := frozen_of_row _ _ 0 _ _ X0
    have f1 := frozen_of_row _ _ 1 _ _ X0
    have f2 := frozen_of_row _ _ 2 _ _ X0
    have f3 := frozen_of_row _ _ 0 _ _ X1
    clear X0 X1 A3 B3 q1 C hz3
    go_wp2
    refine leaves_cons (f := 66) (args := #[.pointer (some ⟨w.heap.size, 0, none⟩), .pointer (some ⟨w.heap.size + 1, 0, none⟩)]) (by simp) (by simp [go_sem]) ?_
    refine (rc_idle ⟨w.heap.size, 0, none⟩ ⟨w.heap.size + 1, 0, none⟩ _).mono ?_
    rintro e u' w'' ⟨rfl, rfl, rfl⟩
    simp [Leaves, settle, results, Tryz.results31, go_sem, c0, c1, c2, c3]
    refine ⟨A, cap, by rw [e2, e1], ?_, (((BB.out.setCell (p := ⟨w.heap.size, 0, none⟩) (Nat.le_refl _) _).setCell (p := ⟨w.heap.size, 1, none⟩) (Nat.le_refl _) _).setCell (p := ⟨w.heap.size, 2, none⟩) (Nat.le_refl _) _).setCell (p := ⟨w.heap.size + 1, 0, none⟩) (Nat.le_succ _) _⟩
    rw [e2]
    have O2 : ZOwn _ (w.heap.size + 1 + 1) A cap ps := ownsRow_setCell_below (ownsRow_setCell_below (ownsRow_setCell_below (ownsRow_setCell_below O.out (a := ⟨w.heap.size, 0, none⟩) (by show w.heap.size < _; omega) (.string t)) (a := ⟨w.heap.size, 1, none⟩) (by show w.heap.size < _; omega) (.slice A ps.length cap)) (a := ⟨w.heap.size, 2, none⟩) (by show w.heap.size < _; omega) (.string m)) (a := ⟨w.heap.size + 1, 0, none⟩) (by show w.heap.size + 1 < _; omega) (.bool true)
    exact O2.more (by omega)
  · obtain ⟨e1, e2⟩ := rd_no hn
    clear A3 B3 q1 C hz3
    refine leaves_cons (f := 66) (args := #[.pointer (some ⟨w.heap.size, 0, none⟩), .pointer (some ⟨w.heap.size + 1, 0, none⟩)]) (by simp) (by simp [go_sem]) ?_
    refine (rc_panicking w.heap.size _ _ [] _ _ _ _ _ _ _ X0 X1).mono ?_
    rintro e u' w'' ⟨rfl, rfl, rfl⟩
    have c0 := cell_of_row _ _ 0 _ _ _ X0
    have c1 := cell_of_row _ _ 1 _ _ _ X0
    have c2 := cell_of_row _ _ 2 _ _ _ X0
    have c3 := cell_of_row _ _ 0 _ _ _ X1
    simp [Leaves, settle, results, Tryz.results31, go_sem, c0, c1, c2, c3]
    exact ⟨none, 0, by rw [e2, e1]; rfl, by rw [e2]; exact ZOwn.nil _ _, (((BB.out.setCell (p := ⟨w.heap.size, 0, none⟩) (Nat.le_refl _) _).setCell (p := ⟨w.heap.size, 1, none⟩) (Nat.le_refl _) _).setCell (p := ⟨w.heap.size, 2, none⟩) (Nat.le_refl _) _).setCell (p := ⟨w.heap.size + 1, 0, none⟩) (Nat.le_succ _) _⟩
end Go.Proofs.YtdahpnjamlfakaaGreatDoor
/-
  The walk of spec.ReadCommit.
-/
namespace Go.Proofs.YtdahpnjamlfakaaGreatDoor
open Go.RowKit

theorem ZOwn.setOther {w : World} {B : Nat} {A : Option Addr} {cap : Nat} {l : List ByteArray} (h : ZOwn w B A cap l) {p : Addr} (hp : rowOf A ≠ some p.block) (u : Value) : ZOwn (w.setCell p u) B A cap l :=
  h.kept (r := p.block) (by
    have b := (Below.refl p.block w).setCell (p := p) (Nat.le_refl _) u
    exact ⟨b.os, b.tape, b.output, b.size, fun i _ hne => Below.heap_setCell _ _ _ _ (fun e => hne (by rw [e]))⟩) hp
theorem split_size : ∀ (n : Nat) (s x : ByteArray), x ∈ splitF n s → x.size ≤ s.size
  | 0, s, x, h => by simp [splitF] at h; rw [h]; exact Nat.le_refl _
  | n + 1, s, x, h => by
    have hc := cutA_one (s := s) (c := 32)
    cases hb : (cutS s 32).2.2
    · rw [splitF_last hb] at h; simp at h; rw [h]; exact hc.1
    · rw [splitF_more hb] at h
      rcases List.mem_cons.1 h with rfl | h
      · exact hc.1
      · exact Nat.le_trans (split_size n _ x h) hc.2
/-- what a right commit's text looks like, cut and parted -/
theorem com_seen {s : ByteArray} {c : Com} (h : isCom s c) : (cutS s 10).2.2 = true ∧ (cutS s 10).2.1 = c.2.2 ∧ splitF ((cutS s 10).1.size + 1) (cutS s 10).1 = ⟨#[99, 111, 109, 109, 105, 116]⟩ :: c.1 :: c.2.1 := by
  obtain ⟨h1, h2⟩ := com_head h.1
  rw [h.2] at h1
  rw [h1]
  refine ⟨rfl, rfl, h2 _ ?_⟩
  have : 6 ≤ ((⟨#[99, 111, 109, 109, 105, 116]⟩ : ByteArray) ++ blanks (c.1 :: c.2.1)).size := by
    rw [ByteArray.size_append]
    show 6 ≤ 6 + _
    omega
  show 3 ≤ ((⟨#[99, 111, 109, 109, 105, 116]⟩ : ByteArray) ++ blanks (c.1 :: c.2.1)).size + 1
  omega
theorem com_text {s t m : ByteArray} {l : List ByteArray} (hc : (cutS s 10).2.2 = true) (h : comTextS t l m = s) : isCom s (t, l, m) := by
  cases hb : comB t l m
  · rw [comText_no hb] at h
    subst h
    have := cutA_rest hc
    simp at this
  · rw [comText_yes hb] at h
    exact ⟨hb, h⟩
theorem com_text_no {s t m : ByteArray} {l : List ByteArray} (hm : (cutS s 10).2.1 = m) (hp : splitF ((cutS s 10).1.size + 1) (cutS s 10).1 = ⟨#[99, 111, 109, 109, 105, 116]⟩ :: t :: l) (h : comTextS t l m ≠ s) : ¬ ∃ c, isCom s c := by
  rintro ⟨c, hc⟩
  obtain ⟨_, h2, h3⟩ := com_seen hc
  rw [hp] at h3
  simp only [List.cons.injEq, true_and] at h3
  refine h ?_
  rw [h3.1, h3.2, ← hm, h2, comText_yes hc.1]
  exact hc.2
theorem row_top {w : World} {B : Nat} {A : Option Addr} {cap : Nat} {l : List ByteArray} (h : ZOwn w B A cap l) : rowOf A ≠ some w.heap.size := fun e => by have := (h.row _ e).2; omega
theorem row_low {w : World} {B : Nat} {A : Option Addr} {cap : Nat} {l : List ByteArray} (h : ZOwn w (B + 1) A cap l) : rowOf A ≠ some B := fun e => by have := (h.row _ e).1; omega
theorem row_ne (K : Nat) : some (K + 1) ≠ rowOf (some (⟨K, 0, none⟩ : Addr)) := by simp [rowOf]
theorem row_mid {w : World} {C E : Obj} {A : Option Addr} (h : rowOf A = rowOf (some (⟨w.heap.size, 0, none⟩ : Addr)) ∨ rowOf A = some ((w.alloc E).alloc C).drew.heap.size) : rowOf A ≠ some (w.heap.size + 1) := fun e => by
  rcases h with r | r <;> rw [e] at r <;> simp [rowOf, World.drew] at r
theorem grown_other {w w' : World} {r : Option Nat} {i : Nat} (h : w.grownBy w' r) (hi : i < w.heap.size) (hne : some i ≠ r) : w'.heap[i]? = w.heap[i]? := h.block i hi hne
theorem keep3 {w : World} {b g o : Nat} {u0 u1 u2 v : Value} (hc : w.cell? ⟨g, o, none⟩ = some v) (h : g ≠ b) : (((w.setCell ⟨b, 0, none⟩ u0).setCell ⟨b, 1, none⟩ u1).setCell ⟨b, 2, none⟩ u2).cell? ⟨g, o, none⟩ = some v :=
  (World.cell?_of_block (a := ⟨g, o, none⟩) ((Below.heap_setCell _ _ _ _ h).trans ((Below.heap_setCell _ _ _ _ h).trans (Below.heap_setCell _ _ _ _ h)))).trans hc
/-- a commit stored in a block of its own -/
theorem put3 {w : World} {b : Nat} {t m t0 m0 : ByteArray} {A A0 : Option Addr} {n n0 cap cap0 : Nat} (h : w.heap[b]? = some (C3 t0 A0 n0 cap0 m0)) : (((w.setCell ⟨b, 0, none⟩ (.string t)).setCell ⟨b, 1, none⟩ (.slice A n cap)).setCell ⟨b, 2, none⟩ (.string m)).heap[b]? = some (C3 t A n cap m) :=
  heap_setCell_same _ b 2 _ _ _ (heap_setCell_same _ b 1 _ _ _ (heap_setCell_same w b 0 _ _ _ h))
theorem own3 {w : World} {B b : Nat} {A : Option Addr} {cap : Nat} {l : List ByteArray} {u0 u1 u2 : Value} (h : ZOwn w B A cap l) (hr : rowOf A ≠ some b) : ZOwn (((w.setCell ⟨b, 0, none⟩ u0).setCell ⟨b, 1, none⟩ u1).setCell ⟨b, 2, none⟩ u2) B A cap l := ((h.setOther (p := ⟨b, 0, none⟩) hr u0).setOther (p := ⟨b, 1, none⟩) hr u1).setOther (p := ⟨b, 2, none⟩) hr u2
theorem bel3 {w0 w : World} {B b : Nat} {u0 u1 u2 : Value} (h : Below B w0 w) (hb : B ≤ b) : Below B w0 (((w.setCell ⟨b, 0, none⟩ u0).setCell ⟨b, 1, none⟩ u1).setCell ⟨b, 2, none⟩ u2) := ((h.setCell (p := ⟨b, 0, none⟩) hb u0).setCell (p := ⟨b, 1, none⟩) hb u1).setCell (p := ⟨b, 2, none⟩) hb u2
def Zero (s : ByteArray) (w : World) (e : Ending) (w' : World) : Prop := (¬ ∃ c, isCom s c) → RetCom s w e w'

set_option maxRecDepth 100000 in
set_option maxHeartbeats 4000000 in
theorem specReadCommit_any (s : ByteArray) (w : World) (hs : s.size ≤ 1048576) :
    Calls Tryz.prog 65 #[.string s] w (RetCom s w) := by
  have B0 := hide ((Below.refl w.heap.size w).alloc (Nat.le_refl _) (.cells #[.string ByteArray.empty, .slice none 0 0, .string ByteArray.empty] 30))
  have X0 : Hid ((w.alloc (.cells #[.string ByteArray.empty, .slice none 0 0, .string ByteArray.empty] 30)).heap[w.heap.size]? = some (C3 ByteArray.empty none 0 0 ByteArray.empty)) := hide (heap_alloc_new w _)
  have hz0 : (w.alloc (.cells #[.string ByteArray.empty, .slice none 0 0, .string ByteArray.empty] 30)).heap.size = w.heap.size + 1 := by simp
  have hcs := (cutA_one (s := s) (c := 10))
  go_enter Tryz.func65, Tryz.ntmps65
  go_wp2_with fail
  refine (l1Cut_any s 10 10 _ (by unfold maxLen; omega) rfl).mono ?_
  rintro e w1 ⟨rfl, q1⟩
  go_wp2_with fail
  refine (l1Split_any (cutS s 10).1 w1 (by omega)).mono ?_
  rintro e w2 ⟨A1, cap1, rfl, own1, b2, hlen⟩
  have hz1 : w1.heap.size = w.heap.size + 1 := by
    obtain ⟨k, rfl⟩ := q1
    exact hz0
  have B2 := hide (B0.out.trans ((q1.below w.heap.size).trans (b2.mono (by omega))))
  have X2 := hide ((b2.block w.heap.size (by omega)).trans (((q1.below (w.heap.size + 1)).block w.heap.size (by omega)).trans X0.out))
  have O := hide own1
  rw [hz1] at O
  have hz2 : w.heap.size + 1 ≤ w2.heap.size := by have := b2.size; omega
  have g0 := cell_of_row _ _ 0 _ _ _ X2.out
  have g1 := cell_of_row _ _ 1 _ _ _ X2.out
  have g2 := cell_of_row _ _ 2 _ _ _ X2.out
  have k0 := frozen_of_row _ _ 0 _ _ X2.out
  have k1 := frozen_of_row _ _ 1 _ _ X2.out
  have k2 := frozen_of_row _ _ 2 _ _ X2.out
  have NO : Hid ((¬ ∃ c, isCom s c) → ∀ e, e = Ending.returned (.tuple #[.agg #[.string ByteArray.empty, .slice none 0 0, .string ByteArray.empty], .bool false]) → ∀ w3, Below w.heap.size w2 w3 → RetCom s w e (((w3.setCell ⟨w.heap.size, 0, none⟩ (.string ByteArray.empty)).setCell ⟨w.heap.size, 1, none⟩ (.slice none 0 0)).setCell ⟨w.heap.size, 2, none⟩ (.string ByteArray.empty))) := hide (by
    rintro hn e rfl w3 b3
    obtain ⟨e1, e2⟩ := rd_no hn
    exact ⟨none, 0, by rw [e2, e1]; rfl, by rw [e2]; exact ZOwn.nil _ _, (((B2.out.trans b3).setCell (p := ⟨w.heap.size, 0, none⟩) (Nat.le_refl _) _).setCell (p := ⟨w.heap.size, 1, none⟩) (Nat.le_refl _) _).setCell (p := ⟨w.heap.size, 2, none⟩) (Nat.le_refl _) _⟩)
  clear q1 b2 own1 hz0 hz1 X0 B0
  cases hcut : (cutS s 10).2.2
  · have N := hide (NO.out (fun ⟨c, hc⟩ => by have := (com_seen hc).1; rw [hcut] at this; cases this) _ rfl w2 (Below.refl _ _))
    clear hlen
    generalize splitF ((cutS s 10).1.size + 1) (cutS s 10).1 = p at *
    generalize (cutS s 10).1 = x at *
    generalize (cutS s 10).2.1 = m at *
    go_wp2
    exact bodyPost_ret (v := .tuple #[.agg #[.string ByteArray.empty, .slice none 0 0, .string ByteArray.empty], .bool false]) (by simp [results, Tryz.results65, go_sem, g0, g1, g2]; rfl) rfl N.out
  · generalize hp : splitF ((cutS s 10).1.size + 1) (cutS s 10).1 = p at *
    have hszp : Hid (∀ x ∈ p, x.size ≤ maxLen) := hide (fun x hx => by rw [← hp] at hx; have := split_size _ _ x hx; unfold maxLen; omega)
    have HP := hide hp
    have HC := hide hcut
    have hms : (cutS s 10).2.1.size ≤ 1048576 := by omega
    generalize hm : (cutS s 10).2.1 = m at *
    have HM := hide hm
    generalize hx : (cutS s 10).1 = x at *
    clear hp hm hcut
    have RET0 : ∀ (w3 : World) (a : Act), True := fun _ _ => trivial
    rcases p with _ | ⟨x0, _ | ⟨t, l⟩⟩
    · have N := hide (NO.out (fun ⟨c, hc⟩ => by have := (com_seen hc).2.2; rw [hx, HP.out] at this; cases this) _ rfl w2 (Below.refl _ _))
      go_wp2
      exact bodyPost_ret (v := .tuple #[.agg #[.string ByteArray.empty, .slice none 0 0, .string ByteArray.empty], .bool false]) (by simp [results, Tryz.results65, go_sem, g0, g1, g2]; rfl) rfl N.out
    · have N := hide (NO.out (fun ⟨c, hc⟩ => by have := (com_seen hc).2.2; rw [hx, HP.out] at this; cases this) _ rfl w2 (Below.refl _ _))
      go_wp2
      exact bodyPost_ret (v := .tuple #[.agg #[.string ByteArray.empty, .slice none 0 0, .string ByteArray.empty], .bool false]) (by simp [results, Tryz.results65, go_sem, g0, g1, g2]; rfl) rfl N.out
    · obtain ⟨gb, rfl, hgB, hgs⟩ : ∃ g, A1 = some ⟨g, 0, none⟩ ∧ w.heap.size + 1 ≤ g ∧ g < w2.heap.size := by
        rcases O.out.form with ⟨_, _, h⟩ | h
        · cases h
        · exact h
      obtain ⟨b, off, heq, hb, hc⟩ := O.out.zin (by simp)
      cases heq
      have c0 : w2.cell? ⟨gb, 0, none⟩ = some (.string x0) := hc 0 (by simp)
      have c1 : w2.cell? ⟨gb, 1, none⟩ = some (.string t) := hc 1 (by simp)
      have hcap := O.out.cap_le
      have IN := hide (O.out.zin.drop (cap := cap1) O.out.cap_le 2)
      clear hc
      have hln : (x0 :: t :: l).length = l.length + 2 := rfl
      generalize hn : (x0 :: t :: l).length = n at *
      have n2 : ¬ (n : Int) < 2 := by omega
      have n0 : (0 : Int) < (n : Int) := by omega
      have n1 : (1 : Int) < (n : Int) := by omega
      have HLN := hide hln
      have hl0 : l.length = n - 2 := by omega
      have HL0 := hide hl0
      have hn3 : n ≤ 1048577 := by omega
      clear hn hln hl0
      by_cases hx0 : x0 = ⟨#[99, 111, 109, 109, 105, 116]⟩
      case neg =>
        have d2 := eqS_no hx0
        have d4 : (x0.toList == [99, 111, 109, 109, 105, 116]) = false := by
          have e : (ByteArray.mk #[99, 111, 109, 109, 105, 116]).toList = [99, 111, 109, 109, 105, 116] := by rw [Go.ByteArray.toList_eq]
          rw [← e]; exact d2
        have N := hide (NO.out (fun ⟨c, hc⟩ => by have := (com_seen hc).2.2; rw [hx, HP.out] at this; simp only [List.cons.injEq] at this; exact hx0 this.1) _ rfl w2 (Below.refl _ _))
        go_wp2
        exact bodyPost_ret (v := .tuple #[.agg #[.string ByteArray.empty, .slice none 0 0, .string ByteArray.empty], .bool false]) (by simp [results, Tryz.results65, go_sem, g0, g1, g2]; rfl) rfl N.out
      subst hx0
      have K2 := run_cutZ_l 28 Tryz.underlying28 (some ⟨gb, 0, none⟩) n cap1 2 (by omega)
      have hb0 := hide ((Below.refl w2.heap.size w2).alloc (Nat.le_refl _) (Obj.cells #[] 9))
      have hb1 := hide ((Below.refl w2.heap.size w2).alloc (Nat.le_refl _) (Obj.cells #[Value.string { data := #[] }, Value.slice none 0 0, Value.string { data := #[] }] 30))
      have BC : Hid (Below w2.heap.size w2 (w2.alloc (Obj.cells #[] 9)).drew) := hide hb0.out.drew
      have BB : Hid (Below w2.heap.size w2 ((w2.alloc (Obj.cells #[] 9)).alloc (Obj.cells #[Value.string { data := #[] }, Value.slice none 0 0, Value.string { data := #[] }] 30)).drew) := hide (hb0.out.alloc hb0.out.size _).drew
      have BA1 : Hid (Below w2.heap.size w2 (w2.alloc (Obj.cells #[Value.string { data := #[] }, Value.slice none 0 0, Value.string { data := #[] }] 30)).drew) := hide hb1.out.drew
      have BA : Hid (Below w2.heap.size w2 ((w2.alloc (Obj.cells #[Value.string { data := #[] }, Value.slice none 0 0, Value.string { data := #[] }] 30)).alloc (Obj.cells #[] 9)).drew) := hide (hb1.out.alloc hb1.out.size _).drew
      have OC : Hid (ZOwn (w2.alloc (Obj.cells #[] 9)).drew w2.heap.size (some ⟨w2.heap.size, 0, none⟩) 0 []) := hide ((ZOwn.built w2 w2.heap.size (Nat.le_refl _)).below (Below.refl _ _).drew)
      have OB : Hid (ZOwn ((w2.alloc (Obj.cells #[] 9)).alloc (Obj.cells #[Value.string { data := #[] }, Value.slice none 0 0, Value.string { data := #[] }] 30)).drew w2.heap.size (some ⟨w2.heap.size, 0, none⟩) 0 []) := hide (((ZOwn.built w2 w2.heap.size (Nat.le_refl _)).alloc _).below (Below.refl _ _).drew)
      have OA : Hid (ZOwn ((w2.alloc (Obj.cells #[Value.string { data := #[] }, Value.slice none 0 0, Value.string { data := #[] }] 30)).alloc (Obj.cells #[] 9)).drew (w2.heap.size + 1) (some ⟨w2.heap.size + 1, 0, none⟩) 0 []) := hide (by
        have h := (ZOwn.built (w2.alloc (Obj.cells #[Value.string { data := #[] }, Value.slice none 0 0, Value.string { data := #[] }] 30)) (w2.heap.size + 1) (by simp)).below (Below.refl _ _).drew
        rw [show (w2.alloc (Obj.cells #[Value.string { data := #[] }, Value.slice none 0 0, Value.string { data := #[] }] 30)).heap.size = w2.heap.size + 1 by simp] at h
        exact h)
      have IC : Hid (ZIn (w2.alloc (Obj.cells #[] 9)).drew w2.heap.size (cutZ (some ⟨gb, 0, none⟩) cap1 2) l) := hide (IN.out.below BC.out)
      have IB : Hid (ZIn ((w2.alloc (Obj.cells #[] 9)).alloc (Obj.cells #[Value.string { data := #[] }, Value.slice none 0 0, Value.string { data := #[] }] 30)).drew w2.heap.size (cutZ (some ⟨gb, 0, none⟩) cap1 2) l) := hide (IN.out.below BB.out)
      have IA : Hid (ZIn ((w2.alloc (Obj.cells #[Value.string { data := #[] }, Value.slice none 0 0, Value.string { data := #[] }] 30)).alloc (Obj.cells #[] 9)).drew w2.heap.size (cutZ (some ⟨gb, 0, none⟩) cap1 2) l) := hide (IN.out.below BA.out)
      have YB : Hid ((((w2.alloc (Obj.cells #[] 9)).alloc (Obj.cells #[Value.string { data := #[] }, Value.slice none 0 0, Value.string { data := #[] }] 30)).drew).heap[w2.heap.size + 1]? = some (C3 ByteArray.empty none 0 0 ByteArray.empty)) := hide (heap_alloc2_new w2 _ _)
      have YA : Hid ((((w2.alloc (Obj.cells #[Value.string { data := #[] }, Value.slice none 0 0, Value.string { data := #[] }] 30)).alloc (Obj.cells #[] 9)).drew).heap[w2.heap.size]? = some (C3 ByteArray.empty none 0 0 ByteArray.empty)) := hide (heap_alloc2_old w2 _ _)
      have sB : w2.heap.size + 1 < (((w2.alloc (Obj.cells #[] 9)).alloc (Obj.cells #[Value.string { data := #[] }, Value.slice none 0 0, Value.string { data := #[] }] 30)).drew).heap.size := by simp [World.drew]
      have sA : w2.heap.size + 1 ≤ (((w2.alloc (Obj.cells #[Value.string { data := #[] }, Value.slice none 0 0, Value.string { data := #[] }] 30)).alloc (Obj.cells #[] 9)).drew).heap.size := by simp [World.drew]
      have hlb : ([] : List ByteArray).length + l.length ≤ 3000000 := by rw [HL0.out]; simp; omega
      have hgs' := hgs
      clear hb0 hb1
      go_wp2_with fail
      have hcut2 : (if cap1 = 2 then some (⟨gb, 0, none⟩ : Addr) else some ⟨gb, 2, none⟩) = cutZ (some ⟨gb, 0, none⟩) cap1 2 := by simp [cutZ, Addr.add]
      go_region_held3 (fun w' => w'.cell? ⟨gb, 1, none⟩ = some (.string t)) (first | go_keep | exact cellB BC.out hgs' c1 | exact cellB BB.out hgs' c1 | exact cellB BA1.out hgs' c1 | exact cellB BA.out hgs' c1 | exact z1 | exact keep3 z1 (by omega)) (first
        | (refine step_appZ (w := (w2.alloc (Obj.cells #[] 9)).drew) (n := 0) (m := n - 2) (A := some ⟨w2.heap.size, 0, none⟩) (cap := 0) (A' := cutZ (some ⟨gb, 0, none⟩) cap1 2) (c := cap1 - 2) (l := []) (l' := l) 28 Tryz.underlying28 rfl (.tmp 34) (.tmp 36) rfl (by simp [Act.eval]) (by simp [Act.eval, cutZ, Addr.add]) rfl HL0.out.symm OC.out IC.out BC.out.size hlb ?_; intro A5 cap5 w5 own5 g5 r5; have B5 := hide (BC.out.trans (OC.out.grownBelow g5 BC.out.size)); have ROW := hide (row_top own5); have O5 := hide own5; have z1 := cellB B5.out hgs' c1; have MC := trivial; clear own5 g5 r5)
        | (refine step_appZ (w := ((w2.alloc (Obj.cells #[] 9)).alloc (Obj.cells #[Value.string { data := #[] }, Value.slice none 0 0, Value.string { data := #[] }] 30)).drew) (n := 0) (m := n - 2) (A := some ⟨w2.heap.size, 0, none⟩) (cap := 0) (A' := cutZ (some ⟨gb, 0, none⟩) cap1 2) (c := cap1 - 2) (l := []) (l' := l) 28 Tryz.underlying28 rfl (.tmp 34) (.tmp 36) rfl (by simp [Act.eval]) (by simp [Act.eval, cutZ, Addr.add]) rfl HL0.out.symm OB.out IB.out BB.out.size hlb ?_; intro A5 cap5 w5 own5 g5 r5; have B5 := hide (BB.out.trans (OB.out.grownBelow g5 BB.out.size)); have X5 := hide ((grown_other g5 sB (row_ne _)).trans YB.out); have ROW := hide (row_mid r5); have c50 := cell_of_row _ _ 0 _ _ _ X5.out; have f50 := frozen_of_row _ _ 0 _ _ X5.out; have c51 := cell_of_row _ _ 1 _ _ _ X5.out; have f51 := frozen_of_row _ _ 1 _ _ X5.out; have c52 := cell_of_row _ _ 2 _ _ _ X5.out; have f52 := frozen_of_row _ _ 2 _ _ X5.out; have O5 := hide own5; have z1 := cellB B5.out hgs' c1; have MB := trivial; clear own5 g5 r5)
        | (refine step_appZ (w := ((w2.alloc (Obj.cells #[Value.string { data := #[] }, Value.slice none 0 0, Value.string { data := #[] }] 30)).alloc (Obj.cells #[] 9)).drew) (n := 0) (m := n - 2) (A := some ⟨w2.heap.size + 1, 0, none⟩) (cap := 0) (A' := cutZ (some ⟨gb, 0, none⟩) cap1 2) (c := cap1 - 2) (l := []) (l' := l) 28 Tryz.underlying28 rfl (.tmp 34) (.tmp 36) rfl (by simp [Act.eval]) (by simp [Act.eval, cutZ, Addr.add]) rfl HL0.out.symm OA.out IA.out sA hlb ?_; intro A5 cap5 w5 own5 g5 r5; have b5 := hide (OA.out.grownBelow g5 sA); have B5 := hide (BA.out.trans (b5.out.mono (Nat.le_succ _))); have X5 := hide ((b5.out.block w2.heap.size (Nat.lt_succ_self _)).trans YA.out); have ROW := hide (row_low own5); have c50 := cell_of_row _ _ 0 _ _ _ X5.out; have f50 := frozen_of_row _ _ 0 _ _ X5.out; have c51 := cell_of_row _ _ 1 _ _ _ X5.out; have f51 := frozen_of_row _ _ 1 _ _ X5.out; have c52 := cell_of_row _ _ 2 _ _ _ X5.out; have f52 := frozen_of_row _ _ 2 _ _ X5.out; have O5 := hide own5; have z1 := cellB B5.out hgs' c1; have MA := trivial; clear own5 g5 r5 b5))
      · clear hcut2 K2
        have X6 : Hid ((w5.alloc (Obj.cells #[Value.string t, Value.slice A5 l.length cap5, Value.string m] 30)).heap[w5.heap.size]? = some (C3 t A5 l.length cap5 m)) := hide (heap_alloc_new w5 _)
        have O6 : Hid (ZOwn (w5.alloc (Obj.cells #[Value.string t, Value.slice A5 l.length cap5, Value.string m] 30)) w2.heap.size A5 cap5 l) := hide (O5.out.alloc _)
        have B6 : Hid (Below w2.heap.size w2 (w5.alloc (Obj.cells #[Value.string t, Value.slice A5 l.length cap5, Value.string m] 30))) := hide (B5.out.alloc B5.out.size _)
        have hcb : w2.heap.size ≤ w5.heap.size := B5.out.size
        have S6 : w5.heap.size < (w5.alloc (Obj.cells #[Value.string t, Value.slice A5 l.length cap5, Value.string m] 30)).heap.size := (Array.getElem?_eq_some_iff.1 X6.out).1
        generalize (w5.alloc (Obj.cells #[Value.string t, Value.slice A5 l.length cap5, Value.string m] 30)) = w6 at *
        generalize hcbe : w5.heap.size = cb at *
        clear B5 O5 ROW z1 OC OB OA IC IB IA BC BB BA BA1 YA YB sA sB
        have c60 := cell_of_row _ _ 0 _ _ _ X6.out
        have c61 := cell_of_row _ _ 1 _ _ _ X6.out
        have c62 := cell_of_row _ _ 2 _ _ _ X6.out
        go_wp2_with fail
        refine (specCommitText_any t m A5 l cap5 w6 (hszp.out t (by simp)) (by unfold maxLen; omega) (by rw [HL0.out]; unfold maxLen; omega) ⟨fun i hi => hszp.out _ (List.mem_cons_of_mem _ (List.mem_cons_of_mem _ (List.getElem_mem hi))), O6.out.zin⟩).mono ?_
        rintro e w7 ⟨rfl, b7⟩
        have X7 := hide ((b7.block cb (by have := S6; omega)).trans X6.out)
        have G7 := hide ((b7.block w.heap.size (by have := S6; omega)).trans ((B6.out.block w.heap.size (by omega)).trans X2.out))
        have B7 := hide (B6.out.trans (b7.mono (by have := S6; have := B6.out.size; omega)))
        have O7 := hide (O6.out.below b7)
        clear b7 X6 B6 O6 c60 c61 c62 g0 g1 g2 k0 k1 k2 X2
        have c70 := cell_of_row _ _ 0 _ _ _ X7.out
        have c71 := cell_of_row _ _ 1 _ _ _ X7.out
        have c72 := cell_of_row _ _ 2 _ _ _ X7.out
        have g0 := cell_of_row _ _ 0 _ _ _ G7.out
        have g1 := cell_of_row _ _ 1 _ _ _ G7.out
        have g2 := cell_of_row _ _ 2 _ _ _ G7.out
        have k0 := frozen_of_row _ _ 0 _ _ G7.out
        have k1 := frozen_of_row _ _ 1 _ _ G7.out
        have k2 := frozen_of_row _ _ 2 _ _ G7.out
        by_cases hT : comTextS t l m = s
        · obtain ⟨e1, e2⟩ := rd_yes (com_text HC.out hT)
          have E := eqS_yes hT
          have RR := hide (show RetCom s w (.returned (.tuple #[.agg #[.string t, .slice A5 l.length cap5, .string m], .bool true])) (((w7.setCell ⟨w.heap.size, 0, none⟩ (.string t)).setCell ⟨w.heap.size, 1, none⟩ (.slice A5 l.length cap5)).setCell ⟨w.heap.size, 2, none⟩ (.string m)) from
            ⟨A5, cap5, by rw [e2, e1], by rw [e2]; exact (own3 O7.out (fun h => by have := (O7.out.row _ h).1; omega)).more (by omega), bel3 (B2.out.trans (B7.out.mono (by omega))) (Nat.le_refl _)⟩)
          clear hT e1 e2
          generalize comTextS t l m = cs at *
          generalize l.length = nl at *
          go_wp2
          exact bodyPost_ret (v := .tuple #[.agg #[.string t, .slice A5 nl cap5, .string m], .bool true]) (by simp [results, Tryz.results65, go_sem, g0, g1, g2]) rfl RR.out
        · have E := eqS_no hT
          have N := hide (NO.out (com_text_no HM.out (by rw [hx]; exact HP.out) hT) _ rfl w7 (B7.out.mono (by omega)))
          clear hT
          generalize comTextS t l m = cs at *
          generalize l.length = nl at *
          go_wp2
          exact bodyPost_ret (v := .tuple #[.agg #[.string ByteArray.empty, .slice none 0 0, .string ByteArray.empty], .bool false]) (by simp [results, Tryz.results65, go_sem, g0, g1, g2]; rfl) rfl N.out
      · clear hcut2 K2
        have X6 : Hid (((((w5).setCell ⟨w2.heap.size + 1, 0, none⟩ (Value.string t)).setCell ⟨w2.heap.size + 1, 1, none⟩ (Value.slice A5 l.length cap5)).setCell ⟨w2.heap.size + 1, 2, none⟩ (Value.string m)).heap[w2.heap.size + 1]? = some (C3 t A5 l.length cap5 m)) := hide (put3 X5.out)
        have O6 : Hid (ZOwn ((((w5).setCell ⟨w2.heap.size + 1, 0, none⟩ (Value.string t)).setCell ⟨w2.heap.size + 1, 1, none⟩ (Value.slice A5 l.length cap5)).setCell ⟨w2.heap.size + 1, 2, none⟩ (Value.string m)) w2.heap.size A5 cap5 l) := hide (own3 O5.out ROW.out)
        have B6 : Hid (Below w2.heap.size w2 ((((w5).setCell ⟨w2.heap.size + 1, 0, none⟩ (Value.string t)).setCell ⟨w2.heap.size + 1, 1, none⟩ (Value.slice A5 l.length cap5)).setCell ⟨w2.heap.size + 1, 2, none⟩ (Value.string m))) := hide (bel3 B5.out (Nat.le_succ _))
        have hcb : w2.heap.size ≤ w2.heap.size + 1 := (Nat.le_succ _)
        have S6 : w2.heap.size + 1 < ((((w5).setCell ⟨w2.heap.size + 1, 0, none⟩ (Value.string t)).setCell ⟨w2.heap.size + 1, 1, none⟩ (Value.slice A5 l.length cap5)).setCell ⟨w2.heap.size + 1, 2, none⟩ (Value.string m)).heap.size := (Array.getElem?_eq_some_iff.1 X6.out).1
        generalize ((((w5).setCell ⟨w2.heap.size + 1, 0, none⟩ (Value.string t)).setCell ⟨w2.heap.size + 1, 1, none⟩ (Value.slice A5 l.length cap5)).setCell ⟨w2.heap.size + 1, 2, none⟩ (Value.string m)) = w6 at *
        generalize hcbe : w2.heap.size + 1 = cb at *
        clear B5 O5 ROW z1 OC OB OA IC IB IA BC BB BA BA1 YA YB sA sB X5 c50 c51 c52 f50 f51 f52
        have c60 := cell_of_row _ _ 0 _ _ _ X6.out
        have c61 := cell_of_row _ _ 1 _ _ _ X6.out
        have c62 := cell_of_row _ _ 2 _ _ _ X6.out
        go_wp2_with fail
        refine (specCommitText_any t m A5 l cap5 w6 (hszp.out t (by simp)) (by unfold maxLen; omega) (by rw [HL0.out]; unfold maxLen; omega) ⟨fun i hi => hszp.out _ (List.mem_cons_of_mem _ (List.mem_cons_of_mem _ (List.getElem_mem hi))), O6.out.zin⟩).mono ?_
        rintro e w7 ⟨rfl, b7⟩
        have X7 := hide ((b7.block cb (by have := S6; omega)).trans X6.out)
        have G7 := hide ((b7.block w.heap.size (by have := S6; omega)).trans ((B6.out.block w.heap.size (by omega)).trans X2.out))
        have B7 := hide (B6.out.trans (b7.mono (by have := S6; have := B6.out.size; omega)))
        have O7 := hide (O6.out.below b7)
        clear b7 X6 B6 O6 c60 c61 c62 g0 g1 g2 k0 k1 k2 X2
        have c70 := cell_of_row _ _ 0 _ _ _ X7.out
        have c71 := cell_of_row _ _ 1 _ _ _ X7.out
        have c72 := cell_of_row _ _ 2 _ _ _ X7.out
        have g0 := cell_of_row _ _ 0 _ _ _ G7.out
        have g1 := cell_of_row _ _ 1 _ _ _ G7.out
        have g2 := cell_of_row _ _ 2 _ _ _ G7.out
        have k0 := frozen_of_row _ _ 0 _ _ G7.out
        have k1 := frozen_of_row _ _ 1 _ _ G7.out
        have k2 := frozen_of_row _ _ 2 _ _ G7.out
        by_cases hT : comTextS t l m = s
        · obtain ⟨e1, e2⟩ := rd_yes (com_text HC.out hT)
          have E := eqS_yes hT
          have RR := hide (show RetCom s w (.returned (.tuple #[.agg #[.string t, .slice A5 l.length cap5, .string m], .bool true])) (((w7.setCell ⟨w.heap.size, 0, none⟩ (.string t)).setCell ⟨w.heap.size, 1, none⟩ (.slice A5 l.length cap5)).setCell ⟨w.heap.size, 2, none⟩ (.string m)) from
            ⟨A5, cap5, by rw [e2, e1], by rw [e2]; exact (own3 O7.out (fun h => by have := (O7.out.row _ h).1; omega)).more (by omega), bel3 (B2.out.trans (B7.out.mono (by omega))) (Nat.le_refl _)⟩)
          clear hT e1 e2
          generalize comTextS t l m = cs at *
          generalize l.length = nl at *
          go_wp2
          exact bodyPost_ret (v := .tuple #[.agg #[.string t, .slice A5 nl cap5, .string m], .bool true]) (by simp [results, Tryz.results65, go_sem, g0, g1, g2]) rfl RR.out
        · have E := eqS_no hT
          have N := hide (NO.out (com_text_no HM.out (by rw [hx]; exact HP.out) hT) _ rfl w7 (B7.out.mono (by omega)))
          clear hT
          generalize comTextS t l m = cs at *
          generalize l.length = nl at *
          go_wp2
          exact bodyPost_ret (v := .tuple #[.agg #[.string ByteArray.empty, .slice none 0 0, .string ByteArray.empty], .bool false]) (by simp [results, Tryz.results65, go_sem, g0, g1, g2]; rfl) rfl N.out
      · clear hcut2 K2
        have X6 : Hid (((((w5).setCell ⟨w2.heap.size, 0, none⟩ (Value.string t)).setCell ⟨w2.heap.size, 1, none⟩ (Value.slice A5 l.length cap5)).setCell ⟨w2.heap.size, 2, none⟩ (Value.string m)).heap[w2.heap.size]? = some (C3 t A5 l.length cap5 m)) := hide (put3 X5.out)
        have O6 : Hid (ZOwn ((((w5).setCell ⟨w2.heap.size, 0, none⟩ (Value.string t)).setCell ⟨w2.heap.size, 1, none⟩ (Value.slice A5 l.length cap5)).setCell ⟨w2.heap.size, 2, none⟩ (Value.string m)) (w2.heap.size + 1) A5 cap5 l) := hide (own3 O5.out ROW.out)
        have B6 : Hid (Below w2.heap.size w2 ((((w5).setCell ⟨w2.heap.size, 0, none⟩ (Value.string t)).setCell ⟨w2.heap.size, 1, none⟩ (Value.slice A5 l.length cap5)).setCell ⟨w2.heap.size, 2, none⟩ (Value.string m))) := hide (bel3 B5.out (Nat.le_refl _))
        have hcb : w2.heap.size ≤ w2.heap.size := (Nat.le_refl _)
        have S6 : w2.heap.size < ((((w5).setCell ⟨w2.heap.size, 0, none⟩ (Value.string t)).setCell ⟨w2.heap.size, 1, none⟩ (Value.slice A5 l.length cap5)).setCell ⟨w2.heap.size, 2, none⟩ (Value.string m)).heap.size := (Array.getElem?_eq_some_iff.1 X6.out).1
        generalize ((((w5).setCell ⟨w2.heap.size, 0, none⟩ (Value.string t)).setCell ⟨w2.heap.size, 1, none⟩ (Value.slice A5 l.length cap5)).setCell ⟨w2.heap.size, 2, none⟩ (Value.string m)) = w6 at *
        generalize hcbe : w2.heap.size = cb at *
        clear B5 O5 ROW z1 OC OB OA IC IB IA BC BB BA BA1 YA YB sA sB X5 c50 c51 c52 f50 f51 f52
        have c60 := cell_of_row _ _ 0 _ _ _ X6.out
        have c61 := cell_of_row _ _ 1 _ _ _ X6.out
        have c62 := cell_of_row _ _ 2 _ _ _ X6.out
        go_wp2_with fail
        refine (specCommitText_any t m A5 l cap5 w6 (hszp.out t (by simp)) (by unfold maxLen; omega) (by rw [HL0.out]; unfold maxLen; omega) ⟨fun i hi => hszp.out _ (List.mem_cons_of_mem _ (List.mem_cons_of_mem _ (List.getElem_mem hi))), O6.out.zin⟩).mono ?_
        rintro e w7 ⟨rfl, b7⟩
        have X7 := hide ((b7.block cb (by have := S6; omega)).trans X6.out)
        have G7 := hide ((b7.block w.heap.size (by have := S6; omega)).trans ((B6.out.block w.heap.size (by omega)).trans X2.out))
        have B7 := hide (B6.out.trans (b7.mono (by have := S6; have := B6.out.size; omega)))
        have O7 := hide (O6.out.below b7)
        clear b7 X6 B6 O6 c60 c61 c62 g0 g1 g2 k0 k1 k2 X2
        have c70 := cell_of_row _ _ 0 _ _ _ X7.out
        have c71 := cell_of_row _ _ 1 _ _ _ X7.out
        have c72 := cell_of_row _ _ 2 _ _ _ X7.out
        have g0 := cell_of_row _ _ 0 _ _ _ G7.out
        have g1 := cell_of_row _ _ 1 _ _ _ G7.out
        have g2 := cell_of_row _ _ 2 _ _ _ G7.out
        have k0 := frozen_of_row _ _ 0 _ _ G7.out
        have k1 := frozen_of_row _ _ 1 _ _ G7.out
        have k2 := frozen_of_row _ _ 2 _ _ G7.out
        by_cases hT : comTextS t l m = s
        · obtain ⟨e1, e2⟩ := rd_yes (com_text HC.out hT)
          have E := eqS_yes hT
          have RR := hide (show RetCom s w (.returned (.tuple #[.agg #[.string t, .slice A5 l.length cap5, .string m], .bool true])) (((w7.setCell ⟨w.heap.size, 0, none⟩ (.string t)).setCell ⟨w.heap.size, 1, none⟩ (.slice A5 l.length cap5)).setCell ⟨w.heap.size, 2, none⟩ (.string m)) from
            ⟨A5, cap5, by rw [e2, e1], by rw [e2]; exact (own3 O7.out (fun h => by have := (O7.out.row _ h).1; omega)).more (by omega), bel3 (B2.out.trans (B7.out.mono (by omega))) (Nat.le_refl _)⟩)
          clear hT e1 e2
          generalize comTextS t l m = cs at *
          generalize l.length = nl at *
          go_wp2
          exact bodyPost_ret (v := .tuple #[.agg #[.string t, .slice A5 nl cap5, .string m], .bool true]) (by simp [results, Tryz.results65, go_sem, g0, g1, g2]) rfl RR.out
        · have E := eqS_no hT
          have N := hide (NO.out (com_text_no HM.out (by rw [hx]; exact HP.out) hT) _ rfl w7 (B7.out.mono (by omega)))
          clear hT
          generalize comTextS t l m = cs at *
          generalize l.length = nl at *
          go_wp2
          exact bodyPost_ret (v := .tuple #[.agg #[.string ByteArray.empty, .slice none 0 0, .string ByteArray.empty], .bool false]) (by simp [results, Tryz.results65, go_sem, g0, g1, g2]; rfl) rfl N.out
end Go.Proofs.YtdahpnjamlfakaaGreatDoor
/-
  What the rows' lists of package-level variables give where the digest's tables and the reader's sentinel stand together.
-/
namespace Go.Proofs.YtdahpnjamlfakaaGreatDoor
open Go.ChangeShapes Go.WideShapes Go.ChangeAt Go.RowKit

theorem gErr : Tryz.prog.globalNamed "loop.example/g00652/impl.errNoCommit" = some 0 := by kernel_rfl
theorem tErr : (Tryz.prog.globals[0]?).map (·.type) = some 119 := by kernel_rfl
theorem star : ("*" ++ "errors.errorString" : String) = "*errors.errorString" := by decide
theorem strRow (u : TypeId) (h : Tryz.prog.typeName? 3 u = some "*errors.errorString") : u = 205 :=
  typeName_ptr_named (nm := "errors.errorString") (by rw [star]; kernel_rfl) (by kernel_rfl) (by decide) u (by rw [star]; exact h)
theorem cellsE : Tryz.prog.cellsOf 219 = 1 := by kernel_rfl
theorem cellsS : Tryz.prog.cellsOf 9 = 1 := by kernel_rfl
theorem errs_in {W : World} {t : List UInt8} {r : List (String × DataW Unit)} (h : laidMet Tryz.prog (("loop.example/g00652/impl.errNoCommit", .iface "*errors.errorString" (.ptr (.agg [.lit (.string t)]))) :: r) W) :
    ∃ a, ErrC W a ∧ W.var? Tryz.prog "loop.example/g00652/impl.errNoCommit" = some #[.iface 205 (.pointer (some a))] := by
  obtain ⟨a, s, hv, _, _, _⟩ := laid_sentinel h gErr tErr Tryz.underlying119 strRow Tryz.underlying205 Tryz.underlying219 rfl rfl Tryz.underlying9 cellsE cellsS
  exact ⟨a, ⟨by simpa using World.var?_cell gErr hv 0, var_lt gErr hv⟩, hv⟩
theorem laid_tail {P : Program} {x : String × DataW Unit} {r : List (String × DataW Unit)} {W : World} (h : laidMet P (x :: r) W) : laidMet P r W := by
  obtain ⟨ps, ⟨g, t, cs, fuel, p, q, _, _, _, _, h5, e⟩, hnd, hrows⟩ := h
  subst e
  exact ⟨q, h5, List.Nodup.sublist (List.sublist_append_right _ _) hnd, fun b off hm => hrows b off (List.mem_append_right _ hm)⟩
theorem vars_stayE {H : Type} {enc : TypeId × Value → H} (hl : laidOutB Tryz.prog = true) {W W' : World} (hb : Below W.heap.size W W') {a : Addr} (hv : W.var? Tryz.prog "loop.example/g00652/impl.errNoCommit" = some #[.iface 205 (.pointer (some a))]) : ∀ {ns : List String} {gs : List (DataW H)} {ps : List MemPlace},
    (∀ n ∈ ns, n = "loop.example/g00652/impl.errNoCommit" ∨ ∀ g t, Tryz.prog.globalNamed n = some g → (Tryz.prog.globals[g]?).map (·.type) = some t → Tryz.prog.readableRec t = true ∧ t < Tryz.prog.types.size) →
    DataW.TrodVars enc Tryz.prog W (fun _ => true) ns gs ps → DataW.TrodVars enc Tryz.prog W' (fun b => decide (b < W.heap.size)) ns gs ps
  | [], [], _, _, h => h
  | n :: ns, d :: ds, ps, hr, h => by
    obtain ⟨g, t, cs, fuel, p, q, h1, h2, h3, h4, h5, h6⟩ := h
    have ih := vars_stayE hl hb hv (fun n' hn' => hr n' (List.mem_cons_of_mem _ hn')) h5
    rcases hr n (List.mem_cons_self ..) with rfl | r
    · obtain rfl := Option.some.inj (gErr.symm.trans h1)
      obtain rfl := Option.some.inj (tErr.symm.trans h2)
      obtain rfl := Option.some.inj (hv.symm.trans h3)
      have u := DataW.TrodVars.unique (show DataW.TrodVars enc Tryz.prog W (fun _ => true) ["loop.example/g00652/impl.errNoCommit"] [d] _ from ⟨_, _, _, fuel, p, [], h1, h2, h3, h4, rfl, rfl⟩) (vars_read1 enc gErr tErr Tryz.underlying119 hv trivial _)
      obtain ⟨e1, e2⟩ := u
      obtain rfl := (List.cons.inj e1).1
      have e3 : p = [] := by
        have := congrArg List.length e2
        simp [MemPlace.row] at this
        exact this
      subst e3
      exact ⟨_, _, _, 1, [], q, h1, h2, var?_below hb gErr (var_lt gErr hv) hv, trod_held Tryz.underlying119 (v := .iface 205 (.pointer (some a))) trivial 0, ih, h6⟩
    · obtain ⟨r1, r2⟩ := r g t h1 h2
      have ht : DataW.Trod enc Tryz.prog W 0 (fun _ => true) true t (.agg cs) d p := ⟨fuel, h4⟩
      obtain ⟨fuel', h4'⟩ := Below.trod hl r1 r2 ht hb (DataW.trod_lt fuel _ _ _ h4)
      exact ⟨g, t, cs, fuel', p, q, h1, h2, var?_below hb h1 (var_lt h1 h3) h3, h4', ih, h6⟩
  | [], _ :: _, _, _, h => h.elim
  | _ :: _, [], _, _, h => h.elim
/-- the variables' blocks with what their initialisers lay -/
def layAllE (w : World) : World := { w with heap := (((w.heap.modify 1 (relay (fTab.map (Value.int .u32)).toArray)).modify 2 (relay (kTab.map (Value.int .u32)).toArray)).modify 0 (relay #[.iface 205 (.pointer (some ⟨w.heap.size, 0, none⟩))])).push (.cells #[.string ⟨#[116, 104, 101, 32, 116, 101, 120, 116, 32, 105, 115, 32, 110, 111, 32, 99, 111, 109, 109, 105, 116, 39, 115]⟩] 219) }
end Go.Proofs.YtdahpnjamlfakaaGreatDoor
/-
  What impl.CommitAt and spec.CommitAt answer.
-/
namespace Go.Proofs.YtdahpnjamlfakaaGreatDoor
open Go.RowKit

theorem com_empty : ¬ ∃ c, isCom ByteArray.empty c := no_start (fun ⟨r, h⟩ => by
  have := congrArg List.length h
  simp [comW] at this)
theorem find_zero {l : List Pr} {k : ByteArray} (h : findB l k = false) : findV l k = ByteArray.empty := by
  cases ho : objsB l
  · exact findV_no ho
  · rw [findV_yes ho]
    rw [findB_yes ho] at h
    exact valOf_no h
theorem find_size (l : List Pr) (k : ByteArray) : (findV l k).size ≤ 2000 := by
  cases ho : objsB l
  · rw [findV_no ho]; simp
  · rw [findV_yes ho]
    cases hb : hasB l k
    · rw [valOf_no hb]; simp
    · obtain ⟨hlt, he⟩ := hasB_iff.1 hb
      rw [valOf_yes hlt he]
      exact ((objsB_iff.1 ho).2.1 _ hlt hlt).1

set_option maxRecDepth 100000 in
set_option maxHeartbeats 1000000 in
theorem implCommitAt_any (A : Option Addr) (l : List Pr) (cap : Nat) (key : ByteArray) (a : Addr) (w : World) (hk : key.size ≤ maxLen) (hl : l.length ≤ maxLen) (hin : PIn w w.heap.size A l) (hT : Tabs w) (hE : ErrC w a) :
    Calls Tryz.prog 12 #[.slice A l.length cap, .string key] w (RetCom (findV l key) w) := by
  have b0 := (Below.refl w.heap.size w).alloc (Nat.le_refl _) (.cells #[.string ByteArray.empty, .slice none 0 0, .string ByteArray.empty] 30)
  have B0 := hide b0
  have X0 : Hid ((w.alloc (.cells #[.string ByteArray.empty, .slice none 0 0, .string ByteArray.empty] 30)).heap[w.heap.size]? = some (C3 ByteArray.empty none 0 0 ByteArray.empty)) := hide (heap_alloc_new w _)
  have S0 : Hid ((w.alloc (.cells #[.string ByteArray.empty, .slice none 0 0, .string ByteArray.empty] 30)).heap.size = w.heap.size + 1) := hide (by simp)
  have T0 := hide (hT.below b0 hT.1)
  have E0 := hide (hE.below b0)
  have IN := hide ((hin.below b0).more b0.size)
  have F := hide (implFind_any A l cap key _ hk hl IN.out T0.out)
  have Z := hide (fun h => find_zero (l := l) (k := key) h)
  have hz := find_size l key
  clear b0 hin hT hE
  generalize hn : l.length = n at *
  go_enter Tryz.func12, Tryz.ntmps12
  go_wp2_with fail
  refine F.out.mono ?_
  rintro e w1 ⟨rfl, b1⟩
  have B1 := hide (B0.out.trans (b1.mono B0.out.size))
  have X1 := hide ((b1.block w.heap.size (by rw [S0.out]; omega)).trans X0.out)
  have E1 := hide (E0.out.below b1)
  have hs1 : w.heap.size + 1 ≤ w1.heap.size := by have := b1.size; rw [S0.out] at this; exact this
  clear b1 F T0 E0 IN B0 X0 S0
  cases hb : findB l key
  · have ZE := hide (Z.out hb)
    have g0 := cell_of_row _ _ 0 _ _ _ X1.out
    have g1 := cell_of_row _ _ 1 _ _ _ X1.out
    have g2 := cell_of_row _ _ 2 _ _ _ X1.out
    have k0 := frozen_of_row _ _ 0 _ _ X1.out
    have k1 := frozen_of_row _ _ 1 _ _ X1.out
    have k2 := frozen_of_row _ _ 2 _ _ X1.out
    have N : Hid (RetCom (findV l key) w (.returned (.tuple #[.agg #[.string ByteArray.empty, .slice none 0 0, .string ByteArray.empty], .bool false])) (((w1.setCell ⟨w.heap.size, 0, none⟩ (.string ByteArray.empty)).setCell ⟨w.heap.size, 1, none⟩ (.slice none 0 0)).setCell ⟨w.heap.size, 2, none⟩ (.string ByteArray.empty))) := hide (by
      rw [ZE.out]
      obtain ⟨e1, e2⟩ := rd_no com_empty
      exact ⟨none, 0, by rw [e2, e1]; rfl, by rw [e2]; exact ZOwn.nil _ _, ((B1.out.setCell (p := ⟨w.heap.size, 0, none⟩) (Nat.le_refl _) _).setCell (p := ⟨w.heap.size, 1, none⟩) (Nat.le_refl _) _).setCell (p := ⟨w.heap.size, 2, none⟩) (Nat.le_refl _) _⟩)
    generalize findV l key = t at *
    go_wp2
    exact bodyPost_ret (v := .tuple #[.agg #[.string ByteArray.empty, .slice none 0 0, .string ByteArray.empty], .bool false]) (by simp [results, Tryz.results12, go_sem, g0, g1, g2]; rfl) rfl N.out
  · generalize findV l key = t at *
    go_wp2_with fail
    refine (implReadCommit_any t a w1 (by unfold maxLen; omega) E1.out).mono ?_
    rintro e w2 ⟨A2, cap2, rfl, own2, b2⟩
    have X2 := hide ((b2.block w.heap.size (by omega)).trans X1.out)
    have B2 := hide (B1.out.trans (b2.mono (by omega)))
    have r2 := own2.row
    have O2 := hide own2
    have g0 := cell_of_row _ _ 0 _ _ _ X2.out
    have g1 := cell_of_row _ _ 1 _ _ _ X2.out
    have g2 := cell_of_row _ _ 2 _ _ _ X2.out
    have k0 := frozen_of_row _ _ 0 _ _ X2.out
    have k1 := frozen_of_row _ _ 1 _ _ X2.out
    have k2 := frozen_of_row _ _ 2 _ _ X2.out
    clear own2 b2
    have N : Hid (RetCom t w (.returned (.tuple #[.agg #[.string (rdC t).1, .slice A2 (rdC t).2.1.length cap2, .string (rdC t).2.2], .bool (rdOk t)])) (((w2.setCell ⟨w.heap.size, 0, none⟩ (.string (rdC t).1)).setCell ⟨w.heap.size, 1, none⟩ (.slice A2 (rdC t).2.1.length cap2)).setCell ⟨w.heap.size, 2, none⟩ (.string (rdC t).2.2))) := hide (by
      refine ⟨A2, cap2, rfl, ?_, ((B2.out.setCell (p := ⟨w.heap.size, 0, none⟩) (Nat.le_refl _) _).setCell (p := ⟨w.heap.size, 1, none⟩) (Nat.le_refl _) _).setCell (p := ⟨w.heap.size, 2, none⟩) (Nat.le_refl _) _⟩
      have hne : rowOf A2 ≠ some w.heap.size := fun e => by have := (r2 _ e).1; omega
      have gs : ∀ (W : World) (o : Nat) (v : Value), W.grownBy (W.setCell ⟨w.heap.size, o, none⟩ v) (some w.heap.size) := fun W o v => ⟨rfl, rfl, rfl, by simp [World.setCell], fun k _ hk => Below.heap_setCell W ⟨w.heap.size, o, none⟩ v k (fun e => hk (by rw [e]))⟩
      exact ((((O2.out.kept (gs _ _ _) hne).kept (gs _ _ _) hne).kept (gs _ _ _) hne)).more (by omega))
    generalize (rdC t).1 = c1 at *
    generalize (rdC t).2.2 = c3 at *
    generalize (rdC t).2.1.length = c2 at *
    generalize rdOk t = ok at *
    go_wp2
    exact bodyPost_ret (v := .tuple #[.agg #[.string c1, .slice A2 c2 cap2, .string c3], .bool ok]) (by simp [results, Tryz.results12, go_sem, g0, g1, g2]) rfl N.out
set_option maxRecDepth 100000 in
set_option maxHeartbeats 1000000 in
theorem specCommitAt_any (A : Option Addr) (l : List Pr) (cap : Nat) (key : ByteArray) (w : World) (hl : l.length ≤ maxLen) (hin : PIn w w.heap.size A l) :
    Calls Tryz.prog 120 #[.slice A l.length cap, .string key] w (RetCom (findV l key) w) := by
  have b0 := (Below.refl w.heap.size w).alloc (Nat.le_refl _) (.cells #[.string ByteArray.empty, .slice none 0 0, .string ByteArray.empty] 30)
  have B0 := hide b0
  have X0 : Hid ((w.alloc (.cells #[.string ByteArray.empty, .slice none 0 0, .string ByteArray.empty] 30)).heap[w.heap.size]? = some (C3 ByteArray.empty none 0 0 ByteArray.empty)) := hide (heap_alloc_new w _)
  have S0 : Hid ((w.alloc (.cells #[.string ByteArray.empty, .slice none 0 0, .string ByteArray.empty] 30)).heap.size = w.heap.size + 1) := hide (by simp)
  have IN := hide ((hin.below b0).more b0.size)
  have F := hide (specFind_any A l cap key _ hl IN.out)
  have Z := hide (fun h => find_zero (l := l) (k := key) h)
  have hz := find_size l key
  clear b0 hin
  generalize hn : l.length = n at *
  go_enter Tryz.func120, Tryz.ntmps120
  go_wp2_with fail
  refine F.out.mono ?_
  rintro e w1 ⟨rfl, b1⟩
  have B1 := hide (B0.out.trans (b1.mono B0.out.size))
  have X1 := hide ((b1.block w.heap.size (by rw [S0.out]; omega)).trans X0.out)
  have hs1 : w.heap.size + 1 ≤ w1.heap.size := by have := b1.size; rw [S0.out] at this; exact this
  clear b1 F IN B0 X0 S0
  cases hb : findB l key
  · have ZE := hide (Z.out hb)
    have g0 := cell_of_row _ _ 0 _ _ _ X1.out
    have g1 := cell_of_row _ _ 1 _ _ _ X1.out
    have g2 := cell_of_row _ _ 2 _ _ _ X1.out
    have k0 := frozen_of_row _ _ 0 _ _ X1.out
    have k1 := frozen_of_row _ _ 1 _ _ X1.out
    have k2 := frozen_of_row _ _ 2 _ _ X1.out
    have N : Hid (RetCom (findV l key) w (.returned (.tuple #[.agg #[.string ByteArray.empty, .slice none 0 0, .string ByteArray.empty], .bool false])) (((w1.setCell ⟨w.heap.size, 0, none⟩ (.string ByteArray.empty)).setCell ⟨w.heap.size, 1, none⟩ (.slice none 0 0)).setCell ⟨w.heap.size, 2, none⟩ (.string ByteArray.empty))) := hide (by
      rw [ZE.out]
      obtain ⟨e1, e2⟩ := rd_no com_empty
      exact ⟨none, 0, by rw [e2, e1]; rfl, by rw [e2]; exact ZOwn.nil _ _, ((B1.out.setCell (p := ⟨w.heap.size, 0, none⟩) (Nat.le_refl _) _).setCell (p := ⟨w.heap.size, 1, none⟩) (Nat.le_refl _) _).setCell (p := ⟨w.heap.size, 2, none⟩) (Nat.le_refl _) _⟩)
    generalize findV l key = t at *
    go_wp2
    exact bodyPost_ret (v := .tuple #[.agg #[.string ByteArray.empty, .slice none 0 0, .string ByteArray.empty], .bool false]) (by simp [results, Tryz.results120, go_sem, g0, g1, g2]; rfl) rfl N.out
  · generalize findV l key = t at *
    go_wp2_with fail
    refine (specReadCommit_any t w1 (by omega)).mono ?_
    rintro e w2 ⟨A2, cap2, rfl, own2, b2⟩
    have X2 := hide ((b2.block w.heap.size (by omega)).trans X1.out)
    have B2 := hide (B1.out.trans (b2.mono (by omega)))
    have r2 := own2.row
    have O2 := hide own2
    have g0 := cell_of_row _ _ 0 _ _ _ X2.out
    have g1 := cell_of_row _ _ 1 _ _ _ X2.out
    have g2 := cell_of_row _ _ 2 _ _ _ X2.out
    have k0 := frozen_of_row _ _ 0 _ _ X2.out
    have k1 := frozen_of_row _ _ 1 _ _ X2.out
    have k2 := frozen_of_row _ _ 2 _ _ X2.out
    clear own2 b2
    have N : Hid (RetCom t w (.returned (.tuple #[.agg #[.string (rdC t).1, .slice A2 (rdC t).2.1.length cap2, .string (rdC t).2.2], .bool (rdOk t)])) (((w2.setCell ⟨w.heap.size, 0, none⟩ (.string (rdC t).1)).setCell ⟨w.heap.size, 1, none⟩ (.slice A2 (rdC t).2.1.length cap2)).setCell ⟨w.heap.size, 2, none⟩ (.string (rdC t).2.2))) := hide (by
      refine ⟨A2, cap2, rfl, ?_, ((B2.out.setCell (p := ⟨w.heap.size, 0, none⟩) (Nat.le_refl _) _).setCell (p := ⟨w.heap.size, 1, none⟩) (Nat.le_refl _) _).setCell (p := ⟨w.heap.size, 2, none⟩) (Nat.le_refl _) _⟩
      have hne : rowOf A2 ≠ some w.heap.size := fun e => by have := (r2 _ e).1; omega
      have gs : ∀ (W : World) (o : Nat) (v : Value), W.grownBy (W.setCell ⟨w.heap.size, o, none⟩ v) (some w.heap.size) := fun W o v => ⟨rfl, rfl, rfl, by simp [World.setCell], fun k _ hk => Below.heap_setCell W ⟨w.heap.size, o, none⟩ v k (fun e => hk (by rw [e]))⟩
      exact ((((O2.out.kept (gs _ _ _) hne).kept (gs _ _ _) hne).kept (gs _ _ _) hne)).more (by omega))
    generalize (rdC t).1 = c1 at *
    generalize (rdC t).2.2 = c3 at *
    generalize (rdC t).2.1.length = c2 at *
    generalize rdOk t = ok at *
    go_wp2
    exact bodyPost_ret (v := .tuple #[.agg #[.string c1, .slice A2 c2 cap2, .string c3], .bool ok]) (by simp [results, Tryz.results120, go_sem, g0, g1, g2]) rfl N.out
end Go.Proofs.YtdahpnjamlfakaaGreatDoor
