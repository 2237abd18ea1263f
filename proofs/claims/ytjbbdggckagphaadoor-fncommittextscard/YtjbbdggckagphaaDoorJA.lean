/-
  Texts that this proof leans on, joined: JA.
-/
import Derived.Test.YtjbbdggckagphaaDoorChecked
import Derived.Test.YtjbbdggckagphaaDoorPMath
import Derived.WalkKit
import Derived.WalkLawsBesides
import Derived.Lib.Hide
import Derived.Test.YtjbbdggckagphaaDoorPCell
import Derived.Maps.AppendAt
import Derived.Deep.RegionLaw
import Derived.Deep.Slices
import Derived.OwnWalk
import Derived.IntWalk
import Derived.BigQuiet
import Derived.Laws.Rows
import Derived.Laws.Tables
import Derived.ProofKit
import Derived.Lib.IndexLaws
import Derived.Lib.Bytealg
/-
  What walks over texts import.
-/

/-
  What the functions on single texts answer: spec.l1Key, spec.l1Plain, impl.keyOk, impl.valOk, impl.printable (with isLetter, isDigit).
-/
namespace Go.Proofs.YtjbbdggckagphaaDoor
open Go.RowKit


set_option maxRecDepth 100000 in
set_option maxHeartbeats 1000000 in
theorem l1Plain_any (s : ByteArray) (most : Int) (w : World) (hs : s.size ≤ maxLen) :
    Calls Tryd.prog 34 #[.string s, .int .i64 most] w fun e w' => e = .returned (.bool (plainB s most)) ∧ w = w' := by
  unfold maxLen at hs
  go_enter Tryd.func34, Tryd.ntmps34
  go_wp2
  go_loop [5] (fun i => ∃ k : Nat, k ≤ s.size ∧ i = .int .i64 k ∧ Hid (allTo plainC s k)) (fun i => s.size - (intOf i).toNat)
  case atStart => exact ⟨0, Nat.zero_le _, rfl, allTo_zero _ s⟩
  case round =>
    obtain ⟨k, hk, rfl, H⟩ := hrel
    by_cases hlt : k < s.size
    · have hb : (s[k].toNat : Int) < 256 := by have := s[k].toNat_lt; omega
      by_cases h32 : (s[k].toNat : Int) < 32
      · have Z : Hid (plainB s most = false) := hide (okB_bad hlt (plainC_no (.inl (by omega))))
        go_wp2
        go_ret
        exact ⟨ret_bool Z.out.symm, rfl⟩
      · by_cases h126 : 126 < (s[k].toNat : Int)
        · have Z : Hid (plainB s most = false) := hide (okB_bad hlt (plainC_no (.inr (by omega))))
          go_wp2
          go_ret
          exact ⟨ret_bool Z.out.symm, rfl⟩
        · have Z := hide (allTo_succ hlt H.out (plainC_yes (by omega) (by omega)))
          go_wp2
          go_round
          case rel => exact ⟨k + 1, by omega, by go_num, Z⟩
          case measure => simp [intOf]; omega
    · obtain rfl : k = s.size := by omega
      by_cases h8 : (s.size : Int) ≤ most
      · have Z : Hid (plainB s most = true) := hide (okB_yes (by omega) (by omega) H.out)
        have d8 : decide ((s.size : Int) ≤ most) = true := decide_eq_true (by omega)
        go_wp2
        go_ret
        exact ⟨ret_bool Z.out.symm, rfl⟩
      · have Z : Hid (plainB s most = false) := hide (okB_len (by omega))
        have d8 : decide ((s.size : Int) ≤ most) = false := decide_eq_false (by omega)
        go_wp2
        go_ret
        exact ⟨ret_bool Z.out.symm, rfl⟩


set_option maxRecDepth 100000 in
set_option maxHeartbeats 1000000 in
theorem printable_any (s : ByteArray) (most : Int) (w : World) (hs : s.size ≤ maxLen) :
    Calls Tryd.prog 43 #[.string s, .int .i64 most] w fun e w' => e = .returned (.bool (plainB s most)) ∧ w = w' := by
  unfold maxLen at hs
  by_cases h8 : (s.size : Int) ≤ most
  · go_enter Tryd.func43, Tryd.ntmps43
    go_wp2
    go_loop [12] (fun i => ∃ k : Nat, k ≤ s.size ∧ i = .int .i64 k ∧ Hid (allTo plainC s k)) (fun i => s.size - (intOf i).toNat)
    case atStart => exact ⟨0, Nat.zero_le _, rfl, allTo_zero _ s⟩
    case round =>
      obtain ⟨k, hk, rfl, H⟩ := hrel
      by_cases hlt : k < s.size
      · have hb : (s[k].toNat : Int) < 256 := by have := s[k].toNat_lt; omega
        by_cases h32 : (s[k].toNat : Int) < 32
        · have Z : Hid (plainB s most = false) := hide (okB_bad hlt (plainC_no (.inl (by omega))))
          go_wp2
          go_ret
          exact ⟨ret_bool Z.out.symm, rfl⟩
        · by_cases h126 : 126 < (s[k].toNat : Int)
          · have Z : Hid (plainB s most = false) := hide (okB_bad hlt (plainC_no (.inr (by omega))))
            go_wp2
            go_ret
            exact ⟨ret_bool Z.out.symm, rfl⟩
          · have Z := hide (allTo_succ hlt H.out (plainC_yes (by omega) (by omega)))
            go_wp2
            go_round
            case rel => exact ⟨k + 1, by omega, by go_num, Z⟩
            case measure => simp [intOf]; omega
      · obtain rfl : k = s.size := by omega
        have Z : Hid (plainB s most = true) := hide (okB_yes (by omega) (by omega) H.out)
        go_wp2
        go_ret
        exact ⟨ret_bool Z.out.symm, rfl⟩
  · have Z : Hid (plainB s most = false) := hide (okB_len (by omega))
    go_enter Tryd.func43, Tryd.ntmps43
    go_wp2
    go_ret
    exact ⟨ret_bool Z.out.symm, rfl⟩

end Go.Proofs.YtjbbdggckagphaaDoor
/-
  Small words on slices and their rows, for a seat without pairs.
-/
namespace Go.Proofs.YtjbbdggckagphaaDoor
open Go.RowKit
theorem add_pl (b off j : Nat) : (⟨b, off, none⟩ : Addr).add j = ⟨b, off + j, none⟩ := by unfold Addr.add; split <;> simp_all
/-- the row that a slice lies in -/
def rowOf (A : Option Addr) : Option Nat := A.map (·.block)
theorem rowOf_own (A : Option Addr) (n cap : Nat) : (Value.slice A n cap).ownBlock = rowOf A := by cases A <;> rfl
end Go.Proofs.YtjbbdggckagphaaDoor
/-
  Slices of strings: read, copied, compared; what laws.szStringS, laws.toStringS, laws.eqStringS answer.
-/
namespace Go.Proofs.YtjbbdggckagphaaDoor
open Go.RowKit

def slenS (l : List ByteArray) : Prop := ∀ i (h : i < l.length), l[i].size ≤ maxLen
/-- the slice at A reads as the texts l, and lies below block B -/
def SIn (w : World) (B : Nat) (A : Option Addr) (l : List ByteArray) : Prop :=
  slenS l ∧ (0 < l.length → ∃ b off, A = some ⟨b, off, none⟩ ∧ b < B ∧ ∀ i (h : i < l.length), w.cell? ⟨b, off + i, none⟩ = some (.string l[i]))
theorem SIn.below {w w' : World} {B : Nat} {A : Option Addr} {l : List ByteArray} (h : SIn w B A l) (q : Below B w w') : SIn w' B A l :=
  ⟨h.1, fun hp => by
    obtain ⟨b, off, e, hb, hc⟩ := h.2 hp
    exact ⟨b, off, e, hb, fun i hi => (q.cell (p := ⟨b, off + i, none⟩) hb).trans (hc i hi)⟩⟩
theorem SIn.more {w : World} {B B' : Nat} {A : Option Addr} {l : List ByteArray} (h : SIn w B A l) (hB : B ≤ B') : SIn w B' A l :=
  ⟨h.1, fun hp => by obtain ⟨b, off, e, hb, hc⟩ := h.2 hp; exact ⟨b, off, e, by omega, hc⟩⟩
/-- n texts as cells -/
def strsA (f : Nat → ByteArray) (n : Nat) : Array Value := ((List.range n).map fun j => Value.string (f j)).toArray
theorem strsA_size (f : Nat → ByteArray) (n : Nat) : (strsA f n).size = n := by simp [strsA]
theorem strsA_get (f : Nat → ByteArray) {n j : Nat} (h : j < n) : (strsA f n)[j]? = some (.string (f j)) := by simp [strsA, h]
theorem strsA_eq {f : Nat → ByteArray} {n : Nat} {cs : Array Value} (hs : cs.size = n) (h : ∀ j, j < n → cs[j]? = some (.string (f j))) : cs = strsA f n := by
  apply Array.ext_getElem?
  intro j
  by_cases hj : j < n
  · rw [h j hj, strsA_get f hj]
  · rw [Array.getElem?_eq_none (by omega), Array.getElem?_eq_none (by rw [strsA_size]; omega)]
theorem strsA_set (f : Nat → ByteArray) (n k : Nat) (c : ByteArray) : (strsA f n).setIfInBounds k (.string c) = strsA (fun j => if j = k then c else f j) n := by
  refine strsA_eq (by simp [strsA_size]) fun j hj => ?_
  by_cases e : j = k
  · subst e
    rw [Array.getElem?_setIfInBounds_self_of_lt (by rw [strsA_size]; exact hj), if_pos rfl]
  · rw [Array.getElem?_setIfInBounds_ne (by omega), if_neg e, strsA_get f hj]
theorem strsA_congr {f f' : Nat → ByteArray} {n : Nat} (h : ∀ j, j < n → f j = f' j) : strsA f n = strsA f' n := by
  refine strsA_eq (strsA_size f n) fun j hj => ?_
  rw [strsA_get f hj, h j hj]
/-- the first k texts of l, nothing behind them -/
def cutF (l : List ByteArray) (k : Nat) : Nat → ByteArray := fun j => if j < k then l.getD j ByteArray.empty else ByteArray.empty
theorem cutF_step (l : List ByteArray) (n k : Nat) (hk : k < l.length) : strsA (cutF l (k + 1)) n = (strsA (cutF l k) n).setIfInBounds k (.string l[k]) := by
  rw [strsA_set]
  refine strsA_congr fun j hj => ?_
  unfold cutF
  by_cases e : j = k
  · subst e; rw [if_pos (by omega), if_pos rfl]; simp [hk]
  · rw [if_neg e]
    by_cases h' : j < k
    · rw [if_pos (by omega), if_pos h']
    · rw [if_neg (by omega), if_neg h']
/-- a block that holds the texts l reads as them -/
theorem SIn.row {w : World} {g B : Nat} {l : List ByteArray} {t : TypeId} {fr : Nat × Nat} (hl : slenS l) (hB : g < B) (h : w.heap[g]? = some (.cells (strsA (cutF l l.length) l.length) t fr)) : SIn w B (some ⟨g, 0, none⟩) l :=
  ⟨hl, fun _ => ⟨g, 0, rfl, hB, fun i hi => by
    rw [Nat.zero_add, cell_of_row w g i _ t fr h, strsA_get _ hi]
    unfold cutF
    rw [if_pos hi]
    simp [hi]⟩⟩

theorem infoS1 : (Tryd.prog.info? 9).map (fun i => (i.zero, i.size, i.bytes)) = some (some (.string ByteArray.empty), 1, 16) := by kernel_rfl
theorem made_strs (n : Nat) : madeCells #[.string ByteArray.empty] n = strsA (fun _ => ByteArray.empty) n := by
  refine strsA_eq (size_madeCells _ _) fun j hj => ?_
  simp [madeCells, hj, Nat.mod_one]
theorem run_mks (w : World) (n : Nat) (hn : n ≤ 1048576) : (Instr.makeSlice 24 (.int .i64 (n : Int)) (.int .i64 (n : Int))).run Tryd.prog w = .ok (.slice (some ⟨w.heap.size, 0, none⟩) n n) (w.alloc (.cells (strsA (fun _ => ByteArray.empty) n) 9)) := by
  obtain ⟨i, hi, hz0, hz1, hz2⟩ := info_parts infoS1
  have h := run_make (P := Tryd.prog) w 24 9 i _ Tryd.underlying24 hi hz0 .i64 .i64 (n : Int) (n : Int) (by omega) (by omega) (by rw [hz2]; omega) (by omega)
  rw [hz1, Int.toNat_natCast, Nat.mul_one] at h
  rw [h, ← made_strs]
  rfl

/-- what szStringS leaves: -1, or what is left -/
def SzS (n : Nat) (left : Int) (w : World) (e : Ending) (w' : World) : Prop := (e = .returned (.int .i64 (-1)) ∨ ∃ r : Int, 0 ≤ r ∧ r + n ≤ left ∧ e = .returned (.int .i64 r)) ∧ w = w'

end Go.Proofs.YtjbbdggckagphaaDoor
/-
  What both packages' IdOk give: sixteen digits or not.
-/
namespace Go.Proofs.YtjbbdggckagphaaDoor.QI
open Go.RowKit

/-- one digit 0 .. 9, a .. f -/
def hexI (c : Int) : Bool := (decide (97 ≤ c) && decide (c ≤ 102)) || (decide (48 ≤ c) && decide (c ≤ 57))
theorem hexI_yes {c : Int} (h : (97 ≤ c ∧ c ≤ 102) ∨ (48 ≤ c ∧ c ≤ 57)) : hexI c = true := by
  unfold hexI; rcases h with ⟨a, b⟩ | ⟨a, b⟩ <;> simp [a, b]
theorem hexI_no {c : Int} (h : (c < 97 ∨ 102 < c) ∧ (c < 48 ∨ 57 < c)) : hexI c = false := by
  unfold hexI; obtain ⟨a, b⟩ := h; rw [Bool.or_eq_false_iff, Bool.and_eq_false_iff, Bool.and_eq_false_iff]; simp; omega

/-- the first k bytes are such digits -/
def hexTo (s : ByteArray) (k : Nat) : Prop := ∀ j (h : j < s.size), j < k → hexI (s[j].toNat : Int) = true
theorem hexTo_zero (s : ByteArray) : hexTo s 0 := fun _ _ h => absurd h (by omega)
theorem hexTo_succ {s : ByteArray} {k : Nat} (hk : k < s.size) (h : hexTo s k) (hc : hexI (s[k].toNat : Int) = true) : hexTo s (k + 1) := by
  intro j hj hlt
  rcases Nat.lt_or_ge j k with h1 | h1
  · exact h j hj h1
  · obtain rfl : j = k := by omega
    exact hc

open Classical in
/-- sixteen such digits -/
noncomputable def idB (s : ByteArray) : Bool := decide (s.size = 16 ∧ hexTo s s.size)
open Classical in
theorem idB_yes {s : ByteArray} (h : s.size = 16) (k : hexTo s s.size) : idB s = true := by unfold idB; exact decide_eq_true ⟨h, k⟩
open Classical in
theorem idB_len {s : ByteArray} (h : ¬ s.size = 16) : idB s = false := by unfold idB; exact decide_eq_false fun x => h x.1
open Classical in
theorem idB_bad {s : ByteArray} {k : Nat} (hk : k < s.size) (h : hexI (s[k].toNat : Int) = false) : idB s = false := by
  unfold idB; refine decide_eq_false fun x => ?_; have := x.2 k hk hk; rw [h] at this; cases this


/-- the five places where a byte can lie -/
theorem five (c : Int) : c < 48 ∨ (48 ≤ c ∧ c ≤ 57) ∨ (57 < c ∧ c < 97) ∨ (97 ≤ c ∧ c ≤ 102) ∨ 102 < c := by omega

set_option maxRecDepth 100000 in
set_option maxHeartbeats 1000000 in
theorem specIdOk_any (s : ByteArray) (w : World) (hs : s.size ≤ maxLen) :
    Calls Tryd.prog 33 #[.string s] w fun e w' => e = .returned (.bool (idB s)) ∧ w = w' := by
  unfold maxLen at hs
  go_enter Tryd.func33, Tryd.ntmps33
  go_wp2
  go_loop [3] (fun i => ∃ k : Nat, k ≤ s.size ∧ i = .int .i64 k ∧ Hid (hexTo s k)) (fun i => s.size - (intOf i).toNat)
  case atStart => exact ⟨0, Nat.zero_le _, rfl, hexTo_zero s⟩
  case round =>
    obtain ⟨k, hk, rfl, H⟩ := hrel
    by_cases hlt : k < s.size
    · have hb : (s[k].toNat : Int) < 256 := by have := s[k].toNat_lt; omega
      rcases five (s[k].toNat : Int) with h | ⟨h, h'⟩ | ⟨h, h'⟩ | ⟨h, h'⟩ | h
      · have Z := Lib.hid (idB_bad hlt (hexI_no ⟨.inl (by omega), .inl (by omega)⟩))
        go_wp2
        go_ret
        exact ⟨ret_bool Z.out.symm, rfl⟩
      · have Z := Lib.hid (hexTo_succ hlt H.out (hexI_yes (.inr ⟨by omega, by omega⟩)))
        go_wp2
        go_round
        case rel => exact ⟨k + 1, by omega, by go_num, Z⟩
        case measure => simp [intOf]; omega
      · have Z := Lib.hid (idB_bad hlt (hexI_no ⟨.inl (by omega), .inr (by omega)⟩))
        have d4 : decide ((s[k].toNat : Int) ≤ 57) = false := decide_eq_false (by omega)
        go_wp2
        go_ret
        exact ⟨ret_bool Z.out.symm, rfl⟩
      · have Z := Lib.hid (hexTo_succ hlt H.out (hexI_yes (.inl ⟨by omega, by omega⟩)))
        have d4 : decide ((s[k].toNat : Int) ≤ 57) = false := decide_eq_false (by omega)
        go_wp2
        go_round
        case rel => exact ⟨k + 1, by omega, by go_num, Z⟩
        case measure => simp [intOf]; omega
      · have Z := Lib.hid (idB_bad hlt (hexI_no ⟨.inr (by omega), .inr (by omega)⟩))
        have d2 : decide ((s[k].toNat : Int) ≤ 102) = false := decide_eq_false (by omega)
        have d4 : decide ((s[k].toNat : Int) ≤ 57) = false := decide_eq_false (by omega)
        go_wp2
        go_ret
        exact ⟨ret_bool Z.out.symm, rfl⟩
    · obtain rfl : k = s.size := by omega
      by_cases h16 : s.size = 16
      · have Z := Lib.hid (idB_yes h16 H.out)
        have hb : ((s.size : Int) == 16) = true := by simp [h16]
        clear h16
        go_wp2
        go_ret
        exact ⟨ret_bool Z.out.symm, rfl⟩
      · have Z := Lib.hid (idB_len h16)
        have hb : ((s.size : Int) == 16) = false := by simp; omega
        clear h16
        go_wp2
        go_ret
        exact ⟨ret_bool Z.out.symm, rfl⟩

set_option maxRecDepth 100000 in
set_option maxHeartbeats 1000000 in
theorem implIdOk_any (s : ByteArray) (w : World) (hs : s.size ≤ maxLen) :
    Calls Tryd.prog 30 #[.string s] w fun e w' => e = .returned (.bool (idB s)) ∧ w = w' := by
  unfold maxLen at hs
  by_cases h16 : s.size = 16
  · have Y := Lib.hid h16
    have hb : ((s.size : Int) != 16) = false := by simp [h16]
    clear h16
    go_enter Tryd.func30, Tryd.ntmps30
    go_wp2
    go_loop [9] (fun i => ∃ k : Nat, k ≤ s.size ∧ i = .int .i64 k ∧ Hid (hexTo s k)) (fun i => s.size - (intOf i).toNat)
    case atStart => exact ⟨0, Nat.zero_le _, rfl, hexTo_zero s⟩
    case round =>
      obtain ⟨k, hk, rfl, H⟩ := hrel
      by_cases hlt : k < s.size
      · have hb2 : (s[k].toNat : Int) < 256 := by have := s[k].toNat_lt; omega
        rcases five (s[k].toNat : Int) with h | ⟨h, h'⟩ | ⟨h, h'⟩ | ⟨h, h'⟩ | h
        · have Z := Lib.hid (idB_bad hlt (hexI_no ⟨.inl (by omega), .inl (by omega)⟩))
          go_wp2
          go_ret
          exact ⟨ret_bool Z.out.symm, rfl⟩
        · have Z := Lib.hid (hexTo_succ hlt H.out (hexI_yes (.inr ⟨by omega, by omega⟩)))
          go_wp2
          go_round
          case rel => exact ⟨k + 1, by omega, by go_num, Z⟩
          case measure => simp [intOf]; omega
        · have Z := Lib.hid (idB_bad hlt (hexI_no ⟨.inl (by omega), .inr (by omega)⟩))
          have d4 : decide ((s[k].toNat : Int) ≤ 57) = false := decide_eq_false (by omega)
          go_wp2
          go_ret
          exact ⟨ret_bool Z.out.symm, rfl⟩
        · have Z := Lib.hid (hexTo_succ hlt H.out (hexI_yes (.inl ⟨by omega, by omega⟩)))
          have d4 : decide ((s[k].toNat : Int) ≤ 57) = false := decide_eq_false (by omega)
          go_wp2
          go_round
          case rel => exact ⟨k + 1, by omega, by go_num, Z⟩
          case measure => simp [intOf]; omega
        · have Z := Lib.hid (idB_bad hlt (hexI_no ⟨.inr (by omega), .inr (by omega)⟩))
          have d2 : decide ((s[k].toNat : Int) ≤ 102) = false := decide_eq_false (by omega)
          have d4 : decide ((s[k].toNat : Int) ≤ 57) = false := decide_eq_false (by omega)
          go_wp2
          go_ret
          exact ⟨ret_bool Z.out.symm, rfl⟩
      · obtain rfl : k = s.size := by omega
        have Z := Lib.hid (idB_yes Y.out H.out)
        go_wp2
        go_ret
        exact ⟨ret_bool Z.out.symm, rfl⟩
  · have Z := Lib.hid (idB_len h16)
    have hb : ((s.size : Int) != 16) = true := by simp; omega
    clear h16
    go_enter Tryd.func30, Tryd.ntmps30
    go_wp2
    go_ret
    exact ⟨ret_bool Z.out.symm, rfl⟩

end Go.Proofs.YtjbbdggckagphaaDoor.QI
/-
  Commits: right or not; what spec.CommitOk, impl.parentsOk, impl.CommitOk answer, and the laws' own helpers szCommit, toCommit, eqCommit.
-/
namespace Go.Proofs.YtjbbdggckagphaaDoor
open Go.RowKit

/-- the first k parents are ids, and rise -/
def parTo (l : List ByteArray) (k : Nat) : Prop := (∀ i (h : i < l.length), i < k → QI.idB l[i] = true) ∧ ∀ i (h : i + 1 < l.length), i + 1 < k → ltB l[i] l[i + 1] = true
theorem parTo_zero (l : List ByteArray) : parTo l 0 := ⟨fun _ _ h => absurd h (by omega), fun _ _ h => absurd h (by omega)⟩
theorem parTo_succ {l : List ByteArray} {k : Nat} (hk : k < l.length) (h : parTo l k) (h1 : QI.idB l[k] = true) (h3 : ∀ (hp : 0 < k), ltB (l[k - 1]'(by omega)) l[k] = true) : parTo l (k + 1) := by
  refine ⟨fun i hi hik => ?_, fun i hi hik => ?_⟩
  · rcases Nat.lt_or_ge i k with g | g
    · exact h.1 i hi g
    · obtain rfl : i = k := by omega
      exact h1
  · rcases Nat.lt_or_ge (i + 1) k with g | g
    · exact h.2 i hi g
    · obtain rfl : k = i + 1 := by omega
      simpa using h3 (by omega)
open Classical in
noncomputable def parB (l : List ByteArray) : Bool := decide (l.length ≤ 2 ∧ parTo l l.length)
open Classical in
theorem parB_iff {l : List ByteArray} : parB l = true ↔ l.length ≤ 2 ∧ parTo l l.length := by unfold parB; exact decide_eq_true_iff
theorem parB_yes {l : List ByteArray} (h : l.length ≤ 2) (k : parTo l l.length) : parB l = true := parB_iff.2 ⟨h, k⟩
theorem parB_len {l : List ByteArray} (h : 2 < l.length) : parB l = false := by
  cases e : parB l
  · rfl
  · have := (parB_iff.1 e).1; omega
theorem parB_id {l : List ByteArray} {k : Nat} (hk : k < l.length) (h : QI.idB l[k] = false) : parB l = false := by
  cases e : parB l
  · rfl
  · have := (parB_iff.1 e).2.1 k hk hk; rw [h] at this; cases this
theorem parB_rise {l : List ByteArray} {k : Nat} (hk : k + 1 < l.length) (h : ltB l[k] l[k + 1] = false) : parB l = false := by
  cases e : parB l
  · rfl
  · have := (parB_iff.1 e).2.2 k hk hk; rw [h] at this; cases this
/-- a right commit -/
noncomputable def comB (t : ByteArray) (l : List ByteArray) (m : ByteArray) : Bool := QI.idB t && parB l && plainB m 40

set_option maxRecDepth 100000 in
set_option maxHeartbeats 1000000 in
theorem parentsOk_any (A : Option Addr) (l : List ByteArray) (cap : Nat) (w : World) (B : Nat) (hl : l.length ≤ maxLen) (hin : SIn w B A l) :
    Calls Tryd.prog 31 #[.slice A l.length cap] w fun e w' => e = .returned (.bool (parB l)) ∧ w = w' := by
  unfold maxLen at hl
  have IN := hide hin
  clear hin
  generalize hn : l.length = n at *
  have HN := hide hn
  clear hn
  by_cases h2 : n ≤ 2
  · have c2 : ¬ ((2 : Int) < (n : Int)) := by omega
    go_enter Tryd.func31, Tryd.ntmps31
    go_wp2
    go_loop [10] (fun iv => ∃ k : Nat, k ≤ n ∧ iv = .int .i64 k ∧ Hid (parTo l k)) (fun i => n - (intOf i).toNat)
    case atStart => exact ⟨0, Nat.zero_le _, rfl, parTo_zero l⟩
    case round =>
      obtain ⟨k, hk, rfl, H⟩ := hrel
      by_cases hlt : k < n
      · have hkl : k < l.length := by rw [HN.out]; omega
        obtain ⟨b, off, rfl, _, hc⟩ := IN.out.2 (by omega)
        have c1 := hc k hkl
        have s1 := hide (IN.out.1 k hkl)
        cases hid : QI.idB l[k]
        · have Z := hide (parB_id hkl hid)
          have I1 := hide (QI.implIdOk_any l[k] w s1.out)
          rw [hid] at I1
          generalize l[k] = s at *
          clear hc
          go_wp2_with (go_at_call 30; refine I1.out.mono ?_; rintro e w' ⟨rfl, rfl⟩)
          go_ret
          exact ⟨ret_bool Z.out.symm, rfl⟩
        · have I1 := hide (QI.implIdOk_any l[k] w s1.out)
          rw [hid] at I1
          by_cases h0 : 0 < k
          · have c3 := hc (k - 1) (by omega)
            have q1 : IntKind.i64.wrap ((k : Int) - 1) = (k : Int) - 1 := IntWalk.i64_in _ (by omega)
            have q4 : ((k : Int) - 1).toNat = k - 1 := by omega
            have q6 : (0 : Int) < (k : Int) := by omega
            cases hrise : ltB (l[k - 1]'(by omega)) l[k]
            · have Z := hide (parB_rise (l := l) (k := k - 1) (by omega) (by simpa [show k - 1 + 1 = k by omega] using hrise))
              have hrise2 : Op.bytesLess (l[k - 1]'(by omega)).toList l[k].toList = false := hrise
              generalize l[k] = s at *
              generalize (l[k - 1]'(by omega)) = s0 at *
              clear hc
              go_wp2_with (go_at_call 30; refine I1.out.mono ?_; rintro e w' ⟨rfl, rfl⟩)
              go_ret
              exact ⟨ret_bool Z.out.symm, rfl⟩
            · have Z := hide (parTo_succ hkl H.out hid (fun _ => hrise))
              have hrise2 : Op.bytesLess (l[k - 1]'(by omega)).toList l[k].toList = true := hrise
              generalize l[k] = s at *
              generalize (l[k - 1]'(by omega)) = s0 at *
              clear hc
              go_wp2_with (go_at_call 30; refine I1.out.mono ?_; rintro e w' ⟨rfl, rfl⟩)
              go_round
              case rel => exact ⟨k + 1, by omega, by go_num, Z⟩
              case measure => simp [intOf]; omega
          · have Z := hide (parTo_succ hkl H.out hid (fun h => absurd h h0))
            have q6 : ¬ ((0 : Int) < (k : Int)) := by omega
            generalize l[k] = s at *
            clear hc
            go_wp2_with (go_at_call 30; refine I1.out.mono ?_; rintro e w' ⟨rfl, rfl⟩)
            go_round
            case rel => exact ⟨k + 1, by omega, by go_num, Z⟩
            case measure => simp [intOf]; omega
      · have ek : Hid (k = n) := hide (by omega)
        have Z : Hid (parB l = true) := hide (parB_yes (by rw [HN.out]; exact h2) (by rw [HN.out, ← ek.out]; exact H.out))
        have hgt : ¬ ((k : Int) < (n : Int)) := by omega
        clear hlt
        go_wp2
        go_ret
        exact ⟨ret_bool Z.out.symm, rfl⟩
  · have Z : Hid (parB l = false) := hide (parB_len (by rw [HN.out]; omega))
    have c2 : (2 : Int) < (n : Int) := by omega
    go_enter Tryd.func31, Tryd.ntmps31
    go_wp2
    go_ret
    exact ⟨ret_bool Z.out.symm, rfl⟩

theorem noteOk_any (s : ByteArray) (w : World) (hs : s.size ≤ maxLen) :
    Calls Tryd.prog 32 #[.string s] w fun e w' => e = .returned (.bool (plainB s 40)) ∧ w = w' := by
  go_enter Tryd.func32, Tryd.ntmps32
  go_wp2_with (go_at_call 43; refine (printable_any s 40 _ hs).mono ?_; rintro e w' ⟨rfl, rfl⟩)
  go_ret
  exact ⟨rfl, rfl⟩
set_option maxRecDepth 100000 in
set_option maxHeartbeats 1000000 in
theorem implCommitOk_any (t m : ByteArray) (A : Option Addr) (l : List ByteArray) (cap : Nat) (w : World) (ht : t.size ≤ maxLen) (hm : m.size ≤ maxLen) (hl : l.length ≤ maxLen) (hin : SIn w w.heap.size A l) :
    Calls Tryd.prog 12 #[.agg #[.string t, .slice A l.length cap, .string m]] w fun e w' => e = .returned (.bool (comB t l m)) ∧ Below w.heap.size w w' := by
  have B1 : Hid (Below w.heap.size w (w.alloc (.cells #[.string t, .slice A l.length cap, .string m] 26))) := hide ((Below.refl _ w).alloc (Nat.le_refl _) _)
  have I1 := hide (fun W => QI.implIdOk_any t W ht)
  have P1 := hide (fun W => parentsOk_any A l cap W w.heap.size hl)
  have N1 := hide (fun W => noteOk_any m W hm)
  have IN := hide (hin.below B1.out)
  have E : Hid (comB t l m = (QI.idB t && parB l && plainB m 40)) := hide rfl
  clear hin ht hm hl
  generalize l.length = n at *
  generalize QI.idB t = b1 at *
  generalize parB l = b2 at *
  generalize plainB m 40 = b3 at *
  cases b1
  · have E1 : Hid (comB t l m = false) := hide (by rw [E.out]; rfl)
    go_enter Tryd.func12, Tryd.ntmps12
    go_wp2_with (go_at_call 30; refine (I1.out _).mono ?_; rintro e w' ⟨rfl, rfl⟩)
    go_ret
    exact ⟨ret_bool E1.out.symm, B1.out⟩
  · cases b2
    · have E1 : Hid (comB t l m = false) := hide (by rw [E.out]; rfl)
      go_enter Tryd.func12, Tryd.ntmps12
      go_wp2_with (first
        | (go_at_call 30; refine (I1.out _).mono ?_; rintro e w' ⟨rfl, rfl⟩)
        | (go_at_call 31; refine (P1.out _ IN.out).mono ?_; rintro e w' ⟨rfl, rfl⟩))
      go_ret
      exact ⟨ret_bool E1.out.symm, B1.out⟩
    · have E1 : Hid (comB t l m = b3) := hide (by rw [E.out]; rfl)
      go_enter Tryd.func12, Tryd.ntmps12
      go_wp2_with (first
        | (go_at_call 30; refine (I1.out _).mono ?_; rintro e w' ⟨rfl, rfl⟩)
        | (go_at_call 31; refine (P1.out _ IN.out).mono ?_; rintro e w' ⟨rfl, rfl⟩)
        | (go_at_call 32; refine (N1.out _).mono ?_; rintro e w' ⟨rfl, rfl⟩))
      go_ret
      exact ⟨ret_bool E1.out.symm, B1.out⟩
end Go.Proofs.YtjbbdggckagphaaDoor
/-
  What spec.CommitOk answers.
-/
namespace Go.Proofs.YtjbbdggckagphaaDoor
open Go.RowKit

theorem comB_par {t m : ByteArray} {l : List ByteArray} (h : parB l = false) : comB t l m = false := by unfold comB; rw [h]; simp
theorem comB_yes {t m : ByteArray} {l : List ByteArray} (h : parB l = true) : comB t l m = (QI.idB t && plainB m 40) := by unfold comB; rw [h]; simp
/-- the box of three cells -/
theorem box3 (w : World) (a b c : Value) (T : TypeId) : (w.alloc (.cells #[a, b, c] T)).cell? ⟨w.heap.size, 0, none⟩ = some a ∧ (w.alloc (.cells #[a, b, c] T)).cell? ⟨w.heap.size, 1, none⟩ = some b ∧ (w.alloc (.cells #[a, b, c] T)).cell? ⟨w.heap.size, 2, none⟩ = some c := by
  have h : (w.alloc (.cells #[a, b, c] T)).heap[w.heap.size]? = some (.cells #[a, b, c] T) := by
    show (w.heap.push (.cells #[a, b, c] T))[w.heap.size]? = _
    simp
  refine ⟨?_, ?_, ?_⟩ <;> (unfold World.cell?; rw [h]; rfl)

set_option maxRecDepth 100000 in
set_option maxHeartbeats 1000000 in
theorem specCommitOk_any (t m : ByteArray) (A : Option Addr) (l : List ByteArray) (cap : Nat) (w : World) (ht : t.size ≤ maxLen) (hm : m.size ≤ maxLen) (hl : l.length ≤ maxLen) (hin : SIn w w.heap.size A l) :
    Calls Tryd.prog 13 #[.agg #[.string t, .slice A l.length cap, .string m]] w fun e w' => e = .returned (.bool (comB t l m)) ∧ Below w.heap.size w w' := by
  have B1 : Hid (Below w.heap.size w (w.alloc (.cells #[.string t, .slice A l.length cap, .string m] 26))) := hide ((Below.refl _ w).alloc (Nat.le_refl _) _)
  have IN0 := hide (hin.below B1.out)
  have X := hide (box3 w (.string t) (.slice A l.length cap) (.string m) 26)
  unfold maxLen at hl
  clear hin
  generalize hn : l.length = n at *
  have HN := hide hn
  clear hn
  go_enter Tryd.func13, Tryd.ntmps13
  go_wp2
  go_loopw [3] (fun iv wr => ∃ k : Nat, k ≤ n ∧ iv = .int .i64 k ∧ Hid (parTo l k) ∧ Hid (Quiet (w.alloc (.cells #[.string t, .slice A n cap, .string m] 26)) wr)) (fun i _ => n - (intOf i).toNat)
  case atStart => exact ⟨0, Nat.zero_le _, rfl, parTo_zero l, Quiet.refl _⟩
  case round =>
    obtain ⟨k, hk, rfl, H, Q⟩ := hrel
    have IN := hide (IN0.out.below (Q.out.below _))
    have x0 := (Q.out.cell ⟨w.heap.size, 0, none⟩).trans X.out.1
    have x1 := (Q.out.cell ⟨w.heap.size, 1, none⟩).trans X.out.2.1
    have x2 := (Q.out.cell ⟨w.heap.size, 2, none⟩).trans X.out.2.2
    have BB := hide (B1.out.trans (Q.out.below _))
    clear IN0 X B1
    by_cases hlt : k < n
    · have hkl : k < l.length := by rw [HN.out]; omega
      obtain ⟨b, off, rfl, _, hc⟩ := IN.out.2 (by omega)
      have c1 := hc k hkl
      have s1 := hide (IN.out.1 k hkl)
      cases hid : QI.idB l[k]
      · have Z := hide (comB_par (t := t) (m := m) (parB_id hkl hid))
        have I1 := hide (fun W => QI.specIdOk_any l[k] W s1.out)
        rw [hid] at I1
        generalize l[k] = s at *
        clear hc
        go_wp2
        go_quiet ((go_at_call 33; exact quiet_same (I1.out _)))
        go_wp2
        go_ret
        exact ⟨ret_bool Z.out.symm, BB.out.trans ((Quiet.refl _).drewN _ |>.below _)⟩
      · have I1 := hide (fun W => QI.specIdOk_any l[k] W s1.out)
        rw [hid] at I1
        by_cases h0 : 0 < k
        · have c3 := hc (k - 1) (by omega)
          have q1 : IntKind.i64.wrap ((k : Int) - 1) = (k : Int) - 1 := IntWalk.i64_in _ (by omega)
          have q2 : (0 : Int) ≤ (k : Int) - 1 := by omega
          have q3 : (1 : Int) ≤ (k : Int) := by omega
          have q4 : ((k : Int) - 1).toNat = k - 1 := by omega
          have q5 : (k : Int) - 1 < (n : Int) := by omega
          have q6 : decide (0 < k) = true := decide_eq_true h0
          cases hrise : ltB (l[k - 1]'(by omega)) l[k]
          · have Z := hide (comB_par (t := t) (m := m) (parB_rise (l := l) (k := k - 1) (by omega) (by simpa [show k - 1 + 1 = k by omega] using hrise)))
            have hrise2 : Op.bytesLess (l[k - 1]'(by omega)).toList l[k].toList = false := hrise
            generalize l[k] = s at *
            generalize (l[k - 1]'(by omega)) = s0 at *
            clear hc hrise
            go_wp2
            go_quiet ((go_at_call 33; exact quiet_same (I1.out _)))
            clear q1 q4
            go_wp2
            go_ret
            exact ⟨ret_bool Z.out.symm, BB.out.trans ((Quiet.refl _).drewN _ |>.below _)⟩
          · have Z := hide (parTo_succ hkl H.out hid (fun _ => hrise))
            have hrise2 : Op.bytesLess (l[k - 1]'(by omega)).toList l[k].toList = true := hrise
            generalize l[k] = s at *
            generalize (l[k - 1]'(by omega)) = s0 at *
            clear hc hrise
            go_wp2
            go_quiet ((go_at_call 33; exact quiet_same (I1.out _)))
            clear q1 q4
            go_wp2
            go_roundw
            case rel => exact ⟨k + 1, by omega, by go_num, Z, Q.out.drewN _⟩
            case measure => simp [intOf]; omega
        · have Z := hide (parTo_succ hkl H.out hid (fun h => absurd h h0))
          have q6 : decide (0 < k) = false := decide_eq_false h0
          generalize l[k] = s at *
          clear hc
          go_wp2
          go_quiet ((go_at_call 33; exact quiet_same (I1.out _)))
          go_wp2
          go_roundw
          case rel => exact ⟨k + 1, by omega, by go_num, Z, Q.out.drewN _⟩
          case measure => simp [intOf]; omega
    · have ek : Hid (k = n) := hide (by omega)
      have hgt : ¬ ((k : Int) < (n : Int)) := by omega
      have I1 := hide (fun W => QI.specIdOk_any t W ht)
      have N1 := hide (fun W => l1Plain_any m 40 W hm)
      by_cases h2 : n ≤ 2
      · have Z : Hid (comB t l m = (QI.idB t && plainB m 40)) := hide (comB_yes (parB_yes (by rw [HN.out]; exact h2) (by rw [HN.out, ← ek.out]; exact H.out)))
        have d : decide ((n : Int) ≤ 2) = true := decide_eq_true (by omega)
        generalize QI.idB t = b1 at *
        generalize plainB m 40 = b3 at *
        clear hlt h2
        cases b1 <;>
        · simp only [Bool.true_and, Bool.false_and] at Z
          go_wp2_with (first
            | (go_at_call 33; refine (I1.out _).mono ?_; rintro e w' ⟨rfl, rfl⟩)
            | (go_at_call 34; refine (N1.out _).mono ?_; rintro e w' ⟨rfl, rfl⟩))
          go_ret
          exact ⟨ret_bool Z.out.symm, BB.out⟩
      · have Z : Hid (comB t l m = false) := hide (comB_par (parB_len (by rw [HN.out]; omega)))
        have d : decide ((n : Int) ≤ 2) = false := decide_eq_false (by omega)
        generalize QI.idB t = b1 at *
        clear hlt h2
        cases b1 <;>
        · go_wp2_with (go_at_call 33; refine (I1.out _).mono ?_; rintro e w' ⟨rfl, rfl⟩)
          go_ret
          exact ⟨ret_bool Z.out.symm, BB.out⟩
end Go.Proofs.YtjbbdggckagphaaDoor
/-
  The laws' own helpers on commits: szCommit, toCommit, eqCommit.
-/
namespace Go.Proofs.YtjbbdggckagphaaDoor
open Go.RowKit

theorem alloc3 (w : World) (A B C : Obj) : (((w.alloc A).alloc B).alloc C).heap[w.heap.size]? = some A ∧ (((w.alloc A).alloc B).alloc C).heap[w.heap.size + 1]? = some B ∧ (((w.alloc A).alloc B).alloc C).heap[w.heap.size + 1 + 1]? = some C := by
  have h : (((w.alloc A).alloc B).alloc C).heap = ((w.heap.push A).push B).push C := rfl
  rw [h]
  refine ⟨?_, ?_, ?_⟩
  · rw [Array.getElem?_push, if_neg (by simp; omega), Array.getElem?_push, if_neg (by simp), Array.getElem?_push, if_pos rfl]
  · rw [Array.getElem?_push, if_neg (by simp), Array.getElem?_push, if_pos (by simp)]
  · rw [Array.getElem?_push, if_pos (by simp)]

end Go.Proofs.YtjbbdggckagphaaDoor
/-
  The text of a commit: the model, and what spec.l4Text, spec.CommitText answer.
-/
namespace Go.Proofs.YtjbbdggckagphaaDoor
open Go.RowKit

/-- the text's first line, up to parent k -/
def headTo (t : ByteArray) (l : List ByteArray) : Nat → ByteArray
  | 0 => ⟨#[99, 111, 109, 109, 105, 116, 32]⟩ ++ t
  | k + 1 => headTo t l k ++ ⟨#[32]⟩ ++ l.getD k ByteArray.empty
def textC (t : ByteArray) (l : List ByteArray) (m : ByteArray) : ByteArray := headTo t l l.length ++ ⟨#[10]⟩ ++ m
noncomputable def comTextS (t : ByteArray) (l : List ByteArray) (m : ByteArray) : ByteArray := if comB t l m then textC t l m else ByteArray.empty
theorem comText_no {t m : ByteArray} {l : List ByteArray} (h : comB t l m = false) : comTextS t l m = ByteArray.empty := by unfold comTextS; rw [h]; rfl
theorem comText_yes {t m : ByteArray} {l : List ByteArray} (h : comB t l m = true) : comTextS t l m = textC t l m := by unfold comTextS; rw [h]; rfl
def par16 (l : List ByteArray) : Prop := ∀ i (h : i < l.length), l[i].size ≤ 16
theorem headTo_size {t : ByteArray} {l : List ByteArray} (ht : t.size ≤ 16) (hl : par16 l) : ∀ k, (headTo t l k).size ≤ 23 + 17 * k
  | 0 => by
    have e : (ByteArray.mk #[99, 111, 109, 109, 105, 116, 32]).size = 7 := rfl
    rw [headTo, ByteArray.size_append, e]; omega
  | k + 1 => by
    have e : (ByteArray.mk #[32]).size = 1 := rfl
    have h := headTo_size ht hl k
    have g : (l.getD k ByteArray.empty).size ≤ 16 := by
      by_cases hk : k < l.length
      · rw [show l.getD k ByteArray.empty = l[k] by simp [hk]]; exact hl k hk
      · rw [show l.getD k ByteArray.empty = ByteArray.empty by simp [hk]]; decide
    rw [headTo, ByteArray.size_append, ByteArray.size_append, e]; omega
theorem headTo_next {t : ByteArray} {l : List ByteArray} {k : Nat} (h : k < l.length) : headTo t l (k + 1) = headTo t l k ++ ⟨#[32]⟩ ++ l[k] := by
  rw [headTo, show l.getD k ByteArray.empty = l[k] by simp [h]]
/-- what a right commit's parts measure -/
def comSz (t : ByteArray) (l : List ByteArray) (m : ByteArray) : Prop := t.size ≤ 16 ∧ l.length ≤ 2 ∧ par16 l ∧ m.size ≤ 40

set_option maxRecDepth 100000 in
set_option maxHeartbeats 1000000 in
theorem l4Text_any (t m : ByteArray) (A : Option Addr) (l : List ByteArray) (cap : Nat) (w : World) (hz : comSz t l m) (hin : SIn w w.heap.size A l) :
    Calls Tryd.prog 29 #[.agg #[.string t, .slice A l.length cap, .string m]] w fun e w' => e = .returned (.string (textC t l m)) ∧ Below w.heap.size w w' := by
  have B1 : Hid (Below w.heap.size w (w.alloc (.cells #[.string t, .slice A l.length cap, .string m] 26))) := hide ((Below.refl _ w).alloc (Nat.le_refl _) _)
  have IN0 := hide (hin.below B1.out)
  have X := hide (box3 w (.string t) (.slice A l.length cap) (.string m) 26)
  obtain ⟨h1, h2, h3, h4⟩ := hz
  have S := hide (headTo_size h1 h3)
  have H3 := hide h3
  clear hin h3
  have T : Hid (textC t l m = headTo t l l.length ++ ⟨#[10]⟩ ++ m) := hide rfl
  generalize hn : l.length = n at *
  have HN := hide hn
  clear hn
  have e7 : (ByteArray.mk #[99, 111, 109, 109, 105, 116, 32]).size = 7 := rfl
  have e1 : (ByteArray.mk #[32]).size = 1 := rfl
  have e10 : (ByteArray.mk #[10]).size = 1 := rfl
  go_enter Tryd.func29, Tryd.ntmps29
  go_wp2
  go_loopw [3, 4] (fun sv iv wr => ∃ (k : Nat) (s : ByteArray), k ≤ n ∧ iv = .int .i64 k ∧ sv = .string s ∧ Hid (s = headTo t l k) ∧ Hid (Quiet (w.alloc (.cells #[.string t, .slice A n cap, .string m] 26)) wr)) (fun _ i _ => n - (intOf i).toNat)
  case atStart => exact ⟨0, _, Nat.zero_le _, rfl, rfl, rfl, Quiet.refl _⟩
  case round =>
    obtain ⟨k, s, hk, rfl, rfl, H, Q⟩ := hrel
    have IN := hide (IN0.out.below (Q.out.below _))
    have x0 := (Q.out.cell ⟨w.heap.size, 0, none⟩).trans X.out.1
    have x1 := (Q.out.cell ⟨w.heap.size, 1, none⟩).trans X.out.2.1
    have x2 := (Q.out.cell ⟨w.heap.size, 2, none⟩).trans X.out.2.2
    have BB := hide (B1.out.trans (Q.out.below _))
    have s0 : s.size ≤ 23 + 17 * k := by rw [H.out]; exact S.out k
    clear IN0 X B1 S
    by_cases hlt : k < n
    · have hkl : k < l.length := by rw [HN.out]; omega
      obtain ⟨b, off, rfl, _, hc⟩ := IN.out.2 (by omega)
      have c1 := hc k hkl
      have s1 := H3.out k hkl
      have Z : Hid (s ++ ⟨#[32]⟩ ++ l[k] = headTo t l (k + 1)) := hide (by rw [headTo_next hkl, H.out])
      generalize l[k] = x at *
      clear hc
      have z1 : (s ++ ByteArray.mk #[32]).size = s.size + 1 := by rw [ByteArray.size_append, e1]
      go_wp2
      exact ⟨⟨k + 1, _, by omega, by go_num, rfl, Z, Q⟩, by simp [intOf]; omega⟩
    · obtain rfl : k = n := by omega
      have Z : Hid (s ++ ⟨#[10]⟩ ++ m = textC t l m) := hide (by rw [T.out, H.out])
      have z1 : (s ++ ByteArray.mk #[10]).size = s.size + 1 := by rw [ByteArray.size_append, e10]
      go_wp2
      go_ret
      exact ⟨ret_str Z.out, BB.out⟩

theorem idB_sz {s : ByteArray} (h : QI.idB s = true) : s.size = 16 := by
  by_cases g : s.size = 16
  · exact g
  · rw [QI.idB_len g] at h; cases h
theorem comSz_of {t m : ByteArray} {l : List ByteArray} (h : comB t l m = true) : comSz t l m := by
  unfold comB at h
  simp only [Bool.and_eq_true] at h
  obtain ⟨⟨a, b⟩, c⟩ := h
  obtain ⟨b1, b2, _⟩ := parB_iff.1 b
  exact ⟨by have := idB_sz a; omega, b1, fun i hi => by have := idB_sz (b2 i hi hi); omega, by have := (okB_iff.1 c).2.1; omega⟩

set_option maxRecDepth 100000 in
set_option maxHeartbeats 1000000 in
theorem specCommitText_any (t m : ByteArray) (A : Option Addr) (l : List ByteArray) (cap : Nat) (w : World) (ht : t.size ≤ maxLen) (hm : m.size ≤ maxLen) (hl : l.length ≤ maxLen) (hin : SIn w w.heap.size A l) :
    Calls Tryd.prog 11 #[.agg #[.string t, .slice A l.length cap, .string m]] w fun e w' => e = .returned (.string (comTextS t l m)) ∧ Below w.heap.size w w' := by
  have B1 : Hid (Below w.heap.size w (w.alloc (.cells #[.string t, .slice A l.length cap, .string m] 26))) := hide ((Below.refl _ w).alloc (Nat.le_refl _) _)
  have X := hide (box3 w (.string t) (.slice A l.length cap) (.string m) 26)
  have R := hide (specCommitOk_any t m A l cap _ ht hm hl ((hin.below B1.out).more B1.out.size))
  have IN := hide hin
  clear hin
  cases hc : comB t l m
  · rw [hc] at R
    have Z := hide (comText_no hc)
    go_enter Tryd.func11, Tryd.ntmps11
    go_wp2_with fail
    refine R.out.mono ?_
    rintro e w1 ⟨rfl, b1⟩
    have BB := hide (B1.out.trans (b1.mono B1.out.size))
    clear b1
    go_wp2
    go_ret
    exact ⟨ret_str Z.out.symm, BB.out⟩
  · rw [hc] at R
    have Z := hide (comText_yes hc)
    have HS := hide (comSz_of hc)
    go_enter Tryd.func11, Tryd.ntmps11
    go_wp2_with fail
    refine R.out.mono ?_
    rintro e w1 ⟨rfl, b1⟩
    have lt : w.heap.size < (w.alloc (.cells #[.string t, .slice A l.length cap, .string m] 26)).heap.size := by simp
    have x0 := cellB b1 lt X.out.1
    have x1 := cellB b1 lt X.out.2.1
    have x2 := cellB b1 lt X.out.2.2
    have BB := hide (B1.out.trans (b1.mono B1.out.size))
    have in1 := (IN.out.below BB.out).more BB.out.size
    clear b1 R X B1 lt
    go_wp2_with fail
    refine (l4Text_any t m A l cap w1 HS.out in1).mono ?_
    rintro e w2 ⟨rfl, b2⟩
    have B2 := hide (BB.out.trans (b2.mono BB.out.size))
    clear b2
    go_wp2
    go_ret
    exact ⟨ret_str Z.out.symm, B2.out⟩
end Go.Proofs.YtjbbdggckagphaaDoor
/-
  A text that is cut at its first byte of a kind: in the reference (spec.l1Cut) and in the library (strings.Cut at one byte).
-/
namespace Go.Proofs.YtjbbdggckagphaaDoor
open Go.RowKit

/-- where the first byte c stands; the size where there is none -/
def posB (s : ByteArray) (c : UInt8) : Nat := s.data.toList.findIdx (· == c)
theorem posB_le (s : ByteArray) (c : UInt8) : posB s c ≤ s.size := by
  unfold posB
  exact List.findIdx_le_length
theorem posB_hit {s : ByteArray} {c : UInt8} {k : Nat} (h : k < s.size) (hc : s[k] = c) (hb : ∀ j (h : j < s.size), j < k → s[j] ≠ c) : posB s c = k := by
  unfold posB
  have hl : k < s.data.toList.length := h
  rw [List.findIdx_eq hl]
  refine ⟨beq_iff_eq.2 hc, fun j hj => ?_⟩
  have := hb j (by omega) hj
  exact beq_eq_false_iff_ne.2 this
theorem posB_miss {s : ByteArray} {c : UInt8} (hb : ∀ j (h : j < s.size), s[j] ≠ c) : posB s c = s.size := by
  unfold posB
  have : List.findIdx (fun x => x == c) s.data.toList = s.data.toList.length := by
    rw [List.findIdx_eq_length]
    intro x hx
    obtain ⟨i, hi, e⟩ := List.getElem_of_mem hx
    have := hb i hi
    rw [beq_eq_false_iff_ne]
    rw [← e]
    exact this
  rw [this]; rfl
theorem indexByte_pos : ∀ (l : List UInt8) (c : UInt8), Lib.indexByte l c = if l.findIdx (· == c) < l.length then (l.findIdx (· == c) : Int) else -1
  | [], c => by simp [Lib.indexByte]
  | b :: l, c => by
    have ih := indexByte_pos l c
    rw [Lib.indexByte, ih, List.findIdx_cons]
    cases hbc : b == c
    · by_cases h : l.findIdx (· == c) < l.length
      · rw [if_pos h]
        have : ((l.findIdx (· == c) : Int) == -1) = false := by rw [beq_eq_false_iff_ne]; omega
        simp [this, h]
      · rw [if_neg h]
        simp [h]
    · simp
/-- the two pieces, and whether it was cut -/
def cutS (s : ByteArray) (c : UInt8) : ByteArray × ByteArray × Bool := if posB s c < s.size then (s.extract 0 (posB s c), s.extract (posB s c + 1) s.size, true) else (s, ByteArray.empty, false)
theorem cutS_yes {s : ByteArray} {c : UInt8} (h : posB s c < s.size) : cutS s c = (s.extract 0 (posB s c), s.extract (posB s c + 1) s.size, true) := by unfold cutS; rw [if_pos h]
theorem cutS_no {s : ByteArray} {c : UInt8} (h : ¬ posB s c < s.size) : cutS s c = (s, ByteArray.empty, false) := by unfold cutS; rw [if_neg h]
def RetCut (s : ByteArray) (c : UInt8) (w : World) (e : Ending) (w' : World) : Prop := e = .returned (.tuple #[.string (cutS s c).1, .string (cutS s c).2.1, .bool (cutS s c).2.2]) ∧ Quiet w w'

set_option maxRecDepth 100000 in
set_option maxHeartbeats 1000000 in
theorem l1Cut_any (s : ByteArray) (c : UInt8) (ci : Int) (w : World) (hs : s.size ≤ maxLen) (hci : ci = (c.toNat : Int)) :
    Calls Tryd.prog 27 #[.string s, .int .u8 ci] w (RetCut s c w) := by
  unfold maxLen at hs
  have HC := hide hci
  clear hci
  go_enter Tryd.func27, Tryd.ntmps27
  go_wp2
  go_loop [7] (fun i => ∃ k : Nat, k ≤ s.size ∧ i = .int .i64 k ∧ Hid (∀ j (h : j < s.size), j < k → s[j] ≠ c)) (fun i => s.size - (intOf i).toNat)
  case atStart => exact ⟨0, Nat.zero_le _, rfl, fun j _ h => absurd h (by omega)⟩
  case round =>
    obtain ⟨k, hk, rfl, H⟩ := hrel
    by_cases hlt : k < s.size
    · have hb : (s[k].toNat : Int) < 256 := by have := s[k].toNat_lt; omega
      by_cases he : s[k] = c
      · have q1 : ((s[k].toNat : Int) == ci) = true := by rw [HC.out, he]; simp
        have Z := hide (posB_hit hlt he H.out)
        clear he
        go_wp2
        go_quiet (fail)
        go_wp2
        go_ret3
        have hz : posB s c < s.size := by rw [Z.out]; exact hlt
        refine ⟨?_, (Quiet.refl w).drewN _⟩
        rw [cutS_yes hz, Z.out]; rfl
      · have q1 : ((s[k].toNat : Int) == ci) = false := by
          rw [HC.out, beq_eq_false_iff_ne]
          intro h
          exact he (UInt8.toNat_inj.1 (by omega))
        have Z : Hid (∀ j (h : j < s.size), j < k + 1 → s[j] ≠ c) := hide (fun j h hj => by
          rcases Nat.lt_succ_iff_lt_or_eq.1 hj with h' | rfl
          · exact H.out j h h'
          · exact he)
        go_wp2
        go_round
        case rel => exact ⟨k + 1, by omega, by go_num, Z⟩
        case measure => simp [intOf]; omega
    · have Z := hide (posB_miss (s := s) (c := c) fun j h => H.out j h (by omega))
      go_wp2
      go_ret3
      have hz : ¬ posB s c < s.size := by rw [Z.out]; omega
      refine ⟨?_, Quiet.refl w⟩
      rw [cutS_no hz]; rfl

end Go.Proofs.YtjbbdggckagphaaDoor
/-
  Words for memory: rows of texts of the call's own.
-/
namespace Go.Proofs.YtjbbdggckagphaaDoor
open Go.RowKit

/-- the slice at A has these texts -/
def ZIn (w : World) (B : Nat) (A : Option Addr) (bs : List ByteArray) : Prop :=
  0 < bs.length → ∃ b off, A = some ⟨b, off, none⟩ ∧ b < B ∧ ∀ i (h : i < bs.length), w.cell? ⟨b, off + i, none⟩ = some (Value.string bs[i])
theorem ZIn.below {w w' : World} {B : Nat} {A : Option Addr} {bs : List ByteArray} (h : ZIn w B A bs) (q : Below B w w') : ZIn w' B A bs := fun hp => by
  obtain ⟨b, off, e, hb, hc⟩ := h hp
  exact ⟨b, off, e, hb, fun i hi => cellB q hb (hc i hi)⟩
theorem ZIn.more {w : World} {B B' : Nat} {A : Option Addr} {bs : List ByteArray} (h : ZIn w B A bs) (hB : B ≤ B') : ZIn w B' A bs := fun hp => by
  obtain ⟨b, off, e, hb, hc⟩ := h hp
  exact ⟨b, off, e, by omega, hc⟩
def ZOwn (w : World) (B : Nat) (A : Option Addr) (cap : Nat) (bs : List ByteArray) : Prop := w.ownsRow B 9 1 (.slice A bs.length cap) bs.length (bs.map Value.string)
theorem ZOwn.nil (w : World) (B : Nat) : ZOwn w B none 0 [] := World.ownsRow_nil _ _ _ _
theorem ZOwn.form {w : World} {B : Nat} {A : Option Addr} {cap : Nat} {bs : List ByteArray} (h : ZOwn w B A cap bs) : (A = none ∧ cap = 0 ∧ bs = []) ∨ ∃ g, A = some ⟨g, 0, none⟩ ∧ B ≤ g ∧ g < w.heap.size := by
  rcases h.2 with ⟨e, e'⟩ | ⟨g, c, cur, e, hb, hg, _⟩
  · injection e with e1 e2 e3
    exact .inl ⟨e1, e3, List.eq_nil_of_length_eq_zero e2⟩
  · injection e with e1 e2 e3
    exact .inr ⟨g, e1, hb, (Array.getElem?_eq_some_iff.1 hg).1⟩
theorem ZOwn.zin {w : World} {B : Nat} {A : Option Addr} {cap : Nat} {bs : List ByteArray} (h : ZOwn w B A cap bs) : ZIn w w.heap.size A bs := fun hp => by
  rcases h.form with ⟨_, _, rfl⟩ | ⟨g, rfl, _, hg⟩
  · simp at hp
  · refine ⟨g, 0, rfl, hg, fun i hi => ?_⟩
    have h1 := h.cellAt i (by omega)
    rw [Nat.zero_add]
    refine h1.trans ?_
    simp [hi]
theorem ZOwn.cap_le {w : World} {B : Nat} {A : Option Addr} {cap : Nat} {bs : List ByteArray} (h : ZOwn w B A cap bs) : bs.length ≤ cap := by
  rcases h.2 with ⟨e, e'⟩ | ⟨g, c, cur, e, _, _, hnc, _⟩
  · injection e with e1 e2 e3; omega
  · injection e with e1 e2 e3; omega
theorem ZOwn.below {w w' : World} {B : Nat} {A : Option Addr} {cap : Nat} {bs : List ByteArray} (h : ZOwn w B A cap bs) (hb : Below w.heap.size w w') : ZOwn w' B A cap bs := by
  refine World.ownsRow.kept h (Below.toGrown hb none) ?_
  cases hv : (Value.slice A bs.length cap).ownBlock <;> simp
theorem ZOwn.more {w : World} {B B' : Nat} {A : Option Addr} {cap : Nat} {bs : List ByteArray} (h : ZOwn w B A cap bs) (hB : B' ≤ B) : ZOwn w B' A cap bs := by
  refine ⟨h.1, ?_⟩
  rcases h.2 with e | ⟨g, c, cur, e, hb, r⟩
  · exact .inl e
  · exact .inr ⟨g, c, cur, e, Nat.le_trans hB hb, r⟩
theorem ZOwn.row {w : World} {B : Nat} {A : Option Addr} {cap : Nat} {bs : List ByteArray} (h : ZOwn w B A cap bs) : ∀ g, rowOf A = some g → B ≤ g ∧ g < w.heap.size := by
  intro g hg
  exact h.lt g (by rw [rowOf_own]; exact hg)
theorem ZOwn.grownBelow {w w' : World} {B : Nat} {A : Option Addr} {cap : Nat} {bs : List ByteArray} (h : ZOwn w B A cap bs) (hg : w.grownBy w' (rowOf A)) (hB : B ≤ w.heap.size) : Below B w w' :=
  (Below.refl B w).grown hg hB (fun k hk => (h.row k hk).1)
theorem ZIn.one {w : World} (g : ByteArray) (t : TypeId) {s : Nat} (hs : w.heap.size = s) : ZIn (w.alloc (.cells #[Value.string g] t)) (s + 1) (some ⟨s, 0, none⟩) [g] := fun _ => by
  subst hs
  refine ⟨w.heap.size, 0, rfl, by omega, fun i hi => ?_⟩
  obtain rfl : i = 0 := by simpa using hi
  exact cell_of_row _ w.heap.size 0 #[Value.string g] t (0, 0) (heap_alloc_new w (.cells #[Value.string g] t))
/-- where a slice of pointers that is cut from place k on begins -/
def cutZ (A : Option Addr) (cap k : Nat) : Option Addr := if cap = k then A else A.map (·.add k)
theorem ZIn.take {w : World} {B : Nat} {A : Option Addr} {bs : List ByteArray} (h : ZIn w B A bs) (cap k : Nat) : ZIn w B (cutZ A cap 0) (bs.take k) := fun hp => by
  have e : cutZ A cap 0 = A := by
    unfold cutZ
    split
    · rfl
    · cases A <;> simp [Addr.add]
  rw [e]
  obtain ⟨b, off, e, hb, hc⟩ := h (by rw [List.length_take] at hp; omega)
  refine ⟨b, off, e, hb, fun i hi => ?_⟩
  rw [List.getElem_take]
  exact hc i (by rw [List.length_take] at hi; omega)
theorem ZIn.drop {w : World} {B : Nat} {A : Option Addr} {bs : List ByteArray} (h : ZIn w B A bs) {cap : Nat} (hc : bs.length ≤ cap) (k : Nat) : ZIn w B (cutZ A cap k) (bs.drop k) := fun hp => by
  rw [List.length_drop] at hp
  obtain ⟨b, off, e, hb, hc⟩ := h (by omega)
  refine ⟨b, off + k, ?_, hb, fun i hi => ?_⟩
  · unfold cutZ
    rw [if_neg (by omega), e, Option.map_some, add_pl]
  · rw [List.length_drop] at hi
    rw [List.getElem_drop, Nat.add_assoc]
    exact hc (k + i) (by omega)
theorem infoZ : (Tryd.prog.info? 9).map (fun i => (i.zero, i.size, i.bytes)) = some (some (.string ByteArray.empty), 1, 16) := by kernel_rfl

section
variable (t ty : TypeId) (ht : Tryd.prog.underlying t = some (.slice 9))
include ht
set_option maxRecDepth 100000 in
theorem run_appZ {w : World} {B B' : Nat} {A A' : Option Addr} {cap c : Nat} {l l' : List ByteArray} (hown : ZOwn w B A cap l) (hin : ZIn w B' A' l') (hB : B ≤ w.heap.size) (hb : l.length + l'.length ≤ 3000000) :
    ∃ A2 cap2 w', (Builtin.append_ #[t, t] ty #[.slice A l.length cap, .slice A' l'.length c]).run Tryd.prog w = .ok (.slice A2 (l ++ l').length cap2) w' ∧ ZOwn w' B A2 cap2 (l ++ l') ∧ w.grownBy w' (rowOf A) ∧ (rowOf A2 = rowOf A ∨ rowOf A2 = some w.heap.size) := by
  obtain ⟨i, hi, hz0, hz1, hz2⟩ := info_parts infoZ
  have hlen : (l ++ l').length = l.length + l'.length := List.length_append
  cases A' with
  | none =>
    have h0 : l' = [] := by
      rcases Nat.eq_zero_or_pos l'.length with e | e
      · exact List.eq_nil_of_length_eq_zero e
      · obtain ⟨_, _, x, _⟩ := hin e
        cases x
    subst h0
    refine ⟨A, cap, w, ?_, by simpa using hown, World.grownBy.refl _ _, .inl rfl⟩
    rcases hown.2 with ⟨e, e'⟩ | ⟨g, cap', cur, e, _, _, hnc, _⟩
    · injection e with e1 e2 e3
      subst e1 e3
      simp [Builtin.append_, run_underlying ht, sizeOf, typeInfo, hi, Builtin.lenOf, Builtin.firstCells, e2]
    · injection e with e1 e2 e3
      subst e1 e3
      simp [Builtin.append_, run_underlying ht, sizeOf, typeInfo, hi, Builtin.lenOf, Builtin.firstCells, hnc, storeCells]
  | some a =>
    have hcells : ∀ j u, (l'.map Value.string)[j]? = some u → w.cell? (a.add j) = some u := by
      intro j u hu
      have hj : j < l'.length := by
        have := (List.getElem?_eq_some_iff.1 hu).1
        rw [List.length_map] at this
        exact this
      obtain ⟨b, off, e, _, hc⟩ := hin (by omega)
      injection e with e
      subst e
      rw [add_pl, hc j hj, ← hu]
      simp [hj]
    obtain ⟨v', w', hrun, h2, h3, _, h5⟩ := run_append_own_at (P := Tryd.prog) w B t ty 9 i _ 1 16 ht hi hz0 hz1 hz2 rfl (by omega) (.slice A l.length cap) l.length (l.map Value.string) hown a l'.length c (l'.map Value.string) (by simp) hcells (by
        intro u hu
        obtain ⟨g, _, rfl⟩ := List.mem_map.1 hu
        rfl)
      (by simp only [maxLen]; omega) (by omega) hB
    have hv : ∃ A2 cap2, v' = .slice A2 (l.length + l'.length) cap2 := by
      rcases h2.2 with ⟨e, e'⟩ | ⟨g, cap', cur, e, _⟩
      · exact ⟨none, 0, by rw [e, e']⟩
      · exact ⟨_, _, e⟩
    obtain ⟨A2, cap2, rfl⟩ := hv
    refine ⟨A2, cap2, w', by rw [hlen]; exact hrun, ?_, by rw [← rowOf_own A l.length cap]; exact h3, ?_⟩
    · unfold ZOwn
      rw [hlen, List.map_append]
      exact h2
    · rw [rowOf_own, rowOf_own] at h5
      exact h5

theorem wp_appZ {w : World} {o : Oper} {a : Act} {K : Act → World → Prop} {Q : Exit → Act → World → Prop} (s x : Operand)
    (ho : o.op = .call { callee := .builtin .append, args := #[s, x], argTypes := #[t, t] })
    {B B' : Nat} {A A' : Option Addr} {cap c n m : Nat} {l l' : List ByteArray} (hs : a.eval s = .slice A n cap) (hx : a.eval x = .slice A' m c) (hn : n = l.length) (hm : m = l'.length)
    (hown : ZOwn w B A cap l) (hin : ZIn w B' A' l') (hB : B ≤ w.heap.size) (hb : l.length + l'.length ≤ 3000000)
    (h : ∀ A2 cap2 w', ZOwn w' B A2 cap2 (l ++ l') → w.grownBy w' (rowOf A) → (rowOf A2 = rowOf A ∨ rowOf A2 = some w.heap.size) → K (a.put o.dst (.slice A2 (l ++ l').length cap2)) w') : o.wp Tryd.prog a w K Q := by
  subst hn hm
  obtain ⟨A2, cap2, w', hrun, h2, h3, h4⟩ := run_appZ t o.type ht (c := c) hown hin hB hb
  unfold Oper.wp execOp
  simp only [ho, resolve, invoke, builtin, Sem.run_bind, Sem.run_pure, Result.andThen_ok, List.map_toArray, List.map_cons, List.map_nil, hs, hx, hrun]
  exact h A2 cap2 w' h2 h3 h4

theorem wpList_appZ {w : World} {ops : Array Oper} {rest : List Oper} {o : Oper} {a : Act} {Q : Exit → Act → World → Prop} (hgd : o.guard = none) (s x : Operand)
    (ho : o.op = .call { callee := .builtin .append, args := #[s, x], argTypes := #[t, t] })
    {B B' : Nat} {A A' : Option Addr} {cap c n m : Nat} {l l' : List ByteArray} (hs : a.eval s = .slice A n cap) (hx : a.eval x = .slice A' m c) (hn : n = l.length) (hm : m = l'.length)
    (hown : ZOwn w B A cap l) (hin : ZIn w B' A' l') (hB : B ≤ w.heap.size) (hb : l.length + l'.length ≤ 3000000)
    (h : ∀ A2 cap2 w', ZOwn w' B A2 cap2 (l ++ l') → w.grownBy w' (rowOf A) → (rowOf A2 = rowOf A ∨ rowOf A2 = some w.heap.size) → wpList Tryd.prog ops Q rest (a.put o.dst (.slice A2 (l ++ l').length cap2)) w') : wpList Tryd.prog ops Q (o :: rest) a w :=
  wpList_plain hgd fun _ hK => wp_appZ t ht s x ho hs hx hn hm hown hin hB hb fun A2 cap2 w' h2 h3 h4 => hK _ _ (h A2 cap2 w' h2 h3 h4)

theorem run_cutZ_h (A : Option Addr) (n cap k : Nat) (hk : k ≤ cap) (w : World) : (Instr.slice t (.slice A n cap) none (some (.int .i64 (k : Int))) none).run Tryd.prog w = .ok (.slice (cutZ A cap 0) k cap) w := by
  have hs : ((sizeOf 9).run Tryd.prog w) = .ok 1 w := by kernel_rfl
  have he : Tryd.prog.elem t = 9 := by simp [Program.elem, ht]
  rw [run_slice_h (P := Tryd.prog) (t := t) (a := A) (len := n) (cap := cap) (w := w) (by rw [he]; exact ht) .i64 k (by omega) (by omega), he, hs]
  simp [Result.andThen, sliced, cutZ]
theorem run_cutZ_l (A : Option Addr) (n cap k : Nat) (hk : k ≤ n) (w : World) : (Instr.slice t (.slice A n cap) (some (.int .i64 (k : Int))) none none).run Tryd.prog w = .ok (.slice (cutZ A cap k) (n - k) (cap - k)) w := by
  have hs : ((sizeOf 9).run Tryd.prog w) = .ok 1 w := by kernel_rfl
  have he : Tryd.prog.elem t = 9 := by simp [Program.elem, ht]
  rw [run_slice_l (P := Tryd.prog) (t := t) (a := A) (len := n) (cap := cap) (w := w) (by rw [he]; exact ht) .i64 k (by omega) (by omega), he, hs]
  simp [Result.andThen, sliced, cutZ]
end

theorem ZOwn.alloc {w : World} {B : Nat} {A : Option Addr} {cap : Nat} {l : List ByteArray} (h : ZOwn w B A cap l) (o : Obj) : ZOwn (w.alloc o) B A cap l := h.below ((Below.refl _ _).alloc (Nat.le_refl _) o)
theorem ZOwn.built (w : World) (B : Nat) (hB : B ≤ w.heap.size) : ZOwn (w.alloc (.cells #[] 9)) B (some ⟨w.heap.size, 0, none⟩) 0 [] := World.ownsRow_made w #[] 0 hB (by simp [maxLen]) rfl
theorem ZOwn.kept {w w' : World} {B r : Nat} {A : Option Addr} {cap : Nat} {bs : List ByteArray} (h : ZOwn w B A cap bs) (hg : w.grownBy w' (some r)) (hne : rowOf A ≠ some r) : ZOwn w' B A cap bs := by
  refine World.ownsRow.kept h hg ?_
  rw [rowOf_own]
  cases e : rowOf A with
  | none => exact .inl rfl
  | some g => exact .inr (fun x => hne (by rw [e, x]))
end Go.Proofs.YtjbbdggckagphaaDoor
