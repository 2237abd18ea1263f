/-
  Slices of strings: read, copied, compared; what laws.szStringS, laws.toStringS, laws.eqStringS answer.
-/
import Derived.Test.YtkhkcdmmagicmaaDoorPCell
import Derived.Test.YtkhkcdmmagicmaaDoorPStr0
import Derived.OwnWalk
import Derived.IntWalk
import Derived.BigQuiet
import Derived.Laws.Rows
import Derived.Laws.Tables
namespace Go.Proofs.YtkhkcdmmagicmaaDoor
open Go.RowKit

def slenS (l : List ByteArray) : Prop := ∀ i (h : i < l.length), l[i].size ≤ maxLen
/-- the slice at A reads as the texts l, and lies below block B -/
def SIn (w : World) (B : Nat) (A : Option Addr) (l : List ByteArray) : Prop :=
  slenS l ∧ (0 < l.length → ∃ b off, A = some ⟨b, off, none⟩ ∧ b < B ∧ ∀ i (h : i < l.length), w.cell? ⟨b, off + i, none⟩ = some (.string l[i]))
theorem SIn.below {w w' : World} {B : Nat} {A : Option Addr} {l : List ByteArray} (h : SIn w B A l) (q : Below B w w') : SIn w' B A l :=
  ⟨h.1, fun hp => by
    obtain ⟨b, off, e, hb, hc⟩ := h.2 hp
    exact ⟨b, off, e, hb, fun i hi => (q.cell (p := ⟨b, off + i, none⟩) hb).trans (hc i hi)⟩⟩
theorem SIn.more {w : World} {B B' : Nat} {A : Option Addr} {l : List ByteArray} (h : SIn w B A l) (hB : B ≤ B') : SIn w B' A l :=
  ⟨h.1, fun hp => by obtain ⟨b, off, e, hb, hc⟩ := h.2 hp; exact ⟨b, off, e, by omega, hc⟩⟩
/-- n texts as cells -/
def strsA (f : Nat → ByteArray) (n : Nat) : Array Value := ((List.range n).map fun j => Value.string (f j)).toArray
theorem strsA_size (f : Nat → ByteArray) (n : Nat) : (strsA f n).size = n := by simp [strsA]
theorem strsA_get (f : Nat → ByteArray) {n j : Nat} (h : j < n) : (strsA f n)[j]? = some (.string (f j)) := by simp [strsA, h]
theorem strsA_eq {f : Nat → ByteArray} {n : Nat} {cs : Array Value} (hs : cs.size = n) (h : ∀ j, j < n → cs[j]? = some (.string (f j))) : cs = strsA f n := by
  apply Array.ext_getElem?
  intro j
  by_cases hj : j < n
  · rw [h j hj, strsA_get f hj]
  · rw [Array.getElem?_eq_none (by omega), Array.getElem?_eq_none (by rw [strsA_size]; omega)]
theorem strsA_set (f : Nat → ByteArray) (n k : Nat) (c : ByteArray) : (strsA f n).setIfInBounds k (.string c) = strsA (fun j => if j = k then c else f j) n := by
  refine strsA_eq (by simp [strsA_size]) fun j hj => ?_
  by_cases e : j = k
  · subst e
    rw [Array.getElem?_setIfInBounds_self_of_lt (by rw [strsA_size]; exact hj), if_pos rfl]
  · rw [Array.getElem?_setIfInBounds_ne (by omega), if_neg e, strsA_get f hj]
theorem strsA_congr {f f' : Nat → ByteArray} {n : Nat} (h : ∀ j, j < n → f j = f' j) : strsA f n = strsA f' n := by
  refine strsA_eq (strsA_size f n) fun j hj => ?_
  rw [strsA_get f hj, h j hj]
/-- the first k texts of l, nothing behind them -/
def cutF (l : List ByteArray) (k : Nat) : Nat → ByteArray := fun j => if j < k then l.getD j ByteArray.empty else ByteArray.empty
theorem cutF_step (l : List ByteArray) (n k : Nat) (hk : k < l.length) : strsA (cutF l (k + 1)) n = (strsA (cutF l k) n).setIfInBounds k (.string l[k]) := by
  rw [strsA_set]
  refine strsA_congr fun j hj => ?_
  unfold cutF
  by_cases e : j = k
  · subst e; rw [if_pos (by omega), if_pos rfl]; simp [hk]
  · rw [if_neg e]
    by_cases h' : j < k
    · rw [if_pos (by omega), if_pos h']
    · rw [if_neg (by omega), if_neg h']
/-- a block that holds the texts l reads as them -/
theorem SIn.row {w : World} {g B : Nat} {l : List ByteArray} {t : TypeId} {fr : Nat × Nat} (hl : slenS l) (hB : g < B) (h : w.heap[g]? = some (.cells (strsA (cutF l l.length) l.length) t fr)) : SIn w B (some ⟨g, 0, none⟩) l :=
  ⟨hl, fun _ => ⟨g, 0, rfl, hB, fun i hi => by
    rw [Nat.zero_add, cell_of_row w g i _ t fr h, strsA_get _ hi]
    unfold cutF
    rw [if_pos hi]
    simp [hi]⟩⟩

theorem infoS1 : (Tryd.prog.info? 9).map (fun i => (i.zero, i.size, i.bytes)) = some (some (.string ByteArray.empty), 1, 16) := by kernel_rfl
theorem made_strs (n : Nat) : madeCells #[.string ByteArray.empty] n = strsA (fun _ => ByteArray.empty) n := by
  refine strsA_eq (size_madeCells _ _) fun j hj => ?_
  simp [madeCells, hj, Nat.mod_one]
theorem run_mks (w : World) (n : Nat) (hn : n ≤ 1048576) : (Instr.makeSlice 43 (.int .i64 (n : Int)) (.int .i64 (n : Int))).run Tryd.prog w = .ok (.slice (some ⟨w.heap.size, 0, none⟩) n n) (w.alloc (.cells (strsA (fun _ => ByteArray.empty) n) 9)) := by
  obtain ⟨i, hi, hz0, hz1, hz2⟩ := info_parts infoS1
  have h := run_make (P := Tryd.prog) w 43 9 i _ Tryd.underlying43 hi hz0 .i64 .i64 (n : Int) (n : Int) (by omega) (by omega) (by rw [hz2]; omega) (by omega)
  rw [hz1, Int.toNat_natCast, Nat.mul_one] at h
  rw [h, ← made_strs]
  rfl

/-- what szStringS leaves: -1, or what is left -/
def SzS (n : Nat) (left : Int) (w : World) (e : Ending) (w' : World) : Prop := (e = .returned (.int .i64 (-1)) ∨ ∃ r : Int, 0 ≤ r ∧ r + n ≤ left ∧ e = .returned (.int .i64 r)) ∧ w = w'

end Go.Proofs.YtkhkcdmmagicmaaDoor
