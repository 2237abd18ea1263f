/-
  The padded text, and what impl.shaPadded makes of a text.
-/
import Derived.Test.YtjbbdggckagphaaDoorQModel
import Derived.Test.YtjbbdggckagphaaDoorPQuiet
import Derived.Deep.WholeRow
import Derived.Lib.SlBuf
import Derived.Lib.BufferWrite
import Derived.OwnWalk
namespace Go.Proofs.YtjbbdggckagphaaDoor
open Go.RowKit

/-- a byte of a text, 0 behind it -/
def sB (s : ByteArray) (j : Nat) : Int := if h : j < s.size then (s[j].toNat : Int) else 0
theorem sB_in {s : ByteArray} {j : Nat} (h : j < s.size) : sB s j = (s[j].toNat : Int) := dif_pos h
theorem sB_byte (s : ByteArray) (j : Nat) : 0 ≤ sB s j ∧ sB s j < 256 := by
  unfold sB
  split
  · rename_i h; have := s[j].toNat_lt; omega
  · omega
/-- how many bytes the padded text has -/
def padN (n : Nat) : Nat := (n + 72) / 64 * 64
theorem padN_ge (n : Nat) : n + 9 ≤ padN n := by unfold padN; omega
theorem padN_le (n : Nat) : padN n ≤ n + 72 := by unfold padN; omega
/-- the padded text while the last k bytes are laid -/
def midP (s : ByteArray) (k : Nat) : Nat → Int := fun j =>
  if padN s.size - k ≤ j then (8 * s.size : Int) / 256 ^ (padN s.size - 1 - j) % 256 else if j = s.size then 128 else sB s j
def padY (s : ByteArray) : Nat → Int := midP s 8
theorem midP_byte (s : ByteArray) (k j : Nat) : 0 ≤ midP s k j ∧ midP s k j < 256 := by
  unfold midP
  split
  · exact ⟨Int.emod_nonneg _ (by decide), Int.emod_lt_of_pos _ (by decide)⟩
  · split
    · omega
    · exact sB_byte s j
theorem padY_byte (s : ByteArray) (j : Nat) : 0 ≤ padY s j ∧ padY s j < 256 := midP_byte s 8 j

/-- n bytes as cells -/
def bytesA (f : Nat → Int) (n : Nat) : Array Value := ((List.range n).map fun j => Value.int .u8 (f j)).toArray
theorem bytesA_size (f : Nat → Int) (n : Nat) : (bytesA f n).size = n := by simp [bytesA]
theorem bytesA_get (f : Nat → Int) {n j : Nat} (h : j < n) : (bytesA f n)[j]? = some (.int .u8 (f j)) := by simp [bytesA, h]
theorem bytesA_eq {f : Nat → Int} {n : Nat} {cs : Array Value} (hs : cs.size = n) (h : ∀ j, j < n → cs[j]? = some (.int .u8 (f j))) : cs = bytesA f n := by
  apply Array.ext_getElem?
  intro j
  by_cases hj : j < n
  · rw [h j hj, bytesA_get f hj]
  · rw [Array.getElem?_eq_none (by omega), Array.getElem?_eq_none (by rw [bytesA_size]; omega)]
theorem bytesA_congr {f f' : Nat → Int} {n : Nat} (h : ∀ j, j < n → f j = f' j) : bytesA f n = bytesA f' n := by
  refine bytesA_eq (bytesA_size f n) fun j hj => ?_
  rw [bytesA_get f hj, h j hj]
theorem bytesA_set (f : Nat → Int) (n k : Nat) (c : Int) : (bytesA f n).setIfInBounds k (.int .u8 c) = bytesA (fun j => if j = k then c else f j) n := by
  refine bytesA_eq (by simp [bytesA_size]) fun j hj => ?_
  by_cases e : j = k
  · subst e
    rw [Array.getElem?_setIfInBounds_self_of_lt (by rw [bytesA_size]; exact hj), if_pos rfl]
  · rw [Array.getElem?_setIfInBounds_ne (by omega), if_neg e, bytesA_get f hj]
theorem made_bytes (n : Nat) : madeCells #[.int .u8 0] n = bytesA (fun _ => 0) n := by
  refine bytesA_eq (size_madeCells _ _) fun j hj => ?_
  simp [madeCells, hj, Nat.mod_one]

theorem infoB : (Tryd.prog.info? 5).map (fun i => (i.zero, i.size, i.bytes)) = some (some (.int .u8 0), 1, 1) := by kernel_rfl
theorem run_mkb (w : World) (n : Nat) (hn : n ≤ 3000) : (Instr.makeSlice 22 (.int .i64 (n : Int)) (.int .i64 (n : Int))).run Tryd.prog w = .ok (.slice (some ⟨w.heap.size, 0, none⟩) n n) (w.alloc (.cells (bytesA (fun _ => 0) n) 5)) := by
  obtain ⟨i, hi, hz0, hz1, hz2⟩ := info_parts infoB
  have h := run_make (P := Tryd.prog) w 22 5 i _ Tryd.underlying22 hi hz0 .i64 .i64 (n : Int) (n : Int) (by omega) (by omega) (by rw [hz2]; omega) (by omega)
  rw [hz1, Int.toNat_natCast, Nat.mul_one] at h
  rw [h, ← made_bytes]
  rfl
theorem byteCells_get (s : ByteArray) (j : Nat) (h : j < s.size) : (Lib.byteCells s.data.toList)[j]? = some (.int .u8 (sB s j)) := by
  have h' : j < s.data.toList.length := by simpa using h
  rw [sB_in h]
  simp only [Lib.byteCells, List.getElem?_map, List.getElem?_eq_getElem h', Option.map_some]
  rfl
theorem copied (s : ByteArray) (n : Nat) (h : s.size ≤ n) : ((bytesA (fun _ => 0) n).toList.take 0 ++ Lib.byteCells s.data.toList ++ (bytesA (fun _ => 0) n).toList.drop (0 + s.size)).toArray = bytesA (sB s) n := by
  have hl : (Lib.byteCells s.data.toList).length = s.size := by rw [Lib.byteCells_length]; simp
  refine bytesA_eq ?_ fun j hj => ?_
  · simp [hl, bytesA_size]; omega
  · simp only [List.take_zero, List.nil_append, Nat.zero_add, List.getElem?_toArray]
    by_cases hj' : j < s.size
    · rw [List.getElem?_append_left (by omega), byteCells_get s j hj']
    · rw [List.getElem?_append_right (by omega), List.getElem?_drop, hl, show s.size + (j - s.size) = j by omega]
      have := bytesA_get (fun _ => (0 : Int)) hj
      rw [Array.getElem?_toList, this]
      unfold sB
      rw [dif_neg hj']

end Go.Proofs.YtjbbdggckagphaaDoor
