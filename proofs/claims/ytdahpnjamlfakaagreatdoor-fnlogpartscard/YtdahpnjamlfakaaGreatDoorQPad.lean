/-
  The padded text, and what impl.shaPadded makes of a text.
-/
import Derived.Test.YtdahpnjamlfakaaGreatDoorQModel
import Derived.Test.YtdahpnjamlfakaaGreatDoorPQuiet
import Derived.Deep.WholeRow
import Derived.Lib.SlBuf
import Derived.Lib.BufferWrite
import Derived.OwnWalk
namespace Go.Proofs.YtdahpnjamlfakaaGreatDoor
open Go.RowKit

/-- a byte of a text, 0 behind it -/
def sB (s : ByteArray) (j : Nat) : Int := if h : j < s.size then (s[j].toNat : Int) else 0
theorem sB_in {s : ByteArray} {j : Nat} (h : j < s.size) : sB s j = (s[j].toNat : Int) := dif_pos h
theorem sB_byte (s : ByteArray) (j : Nat) : 0 ≤ sB s j ∧ sB s j < 256 := by
  unfold sB
  split
  · rename_i h; have := s[j].toNat_lt; omega
  · omega
/-- how many bytes the padded text has -/
def padN (n : Nat) : Nat := (n + 72) / 64 * 64
theorem padN_ge (n : Nat) : n + 9 ≤ padN n := by unfold padN; omega
theorem padN_le (n : Nat) : padN n ≤ n + 72 := by unfold padN; omega
/-- the padded text while the last k bytes are laid -/
def midP (s : ByteArray) (k : Nat) : Nat → Int := fun j =>
  if padN s.size - k ≤ j then (8 * s.size : Int) / 256 ^ (padN s.size - 1 - j) % 256 else if j = s.size then 128 else sB s j
def padY (s : ByteArray) : Nat → Int := midP s 8
theorem midP_byte (s : ByteArray) (k j : Nat) : 0 ≤ midP s k j ∧ midP s k j < 256 := by
  unfold midP
  split
  · exact ⟨Int.emod_nonneg _ (by decide), Int.emod_lt_of_pos _ (by decide)⟩
  · split
    · omega
    · exact sB_byte s j
theorem padY_byte (s : ByteArray) (j : Nat) : 0 ≤ padY s j ∧ padY s j < 256 := midP_byte s 8 j

/-- n bytes as cells -/
def bytesA (f : Nat → Int) (n : Nat) : Array Value := ((List.range n).map fun j => Value.int .u8 (f j)).toArray
theorem bytesA_size (f : Nat → Int) (n : Nat) : (bytesA f n).size = n := by simp [bytesA]
theorem bytesA_get (f : Nat → Int) {n j : Nat} (h : j < n) : (bytesA f n)[j]? = some (.int .u8 (f j)) := by simp [bytesA, h]
theorem bytesA_eq {f : Nat → Int} {n : Nat} {cs : Array Value} (hs : cs.size = n) (h : ∀ j, j < n → cs[j]? = some (.int .u8 (f j))) : cs = bytesA f n := by
  apply Array.ext_getElem?
  intro j
  by_cases hj : j < n
  · rw [h j hj, bytesA_get f hj]
  · rw [Array.getElem?_eq_none (by omega), Array.getElem?_eq_none (by rw [bytesA_size]; omega)]
theorem bytesA_congr {f f' : Nat → Int} {n : Nat} (h : ∀ j, j < n → f j = f' j) : bytesA f n = bytesA f' n := by
  refine bytesA_eq (bytesA_size f n) fun j hj => ?_
  rw [bytesA_get f hj, h j hj]
theorem bytesA_set (f : Nat → Int) (n k : Nat) (c : Int) : (bytesA f n).setIfInBounds k (.int .u8 c) = bytesA (fun j => if j = k then c else f j) n := by
  refine bytesA_eq (by simp [bytesA_size]) fun j hj => ?_
  by_cases e : j = k
  · subst e
    rw [Array.getElem?_setIfInBounds_self_of_lt (by rw [bytesA_size]; exact hj), if_pos rfl]
  · rw [Array.getElem?_setIfInBounds_ne (by omega), if_neg e, bytesA_get f hj]
theorem made_bytes (n : Nat) : madeCells #[.int .u8 0] n = bytesA (fun _ => 0) n := by
  refine bytesA_eq (size_madeCells _ _) fun j hj => ?_
  simp [madeCells, hj, Nat.mod_one]

theorem infoB : (Tryz.prog.info? 5).map (fun i => (i.zero, i.size, i.bytes)) = some (some (.int .u8 0), 1, 1) := by kernel_rfl
theorem run_mkb (w : World) (n : Nat) (hn : n ≤ 3000) : (Instr.makeSlice 22 (.int .i64 (n : Int)) (.int .i64 (n : Int))).run Tryz.prog w = .ok (.slice (some ⟨w.heap.size, 0, none⟩) n n) (w.alloc (.cells (bytesA (fun _ => 0) n) 5)) := by
  obtain ⟨i, hi, hz0, hz1, hz2⟩ := info_parts infoB
  have h := run_make (P := Tryz.prog) w 22 5 i _ Tryz.underlying22 hi hz0 .i64 .i64 (n : Int) (n : Int) (by omega) (by omega) (by rw [hz2]; omega) (by omega)
  rw [hz1, Int.toNat_natCast, Nat.mul_one] at h
  rw [h, ← made_bytes]
  rfl
theorem byteCells_get (s : ByteArray) (j : Nat) (h : j < s.size) : (Lib.byteCells s.data.toList)[j]? = some (.int .u8 (sB s j)) := by
  have h' : j < s.data.toList.length := by simpa using h
  rw [sB_in h]
  simp only [Lib.byteCells, List.getElem?_map, List.getElem?_eq_getElem h', Option.map_some]
  rfl
theorem copied (s : ByteArray) (n : Nat) (h : s.size ≤ n) : ((bytesA (fun _ => 0) n).toList.take 0 ++ Lib.byteCells s.data.toList ++ (bytesA (fun _ => 0) n).toList.drop (0 + s.size)).toArray = bytesA (sB s) n := by
  have hl : (Lib.byteCells s.data.toList).length = s.size := by rw [Lib.byteCells_length]; simp
  refine bytesA_eq ?_ fun j hj => ?_
  · simp [hl, bytesA_size]; omega
  · simp only [List.take_zero, List.nil_append, Nat.zero_add, List.getElem?_toArray]
    by_cases hj' : j < s.size
    · rw [List.getElem?_append_left (by omega), byteCells_get s j hj']
    · rw [List.getElem?_append_right (by omega), List.getElem?_drop, hl, show s.size + (j - s.size) = j by omega]
      have := bytesA_get (fun _ => (0 : Int)) hj
      rw [Array.getElem?_toList, this]
      unfold sB
      rw [dif_neg hj']

set_option maxRecDepth 100000 in
set_option maxHeartbeats 2000000 in
theorem shaPadded_any (s : ByteArray) (w : World) (hs : s.size ≤ 2000) :
    Calls Tryz.prog 128 #[.string s] w fun e w' => e = .returned (.slice (some ⟨w.heap.size, 0, none⟩) (padN s.size) (padN s.size)) ∧ Below w.heap.size w w' ∧ w'.heap[w.heap.size]? = some (.cells (bytesA (padY s) (padN s.size)) 5 (0, 0)) := by
  have hN1 := padN_ge s.size
  have hN2 := padN_le s.size
  have hmk : (Instr.makeSlice 22 (.int .i64 (((s.size : Int) + 1 + 8 + 64 - 1) / 64 * 64)) (.int .i64 (((s.size : Int) + 1 + 8 + 64 - 1) / 64 * 64))).run Tryz.prog w = .ok (.slice (some ⟨w.heap.size, 0, none⟩) (padN s.size) (padN s.size)) (w.alloc (.cells (bytesA (fun _ => 0) (padN s.size)) 5)) := by
    rw [show ((s.size : Int) + 1 + 8 + 64 - 1) / 64 * 64 = ((padN s.size : Nat) : Int) by unfold padN; omega]
    exact run_mkb w (padN s.size) (by omega)
  have hcp : ∃ w2, (∀ ty, (Builtin.copy_ #[22, 9] ty #[.slice (some ⟨w.heap.size, 0, none⟩) (padN s.size) (padN s.size), .string s]).run Tryz.prog (w.alloc (.cells (bytesA (fun _ => 0) (padN s.size)) 5)) = .ok (goInt s.size) w2) ∧ Below w.heap.size w w2 ∧ w2.heap[w.heap.size]? = some (.cells (bytesA (sB s) (padN s.size)) 5 (0, 0)) := by
    have hh := heap_alloc_new w (.cells (bytesA (fun _ => 0) (padN s.size)) 5)
    refine ⟨_, fun ty => Lib.run_copy_row_string (P := Tryz.prog) _ 22 9 ty 5 w.heap.size 0 (padN s.size) (padN s.size) s _ 5 Tryz.underlying22 (by kernel_rfl) hh (by omega) (by rw [bytesA_size]; omega), ?_, ?_⟩
    · exact Below.setRow ((Below.refl _ w).alloc (Nat.le_refl _) _) (Nat.le_refl _) _
    · rw [setRow_heap _ w.heap.size _ _ _ _ hh, copied s _ (by omega)]
  obtain ⟨w2, hcp, BL, RW⟩ := hcp
  have HCP := hide hcp
  have HB := hide BL
  have HR := hide RW
  clear hcp BL RW
  have M0 : Hid (bytesA (midP s 0) (padN s.size) = (bytesA (sB s) (padN s.size)).setIfInBounds s.size (.int .u8 128)) := hide (by
    rw [bytesA_set]
    refine bytesA_congr fun j hj => ?_
    unfold midP
    rw [if_neg (by omega)])
  have MS : Hid (∀ k, k < 8 → bytesA (midP s (k + 1)) (padN s.size) = (bytesA (midP s k) (padN s.size)).setIfInBounds (padN s.size - 1 - k) (.int .u8 ((8 * s.size : Int) / 256 ^ k % 256))) := hide fun k hk => by
    rw [bytesA_set]
    refine bytesA_congr fun j hj => ?_
    unfold midP
    by_cases e : j = padN s.size - 1 - k
    · rw [if_pos (by omega), if_pos e, show padN s.size - 1 - j = k by omega]
    · rw [if_neg e]
      by_cases h' : padN s.size - k ≤ j
      · rw [if_pos (by omega), if_pos h']
      · rw [if_neg (by omega), if_neg h']
  have FIN : Hid (padY s = midP s 8) := hide rfl
  generalize padN s.size = N at *
  have cs : w2.cell? ⟨w.heap.size, s.size, none⟩ = some (.int .u8 (sB s s.size)) := by rw [cell_of_row w2 _ _ _ _ _ HR.out, bytesA_get _ (by omega)]
  have fs : w2.frozen? ⟨w.heap.size, s.size, none⟩ = false := frozen_of_row w2 _ _ _ _ HR.out
  go_enter Tryz.func128, Tryz.ntmps128
  go_wp2_with (refine Lib.wpList_copy_run _ rfl _ _ 22 9 rfl _ _ rfl rfl (HCP.out _) ?_)
  have R0 : Hid ((w2.setCell ⟨w.heap.size, s.size, none⟩ (.int .u8 128)).heap[w.heap.size]? = some (.cells (bytesA (midP s 0) N) 5 (0, 0))) := hide (by rw [M0.out]; exact heap_setCell_same w2 _ _ _ _ _ HR.out)
  have B0 : Hid (Below w.heap.size w (w2.setCell ⟨w.heap.size, s.size, none⟩ (.int .u8 128))) := hide (HB.out.setCell (p := ⟨w.heap.size, s.size, none⟩) (Nat.le_refl _) _)
  clear cs fs
  go_loopw [30] (fun iv wr => ∃ k : Nat, k ≤ 8 ∧ iv = .int .i64 k ∧ Hid (wr.heap[w.heap.size]? = some (.cells (bytesA (midP s k) N) 5 (0, 0))) ∧ Hid (Below w.heap.size w wr)) (fun i _ => 8 - (intOf i).toNat)
  case atStart => exact ⟨0, by omega, rfl, R0, B0⟩
  case round =>
    clear R0 B0
    obtain ⟨k, hk, rfl, R, Q⟩ := hrel
    by_cases hlt : k < 8
    · have cs : wr.cell? ⟨w.heap.size, N - 1 - k, none⟩ = some (.int .u8 (midP s k (N - 1 - k))) := by rw [cell_of_row wr _ _ _ _ _ R.out, bytesA_get _ (by omega)]
      have fs : wr.frozen? ⟨w.heap.size, N - 1 - k, none⟩ = false := frozen_of_row wr _ _ _ _ R.out
      have tn : ((N : Int) - 1 - (k : Int)).toNat = N - 1 - k := by omega
      have ev : Hid ((s.size : Int) * 8 / 2 ^ (8 * k) % 256 = (8 * s.size : Int) / 256 ^ k % 256) := hide (by
        rw [Int.mul_comm (s.size : Int) 8, Int.pow_mul]
        rfl)
      go_wp2
      refine ⟨⟨k + 1, by omega, by go_num, hide ?_, hide (Q.out.setCell (p := ⟨w.heap.size, N - 1 - k, none⟩) (Nat.le_refl _) _)⟩, by simp [intOf]; omega⟩
      rw [MS.out k hlt, ev.out]
      exact heap_setCell_same wr _ _ _ _ _ R.out
    · have e8 : Hid (k = 8) := hide (by omega)
      have hgt : ¬ ((k : Int) < 8) := by omega
      clear hlt
      go_wp2
      go_ret
      refine ⟨rfl, Q.out, ?_⟩
      rw [FIN.out, ← e8.out]
      exact R.out
end Go.Proofs.YtdahpnjamlfakaaGreatDoor
