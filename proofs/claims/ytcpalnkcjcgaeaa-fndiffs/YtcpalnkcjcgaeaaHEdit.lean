/-
  What impl.writePair writes.
-/
import Derived.Test.YtcpalnkcjcgaeaaPBld
import Derived.Test.YtcpalnkcjcgaeaaPStr0
namespace Go.Proofs.Ytcpalnkcjcgaeaa
open Go.RowKit

/-- the line of a pair, a sign ahead -/
def lineG (g x y : ByteArray) : ByteArray := g ++ x ++ ⟨#[61]⟩ ++ y ++ ⟨#[10]⟩
theorem lineG_cells (bs : List Value) (g x y : ByteArray) : ((((bs ++ Lib.strCells g) ++ Lib.strCells x) ++ [Value.int .u8 61]) ++ Lib.strCells y) ++ [Value.int .u8 10] = bs ++ Lib.strCells (lineG g x y) := by
  unfold lineG
  simp [Lib.strCells, ByteArray.data_append]

set_option maxRecDepth 100000 in
set_option maxHeartbeats 2000000 in
theorem writePair_any (B b : Nat) (bs : List Value) (g x y : ByteArray) (w : World) (h : IsBld B b bs w) (hlen : bs.length + g.size + x.size + y.size + 2 ≤ 140737488355328) (hBw : B ≤ w.heap.size) :
    Calls Try.prog 48 #[.pointer (some ⟨b, 0, none⟩), .string g, .agg #[.string x, .string y]] w fun e w' => e = .returned (.tuple #[]) ∧ IsBld B b (bs ++ Lib.strCells (lineG g x y)) w' ∧ Below B w w' ∧ KeptB b w w' := by
  have hblt : b < w.heap.size := by
    rcases h with h | h <;> exact h.lt
  have I2 := hide (h.below ((Below.refl _ w).alloc (Nat.le_refl _) (.cells #[.string x, .string y] 73)))
  have Q2 := hide ((Below.refl B w).alloc hBw (.cells #[.string x, .string y] 73))
  have K2 : Hid (KeptB b w (w.alloc (.cells #[.string x, .string y] 73))) := hide (KeptB.below ((Below.refl _ w).alloc (Nat.le_refl _) _))
  have HH0 := hide (heap_alloc_new w (.cells #[.string x, .string y] 73))
  have E := hide (lineG_cells bs g x y)
  clear h
  go_enter Try.func48, Try.ntmps48
  go_wp2_with fail
  refine (writeString_any B b bs g _ I2.out (by omega) (Nat.le_trans hBw Q2.out.size)).mono ?_
  rintro e w2 ⟨rfl, i2, b2, k2⟩
  have I3 := hide i2
  have Q3 := hide (Q2.out.trans b2)
  have K3 := hide (K2.out.trans k2)
  have hh := k2 w.heap.size _ _ _ (by omega) HH0.out (by decide)
  have HH1 := hide hh
  have d0 : w2.cell? ⟨w.heap.size, 0, none⟩ = some (.string x) := by rw [Lib.cell_of_heap hh]; rfl
  clear i2 b2 k2 I2 Q2 K2 HH0 hh
  go_wp2_with fail
  refine (writeString_any B b _ x _ I3.out (by rw [List.length_append, Lib.strCells_length]; omega) (Nat.le_trans hBw Q3.out.size)).mono ?_
  rintro e w3 ⟨rfl, i3, b3, k3⟩
  have I4 := hide i3
  have Q4 := hide (Q3.out.trans b3)
  have K4 := hide (K3.out.trans k3)
  have hh := k3 w.heap.size _ _ _ (by omega) HH1.out (by decide)
  have HH2 := hide hh
  clear i3 b3 k3 I3 Q3 K3 HH1 hh d0
  go_wp2_with fail
  refine (writeByte_any B b _ 61 _ I4.out (by rw [List.length_append, List.length_append, Lib.strCells_length, Lib.strCells_length]; omega) (Nat.le_trans hBw Q4.out.size)).mono ?_
  rintro e w4 ⟨rfl, i4, b4, k4⟩
  have I5 := hide i4
  have Q5 := hide (Q4.out.trans b4)
  have K5 := hide (K4.out.trans k4)
  have hh := k4 w.heap.size _ _ _ (by omega) HH2.out (by decide)
  have HH3 := hide hh
  have d1 : w4.cell? ⟨w.heap.size, 1, none⟩ = some (.string y) := by rw [Lib.cell_of_heap hh]; rfl
  clear i4 b4 k4 I4 Q4 K4 HH2 hh
  go_wp2_with fail
  refine (writeString_any B b _ y _ I5.out (by rw [List.length_append, List.length_append, List.length_append, Lib.strCells_length, Lib.strCells_length]; simp; omega) (Nat.le_trans hBw Q5.out.size)).mono ?_
  rintro e w5 ⟨rfl, i5, b5, k5⟩
  have I6 := hide i5
  have Q6 := hide (Q5.out.trans b5)
  have K6 := hide (K5.out.trans k5)
  clear i5 b5 k5 I5 Q5 K5 HH3 d1
  go_wp2_with fail
  refine (writeByte_any B b _ 10 _ I6.out (by rw [List.length_append, List.length_append, List.length_append, List.length_append, Lib.strCells_length, Lib.strCells_length, Lib.strCells_length]; simp; omega) (Nat.le_trans hBw Q6.out.size)).mono ?_
  rintro e w6 ⟨rfl, i6, b6, k6⟩
  rw [E.out] at i6
  have I7 := hide i6
  have Q7 := hide (Q6.out.trans b6)
  have K7 := hide (K6.out.trans k6)
  clear i6 b6 k6 I6 Q6 K6
  go_wp2
  first
    | (refine bodyPost_ret (results_none rfl _ _ _) rfl ?_; exact ⟨rfl, I7.out, Q7.out, K7.out⟩)
    | (go_end0; exact ⟨rfl, I7.out, Q7.out, K7.out⟩)
    | exact ⟨rfl, I7.out, Q7.out, K7.out⟩
theorem string_any (B b : Nat) (l : List UInt8) (w : World) (h : IsBld B b (Lib.byteCells l) w) (h0 : l = [] → w.heap[b]? = some (.cells #[.pointer none, .slice none 0 0] 70 (0, 0))) :
    Calls Try.prog 49 #[.pointer (some ⟨b, 0, none⟩)] w fun e w' => e = .returned (.string ⟨l.toArray⟩) ∧ Below B w w' := by
  by_cases e : l = []
  · subst e
    exact string_none B b (.pointer none) w (h0 rfl)
  · exact string_some B b l w h e
end Go.Proofs.Ytcpalnkcjcgaeaa
