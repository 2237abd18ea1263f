/-
  The words of a block, and what impl.shaSchedule makes of its bytes.
-/
import Derived.Test.YtdahpnjamlfakaaGreatDoorQBytes
import Derived.BigQuiet
namespace Go.Proofs.YtdahpnjamlfakaaGreatDoor
open Go.RowKit

def xorI (a b : Int) : Int := bits BinOp.xor IntKind.u32 a b
def addI (a b : Int) : Int := (a + b) % 4294967296
/-- four bytes as a word -/
def beI (a b c d : Int) : Int := bits BinOp.or IntKind.u32 (bits BinOp.or IntKind.u32 (bits BinOp.or IntKind.u32 (a * 16777216) (b * 65536)) (c * 256)) d
def sig0 (x : Int) : Int := xorI (xorI (rotI x 25) (rotI x 14)) (x / 8)
def sig1 (x : Int) : Int := xorI (xorI (rotI x 15) (rotI x 13)) (x / 1024)
/-- the words of a block whose first 16 are m -/
def wAt (m : Nat → Int) (i : Nat) : Int :=
  if h : i < 16 then m i else addI (addI (addI (wAt m (i - 16)) (sig0 (wAt m (i - 15)))) (wAt m (i - 7))) (sig1 (wAt m (i - 2)))
termination_by i

/-- a block of 64 cells whose first k hold the words f -/
def Arr (w : World) (g : Nat) (t : TypeId) (f : Nat → Int) (k : Nat) : Prop := ∃ cs : Array Value, w.heap[g]? = some (.cells cs t (0, 0)) ∧ cs.size = 64 ∧ ∀ j, j < k → cs[j]? = some (.int .u32 (f j))
theorem Arr.zero {w : World} {g : Nat} {t : TypeId} {cs : Array Value} (f : Nat → Int) (h : w.heap[g]? = some (.cells cs t (0, 0))) (hs : cs.size = 64) : Arr w g t f 0 := ⟨cs, h, hs, fun _ h => absurd h (by omega)⟩
theorem Arr.cell {w : World} {g k : Nat} {t : TypeId} {f : Nat → Int} (h : Arr w g t f k) {j : Nat} (hj : j < k) : w.cell? ⟨g, j, none⟩ = some (.int .u32 (f j)) := by
  obtain ⟨cs, hh, _, hc⟩ := h
  rw [cell_of_row w g j cs t (0, 0) hh]
  exact hc j hj
theorem Arr.has {w : World} {g k : Nat} {t : TypeId} {f : Nat → Int} (h : Arr w g t f k) {j : Nat} (hj : j < 64) : ∃ v, w.cell? ⟨g, j, none⟩ = some v := by
  obtain ⟨cs, hh, hs, _⟩ := h
  rw [cell_of_row w g j cs t (0, 0) hh]
  exact ⟨cs[j]'(by omega), Array.getElem?_eq_getElem (by omega)⟩
theorem Arr.store {w : World} {g k : Nat} {t : TypeId} {f : Nat → Int} (h : Arr w g t f k) (hk : k < 64) : Arr (w.setCell ⟨g, k, none⟩ (.int .u32 (f k))) g t f (k + 1) := by
  obtain ⟨cs, hh, hs, hc⟩ := h
  refine ⟨cs.setIfInBounds k (.int .u32 (f k)), heap_setCell_same w g k cs t _ hh, by simp [hs], fun j hj => ?_⟩
  by_cases e : j = k
  · subst e; simp [hs, hk]
  · rw [Array.getElem?_setIfInBounds_ne (by omega)]; exact hc j (by omega)
theorem Arr.drew {w : World} {g k : Nat} {t : TypeId} {f : Nat → Int} (h : Arr w g t f k) : Arr w.drew g t f k := h
theorem Arr.drewN {w : World} {g k : Nat} {t : TypeId} {f : Nat → Int} (h : Arr w g t f k) (n : Nat) : Arr (w.drewN n) g t f k := h

/-- the words that the bytes y hold -/
def mOf (y : Nat → Int) (j : Nat) : Int := beI (y (4 * j)) (y (4 * j + 1)) (y (4 * j + 2)) (y (4 * j + 3))

theorem wAt_low (m : Nat → Int) {i : Nat} (h : i < 16) : wAt m i = m i := by rw [wAt, dif_pos h]
theorem wAt_high (m : Nat → Int) {i : Nat} (h : ¬ i < 16) : wAt m i = addI (addI (addI (wAt m (i - 16)) (sig0 (wAt m (i - 15)))) (wAt m (i - 7))) (sig1 (wAt m (i - 2))) := by rw [wAt, dif_neg h]
theorem wAt_word {m : Nat → Int} (hm : ∀ j, j < 16 → isW (m j)) (i : Nat) : isW (wAt m i) := by
  by_cases h : i < 16
  · rw [wAt_low m h]; exact hm i h
  · rw [wAt_high m h]; exact ⟨Int.emod_nonneg _ (by decide), Int.emod_lt_of_pos _ (by decide)⟩
theorem wrap_word (z : Int) : isW (IntKind.u32.wrap z) := by
  have e : IntKind.u32.wrap z = z % 4294967296 := by simp [IntKind.wrap, IntKind.signed, IntKind.bits]
  rw [e]
  exact ⟨Int.emod_nonneg _ (by decide), Int.emod_lt_of_pos _ (by decide)⟩
theorem or_word (a b : Int) : isW (bits BinOp.or IntKind.u32 a b) := wrap_word _
theorem addI4 (a b c d : Int) : addI (addI (addI a b) c) d = (a + b + c + d) % 4294967296 := by unfold addI; omega
end Go.Proofs.YtdahpnjamlfakaaGreatDoor
