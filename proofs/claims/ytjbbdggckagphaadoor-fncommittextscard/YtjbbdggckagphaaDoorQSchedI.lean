/-
  What impl.shaSchedule makes of a block's bytes.
-/
import Derived.Test.YtjbbdggckagphaaDoorQSched
import Derived.StillTailTactics
import Derived.Laws.Rows
import Derived.Laws.Tables
namespace Go.Proofs.YtjbbdggckagphaaDoor
open Go.RowKit

/-- n words as cells -/
def wordsA (f : Nat → Int) (n : Nat) : Array Value := ((List.range n).map fun j => Value.int .u32 (f j)).toArray
theorem wordsA_size (f : Nat → Int) (n : Nat) : (wordsA f n).size = n := by simp [wordsA]
theorem wordsA_get (f : Nat → Int) {n j : Nat} (h : j < n) : (wordsA f n)[j]? = some (.int .u32 (f j)) := by simp [wordsA, h]
theorem wordsA_one (f : Nat → Int) (n : Nat) : (wordsA f n).all (·.oneCell') = true := by
  refine Array.all_eq_true_iff_forall_mem.2 fun v hv => ?_
  simp [wordsA] at hv
  obtain ⟨a, _, rfl⟩ := hv
  rfl
theorem wordsA_eq {f : Nat → Int} {n : Nat} {cs : Array Value} (hs : cs.size = n) (h : ∀ j, j < n → cs[j]? = some (.int .u32 (f j))) : cs = wordsA f n := by
  apply Array.ext_getElem?
  intro j
  by_cases hj : j < n
  · rw [h j hj, wordsA_get f hj]
  · rw [Array.getElem?_eq_none (by omega), Array.getElem?_eq_none (by rw [wordsA_size]; omega)]
theorem Arr.full {w : World} {g : Nat} {t : TypeId} {f : Nat → Int} (h : Arr w g t f 64) : w.heap[g]? = some (.cells (wordsA f 64) t (0, 0)) := by
  obtain ⟨cs, hh, hs, hc⟩ := h
  rw [hh, wordsA_eq hs hc]
theorem Arr.other {w : World} {g k : Nat} {t : TypeId} {f : Nat → Int} (h : Arr w g t f k) (p : Addr) (v : Value) (hp : g ≠ p.block) : Arr (w.setCell p v) g t f k := by
  obtain ⟨cs, hh, hs, hc⟩ := h
  exact ⟨cs, by rw [heap_setCell_other w p g v hp]; exact hh, hs, hc⟩
theorem Below.setRow {B : Nat} {a w : World} (h : Below B a w) {g : Nat} (hg : B ≤ g) (cs : Array Value) : Below B a (w.setRow g cs) :=
  h.trans ⟨rfl, rfl, rfl, by simp, fun k hk => setRow_other w g k cs (by omega)⟩

end Go.Proofs.YtjbbdggckagphaaDoor
