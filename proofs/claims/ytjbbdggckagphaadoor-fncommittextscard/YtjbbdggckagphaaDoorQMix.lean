/-
  What impl.shaMixed makes of a state and a block's words.
-/
import Derived.Test.YtjbbdggckagphaaDoorQModel
import Derived.Test.YtjbbdggckagphaaDoorPQuiet
namespace Go.Proofs.YtjbbdggckagphaaDoor
open Go.RowKit

/-- n words lie at the head of a block -/
def At (w : World) (g n : Nat) (f : Nat → Int) : Prop := ∀ j, j < n → w.cell? ⟨g, j, none⟩ = some (.int .u32 (f j))
theorem At.quiet {w w' : World} {g n : Nat} {f : Nat → Int} (h : At w g n f) (q : Quiet w w') : At w' g n f := fun j hj => (q.cell _).trans (h j hj)
theorem At.below {w w' : World} {g n B : Nat} {f : Nat → Int} (h : At w g n f) (q : Below B w w') (hg : g < B) : At w' g n f := fun j hj => (q.cell (p := ⟨g, j, none⟩) hg).trans (h j hj)
theorem At.of {w : World} {g n : Nat} {f : Nat → Int} {t : TypeId} {fr : Nat × Nat} (h : w.heap[g]? = some (.cells (wordsA f n) t fr)) : At w g n f := fun j hj => by
  rw [cell_of_row w g j _ t fr h, wordsA_get f hj]

theorem wordsA_congr {f f' : Nat → Int} {n : Nat} (h : ∀ j, j < n → f j = f' j) : wordsA f n = wordsA f' n := by
  refine wordsA_eq (wordsA_size f n) fun j hj => ?_
  rw [wordsA_get f hj, h j hj]
theorem wordsA_set (f : Nat → Int) (n k : Nat) (c : Int) : (wordsA f n).setIfInBounds k (.int .u32 c) = wordsA (fun j => if j = k then c else f j) n := by
  refine wordsA_eq (by simp [wordsA_size]) fun j hj => ?_
  by_cases e : j = k
  · subst e
    rw [Array.getElem?_setIfInBounds_self_of_lt (by rw [wordsA_size]; exact hj), if_pos rfl]
  · rw [Array.getElem?_setIfInBounds_ne (by omega), if_neg e, wordsA_get f hj]
theorem wordsA8 (f : Nat → Int) : #[Value.int .u32 (f 0), .int .u32 (f 1), .int .u32 (f 2), .int .u32 (f 3), .int .u32 (f 4), .int .u32 (f 5), .int .u32 (f 6), .int .u32 (f 7)] = wordsA f 8 := by
  simp [wordsA, List.range, List.range.loop]
/-- the state while the first i words are added -/
def midI (v x : Nat → Int) (k i : Nat) : Nat → Int := fun j => if j < i then mixI v x j else rndTo v x k j

end Go.Proofs.YtjbbdggckagphaaDoor
