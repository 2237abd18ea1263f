/-
  What impl.Sha256 gives.
-/
import Derived.Test.YtjbbdggckagphaaDoorQPad
import Derived.Test.YtjbbdggckagphaaDoorQMix
import Derived.Test.YtjbbdggckagphaaDoorQBytes
import Derived.Deep.RegionWith
import Derived.Deep.MidRow
namespace Go.Proofs.YtjbbdggckagphaaDoor
open Go.RowKit

/-- eight words as a string -/
def digB (v : Nat → Int) : ByteArray := strOfNums ([v 0, v 1, v 2, v 3, v 4, v 5, v 6, v 7].flatMap bytesI)
/-- the digest of a text, without the bound -/
def shaL (s : ByteArray) : ByteArray := digB (stTo (padY s) (padN s.size / 64))
/-- the digest of a text; nothing for more than 2000 bytes -/
def shaB (s : ByteArray) : ByteArray := if s.size ≤ 2000 then shaL s else ByteArray.empty
theorem row8 {w : World} {g : Nat} {t : TypeId} {v : Nat → Int} (u : Nat → Int) (h : w.heap[g]? = some (.cells (wordsA v 8) t (0, 0))) :
    ((((((((w.setCell ⟨g, 0, none⟩ (.int .u32 (u 0))).setCell ⟨g, 1, none⟩ (.int .u32 (u 1))).setCell ⟨g, 2, none⟩ (.int .u32 (u 2))).setCell ⟨g, 3, none⟩ (.int .u32 (u 3))).setCell ⟨g, 4, none⟩ (.int .u32 (u 4))).setCell ⟨g, 5, none⟩ (.int .u32 (u 5))).setCell ⟨g, 6, none⟩ (.int .u32 (u 6))).setCell ⟨g, 7, none⟩ (.int .u32 (u 7))).heap[g]? = some (.cells (wordsA u 8) t (0, 0)) := by
  have h0 := heap_setCell_same w g 0 _ t (.int .u32 (u 0)) h
  have h1 := heap_setCell_same _ g 1 _ t (.int .u32 (u 1)) h0
  have h2 := heap_setCell_same _ g 2 _ t (.int .u32 (u 2)) h1
  have h3 := heap_setCell_same _ g 3 _ t (.int .u32 (u 3)) h2
  have h4 := heap_setCell_same _ g 4 _ t (.int .u32 (u 4)) h3
  have h5 := heap_setCell_same _ g 5 _ t (.int .u32 (u 5)) h4
  have h6 := heap_setCell_same _ g 6 _ t (.int .u32 (u 6)) h5
  have h7 := heap_setCell_same _ g 7 _ t (.int .u32 (u 7)) h6
  rw [h7]
  simp only [wordsA_set]
  rw [wordsA_congr (f' := u) (fun j hj => by
    rcases (show j = 0 ∨ j = 1 ∨ j = 2 ∨ j = 3 ∨ j = 4 ∨ j = 5 ∨ j = 6 ∨ j = 7 by omega) with e | e | e | e | e | e | e | e <;> subst e <;> simp)]
theorem below8 {B : Nat} {a w : World} (h : Below B a w) {g : Nat} (hg : B ≤ g) (c0 c1 c2 c3 c4 c5 c6 c7 : Value) :
    Below B a ((((((((w.setCell ⟨g, 0, none⟩ c0).setCell ⟨g, 1, none⟩ c1).setCell ⟨g, 2, none⟩ c2).setCell ⟨g, 3, none⟩ c3).setCell ⟨g, 4, none⟩ c4).setCell ⟨g, 5, none⟩ c5).setCell ⟨g, 6, none⟩ c6).setCell ⟨g, 7, none⟩ c7) :=
  (((((((h.setCell (p := ⟨g, 0, none⟩) hg _).setCell (p := ⟨g, 1, none⟩) hg _).setCell (p := ⟨g, 2, none⟩) hg _).setCell (p := ⟨g, 3, none⟩) hg _).setCell (p := ⟨g, 4, none⟩) hg _).setCell (p := ⟨g, 5, none⟩) hg _).setCell (p := ⟨g, 6, none⟩) hg _).setCell (p := ⟨g, 7, none⟩) hg _

end Go.Proofs.YtjbbdggckagphaaDoor
