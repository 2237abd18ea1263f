/-
  What Inverse answers, in the reference and in the program.
-/
import Derived.Test.YtaofemdhgfejjaaGreatDoorHMem
import Derived.Test.YtaofemdhgfejjaaGreatDoorPStr0
import Derived.Deep.RegionLaw
import Derived.RegionTactic
import Derived.StillTailTactics
import Derived.Deep.RegionHeld3
namespace Go.Proofs.YtaofemdhgfejjaaGreatDoor
open Go.RowKit

/-- a change, turned round -/
def invC (c : Ch) : Ch := (c.1, c.2.2.1, c.2.1, c.2.2.2.2, c.2.2.2.1)
theorem invC_c {c : Ch} (h : cC c) : cC (invC c) := ⟨h.1, h.2.2, h.2.1⟩
def invL (l : List Ch) : List Ch := l.map invC
theorem invL_len (l : List Ch) : (invL l).length = l.length := by simp [invL]
theorem inv_step (l : List Ch) (k : Nat) (h : k < l.length) : invL (l.take k) ++ [invC l[k]] = invL (l.take (k + 1)) := by unfold invL; rw [List.take_succ_eq_append_getElem h, List.map_append]; rfl

end Go.Proofs.YtaofemdhgfejjaaGreatDoor
