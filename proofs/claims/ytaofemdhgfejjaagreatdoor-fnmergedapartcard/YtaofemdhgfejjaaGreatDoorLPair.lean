/-
  What the laws' own helpers on pairs answer: szPair, szPairS, toPair, toPairS, eqPair, eqPairS.
-/
import Derived.Test.YtaofemdhgfejjaaGreatDoorPMem
import Derived.Test.YtaofemdhgfejjaaGreatDoorPStr0
import Derived.BigQuiet
import Derived.IntWalk
import Derived.Deep.RegionHeld3
namespace Go.Proofs.YtaofemdhgfejjaaGreatDoor
open Go.RowKit

/-- what szPair leaves: -1, or what is left -/
def SzRet (n : Nat) (left : Int) (w : World) (e : Ending) (w' : World) : Prop := (e = .returned (.int .i64 (-1)) ∨ ∃ r : Int, 0 ≤ r ∧ r + n ≤ left ∧ e = .returned (.int .i64 r)) ∧ Below w.heap.size w w'

end Go.Proofs.YtaofemdhgfejjaaGreatDoor
