/-
  An argument that is a list of pairs, opened.
-/
import Derived.Test.YtaofemdhgfejjaaGreatDoorPMem
import Derived.Test.YtaofemdhgfejjaaGreatDoorChecked
import Derived.ProofKit
import Derived.OpenShut
import Derived.Deep.SlicePairs
namespace Go.Proofs.YtaofemdhgfejjaaGreatDoor
open Go.ChangeShapes Go.WideShapes Go.ChangeAt Go.RowKit Go.Deep

section
variable {H : Type} {enc : TypeId × Value → H} {W : World}
end
end Go.Proofs.YtaofemdhgfejjaaGreatDoor
