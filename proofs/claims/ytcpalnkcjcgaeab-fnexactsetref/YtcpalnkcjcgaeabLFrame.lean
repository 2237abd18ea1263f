/-
  What the rows' frames want beside the walks: an argument that is a list of pairs, opened.
-/
import Derived.Test.YtcpalnkcjcgaeabRows
import Derived.Test.YtcpalnkcjcgaeabPMem
import Derived.Test.YtcpalnkcjcgaeabLOpen
import Derived.ProofKit
import Derived.OpenShut
import Derived.ShutString
import Derived.Deep.SlicePairs
namespace Go.Proofs.Ytcpalnkcjcgaeab
open Go.ChangeShapes Go.WideShapes Go.ChangeAt Go.RowKit Go.Deep
open Go.ChangeMaps (open_string shut_string)

theorem own : ownKnob Try.prog.godebug = none := by kernel_rfl
theorem laidOut : laidOutB Try.prog = true := by kernel_rfl

end Go.Proofs.Ytcpalnkcjcgaeab
