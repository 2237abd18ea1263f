/-
  What the rows' frames want beside the walks: an argument that is a list of pairs, opened.
-/
import Derived.Test.YtcpalnkcjcgaeaaRows
import Derived.Test.YtcpalnkcjcgaeaaPMem
import Derived.Test.YtcpalnkcjcgaeaaLOpen
import Derived.ProofKit
import Derived.OpenShut
import Derived.ShutString
import Derived.Deep.SlicePairs
namespace Go.Proofs.Ytcpalnkcjcgaeaa
open Go.ChangeShapes Go.WideShapes Go.ChangeAt Go.RowKit Go.Deep
open Go.ChangeMaps (open_string shut_string)

theorem own : ownKnob Try.prog.godebug = none := by kernel_rfl
theorem laidOut : laidOutB Try.prog = true := by kernel_rfl

end Go.Proofs.Ytcpalnkcjcgaeaa
