/-
  What the rows' frames want beside the walks: an argument that is a list of pairs, opened.
-/
import Derived.Test.YtmmeabfeehnajaaRows
import Derived.Test.YtmmeabfeehnajaaPMem
import Derived.ProofKit
import Derived.OpenShut
import Derived.Deep.SlicePairs
import Derived.Test.YtmmeabfeehnajaaChecked
import Derived.ProofKit
import Derived.OpenShut
import Derived.ShutString
import Derived.Deep.SlicePairs
namespace Go.Proofs.Ytmmeabfeehnajaa
open Go.ChangeShapes Go.WideShapes Go.ChangeAt Go.RowKit Go.Deep
open Go.ChangeMaps (open_string shut_string)

theorem own : ownKnob Try.prog.godebug = none := by kernel_rfl
theorem laidOut : laidOutB Try.prog = true := by kernel_rfl

end Go.Proofs.Ytmmeabfeehnajaa
