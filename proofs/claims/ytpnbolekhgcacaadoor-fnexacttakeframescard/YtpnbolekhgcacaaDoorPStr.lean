/-
  What the functions on single texts answer: spec.l1Key, spec.l1Plain, impl.keyOk, impl.valOk, impl.printable (with isLetter, isDigit).
-/
import Derived.Test.YtpnbolekhgcacaaDoorChecked
import Derived.Test.YtpnbolekhgcacaaDoorPMath
import Derived.WalkKit
import Derived.WalkLawsBesides
namespace Go.Proofs.YtpnbolekhgcacaaDoor
open Go.RowKit





end Go.Proofs.YtpnbolekhgcacaaDoor
