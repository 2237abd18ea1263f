/-
  What walks over texts import.
-/
import Derived.Test.YtnjdlcpgpgmeaaaDoorChecked
import Derived.Test.YtnjdlcpgpgmeaaaDoorPMath
import Derived.WalkKit
import Derived.WalkLawsBesides
import Derived.Lib.Hide
