/-
  What walks over texts import.
-/
import Derived.Test.YtaibonbabicilaaDoorChecked
import Derived.Test.YtaibonbabicilaaDoorPMath
import Derived.WalkKit
import Derived.WalkLawsBesides
import Derived.Lib.Hide
