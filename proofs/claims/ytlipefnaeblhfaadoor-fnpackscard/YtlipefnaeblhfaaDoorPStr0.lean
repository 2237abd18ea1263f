/-
  What walks over texts import.
-/
import Derived.Test.YtlipefnaeblhfaaDoorChecked
import Derived.Test.YtlipefnaeblhfaaDoorPMath
import Derived.WalkKit
import Derived.WalkLawsBesides
import Derived.Lib.Hide
