/-
  What walks over texts import.
-/
import Derived.Test.YtobbplcccdfemaaDoorChecked
import Derived.Test.YtobbplcccdfemaaDoorPMath
import Derived.WalkKit
import Derived.WalkLawsBesides
import Derived.Lib.Hide
