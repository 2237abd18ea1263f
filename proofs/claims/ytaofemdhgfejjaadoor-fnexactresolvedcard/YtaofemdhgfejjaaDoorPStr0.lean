/-
  What walks over texts import.
-/
import Derived.Test.YtaofemdhgfejjaaDoorChecked
import Derived.Test.YtaofemdhgfejjaaDoorPMath
import Derived.WalkKit
import Derived.WalkLawsBesides
import Derived.Lib.Hide
