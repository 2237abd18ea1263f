/-
  What walks over texts import.
-/
import Derived.Test.YtnchghfddhjonaaDoorChecked
import Derived.Test.YtnchghfddhjonaaDoorPMath
import Derived.WalkKit
import Derived.WalkLawsBesides
import Derived.Lib.Hide
