/-
  What walks over texts import.
-/
import Derived.Test.YtobbplcccdfemaaChecked
import Derived.Test.YtobbplcccdfemaaPMath
import Derived.WalkKit
import Derived.WalkLawsBesides
import Derived.Lib.Hide
