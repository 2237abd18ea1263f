/-
  What walks over texts import.
-/
import Derived.Test.YtggabolaohlfjaaChecked
import Derived.Test.YtggabolaohlfjaaPMath
import Derived.WalkKit
import Derived.WalkLawsBesides
import Derived.Lib.Hide
