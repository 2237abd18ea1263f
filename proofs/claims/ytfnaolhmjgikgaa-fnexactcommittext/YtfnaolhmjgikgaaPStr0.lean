/-
  What walks over texts import.
-/
import Derived.Test.YtfnaolhmjgikgaaChecked
import Derived.Test.YtfnaolhmjgikgaaPMath
import Derived.WalkKit
import Derived.WalkLawsBesides
import Derived.Lib.Hide
