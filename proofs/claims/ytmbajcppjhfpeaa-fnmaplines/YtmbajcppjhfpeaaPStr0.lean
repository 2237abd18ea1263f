/-
  What walks over texts import.
-/
import Derived.Test.YtmbajcppjhfpeaaChecked
import Derived.Test.YtmbajcppjhfpeaaPMath
import Derived.WalkKit
import Derived.WalkLawsBesides
import Derived.Lib.Hide
