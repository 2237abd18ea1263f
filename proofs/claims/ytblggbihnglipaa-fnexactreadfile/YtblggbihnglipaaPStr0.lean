/-
  What walks over texts import.
-/
import Derived.Test.YtblggbihnglipaaChecked
import Derived.Test.YtblggbihnglipaaPMath
import Derived.WalkKit
import Derived.WalkLawsBesides
import Derived.Lib.Hide
