/-
  What walks over texts import.
-/
import Derived.Test.YtcpalnkcjcgaeaaChecked
import Derived.Test.YtcpalnkcjcgaeaaPMath
import Derived.WalkKit
import Derived.WalkLawsBesides
import Derived.Lib.Hide
