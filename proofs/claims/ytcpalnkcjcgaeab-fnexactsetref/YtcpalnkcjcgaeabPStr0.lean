/-
  What walks over texts import.
-/
import Derived.Test.YtcpalnkcjcgaeabChecked
import Derived.Test.YtcpalnkcjcgaeabPMath
import Derived.WalkKit
import Derived.WalkLawsBesides
import Derived.Lib.Hide
