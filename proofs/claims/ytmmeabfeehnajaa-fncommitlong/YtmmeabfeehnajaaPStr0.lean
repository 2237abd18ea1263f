/-
  What walks over texts import.
-/
import Derived.Test.YtmmeabfeehnajaaChecked
import Derived.Test.YtmmeabfeehnajaaPMath
import Derived.WalkKit
import Derived.WalkLawsBesides
import Derived.Lib.Hide
