/-
  What walks over texts import.
-/
import Derived.Test.YtkhkcdmmagicmaaDoorChecked
import Derived.Test.YtkhkcdmmagicmaaDoorPMath
import Derived.WalkKit
import Derived.WalkLawsBesides
import Derived.Lib.Hide
