/-
  What walks over texts import.
-/
import Derived.Test.YtaofemdhgfejjaaGreatDoorChecked
import Derived.Test.YtaofemdhgfejjaaGreatDoorPMath
import Derived.WalkKit
import Derived.WalkLawsBesides
import Derived.Lib.Hide
