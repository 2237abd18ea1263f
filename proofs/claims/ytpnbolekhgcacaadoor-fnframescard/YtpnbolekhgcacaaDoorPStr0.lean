/-
  What walks over texts import.
-/
import Derived.Test.YtpnbolekhgcacaaDoorChecked
import Derived.Test.YtpnbolekhgcacaaDoorPMath
import Derived.WalkKit
import Derived.WalkLawsBesides
import Derived.Lib.Hide
