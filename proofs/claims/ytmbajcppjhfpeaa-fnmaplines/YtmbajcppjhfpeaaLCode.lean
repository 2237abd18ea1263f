/-
  A law's code, opened, beside lists of pairs.
-/
import Derived.Test.YtmbajcppjhfpeaaLFrame
import Derived.Test.YtmbajcppjhfpeaaPRd
import Derived.Test.YtmbajcppjhfpeaaRdCode
