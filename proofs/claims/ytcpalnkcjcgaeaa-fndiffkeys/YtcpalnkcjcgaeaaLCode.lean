/-
  A law's code, opened, beside lists of pairs.
-/
import Derived.Test.YtcpalnkcjcgaeaaLFrame
import Derived.Test.YtcpalnkcjcgaeaaPRd
import Derived.Test.YtcpalnkcjcgaeaaRdCode
