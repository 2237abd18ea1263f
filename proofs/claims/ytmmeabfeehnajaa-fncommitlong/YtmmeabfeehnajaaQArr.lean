/-
  Arrays by value: a place of one.
-/
import Derived.Test.YtmmeabfeehnajaaQRot
import Derived.OwnWalk
import Derived.Laws.PanicsMore
namespace Go.Proofs.Ytmmeabfeehnajaa
open Go.RowKit
end Go.Proofs.Ytmmeabfeehnajaa
