/-
  Arrays by value: a place of one.
-/
import Derived.Test.YtjbbdggckagphaaDoorQRot
import Derived.OwnWalk
import Derived.Laws.PanicsMore
namespace Go.Proofs.YtjbbdggckagphaaDoor
open Go.RowKit
end Go.Proofs.YtjbbdggckagphaaDoor
