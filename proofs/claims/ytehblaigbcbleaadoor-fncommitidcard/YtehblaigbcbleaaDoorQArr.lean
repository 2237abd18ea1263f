/-
  Arrays by value: a place of one.
-/
import Derived.Test.YtehblaigbcbleaaDoorQRot
import Derived.OwnWalk
import Derived.Laws.PanicsMore
namespace Go.Proofs.YtehblaigbcbleaaDoor
open Go.RowKit
theorem run_index_agg8 (cs : Array Value) (hc : cs.size = 8) (i : Int) (h0 : 0 ≤ i) (hi : i < 8) (w : World) : (Instr.index 85 (.agg cs) (.int .i64 i)).run Tryd.prog w = .ok (cs.getD i.toNat undef) w := by
  have hu : Tryd.prog.underlying 85 = some (.array 8 83) := by kernel_rfl
  have hs : ((sizeOf 83).run Tryd.prog w) = .ok 1 w := by kernel_rfl
  have hlt : i.toNat < cs.size := by omega
  simp [Instr.index, run_underlying hu, asIntOf, h0, hi, part, hs, go_sem]
  rw [Array.getElem?_eq_getElem hlt]
  simp
end Go.Proofs.YtehblaigbcbleaaDoor
