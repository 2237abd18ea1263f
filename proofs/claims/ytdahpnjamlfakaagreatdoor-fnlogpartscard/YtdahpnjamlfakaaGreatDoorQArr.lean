/-
  Arrays by value: a place of one.
-/
import Derived.Test.YtdahpnjamlfakaaGreatDoorQRot
import Derived.OwnWalk
import Derived.Laws.PanicsMore
namespace Go.Proofs.YtdahpnjamlfakaaGreatDoor
open Go.RowKit
theorem run_index_agg8 (cs : Array Value) (hc : cs.size = 8) (i : Int) (h0 : 0 ≤ i) (hi : i < 8) (w : World) : (Instr.index 150 (.agg cs) (.int .i64 i)).run Tryz.prog w = .ok (cs.getD i.toNat undef) w := by
  have hu : Tryz.prog.underlying 150 = some (.array 8 148) := by kernel_rfl
  have hs : ((sizeOf 148).run Tryz.prog w) = .ok 1 w := by kernel_rfl
  have hlt : i.toNat < cs.size := by omega
  simp [Instr.index, run_underlying hu, asIntOf, h0, hi, part, hs, go_sem]
  rw [Array.getElem?_eq_getElem hlt]
  simp
end Go.Proofs.YtdahpnjamlfakaaGreatDoor
