/-
  Arrays by value: a place of one.
-/
import Derived.Test.YtkhkcdmmagicmaaDoorQRot
import Derived.OwnWalk
import Derived.Laws.PanicsMore
namespace Go.Proofs.YtkhkcdmmagicmaaDoor
open Go.RowKit
theorem run_index_agg8 (cs : Array Value) (hc : cs.size = 8) (i : Int) (h0 : 0 ≤ i) (hi : i < 8) (w : World) : (Instr.index 130 (.agg cs) (.int .i64 i)).run Tryd.prog w = .ok (cs.getD i.toNat undef) w := by
  have hu : Tryd.prog.underlying 130 = some (.array 8 124) := by kernel_rfl
  have hs : ((sizeOf 124).run Tryd.prog w) = .ok 1 w := by kernel_rfl
  have hlt : i.toNat < cs.size := by omega
  simp [Instr.index, run_underlying hu, asIntOf, h0, hi, part, hs, go_sem]
  rw [Array.getElem?_eq_getElem hlt]
  simp
end Go.Proofs.YtkhkcdmmagicmaaDoor
