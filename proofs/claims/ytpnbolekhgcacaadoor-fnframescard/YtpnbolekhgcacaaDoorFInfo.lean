/-
  Bytes: what a cell of theirs is.
-/
import Derived.Test.YtpnbolekhgcacaaDoorFSum
import Derived.Deep.WholeRow
import Derived.Lib.SlBuf
import Derived.Lib.BufferWrite
namespace Go.Proofs.YtpnbolekhgcacaaDoor
open Go.RowKit
theorem infoB : (Tryd.prog.info? 5).map (fun i => (i.zero, i.size, i.bytes)) = some (some (.int .u8 0), 1, 1) := by kernel_rfl
end Go.Proofs.YtpnbolekhgcacaaDoor
