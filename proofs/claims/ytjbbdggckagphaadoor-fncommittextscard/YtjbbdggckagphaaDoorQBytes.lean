/-
  What impl.shaBytes makes of eight words.
-/
import Derived.Test.YtjbbdggckagphaaDoorQArr
import Derived.Laws.BytesArg
import Derived.Below
namespace Go.Proofs.YtjbbdggckagphaaDoor
open Go.RowKit

/-- the four bytes of a word, the highest first -/
def bytesI (x : Int) : List Int := [x / 16777216, x / 65536 % 256, x / 256 % 256, x % 256]
theorem run_conv (W : World) (b cap : Nat) (xs : List Int) (n : Nat) (t : TypeId) (hn : xs.length = n) (hb : W.heap[b]? = some (.cells (xs.map (Value.int .u8)).toArray t (0, 0))) :
    (convert 22 9 (.slice (some ⟨b, 0, none⟩) n cap)).run Tryd.prog W = .ok (.string (strOfNums xs)) W :=
  run_convert_bytes_arg W 22 5 (by kernel_rfl) (by kernel_rfl) b 0 n cap xs hn (fun i hi => by
    rw [Nat.zero_add, cell_of_row W b i _ t (0, 0) hb]
    have hi' : i < xs.length := by omega
    simp [hi', List.getD]) 9 (by kernel_rfl)

end Go.Proofs.YtjbbdggckagphaaDoor
