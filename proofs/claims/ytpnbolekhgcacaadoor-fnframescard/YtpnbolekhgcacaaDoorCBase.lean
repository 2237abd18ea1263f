/-
  Small words on slices and their rows, for a seat without pairs.
-/
import Derived.Test.YtpnbolekhgcacaaDoorPCell
import Derived.Test.YtpnbolekhgcacaaDoorChecked
import Derived.Maps.AppendAt
import Derived.Deep.RegionLaw
import Derived.Deep.Slices
namespace Go.Proofs.YtpnbolekhgcacaaDoor
open Go.RowKit
theorem add_pl (b off j : Nat) : (⟨b, off, none⟩ : Addr).add j = ⟨b, off + j, none⟩ := by unfold Addr.add; split <;> simp_all
/-- the row that a slice lies in -/
def rowOf (A : Option Addr) : Option Nat := A.map (·.block)
theorem rowOf_own (A : Option Addr) (n cap : Nat) : (Value.slice A n cap).ownBlock = rowOf A := by cases A <;> rfl
end Go.Proofs.YtpnbolekhgcacaaDoor
