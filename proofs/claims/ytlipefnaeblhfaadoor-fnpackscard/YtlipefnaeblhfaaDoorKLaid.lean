/-
  What the rows' lists of package-level variables give where the tables of the library stand beside those of the digest.
-/
import Derived.Test.YtlipefnaeblhfaaDoorQLaid
import Derived.Test.YtlipefnaeblhfaaDoorKTxI
namespace Go.Proofs.YtlipefnaeblhfaaDoor
open Go.ChangeShapes Go.WideShapes Go.ChangeAt Go.RowKit

def powT : List Int := [1, 10, 100, 1000, 10000, 100000, 1000000, 10000000, 100000000, 1000000000, 10000000000, 100000000000, 1000000000000, 10000000000000, 100000000000000, 1000000000000000, 10000000000000000, 100000000000000000, 1000000000000000000, 10000000000000000000]
def deb32 : List Int := [0, 1, 28, 2, 29, 14, 24, 3, 30, 22, 20, 15, 25, 17, 4, 8, 31, 27, 13, 23, 21, 19, 16, 7, 26, 12, 18, 6, 11, 5, 10, 9]
def deb64 : List Int := [0, 1, 56, 2, 57, 49, 28, 3, 61, 58, 42, 50, 38, 29, 17, 4, 62, 47, 59, 36, 45, 43, 51, 22, 53, 39, 33, 30, 24, 18, 12, 5, 63, 55, 48, 27, 60, 41, 37, 16, 46, 35, 44, 21, 52, 32, 23, 11, 54, 26, 40, 15, 34, 20, 31, 10, 25, 14, 19, 9, 13, 8, 7, 6]
theorem powT_eq : Lib.pow10Tab = powT := by decide
theorem tPow : (Tryd.prog.globals[2]?).map (·.type) = some 112 := by kernel_rfl
theorem cellsPow : Tryd.prog.cellsOf 112 = 20 := by kernel_rfl
theorem cellsU64 : Tryd.prog.cellsOf 98 = 1 := by kernel_rfl
theorem pow_of {W : World} {l : List (String × DataW Unit)} (h : laidMet Tryd.prog l W) (m0 : ("internal/strconv.uint64pow10", Lib.tabData .u64 powT) ∈ l) : Pow W := by
  unfold Pow
  rw [powT_eq]
  exact tabIs_of_mem gPow tPow Tryd.underlying112 Tryd.underlying98 cellsU64 cellsPow h m0
/-- the tables' blocks with what their initialisers lay -/
def layAllP (w : World) : World := { w with heap := ((((w.heap.modify 0 (relay (fTab.map (Value.int .u32)).toArray)).modify 1 (relay (kTab.map (Value.int .u32)).toArray)).modify 2 (relay (powT.map (Value.int .u64)).toArray)).modify 3 (relay (deb32.map (Value.int .u8)).toArray)).modify 4 (relay (deb64.map (Value.int .u8)).toArray) }
theorem list5 {α : Type} : ∀ {l : List α}, l.length = 5 → ∃ a b c d e, l = [a, b, c, d, e]
  | [a, b, c, d, e], _ => ⟨a, b, c, d, e, rfl⟩
end Go.Proofs.YtlipefnaeblhfaaDoor
