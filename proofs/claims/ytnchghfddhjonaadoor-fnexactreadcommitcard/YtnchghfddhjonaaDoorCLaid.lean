/-
  What the rows' lists of package-level variables give: the reader's sentinel.
-/
import Derived.Test.YtnchghfddhjonaaDoorCards
import Derived.Test.YtnchghfddhjonaaDoorTie
import Derived.Test.YtnchghfddhjonaaDoorCRdI
import Derived.WalkKit
import Derived.ProofKit
import Derived.OpenShut
import Derived.ShutString
import Derived.Deep.DeepHandedRow
import Derived.WalkSmall
import Derived.Carry
import Derived.LaidHandle
import Derived.Stop.LaidErr
namespace Go.Proofs.YtnchghfddhjonaaDoor
open Go.ChangeShapes Go.WideShapes Go.ChangeAt Go.RowKit

theorem own : ownKnob Tryd.prog.godebug = none := by kernel_rfl
theorem laidOut : laidOutB Tryd.prog = true := by kernel_rfl
theorem gErr : Tryd.prog.globalNamed "loop.example/g00652/impl.errNoCommit" = some 0 := by kernel_rfl
theorem tErr : (Tryd.prog.globals[0]?).map (·.type) = some 45 := by kernel_rfl
theorem star : ("*" ++ "errors.errorString" : String) = "*errors.errorString" := by decide
theorem strRow (u : TypeId) (h : Tryd.prog.typeName? 3 u = some "*errors.errorString") : u = 53 :=
  typeName_ptr_named (nm := "errors.errorString") (by rw [star]; kernel_rfl) (by kernel_rfl) (by decide) u (by rw [star]; exact h)
theorem cellsE : Tryd.prog.cellsOf 70 = 1 := by kernel_rfl
theorem cellsS : Tryd.prog.cellsOf 9 = 1 := by kernel_rfl
theorem var_lt {P : Program} {W : World} {n : String} {g : Nat} {cs : Array Value} (hg : P.globalNamed n = some g) (hv : W.var? P n = some cs) : g < W.heap.size := by
  unfold World.var? at hv
  simp only [hg, Option.bind_some] at hv
  by_cases h : g < W.heap.size
  · exact h
  · rw [Array.getElem?_eq_none (by omega)] at hv
    simp at hv

theorem errs_of {W : World} {t : List UInt8} (h : laidMet Tryd.prog [("loop.example/g00652/impl.errNoCommit", .iface "*errors.errorString" (.ptr (.agg [.lit (.string t)])))] W) :
    ∃ a, ErrC W a ∧ W.var? Tryd.prog "loop.example/g00652/impl.errNoCommit" = some #[.iface 53 (.pointer (some a))] := by
  obtain ⟨a, s, hv, _, _, _⟩ := laid_sentinel h gErr tErr Tryd.underlying45 strRow Tryd.underlying53 Tryd.underlying70 rfl rfl Tryd.underlying9 cellsE cellsS
  exact ⟨a, ⟨by simpa using World.var?_cell gErr hv 0, var_lt gErr hv⟩, hv⟩
/-- a block whose cells are others -/
def relay (cs : Array Value) : Obj → Obj
  | .cells _ t fr => .cells cs t fr
  | o => o
/-- the variables' blocks with what their initialisers lay -/
def layAll (w : World) : World := { w with heap := (w.heap.modify 0 (relay #[.iface 53 (.pointer (some ⟨w.heap.size, 0, none⟩))])).push (.cells #[.string ⟨#[116, 104, 101, 32, 116, 101, 120, 116, 32, 105, 115, 32, 110, 111, 32, 99, 111, 109, 109, 105, 116, 39, 115]⟩] 70) }
theorem list1 {α : Type} : ∀ {l : List α}, l.length = 1 → ∃ a, l = [a]
  | [a], _ => ⟨a, rfl⟩
end Go.Proofs.YtnchghfddhjonaaDoor
