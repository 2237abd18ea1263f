/-
  What the rows' lists of package-level variables give: the sentinel of refusals and the handle of the type error.
-/
import Derived.Test.YtaofemdhgfejjaaGreatDoorCards
import Derived.Test.YtaofemdhgfejjaaGreatDoorTie
import Derived.Test.YtaofemdhgfejjaaGreatDoorMErr
import Derived.WalkKit
import Derived.ProofKit
import Derived.OpenShut
import Derived.ShutString
import Derived.Deep.DeepHandedRow
import Derived.WalkSmall
import Derived.Carry
import Derived.LaidHandle
import Derived.Stop.LaidErr
namespace Go.Proofs.YtaofemdhgfejjaaGreatDoor
open Go.ChangeShapes Go.WideShapes Go.ChangeAt Go.RowKit

theorem own : ownKnob Tryz.prog.godebug = none := by kernel_rfl
theorem laidOut : laidOutB Tryz.prog = true := by kernel_rfl
theorem gErr : Tryz.prog.globalNamed "loop.example/g00652/impl.errNotRight" = some 0 := by kernel_rfl
theorem tErr : (Tryz.prog.globals[0]?).map (·.type) = some 52 := by kernel_rfl
theorem gTyp : Tryz.prog.globalNamed "errors.errorType" = some 1 := by kernel_rfl
theorem rtRow : (Tryz.prog.cutTypes.find? (·.1 == "internal/reflectlite.rtype")).map (·.2) = some 130 := by kernel_rfl
theorem errRow : ((List.range 214).filter fun t => Tryz.prog.rowNamed t [101, 114, 114, 111, 114]) = [52] := by kernel_rfl
theorem typesN : Tryz.prog.types.size = 214 := by kernel_rfl
theorem star : ("*" ++ "errors.errorString" : String) = "*errors.errorString" := by decide
theorem strRow (u : TypeId) (h : Tryz.prog.typeName? 3 u = some "*errors.errorString") : u = 181 :=
  typeName_ptr_named (nm := "errors.errorString") (by rw [star]; kernel_rfl) (by kernel_rfl) (by decide) u (by rw [star]; exact h)
theorem cellsE : Tryz.prog.cellsOf 202 = 1 := by kernel_rfl
theorem cellsS : Tryz.prog.cellsOf 9 = 1 := by kernel_rfl
theorem var_lt {P : Program} {W : World} {n : String} {g : Nat} {cs : Array Value} (hg : P.globalNamed n = some g) (hv : W.var? P n = some cs) : g < W.heap.size := by
  unfold World.var? at hv
  simp only [hg, Option.bind_some] at hv
  by_cases h : g < W.heap.size
  · exact h
  · rw [Array.getElem?_eq_none (by omega)] at hv
    simp at hv

theorem errs_of {W : World} {t : List UInt8} (h : laidMet Tryz.prog [("loop.example/g00652/impl.errNotRight", .iface "*errors.errorString" (.ptr (.agg [.lit (.string t)])))] W) (h' : handlesMet Tryz.prog [("errors.errorType", .iface "internal/reflectlite.rtype" (.agg [.ptr (.lit (.string [101, 114, 114, 111, 114]))]))] W) :
    ∃ a, Errs W a ∧ W.var? Tryz.prog "loop.example/g00652/impl.errNotRight" = some #[.iface 181 (.pointer (some a))] := by
  obtain ⟨a, s, hv, _, _, _⟩ := laid_sentinel h gErr tErr Tryz.underlying52 strRow Tryz.underlying181 Tryz.underlying202 rfl rfl Tryz.underlying9 cellsE cellsS
  obtain ⟨name, u, ty, e1, e2, e3, e4, e5⟩ := h' _ (List.mem_singleton.2 rfl)
  have en : name = [101, 114, 114, 111, 114] := (Option.some.inj e1).symm
  subst en
  obtain rfl := Option.some.inj (rtRow.symm.trans e2)
  have hm : ty ∈ (List.range 214).filter fun t => Tryz.prog.rowNamed t [101, 114, 114, 111, 114] := List.mem_filter.2 ⟨List.mem_range.2 (by rw [← typesN]; exact e3), e4⟩
  rw [errRow] at hm
  obtain rfl := List.mem_singleton.1 hm
  have hh : typeHandle Tryz.prog 52 = .pointer (some ⟨3, 52, none⟩) := by kernel_rfl
  rw [hh] at e5
  refine ⟨a, ⟨by simpa using World.var?_cell gErr hv 0, by simpa using World.var?_cell gTyp e5 0, var_lt gErr hv, var_lt gTyp e5⟩, hv⟩
/-- a block whose cells are others -/
def relay (cs : Array Value) : Obj → Obj
  | .cells _ t fr => .cells cs t fr
  | o => o
/-- the variables' blocks with what their initialisers lay -/
def layAll (w : World) : World := { w with heap := ((w.heap.modify 0 (relay #[.iface 181 (.pointer (some ⟨w.heap.size, 0, none⟩))])).modify 1 (relay #[.iface 130 (.agg #[.pointer (some ⟨3, 52, none⟩)])])).push (.cells #[.string ⟨#[105, 116, 32, 105, 115, 32, 110, 111, 116, 32, 114, 105, 103, 104, 116]⟩] 202) }
theorem list1 {α : Type} : ∀ {l : List α}, l.length = 1 → ∃ a, l = [a]
  | [a], _ => ⟨a, rfl⟩
end Go.Proofs.YtaofemdhgfejjaaGreatDoor
