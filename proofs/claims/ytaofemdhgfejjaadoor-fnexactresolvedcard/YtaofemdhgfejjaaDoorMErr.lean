/-
  What errors.Is and errors.As answer at the program's own refusals and clashes: Go's own text of both is walked.
-/
import Derived.Test.YtaofemdhgfejjaaDoorProg
import Derived.Test.YtaofemdhgfejjaaDoorPCell
import Derived.WalkKit
import Derived.LaidEql
import Derived.Stop.Asserts
import Derived.RowKitTokens
namespace Go.Proofs.YtaofemdhgfejjaaDoor
open Go.RowKit Go.Extern.Stop Go.Stop Go.Extern

/-- the two package-level variables that mergers read: the sentinel, and the handle of the type error -/
def Errs (w : World) (a : Addr) : Prop :=
  w.cell? ⟨0, 0, none⟩ = some (.iface 163 (.pointer (some a))) ∧ w.cell? ⟨1, 0, none⟩ = some (.iface 111 (.agg #[.pointer (some ⟨3, 50, none⟩)])) ∧ 0 < w.heap.size ∧ 1 < w.heap.size
theorem Errs.below {w w' : World} {a : Addr} (h : Errs w a) (q : Below w.heap.size w w') : Errs w' a :=
  ⟨cellB q h.2.2.1 h.1, cellB q h.2.2.2 h.2.1, Nat.lt_of_lt_of_le h.2.2.1 q.size, Nat.lt_of_lt_of_le h.2.2.2 q.size⟩
theorem Errs.belowB {w w' : World} {a : Addr} {B : Nat} (h : Errs w a) (q : Below B w w') (h1 : 0 < B) (h2 : 1 < B) : Errs w' a :=
  ⟨cellB q h1 h.1, cellB q h2 h.2.1, Nat.lt_of_lt_of_le h.2.2.1 q.size, Nat.lt_of_lt_of_le h.2.2.2 q.size⟩

theorem isTypeOf (v : Value) (w : World) : (Extern.ReflectliteType.typeOf #[.iface 163 v]).run Tryd.prog w = .ok (.iface 111 (.agg #[.pointer (some ⟨3, 163, none⟩)])) w := by kernel_rfl
/-- what the model's entry for Comparable answers -/
def cmpM (t : TypeId) : Sem Value := do Extern.Rtype.noPackHeld "Comparable" t; pure (.bool (← typeInfo t).comparable)
theorem isComparable (w : World) : ((Extern.ReflectliteType.method cmpM) #[.agg #[.pointer (some ⟨3, 163, none⟩)]]).run Tryd.prog w = .ok (.bool true) w := by kernel_rfl
theorem isMethodComparable (v : Value) (w : World) : (Go.method 294 111 v "Comparable").run Tryd.prog w = .ok (127, v) w := by kernel_rfl
theorem isComp : (Tryd.prog.info? 163).map (·.comparable) = some true := by kernel_rfl
theorem isSize : (Tryd.prog.info? 182).map (·.size) = some 1 := by kernel_rfl
theorem noIsR (v : Value) (xT : TypeId) (w : World) : (Instr.typeAssert (.iface 75 v) xT 113 true).run Tryd.prog w = .ok (.tuple #[.nilIface, .bool false]) w := run_typeAssert_lacksB Tryd.underlying113 (by kernel_rfl) (by kernel_rfl) v xT w
theorem hasUnwrapR (v : Value) (xT : TypeId) (w : World) : (Instr.typeAssert (.iface 75 v) xT 116 true).run Tryd.prog w = .ok (.tuple #[.iface 75 v, .bool true]) w := run_typeAssert_hasB Tryd.underlying116 (by kernel_rfl) v xT w
theorem methodUnwrapR (v : Value) (w : World) : (Go.method 294 75 v "Unwrap").run Tryd.prog w = .ok (123, v) w := by kernel_rfl
theorem noIsC (v : Value) (xT : TypeId) (w : World) : (Instr.typeAssert (.iface 84 v) xT 113 true).run Tryd.prog w = .ok (.tuple #[.nilIface, .bool false]) w := run_typeAssert_lacksB Tryd.underlying113 (by kernel_rfl) (by kernel_rfl) v xT w
theorem noUnwrapC (v : Value) (xT : TypeId) (w : World) : (Instr.typeAssert (.iface 84 v) xT 116 true).run Tryd.prog w = .ok (.tuple #[.nilIface, .bool false]) w := run_typeAssert_lacksB Tryd.underlying116 (by kernel_rfl) (by kernel_rfl) v xT w
theorem noUnwrapsC (v : Value) (xT : TypeId) (w : World) : (Instr.typeAssert (.iface 84 v) xT 118 true).run Tryd.prog w = .ok (.tuple #[.nilIface, .bool false]) w := run_typeAssert_lacksB Tryd.underlying118 (by kernel_rfl) (by kernel_rfl) v xT w

/-- errors.Is(nil, the sentinel) -/
theorem is_nil (b : Addr) (w : World) :
    Calls Tryd.prog 28 #[.nilIface, .iface 163 (.pointer (some b))] w fun e w' => e = .returned (.bool false) ∧ w = w' := by
  have hn := run_eql_iface_nil_left (P := Tryd.prog) w 163 (.pointer (some b)) Tryd.underlying50
  go_enter Tryd.func28, Tryd.ntmps28
  go_wp2
  go_ret
  exact ⟨rfl, rfl⟩

set_option maxHeartbeats 1000000 in
/-- errors.Is(a refusal that wraps the sentinel, the sentinel) -/
theorem is_refusal (pb po : Nat) (b : Addr) (w : World) (h1 : w.cell? ⟨pb, po + 1, none⟩ = some (.iface 163 (.pointer (some b)))) :
    Calls Tryd.prog 28 #[.iface 75 (.pointer (some ⟨pb, po, none⟩)), .iface 163 (.pointer (some b))] w fun e w' => e = .returned (.bool true) ∧ w = w' := by
  obtain ⟨i, hi, hcmp⟩ := Option.map_eq_some_iff.1 isComp
  obtain ⟨j, hj, hjs⟩ := Option.map_eq_some_iff.1 isSize
  have h8 := @run_callFunc_extern Tryd.prog 49 _ Extern.ReflectliteType.typeOf Tryd.func49 (by kernel_rfl) (by kernel_rfl) (by kernel_rfl) (by kernel_rfl)
  have h32 := @run_callFunc_extern Tryd.prog 127 _ (Extern.ReflectliteType.method cmpM) Tryd.func127 (by kernel_rfl) (by kernel_rfl) (by kernel_rfl) (by kernel_rfl)
  have tT := isTypeOf
  have cT := isComparable
  have mR := isMethodComparable
  have nW := noIsR
  have uW := hasUnwrapR
  have mU := methodUnwrapR
  have heq := run_eql_iface_ptr_same (P := Tryd.prog) w b Tryd.underlying50 Tryd.underlying163 hi hcmp hj
  have hty := run_eql_iface_types (P := Tryd.prog) 75 163 (.pointer (some ⟨pb, po, none⟩)) (.pointer (some b)) Tryd.underlying50 (by decide) w
  go_enter Tryd.func28, Tryd.ntmps28
  go_wp2
  refine wp_loop_rounds 2 ?_
  rw [rounds_succ]
  go_wp2
  rw [rounds_succ]
  go_wp2
  go_ret
  exact ⟨rfl, rfl⟩

set_option maxHeartbeats 1000000 in
/-- errors.Is(a clash, the sentinel) -/
theorem is_clash (a b : Addr) (w : World) :
    Calls Tryd.prog 28 #[.iface 84 (.pointer (some a)), .iface 163 (.pointer (some b))] w fun e w' => e = .returned (.bool false) ∧ w = w' := by
  obtain ⟨i, hi, hcmp⟩ := Option.map_eq_some_iff.1 isComp
  obtain ⟨j, hj, hjs⟩ := Option.map_eq_some_iff.1 isSize
  have h8 := @run_callFunc_extern Tryd.prog 49 _ Extern.ReflectliteType.typeOf Tryd.func49 (by kernel_rfl) (by kernel_rfl) (by kernel_rfl) (by kernel_rfl)
  have h32 := @run_callFunc_extern Tryd.prog 127 _ (Extern.ReflectliteType.method cmpM) Tryd.func127 (by kernel_rfl) (by kernel_rfl) (by kernel_rfl) (by kernel_rfl)
  have tT := isTypeOf
  have cT := isComparable
  have mR := isMethodComparable
  have nW := noIsC
  have uW := noUnwrapC
  have vW := noUnwrapsC
  have hty := run_eql_iface_types (P := Tryd.prog) 84 163 (.pointer (some a)) (.pointer (some b)) Tryd.underlying50 (by decide) w
  go_enter Tryd.func28, Tryd.ntmps28
  go_wp2
  refine wp_loop_rounds 1 ?_
  rw [rounds_succ]
  go_wp2
  go_ret
  exact ⟨rfl, rfl⟩
end Go.Proofs.YtaofemdhgfejjaaDoor
