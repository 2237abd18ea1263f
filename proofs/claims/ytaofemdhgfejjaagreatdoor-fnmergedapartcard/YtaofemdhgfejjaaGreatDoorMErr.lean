/-
  What errors.Is and errors.As answer at the program's own refusals and clashes: Go's own text of both is walked.
-/
import Derived.Test.YtaofemdhgfejjaaGreatDoorProg
import Derived.Test.YtaofemdhgfejjaaGreatDoorPCell
import Derived.WalkKit
import Derived.LaidEql
import Derived.Stop.Asserts
import Derived.RowKitTokens
namespace Go.Proofs.YtaofemdhgfejjaaGreatDoor
open Go.RowKit Go.Extern.Stop Go.Stop Go.Extern

/-- the two package-level variables that mergers read: the sentinel, and the handle of the type error -/
def Errs (w : World) (a : Addr) : Prop :=
  w.cell? ⟨0, 0, none⟩ = some (.iface 181 (.pointer (some a))) ∧ w.cell? ⟨1, 0, none⟩ = some (.iface 130 (.agg #[.pointer (some ⟨3, 52, none⟩)])) ∧ 0 < w.heap.size ∧ 1 < w.heap.size
theorem Errs.below {w w' : World} {a : Addr} (h : Errs w a) (q : Below w.heap.size w w') : Errs w' a :=
  ⟨cellB q h.2.2.1 h.1, cellB q h.2.2.2 h.2.1, Nat.lt_of_lt_of_le h.2.2.1 q.size, Nat.lt_of_lt_of_le h.2.2.2 q.size⟩
theorem Errs.belowB {w w' : World} {a : Addr} {B : Nat} (h : Errs w a) (q : Below B w w') (h1 : 0 < B) (h2 : 1 < B) : Errs w' a :=
  ⟨cellB q h1 h.1, cellB q h2 h.2.1, Nat.lt_of_lt_of_le h.2.2.1 q.size, Nat.lt_of_lt_of_le h.2.2.2 q.size⟩

theorem isTypeOf (v : Value) (w : World) : (Extern.ReflectliteType.typeOf #[.iface 181 v]).run Tryz.prog w = .ok (.iface 130 (.agg #[.pointer (some ⟨3, 181, none⟩)])) w := by kernel_rfl
/-- what the model's entry for Comparable answers -/
def cmpM (t : TypeId) : Sem Value := do Extern.Rtype.noPackHeld "Comparable" t; pure (.bool (← typeInfo t).comparable)
theorem isComparable (w : World) : ((Extern.ReflectliteType.method cmpM) #[.agg #[.pointer (some ⟨3, 181, none⟩)]]).run Tryz.prog w = .ok (.bool true) w := by kernel_rfl
theorem isMethodComparable (v : Value) (w : World) : (Go.method 314 130 v "Comparable").run Tryz.prog w = .ok (137, v) w := by kernel_rfl
theorem isComp : (Tryz.prog.info? 181).map (·.comparable) = some true := by kernel_rfl
theorem isSize : (Tryz.prog.info? 202).map (·.size) = some 1 := by kernel_rfl
theorem noIsR (v : Value) (xT : TypeId) (w : World) : (Instr.typeAssert (.iface 86 v) xT 132 true).run Tryz.prog w = .ok (.tuple #[.nilIface, .bool false]) w := run_typeAssert_lacksB Tryz.underlying132 (by kernel_rfl) (by kernel_rfl) v xT w
theorem hasUnwrapR (v : Value) (xT : TypeId) (w : World) : (Instr.typeAssert (.iface 86 v) xT 135 true).run Tryz.prog w = .ok (.tuple #[.iface 86 v, .bool true]) w := run_typeAssert_hasB Tryz.underlying135 (by kernel_rfl) v xT w
theorem methodUnwrapR (v : Value) (w : World) : (Go.method 314 86 v "Unwrap").run Tryz.prog w = .ok (129, v) w := by kernel_rfl
theorem noIsC (v : Value) (xT : TypeId) (w : World) : (Instr.typeAssert (.iface 95 v) xT 132 true).run Tryz.prog w = .ok (.tuple #[.nilIface, .bool false]) w := run_typeAssert_lacksB Tryz.underlying132 (by kernel_rfl) (by kernel_rfl) v xT w
theorem noUnwrapC (v : Value) (xT : TypeId) (w : World) : (Instr.typeAssert (.iface 95 v) xT 135 true).run Tryz.prog w = .ok (.tuple #[.nilIface, .bool false]) w := run_typeAssert_lacksB Tryz.underlying135 (by kernel_rfl) (by kernel_rfl) v xT w
theorem noUnwrapsC (v : Value) (xT : TypeId) (w : World) : (Instr.typeAssert (.iface 95 v) xT 137 true).run Tryz.prog w = .ok (.tuple #[.nilIface, .bool false]) w := run_typeAssert_lacksB Tryz.underlying137 (by kernel_rfl) (by kernel_rfl) v xT w

/-- errors.Is(nil, the sentinel) -/
theorem is_nil (b : Addr) (w : World) :
    Calls Tryz.prog 26 #[.nilIface, .iface 181 (.pointer (some b))] w fun e w' => e = .returned (.bool false) ∧ w = w' := by
  have hn := run_eql_iface_nil_left (P := Tryz.prog) w 181 (.pointer (some b)) Tryz.underlying52
  go_enter Tryz.func26, Tryz.ntmps26
  go_wp2
  go_ret
  exact ⟨rfl, rfl⟩

set_option maxHeartbeats 1000000 in
/-- errors.Is(a refusal that wraps the sentinel, the sentinel) -/
theorem is_refusal (pb po : Nat) (b : Addr) (w : World) (h1 : w.cell? ⟨pb, po + 1, none⟩ = some (.iface 181 (.pointer (some b)))) :
    Calls Tryz.prog 26 #[.iface 86 (.pointer (some ⟨pb, po, none⟩)), .iface 181 (.pointer (some b))] w fun e w' => e = .returned (.bool true) ∧ w = w' := by
  obtain ⟨i, hi, hcmp⟩ := Option.map_eq_some_iff.1 isComp
  obtain ⟨j, hj, hjs⟩ := Option.map_eq_some_iff.1 isSize
  have h8 := @run_callFunc_extern Tryz.prog 52 _ Extern.ReflectliteType.typeOf Tryz.func52 (by kernel_rfl) (by kernel_rfl) (by kernel_rfl) (by kernel_rfl)
  have h32 := @run_callFunc_extern Tryz.prog 137 _ (Extern.ReflectliteType.method cmpM) Tryz.func137 (by kernel_rfl) (by kernel_rfl) (by kernel_rfl) (by kernel_rfl)
  have tT := isTypeOf
  have cT := isComparable
  have mR := isMethodComparable
  have nW := noIsR
  have uW := hasUnwrapR
  have mU := methodUnwrapR
  have heq := run_eql_iface_ptr_same (P := Tryz.prog) w b Tryz.underlying52 Tryz.underlying181 hi hcmp hj
  have hty := run_eql_iface_types (P := Tryz.prog) 86 181 (.pointer (some ⟨pb, po, none⟩)) (.pointer (some b)) Tryz.underlying52 (by decide) w
  go_enter Tryz.func26, Tryz.ntmps26
  go_wp2
  refine wp_loop_rounds 2 ?_
  rw [rounds_succ]
  go_wp2
  rw [rounds_succ]
  go_wp2
  go_ret
  exact ⟨rfl, rfl⟩

set_option maxHeartbeats 1000000 in
/-- errors.Is(a clash, the sentinel) -/
theorem is_clash (a b : Addr) (w : World) :
    Calls Tryz.prog 26 #[.iface 95 (.pointer (some a)), .iface 181 (.pointer (some b))] w fun e w' => e = .returned (.bool false) ∧ w = w' := by
  obtain ⟨i, hi, hcmp⟩ := Option.map_eq_some_iff.1 isComp
  obtain ⟨j, hj, hjs⟩ := Option.map_eq_some_iff.1 isSize
  have h8 := @run_callFunc_extern Tryz.prog 52 _ Extern.ReflectliteType.typeOf Tryz.func52 (by kernel_rfl) (by kernel_rfl) (by kernel_rfl) (by kernel_rfl)
  have h32 := @run_callFunc_extern Tryz.prog 137 _ (Extern.ReflectliteType.method cmpM) Tryz.func137 (by kernel_rfl) (by kernel_rfl) (by kernel_rfl) (by kernel_rfl)
  have tT := isTypeOf
  have cT := isComparable
  have mR := isMethodComparable
  have nW := noIsC
  have uW := noUnwrapC
  have vW := noUnwrapsC
  have hty := run_eql_iface_types (P := Tryz.prog) 95 181 (.pointer (some a)) (.pointer (some b)) Tryz.underlying52 (by decide) w
  go_enter Tryz.func26, Tryz.ntmps26
  go_wp2
  refine wp_loop_rounds 1 ?_
  rw [rounds_succ]
  go_wp2
  go_ret
  exact ⟨rfl, rfl⟩
end Go.Proofs.YtaofemdhgfejjaaGreatDoor
