/-
  A region that draws its order, whose operations read and whose callees only make memory of their own: walked once. The class of worlds: those that are as w was below block B.
-/
import Derived.Test.YtblggbihnglipaaPCell
import Derived.Deep.Quiet
import Derived.Deep.QuietTactic
import Derived.BigQuiet
namespace Go.Proofs.Ytblggbihnglipaa
open Go.RowKit

/-- the worlds that are as w was below block B -/
def Cls (B : Nat) (w : World) : Type := { x : World // Below B w x }
def Cls.wo {B : Nat} {w : World} (u : Cls B w) : World := u.val
theorem Cls.below {B : Nat} {w : World} (u : Cls B w) : Below B w u.wo := u.property
def Cls.mk' {B : Nat} {w : World} (x : World) (h : Below B w x) : Cls B w := ⟨x, h⟩
instance clsNonempty {B : Nat} {w : World} : Nonempty (Cls B w) := ⟨Cls.mk' w (Below.refl B w)⟩
theorem wp_region_cls {P : Program} {id : Nat} {Q : Exit → Act → World → Prop} {a : Act} {w : World} {l : List Oper} (hm : P.follows .mixedOrders = true) (hB : Region.lexB .any l.toArray = true) (B : Nat)
    (h : wpQuiet P l.toArray (fun w' => ∃ u : Cls B w, w' = u.wo) (fun a' => ∀ w', (∃ u : Cls B w, w' = u.wo) → Q .normal a' w') l a) : (Code.region id l.toArray true).wp P Q a w :=
  wp_region_quiet (C := fun w' => ∃ u : Cls B w, w' = u.wo) hm hB ⟨Cls.mk' w.drew (Below.refl B w).drew, rfl⟩ (by simpa using h)
theorem cls_cell {B : Nat} {w : World} {p : Addr} {v : Value} (hp : p.block < B) (h : w.cell? p = some v) : ∀ u : Cls B w, u.wo.cell? p = some v := fun u => (u.below.cell hp).trans h
theorem cls_call {P : Program} {f : FuncId} {args : Array Value} {B : Nat} {w : World} {v : Value} {u : Cls B w} (hB : B ≤ w.heap.size) (h : Calls P f args u.wo fun e w' => e = .returned v ∧ Below u.wo.heap.size u.wo w') :
    Calls P f args u.wo fun e w'' => e = .returned v ∧ ∃ u' : Cls B w, w'' = u'.wo :=
  h.mono fun _ w' ⟨he, hb⟩ => ⟨he, Cls.mk' w' (u.below.trans (hb.mono (Nat.le_trans hB u.below.size))), rfl⟩
end Go.Proofs.Ytblggbihnglipaa
