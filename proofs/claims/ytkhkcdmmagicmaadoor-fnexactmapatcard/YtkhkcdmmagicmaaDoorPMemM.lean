/-
  Words for memory: worlds that part by draws alone; a slice that reads as a list of pairs; rows of pairs of the call's own.
-/
import Derived.Test.YtkhkcdmmagicmaaDoorPMem
import Derived.Test.YtkhkcdmmagicmaaDoorPMath
import Derived.Test.YtkhkcdmmagicmaaDoorPCell
import Derived.WalkKit
import Derived.Deep.QuietTactic
import Derived.OwnWalk
import Derived.Below
namespace Go.Proofs.YtkhkcdmmagicmaaDoor.M
open Go.RowKit

/-- the slice at A is a row of the call's own, from block B on, and holds the pairs l -/
def Own (w : World) (B : Nat) (A : Option Addr) (cap : Nat) (l : List Pr) : Prop := lens l ∧ w.ownsRow B 55 2 (.slice A l.length cap) l.length (pcells l)
theorem Own.nil (w : World) (B : Nat) : Own w B none 0 [] := ⟨lens_nil, World.ownsRow_nil _ _ _ _⟩
theorem Own.form {w : World} {B : Nat} {A : Option Addr} {cap : Nat} {l : List Pr} (h : Own w B A cap l) : (A = none ∧ cap = 0 ∧ l = []) ∨ ∃ g, A = some ⟨g, 0, none⟩ ∧ B ≤ g ∧ g < w.heap.size := by
  rcases h.2.2 with ⟨e, e'⟩ | ⟨g, c, cur, e, hb, hg, _⟩
  · injection e with e1 e2 e3
    exact .inl ⟨e1, e3, List.eq_nil_of_length_eq_zero e2⟩
  · injection e with e1 e2 e3
    exact .inr ⟨g, e1, hb, (Array.getElem?_eq_some_iff.1 hg).1⟩
theorem Own.pin {w : World} {B : Nat} {A : Option Addr} {cap : Nat} {l : List Pr} (h : Own w B A cap l) : PIn w w.heap.size A l := by
  refine ⟨h.1, fun hp => ?_⟩
  rcases h.form with ⟨_, _, rfl⟩ | ⟨g, rfl, _, hg⟩
  · simp at hp
  · refine ⟨g, 0, rfl, hg, fun i hi => ?_⟩
    obtain ⟨a, b⟩ := pcells_get l i hi
    have h1 := h.2.cellAt (i * 2) (by omega)
    have h2 := h.2.cellAt (i * 2 + 1) (by omega)
    rw [Nat.zero_add]
    exact ⟨h1.trans a, h2.trans b⟩
theorem Own.below {w w' : World} {B : Nat} {A : Option Addr} {cap : Nat} {l : List Pr} (h : Own w B A cap l) (hb : Below w.heap.size w w') : Own w' B A cap l := by
  refine ⟨h.1, h.2.kept (Below.toGrown hb none) ?_⟩
  cases hv : (Value.slice A l.length cap).ownBlock <;> simp
theorem Own.more {w : World} {B B' : Nat} {A : Option Addr} {cap : Nat} {l : List Pr} (h : Own w B A cap l) (hB : B' ≤ B) : Own w B' A cap l := by
  refine ⟨h.1, h.2.1, ?_⟩
  rcases h.2.2 with e | ⟨g, c, cur, e, hb, r⟩
  · exact .inl e
  · exact .inr ⟨g, c, cur, e, Nat.le_trans hB hb, r⟩
end Go.Proofs.YtkhkcdmmagicmaaDoor.M
