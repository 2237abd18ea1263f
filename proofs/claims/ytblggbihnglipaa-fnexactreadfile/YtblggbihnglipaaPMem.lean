/-
  Words for memory: worlds that part by draws alone; a slice that reads as a list of pairs; rows of pairs of the call's own.
-/
import Derived.Test.YtblggbihnglipaaPMath
import Derived.Test.YtblggbihnglipaaPCell
import Derived.WalkKit
import Derived.Deep.QuietTactic
import Derived.OwnWalk
import Derived.Below
namespace Go.Proofs.Ytblggbihnglipaa
open Go.RowKit

/-- the texts of the pairs are texts that Go can hold -/
def lens (l : List Pr) : Prop := ∀ i (h : i < l.length), l[i].1.size ≤ maxLen ∧ l[i].2.size ≤ maxLen
theorem lens_nil : lens [] := fun _ h => absurd h (by simp)
/-- the slice at A reads as the pairs l, and lies below block B -/
def PIn (w : World) (B : Nat) (A : Option Addr) (l : List Pr) : Prop :=
  lens l ∧ (0 < l.length → ∃ b off, A = some ⟨b, off, none⟩ ∧ b < B ∧ ∀ i (h : i < l.length), w.cell? ⟨b, off + i * 2, none⟩ = some (.string l[i].1) ∧ w.cell? ⟨b, off + i * 2 + 1, none⟩ = some (.string l[i].2))
theorem PIn.nil (w : World) (B : Nat) (A : Option Addr) : PIn w B A [] := ⟨lens_nil, fun h => absurd h (by simp)⟩
theorem PIn.keep {w w' : World} {B : Nat} {A : Option Addr} {l : List Pr} (h : PIn w B A l) (hk : ∀ b o, b < B → w'.cell? ⟨b, o, none⟩ = w.cell? ⟨b, o, none⟩) : PIn w' B A l :=
  ⟨h.1, fun hp => by
    obtain ⟨b, off, e, hb, hc⟩ := h.2 hp
    exact ⟨b, off, e, hb, fun i hi => ⟨(hk _ _ hb).trans (hc i hi).1, (hk _ _ hb).trans (hc i hi).2⟩⟩⟩
theorem PIn.quiet {w w' : World} {B : Nat} {A : Option Addr} {l : List Pr} (h : PIn w B A l) (q : Quiet w w') : PIn w' B A l := h.keep fun _ _ _ => q.cell _
theorem PIn.below {w w' : World} {B : Nat} {A : Option Addr} {l : List Pr} (h : PIn w B A l) (q : Below B w w') : PIn w' B A l := h.keep fun _ _ hb => q.cell (by exact hb)
theorem PIn.more {w : World} {B B' : Nat} {A : Option Addr} {l : List Pr} (h : PIn w B A l) (hB : B ≤ B') : PIn w B' A l :=
  ⟨h.1, fun hp => by obtain ⟨b, off, e, hb, hc⟩ := h.2 hp; exact ⟨b, off, e, by omega, hc⟩⟩


/-- the cells of a list of pairs -/
def pcells (l : List Pr) : List Value := l.flatMap fun p => [.string p.1, .string p.2]
theorem pcells_nil : pcells [] = [] := rfl
theorem pcells_cons (p : Pr) (l : List Pr) : pcells (p :: l) = .string p.1 :: .string p.2 :: pcells l := rfl
theorem pcells_append (a b : List Pr) : pcells (a ++ b) = pcells a ++ pcells b := by unfold pcells; rw [List.flatMap_append]
theorem pcells_length (l : List Pr) : (pcells l).length = l.length * 2 := by
  induction l with
  | nil => rfl
  | cons p r ih => rw [pcells_cons]; simp only [List.length_cons, ih]; omega
theorem pcells_get : ∀ (l : List Pr) (i : Nat) (h : i < l.length), (pcells l)[i * 2]? = some (.string l[i].1) ∧ (pcells l)[i * 2 + 1]? = some (.string l[i].2)
  | p :: r, 0, _ => by rw [pcells_cons]; exact ⟨rfl, rfl⟩
  | p :: r, i + 1, h => by
    obtain ⟨a, b⟩ := pcells_get r i (by simpa using h)
    rw [pcells_cons, show (i + 1) * 2 = i * 2 + 1 + 1 by omega]
    exact ⟨by simpa using a, by simpa using b⟩
theorem pcells_set : ∀ (l : List Pr) (i : Nat) (a b : ByteArray), ((pcells l).set (i * 2) (.string a)).set (i * 2 + 1) (.string b) = pcells (l.set i (a, b))
  | [], _, _, _ => by simp [pcells_nil]
  | p :: r, 0, a, b => by simp [pcells_cons]
  | p :: r, i + 1, a, b => by
    rw [pcells_cons, List.set_cons_succ, pcells_cons, ← pcells_set r i a b, show (i + 1) * 2 = i * 2 + 1 + 1 by omega]
    simp
theorem pcells_one (l : List Pr) : ∀ u ∈ pcells l, u.oneCell' = true := by
  intro u hu
  unfold pcells at hu
  rw [List.mem_flatMap] at hu
  obtain ⟨p, _, hp⟩ := hu
  simp at hp
  rcases hp with rfl | rfl <;> rfl

/-- the slice at A is a row of the call's own, from block B on, and holds the pairs l -/
def Own (w : World) (B : Nat) (A : Option Addr) (cap : Nat) (l : List Pr) : Prop := lens l ∧ w.ownsRow B 86 2 (.slice A l.length cap) l.length (pcells l)
theorem Own.nil (w : World) (B : Nat) : Own w B none 0 [] := ⟨lens_nil, World.ownsRow_nil _ _ _ _⟩
theorem Own.form {w : World} {B : Nat} {A : Option Addr} {cap : Nat} {l : List Pr} (h : Own w B A cap l) : (A = none ∧ cap = 0 ∧ l = []) ∨ ∃ g, A = some ⟨g, 0, none⟩ ∧ B ≤ g ∧ g < w.heap.size := by
  rcases h.2.2 with ⟨e, e'⟩ | ⟨g, c, cur, e, hb, hg, _⟩
  · injection e with e1 e2 e3
    exact .inl ⟨e1, e3, List.eq_nil_of_length_eq_zero e2⟩
  · injection e with e1 e2 e3
    exact .inr ⟨g, e1, hb, (Array.getElem?_eq_some_iff.1 hg).1⟩
theorem Own.pin {w : World} {B : Nat} {A : Option Addr} {cap : Nat} {l : List Pr} (h : Own w B A cap l) : PIn w w.heap.size A l := by
  refine ⟨h.1, fun hp => ?_⟩
  rcases h.form with ⟨_, _, rfl⟩ | ⟨g, rfl, _, hg⟩
  · simp at hp
  · refine ⟨g, 0, rfl, hg, fun i hi => ?_⟩
    obtain ⟨a, b⟩ := pcells_get l i hi
    have h1 := h.2.cellAt (i * 2) (by omega)
    have h2 := h.2.cellAt (i * 2 + 1) (by omega)
    rw [Nat.zero_add]
    exact ⟨h1.trans a, h2.trans b⟩
theorem Own.below {w w' : World} {B : Nat} {A : Option Addr} {cap : Nat} {l : List Pr} (h : Own w B A cap l) (hb : Below w.heap.size w w') : Own w' B A cap l := by
  refine ⟨h.1, h.2.kept (Below.toGrown hb none) ?_⟩
  cases hv : (Value.slice A l.length cap).ownBlock <;> simp
theorem Own.more {w : World} {B B' : Nat} {A : Option Addr} {cap : Nat} {l : List Pr} (h : Own w B A cap l) (hB : B' ≤ B) : Own w B' A cap l := by
  refine ⟨h.1, h.2.1, ?_⟩
  rcases h.2.2 with e | ⟨g, c, cur, e, hb, r⟩
  · exact .inl e
  · exact .inr ⟨g, c, cur, e, Nat.le_trans hB hb, r⟩
end Go.Proofs.Ytblggbihnglipaa
