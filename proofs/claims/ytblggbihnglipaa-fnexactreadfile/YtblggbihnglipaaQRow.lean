/-
  Rows of pairs of the call's own, in words: what comes back, what is made, what lies apart.
-/
import Derived.Test.YtblggbihnglipaaPApp
import Derived.Test.YtblggbihnglipaaQAlg
import Derived.RegionTactic
import Derived.Deep.RegionLaw
import Derived.Deep.DeepMust
namespace Go.Proofs.Ytblggbihnglipaa
open Go.RowKit

/-- a row of the call's own comes back -/
def RetOwn (B : Nat) (l : List Pr) (w : World) (e : Ending) (w' : World) : Prop := ∃ A cap, l.length ≤ cap ∧ e = .returned (.slice A l.length cap) ∧ Own w' B A cap l ∧ Below B w w'
theorem Own.cap_le {w : World} {B : Nat} {A : Option Addr} {cap : Nat} {l : List Pr} (h : Own w B A cap l) : l.length ≤ cap := by
  rcases h.2.2 with ⟨e, e'⟩ | ⟨g, c, cur, e, _, _, hnc, _⟩
  · injection e with e1 e2 e3; omega
  · injection e with e1 e2 e3; omega
theorem Own.made {w : World} {B n cap : Nat} (h : w.ownsRow B 86 2 (.slice (some ⟨n, 0, none⟩) 0 cap) 0 []) : Own w B (some ⟨n, 0, none⟩) cap [] := ⟨lens_nil, h⟩
theorem PIn.one (w : World) (k v : ByteArray) (hk : k.size ≤ maxLen) (hv : v.size ≤ maxLen) (t : TypeId) : PIn (w.alloc (.cells #[.string k, .string v] t)) (w.heap.size + 1) (some ⟨w.heap.size, 0, none⟩) [(k, v)] := by
  refine ⟨fun i hi => ?_, fun _ => ⟨w.heap.size, 0, rfl, by omega, fun i hi => ?_⟩⟩
  · obtain rfl : i = 0 := by simpa using hi
    exact ⟨hk, hv⟩
  · obtain rfl : i = 0 := by simpa using hi
    have h := heap_alloc_new w (.cells #[.string k, .string v] t)
    exact ⟨cell_of_row _ w.heap.size 0 #[.string k, .string v] t (0, 0) h, cell_of_row _ w.heap.size 1 #[.string k, .string v] t (0, 0) h⟩
theorem Own.alloc {w : World} {B : Nat} {A : Option Addr} {cap : Nat} {l : List Pr} (h : Own w B A cap l) (o : Obj) : Own (w.alloc o) B A cap l := h.below ((Below.refl _ _).alloc (Nat.le_refl _) o)
theorem Own.built (w : World) (B : Nat) (hB : B ≤ w.heap.size) : Own (w.alloc (.cells #[] 86)) B (some ⟨w.heap.size, 0, none⟩) 0 [] :=
  ⟨lens_nil, World.ownsRow_made w #[] 0 hB (by simp [maxLen]) rfl⟩

theorem Own.drew {w : World} {B : Nat} {A : Option Addr} {cap : Nat} {l : List Pr} (h : Own w B A cap l) : Own w.drew B A cap l := h
theorem PIn.drew {w : World} {B : Nat} {A : Option Addr} {l : List Pr} (h : PIn w B A l) : PIn w.drew B A l := h
/-- a list of pairs of the call's own, and whether there is one -/
def RetOwnB (B : Nat) (l : List Pr) (b : Bool) (w : World) (e : Ending) (w' : World) : Prop := ∃ A cap, l.length ≤ cap ∧ e = .returned (.tuple #[.slice A l.length cap, .bool b]) ∧ Own w' B A cap l ∧ Below B w w'
theorem retOwnB_no {B : Nat} {l : List Pr} {b : Bool} {w w' : World} (hl : l = []) (hb : b = false) (h : Below B w w') : RetOwnB B l b w (.returned (.tuple #[.slice none 0 0, .bool false])) w' := by
  subst hl hb; exact ⟨none, 0, by simp, rfl, Own.nil _ _, h⟩
theorem rowOf_some {b o g : Nat} (h : rowOf (some (⟨b, o, none⟩ : Addr)) = some g) : b = g := by injection h
theorem Own.apart {w w' : World} {B : Nat} {A A' : Option Addr} {cap : Nat} {l : List Pr} (h : Own w B A cap l) (hg : w.grownBy w' (rowOf A')) (hne : ∀ g, rowOf A = some g → rowOf A' ≠ some g) : Own w' B A cap l := by
  refine ⟨h.1, h.2.kept hg ?_⟩
  rw [rowOf_own]
  cases e : rowOf A with
  | none => exact .inl rfl
  | some g => exact .inr (fun x => hne g e x.symm)
theorem Own.row {w : World} {B : Nat} {A : Option Addr} {cap : Nat} {l : List Pr} (h : Own w B A cap l) : ∀ g, rowOf A = some g → B ≤ g ∧ g < w.heap.size := by
  intro g hg
  exact h.2.lt g (by rw [rowOf_own]; exact hg)
/-- .. with an id -/
def RetOwnI (B : Nat) (l : List Pr) (s : ByteArray) (b : Bool) (w : World) (e : Ending) (w' : World) : Prop := ∃ A cap, l.length ≤ cap ∧ e = .returned (.tuple #[.slice A l.length cap, .string s, .bool b]) ∧ Own w' B A cap l ∧ Below B w w'
theorem retOwnI_no {B : Nat} {l : List Pr} {s : ByteArray} {b : Bool} {w w' : World} (hl : l = []) (hs : s = ByteArray.empty) (hb : b = false) (h : Below B w w') : RetOwnI B l s b w (.returned (.tuple #[.slice none 0 0, .string ByteArray.empty, .bool false])) w' := by
  subst hl hs hb; exact ⟨none, 0, by simp, rfl, Own.nil _ _, h⟩
end Go.Proofs.Ytblggbihnglipaa
