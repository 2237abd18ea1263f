/-
  Three rows of the call's own side by side: pairs, keys that are told, all keys.
-/
import Derived.Test.YtaofemdhgfejjaaGreatDoorMSpec
namespace Go.Proofs.YtaofemdhgfejjaaGreatDoor
open Go.RowKit

structure Rows3 (w : World) (B : Nat) (Ao : Option Addr) (co : Nat) (lo : List Pr) (Ab : Option Addr) (cb : Nat) (lb : List ByteArray) (AK : Option Addr) (cK : Nat) (lK : List ByteArray) : Prop where
  o : Own w B Ao co lo
  b : ZOwn w B Ab cb lb
  k : ZOwn w B AK cK lK
  ob : ∀ g, rowOf Ao = some g → rowOf Ab ≠ some g
  ok : ∀ g, rowOf AK = some g → rowOf Ao ≠ some g
  bk : ∀ g, rowOf AK = some g → rowOf Ab ≠ some g
section
variable {w w' : World} {B : Nat} {Ao : Option Addr} {co : Nat} {lo : List Pr} {Ab : Option Addr} {cb : Nat} {lb : List ByteArray} {AK : Option Addr} {cK : Nat} {lK : List ByteArray}
theorem Rows3.below (h : Rows3 w B Ao co lo Ab cb lb AK cK lK) (q : Below w.heap.size w w') : Rows3 w' B Ao co lo Ab cb lb AK cK lK := ⟨h.o.below q, h.b.below q, h.k.below q, h.ob, h.ok, h.bk⟩
theorem Rows3.alloc (h : Rows3 w B Ao co lo Ab cb lb AK cK lK) (x : Obj) : Rows3 (w.alloc x) B Ao co lo Ab cb lb AK cK lK := h.below ((Below.refl _ _).alloc (Nat.le_refl _) x)
theorem Rows3.appO (h : Rows3 w B Ao co lo Ab cb lb AK cK lK) {A2 : Option Addr} {c2 : Nat} {l2 : List Pr} (own : Own w' B A2 c2 l2) (g : w.grownBy w' (rowOf Ao)) (r : rowOf A2 = rowOf Ao ∨ rowOf A2 = some w.heap.size) : Rows3 w' B A2 c2 l2 Ab cb lb AK cK lK := by
  refine ⟨own, h.b.apart g (fun x hx y => h.ob x y hx), h.k.apart g h.ok, fun x hx hy => ?_, fun x hx hy => ?_, h.bk⟩
  · rcases r with e | e
    · rw [e] at hx; exact h.ob x hx hy
    · rw [e] at hx; injection hx with hx; have := (h.b.row x hy).2; omega
  · rcases r with e | e
    · rw [e] at hy; exact h.ok x hx hy
    · rw [e] at hy; injection hy with hy; have := (h.k.row x hx).2; omega
theorem Rows3.appB (h : Rows3 w B Ao co lo Ab cb lb AK cK lK) {A2 : Option Addr} {c2 : Nat} {l2 : List ByteArray} (own : ZOwn w' B A2 c2 l2) (g : w.grownBy w' (rowOf Ab)) (r : rowOf A2 = rowOf Ab ∨ rowOf A2 = some w.heap.size) : Rows3 w' B Ao co lo A2 c2 l2 AK cK lK := by
  refine ⟨h.o.apart g h.ob, own, h.k.apart g h.bk, fun x hx hy => ?_, h.ok, fun x hx hy => ?_⟩
  · rcases r with e | e
    · rw [e] at hy; exact h.ob x hx hy
    · rw [e] at hy; injection hy with hy; have := (h.o.row x hx).2; omega
  · rcases r with e | e
    · rw [e] at hy; exact h.bk x hx hy
    · rw [e] at hy; injection hy with hy; have := (h.k.row x hx).2; omega
end
/-- pairs and keys come back, in rows of the call's own that lie apart -/
def RetMZ (B : Nat) (l : List Pr) (ks : List ByteArray) (w : World) (e : Ending) (w' : World) : Prop :=
  ∃ A cap A' cap', l.length ≤ cap ∧ e = .returned (.tuple #[.slice A l.length cap, .slice A' ks.length cap']) ∧ Own w' B A cap l ∧ ZOwn w' B A' cap' ks ∧ Below B w w' ∧ ∀ g, rowOf A = some g → rowOf A' ≠ some g
/-- the merger of the first k keys -/
def merT (base a b side : List Pr) (k : Nat) : List Pr := ((merK base a b).take k).filterMap fun x => (pickM base a b side x).map fun v => (x, v)
def badT (base a b : List Pr) (k : Nat) : List ByteArray := ((merK base a b).take k).filter fun x => (oneM (lk base x) (lk a x) (lk b x)).isNone
theorem merT_zero (base a b side : List Pr) : merT base a b side 0 = [] := rfl
theorem badT_zero (base a b : List Pr) : badT base a b 0 = [] := rfl
theorem merT_all (base a b side : List Pr) {k : Nat} (h : (merK base a b).length ≤ k) : merT base a b side k = merM base a b side := by unfold merT merM; rw [List.take_of_length_le h]
theorem badT_all (base a b : List Pr) {k : Nat} (h : (merK base a b).length ≤ k) : badT base a b k = badM base a b := by unfold badT badM; rw [List.take_of_length_le h]
theorem merT_yes {base a b side : List Pr} {k : Nat} (h : k < (merK base a b).length) {v : ByteArray} (hv : pickM base a b side (merK base a b)[k] = some v) : merT base a b side (k + 1) = merT base a b side k ++ [((merK base a b)[k], v)] := by
  unfold merT
  rw [List.take_succ_eq_append_getElem h, List.filterMap_append]
  simp [hv]
theorem merT_no {base a b side : List Pr} {k : Nat} (h : k < (merK base a b).length) (hv : pickM base a b side (merK base a b)[k] = none) : merT base a b side (k + 1) = merT base a b side k := by
  unfold merT
  rw [List.take_succ_eq_append_getElem h, List.filterMap_append]
  simp [hv]
theorem badT_yes {base a b : List Pr} {k : Nat} (h : k < (merK base a b).length) (hv : oneM (lk base (merK base a b)[k]) (lk a (merK base a b)[k]) (lk b (merK base a b)[k]) = none) : badT base a b (k + 1) = badT base a b k ++ [(merK base a b)[k]] := by
  unfold badT
  rw [List.take_succ_eq_append_getElem h, List.filter_append]
  simp [hv]
theorem badT_no {base a b : List Pr} {k : Nat} (h : k < (merK base a b).length) {r : Option ByteArray} (hv : oneM (lk base (merK base a b)[k]) (lk a (merK base a b)[k]) (lk b (merK base a b)[k]) = some r) : badT base a b (k + 1) = badT base a b k := by
  unfold badT
  rw [List.take_succ_eq_append_getElem h, List.filter_append]
  simp [hv]
theorem merT_len (base a b side : List Pr) (k : Nat) : (merT base a b side k).length ≤ (merK base a b).length := by
  have h1 : (merT base a b side k).length ≤ ((merK base a b).take k).length := List.length_filterMap_le _ _
  rw [List.length_take] at h1
  omega
theorem badT_len (base a b : List Pr) (k : Nat) : (badT base a b k).length ≤ (merK base a b).length := by
  have h1 : (badT base a b k).length ≤ ((merK base a b).take k).length := List.length_filter_le _ _
  rw [List.length_take] at h1
  omega
theorem valOf_max {l : List Pr} (h : lens l) (k : ByteArray) : (valOf l k).size ≤ maxLen := by
  cases hh : hasB l k
  · rw [valOf_no hh]; simp [maxLen]
  · obtain ⟨hlt, he⟩ := hasB_iff.1 hh
    rw [valOf_yes hlt he]
    exact (h _ hlt).2
theorem mem_max {l : List Pr} (h : lens l) {p : Pr} (hp : p ∈ l) : p.1.size ≤ maxLen := by
  obtain ⟨i, hi, rfl⟩ := List.mem_iff_getElem.1 hp
  exact (h i hi).1
theorem merK_max {base a b : List Pr} (h0 : lens base) (h1 : lens a) (h2 : lens b) {k : ByteArray} (h : k ∈ merK base a b) : k.size ≤ maxLen := by
  obtain ⟨p, hp, rfl⟩ := merK_from h
  rcases hp with hp | hp | hp
  · exact mem_max h0 hp
  · exact mem_max h1 hp
  · exact mem_max h2 hp
/-- what a map tells of a key, as the program reads it -/
theorem lk_shape (l : List Pr) (k : ByteArray) : (hasB l k = true ∧ lk l k = some (valOf l k)) ∨ (hasB l k = false ∧ lk l k = none) := by
  cases h : hasB l k
  · exact .inr ⟨rfl, lk_no h⟩
  · exact .inl ⟨rfl, lk_yes h⟩
theorem one_shape (base a b : List Pr) (k : ByteArray) : oneM (lk base k) (lk a k) (lk b k) = none ∨ oneM (lk base k) (lk a k) (lk b k) = some (lk a k) ∨ oneM (lk base k) (lk a k) (lk b k) = some (lk b k) := by
  unfold oneM
  split
  · exact .inr (.inr rfl)
  · split
    · exact .inr (.inl rfl)
    · exact .inl rfl
end Go.Proofs.YtaofemdhgfejjaaGreatDoor
