/-
  Texts that this proof leans on, joined: JO.
-/
import Derived.Test.YtdahpnjamlfakaaGreatDoorPMath
import Derived.Lib.Bytealg
import Derived.Test.YtdahpnjamlfakaaGreatDoorPCell
import Derived.WalkKit
import Derived.Deep.QuietTactic
import Derived.OwnWalk
import Derived.Below
import Derived.Test.YtdahpnjamlfakaaGreatDoorChecked
import Derived.WalkLawsBesides
import Derived.Lib.Hide
import Derived.Maps.AppendAt
import Derived.Deep.RegionLaw
import Derived.Deep.Slices
import Derived.RegionTactic
import Derived.Deep.DeepMust
import Derived.BigQuiet
import Derived.IntWalk
import Derived.Deep.RegionHeld3
import Derived.ProofKit
import Derived.OpenShut
import Derived.Deep.SlicePairs
import Derived.Deep.Quiet
import Derived.Laws.IdiomStrings
import Derived.Test.YtdahpnjamlfakaaGreatDoorQIdS
import Derived.Maps.Own
import Derived.Maps.OwnSet
import Derived.Maps.Views
import Derived.Maps.StringElems
/-
  The order of texts is a strict order without ends left open; where a key stands in a map, and what it has there. Plain mathematics.
-/
namespace Go.Proofs.YtdahpnjamlfakaaGreatDoor
open Go.RowKit

theorem bl_irrefl : ∀ x : List UInt8, Op.bytesLess x x = false
  | [] => rfl
  | a :: x => by simp [Op.bytesLess, bl_irrefl x]
theorem bl_trans : ∀ x y z : List UInt8, Op.bytesLess x y = true → Op.bytesLess y z = true → Op.bytesLess x z = true
  | _, _, [], _, h => by simp [Op.bytesLess] at h
  | _, [], _ :: _, h, _ => by simp [Op.bytesLess] at h
  | [], _ :: _, _ :: _, _, _ => by simp [Op.bytesLess]
  | a :: x, b :: y, c :: z, h, k => by
    simp only [Op.bytesLess, Bool.or_eq_true, Bool.and_eq_true, decide_eq_true_eq, beq_iff_eq] at h k ⊢
    rcases h with h | ⟨rfl, h⟩
    · rcases k with k | ⟨rfl, k⟩
      · exact .inl (UInt8.lt_trans h k)
      · exact .inl h
    · rcases k with k | ⟨rfl, k⟩
      · exact .inl k
      · exact .inr ⟨rfl, bl_trans x y z h k⟩
theorem bl_tri : ∀ x y : List UInt8, Op.bytesLess x y = true ∨ x = y ∨ Op.bytesLess y x = true
  | [], [] => .inr (.inl rfl)
  | [], _ :: _ => .inl rfl
  | _ :: _, [] => .inr (.inr rfl)
  | a :: x, b :: y => by
    simp only [Op.bytesLess, Bool.or_eq_true, Bool.and_eq_true, decide_eq_true_eq, beq_iff_eq]
    by_cases h : a < b
    · exact .inl (.inl h)
    · by_cases k : b < a
      · exact .inr (.inr (.inl k))
      · obtain rfl : a = b := UInt8.le_antisymm (UInt8.not_lt.1 k) (UInt8.not_lt.1 h)
        rcases bl_tri x y with g | rfl | g
        · exact .inl (.inr ⟨rfl, g⟩)
        · exact .inr (.inl rfl)
        · exact .inr (.inr (.inr ⟨rfl, g⟩))
theorem cmp_bl : ∀ x y : List UInt8, (Lib.compareBytes x y < 0 ↔ Op.bytesLess x y = true) ∧ (Lib.compareBytes x y = 0 ↔ x = y)
  | [], [] => by simp [Lib.compareBytes, Op.bytesLess]
  | [], _ :: _ => by simp [Lib.compareBytes, Op.bytesLess]
  | _ :: _, [] => by simp [Lib.compareBytes, Op.bytesLess]
  | a :: x, b :: y => by
    obtain ⟨h1, h2⟩ := cmp_bl x y
    unfold Lib.compareBytes Op.bytesLess
    by_cases hlt : a < b
    · have hne : ¬ a = b := by rintro rfl; exact UInt8.lt_irrefl _ hlt
      simp [hlt, hne]
    · by_cases hgt : b < a
      · have hne : ¬ a = b := by rintro rfl; exact UInt8.lt_irrefl _ hgt
        simp [hlt, hgt, hne]
      · obtain rfl : a = b := UInt8.le_antisymm (UInt8.not_lt.1 hgt) (UInt8.not_lt.1 hlt)
        simp [UInt8.lt_irrefl, h1, h2]

theorem ltB_irrefl (a : ByteArray) : ltB a a = false := bl_irrefl _
theorem ltB_trans {a b c : ByteArray} (h : ltB a b = true) (k : ltB b c = true) : ltB a c = true := bl_trans _ _ _ h k
theorem toList_inj {a b : ByteArray} (e : a.toList = b.toList) : a = b := by
  rw [Go.ByteArray.toList_eq, Go.ByteArray.toList_eq] at e
  exact Go.WideShapes.bytes_inj e
theorem ltB_tri (a b : ByteArray) : ltB a b = true ∨ a = b ∨ ltB b a = true := by
  rcases bl_tri a.toList b.toList with h | h | h
  · exact .inl h
  · exact .inr (.inl (toList_inj h))
  · exact .inr (.inr h)
theorem ltB_asymm {a b : ByteArray} (h : ltB a b = true) : ltB b a = false := by
  cases e : ltB b a
  · rfl
  · have := ltB_trans h e; rw [ltB_irrefl] at this; cases this
/-- what strings.Compare says -/
def cmpS (a b : ByteArray) : Int := Lib.compareBytes a.data.toList b.data.toList
theorem cmpS_lt {a b : ByteArray} : cmpS a b < 0 ↔ ltB a b = true := by
  unfold cmpS ltB; rw [Go.ByteArray.toList_eq, Go.ByteArray.toList_eq]; exact (cmp_bl _ _).1
theorem cmpS_eq {a b : ByteArray} : cmpS a b = 0 ↔ a = b := by
  unfold cmpS; rw [(cmp_bl _ _).2]; exact ⟨fun h => Go.WideShapes.bytes_inj h, fun h => by rw [h]⟩

theorem rises_lt {l : List Pr} (h : risesTo l l.length) : ∀ j (hj : j < l.length) i (hi : i < j), ltB (l[i]'(by omega)).1 l[j].1 = true
  | 0, _, i, hi => absurd hi (by omega)
  | j + 1, hj, i, hi => by
    have h1 := h j hj hj
    rcases Nat.lt_or_ge i j with g | g
    · exact ltB_trans (rises_lt h j (by omega) i g) h1
    · obtain rfl : i = j := by omega
      exact h1

/-- how many keys at the head of l are less: where the key would stand -/
def atN : List Pr → ByteArray → Nat
  | [], _ => 0
  | p :: r, k => if ltB p.1 k = true then atN r k + 1 else 0
theorem atN_le : ∀ (l : List Pr) (k : ByteArray), atN l k ≤ l.length
  | [], _ => Nat.le_refl _
  | p :: r, k => by
    unfold atN
    have := atN_le r k
    split <;> simp <;> omega
theorem atN_lt : ∀ (l : List Pr) (k : ByteArray) (i : Nat) (_ : i < atN l k) (h' : i < l.length), ltB l[i].1 k = true
  | [], _, i, _, h' => absurd h' (by simp)
  | p :: r, k, i, h, h' => by
    unfold atN at h
    split at h
    next e =>
      cases i with
      | zero => exact e
      | succ i => exact atN_lt r k i (by omega) (by simpa using h')
    next => omega
theorem atN_not : ∀ (l : List Pr) (k : ByteArray) (h : atN l k < l.length), ltB l[atN l k].1 k = false
  | [], _, h => absurd h (by simp)
  | p :: r, k, h => by
    by_cases e : ltB p.1 k = true
    · have h1 : atN (p :: r) k = atN r k + 1 := by rw [atN, if_pos e]
      have h2 : atN r k < r.length := by rw [h1] at h; simpa using h
      have h3 := atN_not r k h2
      simp only [h1, List.getElem_cons_succ]
      exact h3
    · have h1 : atN (p :: r) k = 0 := by rw [atN, if_neg e]
      simp only [h1, List.getElem_cons_zero]
      simpa using e
/-- the place is known by what stands on both sides of it -/
theorem atN_eq {l : List Pr} {k : ByteArray} {n : Nat} (hn : n ≤ l.length) (h1 : ∀ i (h : i < l.length), i < n → ltB l[i].1 k = true) (h2 : ∀ (h : n < l.length), ltB l[n].1 k = false) : atN l k = n := by
  rcases Nat.lt_trichotomy (atN l k) n with g | g | g
  · have := atN_not l k (by omega)
    rw [h1 _ (by omega) g] at this
    cases this
  · exact g
  · have h3 : n < l.length := by have := atN_le l k; omega
    have := atN_lt l k n g h3
    rw [h2 h3] at this
    cases this

/-- is the key there? -/
def hasB (l : List Pr) (k : ByteArray) : Bool := if h : atN l k < l.length then decide (l[atN l k].1 = k) else false
theorem hasB_yes {l : List Pr} {k : ByteArray} (h : atN l k < l.length) (e : l[atN l k].1 = k) : hasB l k = true := by unfold hasB; rw [dif_pos h]; exact decide_eq_true e
theorem hasB_no {l : List Pr} {k : ByteArray} (h : atN l k < l.length) (e : ¬ l[atN l k].1 = k) : hasB l k = false := by unfold hasB; rw [dif_pos h]; exact decide_eq_false e
theorem hasB_end {l : List Pr} {k : ByteArray} (h : ¬ atN l k < l.length) : hasB l k = false := by unfold hasB; rw [dif_neg h]
theorem hasB_iff {l : List Pr} {k : ByteArray} : hasB l k = true ↔ ∃ h : atN l k < l.length, l[atN l k].1 = k := by
  unfold hasB
  split
  next h => rw [decide_eq_true_iff]; exact ⟨fun e => ⟨h, e⟩, fun ⟨_, e⟩ => e⟩
  next h => simp; intro x; exact absurd x h
/-- its value, or nothing -/
def valOf (l : List Pr) (k : ByteArray) : ByteArray := if h : atN l k < l.length then (if l[atN l k].1 = k then l[atN l k].2 else ByteArray.empty) else ByteArray.empty
theorem valOf_yes {l : List Pr} {k : ByteArray} (h : atN l k < l.length) (e : l[atN l k].1 = k) : valOf l k = l[atN l k].2 := by unfold valOf; rw [dif_pos h, if_pos e]
theorem valOf_no {l : List Pr} {k : ByteArray} (h : hasB l k = false) : valOf l k = ByteArray.empty := by
  unfold valOf
  split
  next h' =>
    split
    next e => rw [hasB_yes h' e] at h; cases h
    next => rfl
  next => rfl
/-- what Get tells -/
noncomputable def getB (l : List Pr) (k : ByteArray) : Bool := mapB l && hasB l k
noncomputable def getV (l : List Pr) (k : ByteArray) : ByteArray := if mapB l = true then valOf l k else ByteArray.empty
end Go.Proofs.YtdahpnjamlfakaaGreatDoor
/-
  Rising lists by their members; what is put in. Plain mathematics.
-/
namespace Go.Proofs.YtdahpnjamlfakaaGreatDoor
open Go.RowKit

/-- with the pair, in place of one of its key -/
def setL (l : List Pr) (k v : ByteArray) : List Pr := l.take (atN l k) ++ (k, v) :: l.drop (if hasB l k = true then atN l k + 1 else atN l k)
def Ris (l : List Pr) : Prop := l.Pairwise fun a b => ltB a.1 b.1 = true
theorem ris_iff {l : List Pr} : risesTo l l.length ↔ Ris l := by
  constructor
  · intro h
    unfold Ris
    rw [List.pairwise_iff_getElem]
    intro i j hi hj hij
    exact rises_lt h j hj i hij
  · intro h i hi _
    exact List.pairwise_iff_getElem.1 h i (i + 1) (by omega) hi (by omega)
theorem Ris.ext : ∀ {l l' : List Pr}, Ris l → Ris l' → (∀ p, p ∈ l ↔ p ∈ l') → l = l'
  | [], [], _, _, _ => rfl
  | [], b :: t, _, _, h => absurd ((h b).2 (List.mem_cons_self ..)) (by simp)
  | a :: t, [], _, _, h => absurd ((h a).1 (List.mem_cons_self ..)) (by simp)
  | a :: t, b :: t', h1, h2, h => by
    have h1' := List.pairwise_cons.1 h1
    have h2' := List.pairwise_cons.1 h2
    have hab : a = b := by
      rcases List.mem_cons.1 ((h a).1 (List.mem_cons_self ..)) with e | e
      · exact e
      · rcases List.mem_cons.1 ((h b).2 (List.mem_cons_self ..)) with e' | e'
        · exact e'.symm
        · have x := h2'.1 a e
          have y := h1'.1 b e'
          rw [ltB_asymm x] at y
          cases y
    subst hab
    congr 1
    refine Ris.ext h1'.2 h2'.2 fun p => ⟨fun hp => ?_, fun hp => ?_⟩
    · rcases List.mem_cons.1 ((h p).1 (List.mem_cons_of_mem _ hp)) with e | e
      · subst e; have := h1'.1 p hp; rw [ltB_irrefl] at this; cases this
      · exact e
    · rcases List.mem_cons.1 ((h p).2 (List.mem_cons_of_mem _ hp)) with e | e
      · subst e; have := h2'.1 p hp; rw [ltB_irrefl] at this; cases this
      · exact e
theorem Ris.key {l : List Pr} (h : Ris l) {k v v' : ByteArray} (a : (k, v) ∈ l) (b : (k, v') ∈ l) : v = v' := by
  obtain ⟨i, hi, e⟩ := List.getElem_of_mem a
  obtain ⟨j, hj, e'⟩ := List.getElem_of_mem b
  rcases Nat.lt_trichotomy i j with g | g | g
  · have := List.pairwise_iff_getElem.1 h i j hi hj g
    rw [e, e', ltB_irrefl] at this; cases this
  · subst g; rw [e] at e'; injection e'
  · have := List.pairwise_iff_getElem.1 h j i hj hi g
    rw [e, e', ltB_irrefl] at this; cases this
theorem ne_of_lt {a b : ByteArray} (h : ltB a b = true) : a ≠ b := by rintro rfl; rw [ltB_irrefl] at h; cases h
theorem mem_take {l : List Pr} (h : Ris l) (k : ByteArray) (p : Pr) : p ∈ l.take (atN l k) ↔ p ∈ l ∧ ltB p.1 k = true := by
  constructor
  · intro hp
    obtain ⟨i, hi, e⟩ := List.getElem_of_mem hp
    rw [List.length_take] at hi
    rw [List.getElem_take] at e
    subst e
    exact ⟨List.getElem_mem _, atN_lt l k i (by omega) (by omega)⟩
  · rintro ⟨hp, hlt⟩
    obtain ⟨i, hi, e⟩ := List.getElem_of_mem hp
    subst e
    have hia : i < atN l k := by
      rcases Nat.lt_or_ge i (atN l k) with g | g
      · exact g
      · have hn := atN_not l k (by omega)
        rcases Nat.lt_or_ge (atN l k) i with g' | g'
        · have := List.pairwise_iff_getElem.1 h (atN l k) i (by omega) hi g'
          rw [ltB_trans this hlt] at hn; cases hn
        · obtain rfl : i = atN l k := by omega
          rw [hlt] at hn; cases hn
    have : (l.take (atN l k))[i]'(by rw [List.length_take]; omega) = l[i] := List.getElem_take ..
    rw [← this]
    exact List.getElem_mem _
theorem lt_at {l : List Pr} {k : ByteArray} (hh : hasB l k = false) (h : atN l k < l.length) : ltB k l[atN l k].1 = true := by
  rcases ltB_tri l[atN l k].1 k with g | g | g
  · rw [atN_not l k h] at g; cases g
  · rw [hasB_yes h g] at hh; cases hh
  · exact g
/-- from where on the keys are greater -/
def behind (l : List Pr) (k : ByteArray) : Nat := if hasB l k = true then atN l k + 1 else atN l k
theorem mem_drop {l : List Pr} (h : Ris l) (k : ByteArray) (p : Pr) : p ∈ l.drop (behind l k) ↔ p ∈ l ∧ ltB k p.1 = true := by
  have key : ∀ i (hi : i < l.length), behind l k ≤ i ↔ ltB k l[i].1 = true := by
    intro i hi
    unfold behind
    cases hh : hasB l k
    · simp only [Bool.false_eq_true, if_false]
      constructor
      · intro g
        have h1 := lt_at hh (by omega)
        rcases Nat.lt_or_ge (atN l k) i with g' | g'
        · exact ltB_trans h1 (List.pairwise_iff_getElem.1 h (atN l k) i (by omega) hi g')
        · obtain rfl : i = atN l k := by omega
          exact h1
      · intro g
        rcases Nat.lt_or_ge i (atN l k) with g' | g'
        · have := atN_lt l k i g' hi
          rw [ltB_asymm this] at g; cases g
        · exact g'
    · obtain ⟨hlt, he⟩ := hasB_iff.1 hh
      simp only [if_true]
      constructor
      · intro g
        have := List.pairwise_iff_getElem.1 h (atN l k) i hlt hi (by omega)
        rw [he] at this
        exact this
      · intro g
        rcases Nat.lt_trichotomy i (atN l k) with g' | g' | g'
        · have := atN_lt l k i g' hi
          rw [ltB_asymm this] at g; cases g
        · subst g'
          rw [he, ltB_irrefl] at g; cases g
        · omega
  constructor
  · intro hp
    obtain ⟨i, hi, e⟩ := List.getElem_of_mem hp
    rw [List.length_drop] at hi
    rw [List.getElem_drop] at e
    subst e
    exact ⟨List.getElem_mem _, (key _ (by omega)).1 (by omega)⟩
  · rintro ⟨hp, hlt⟩
    obtain ⟨i, hi, e⟩ := List.getElem_of_mem hp
    subst e
    have hb := (key i hi).2 hlt
    have : (l.drop (behind l k))[i - behind l k]'(by rw [List.length_drop]; omega) = l[i] := by
      rw [List.getElem_drop]
      congr 1
      omega
    rw [← this]
    exact List.getElem_mem _
theorem setL_behind (l : List Pr) (k v : ByteArray) : setL l k v = l.take (atN l k) ++ (k, v) :: l.drop (behind l k) := rfl
theorem mem_set {l : List Pr} (h : Ris l) (k v : ByteArray) (p : Pr) : p ∈ setL l k v ↔ p = (k, v) ∨ (p ∈ l ∧ p.1 ≠ k) := by
  rw [setL_behind, List.mem_append, List.mem_cons, mem_take h, mem_drop h]
  constructor
  · rintro (⟨a, b⟩ | a | ⟨a, b⟩)
    · exact .inr ⟨a, ne_of_lt b⟩
    · exact .inl a
    · exact .inr ⟨a, (ne_of_lt b).symm⟩
  · rintro (a | ⟨a, b⟩)
    · exact .inr (.inl a)
    · rcases ltB_tri p.1 k with g | g | g
      · exact .inl ⟨a, g⟩
      · exact absurd g b
      · exact .inr (.inr ⟨a, g⟩)
theorem ris_set {l : List Pr} (h : Ris l) (k v : ByteArray) : Ris (setL l k v) := by
  unfold Ris
  rw [setL_behind, List.pairwise_append, List.pairwise_cons]
  refine ⟨List.Pairwise.sublist (List.take_sublist _ _) h, ⟨fun p hp => ((mem_drop h k p).1 hp).2, List.Pairwise.sublist (List.drop_sublist _ _) h⟩, fun a ha b hb => ?_⟩
  have h1 := ((mem_take h k a).1 ha).2
  rcases List.mem_cons.1 hb with e | e
  · subst e; exact h1
  · exact ltB_trans h1 ((mem_drop h k b).1 e).2
theorem at_mem {l : List Pr} {k : ByteArray} (hlt : atN l k < l.length) (he : l[atN l k].1 = k) : (k, l[atN l k].2) ∈ l := by
  have e : (k, l[atN l k].2) = l[atN l k] := Prod.ext he.symm rfl
  rw [e]
  exact List.getElem_mem _
theorem has_iff {l : List Pr} (h : Ris l) (k : ByteArray) : hasB l k = true ↔ ∃ v, (k, v) ∈ l := by
  constructor
  · intro hh
    obtain ⟨hlt, he⟩ := hasB_iff.1 hh
    exact ⟨l[atN l k].2, at_mem hlt he⟩
  · rintro ⟨v, hv⟩
    cases hh : hasB l k
    · have e1 : ¬ (k, v) ∈ l.take (atN l k) := fun x => by have := ((mem_take h k (k, v)).1 x).2; rw [ltB_irrefl] at this; cases this
      have e2 : ¬ (k, v) ∈ l.drop (behind l k) := fun x => by have := ((mem_drop h k (k, v)).1 x).2; rw [ltB_irrefl] at this; cases this
      have : behind l k = atN l k := by unfold behind; rw [hh]; rfl
      rw [this] at e2
      rw [← List.take_append_drop (atN l k) l, List.mem_append] at hv
      rcases hv with hv | hv
      · exact absurd hv e1
      · exact absurd hv e2
    · rfl
theorem val_of {l : List Pr} (h : Ris l) {k v : ByteArray} (hv : (k, v) ∈ l) : valOf l k = v := by
  obtain ⟨hlt, he⟩ := hasB_iff.1 ((has_iff h k).2 ⟨v, hv⟩)
  rw [valOf_yes hlt he]
  exact h.key (at_mem hlt he) hv
theorem mem_erase {l : List Pr} (h : Ris l) {k : ByteArray} (hh : hasB l k = true) (p : Pr) : p ∈ l.eraseIdx (atN l k) ↔ p ∈ l ∧ p.1 ≠ k := by
  rw [List.eraseIdx_eq_take_drop_succ, List.mem_append, mem_take h]
  have : atN l k + 1 = behind l k := by unfold behind; rw [hh]; rfl
  rw [this, mem_drop h]
  constructor
  · rintro (⟨a, b⟩ | ⟨a, b⟩)
    · exact ⟨a, ne_of_lt b⟩
    · exact ⟨a, (ne_of_lt b).symm⟩
  · rintro ⟨a, b⟩
    rcases ltB_tri p.1 k with g | g | g
    · exact .inl ⟨a, g⟩
    · exact absurd g b
    · exact .inr ⟨a, g⟩
theorem ris_erase {l : List Pr} (h : Ris l) (i : Nat) : Ris (l.eraseIdx i) := List.Pairwise.sublist (List.eraseIdx_sublist _ _) h
theorem len_set (l : List Pr) (k v : ByteArray) : (setL l k v).length = if hasB l k = true then l.length else l.length + 1 := by
  have hle := atN_le l k
  unfold setL
  rw [List.length_append, List.length_take, List.length_cons, List.length_drop]
  cases hh : hasB l k
  · simp; omega
  · obtain ⟨hlt, _⟩ := hasB_iff.1 hh
    simp; omega
theorem has_set {l : List Pr} (h : Ris l) (k v k' : ByteArray) : hasB (setL l k v) k' = true ↔ k' = k ∨ hasB l k' = true := by
  rw [has_iff (ris_set h k v), has_iff h]
  constructor
  · rintro ⟨x, hx⟩
    rcases (mem_set h k v _).1 hx with e | ⟨e, _⟩
    · injection e with e1 e2; exact .inl e1
    · exact .inr ⟨x, e⟩
  · rintro (e | ⟨x, hx⟩)
    · subst e; exact ⟨v, (mem_set h _ v _).2 (.inl rfl)⟩
    · by_cases e : k' = k
      · subst e; exact ⟨v, (mem_set h _ v _).2 (.inl rfl)⟩
      · exact ⟨x, (mem_set h k v _).2 (.inr ⟨hx, e⟩)⟩
theorem set_set {l : List Pr} (h : Ris l) (k v v' : ByteArray) : setL (setL l k v') k v = setL l k v := by
  refine Ris.ext (ris_set (ris_set h k v') k v) (ris_set h k v) fun p => ?_
  rw [mem_set (ris_set h k v'), mem_set h, mem_set h]
  constructor
  · rintro (e | ⟨e | ⟨e, _⟩, n⟩)
    · exact .inl e
    · subst e; exact absurd rfl n
    · exact .inr ⟨e, n⟩
  · rintro (e | ⟨e, n⟩)
    · exact .inl e
    · exact .inr ⟨.inr ⟨e, n⟩, n⟩
theorem set_swap {l : List Pr} (h : Ris l) {k k' : ByteArray} (v v' : ByteArray) (hne : k ≠ k') : setL (setL l k v) k' v' = setL (setL l k' v') k v := by
  refine Ris.ext (ris_set (ris_set h k v) k' v') (ris_set (ris_set h k' v') k v) fun p => ?_
  rw [mem_set (ris_set h k v), mem_set h, mem_set (ris_set h k' v'), mem_set h]
  constructor
  · rintro (e | ⟨e | ⟨e, n⟩, n'⟩)
    · subst e; exact .inr ⟨.inl rfl, hne.symm⟩
    · exact .inl e
    · exact .inr ⟨.inr ⟨e, n'⟩, n⟩
  · rintro (e | ⟨e | ⟨e, n⟩, n'⟩)
    · subst e; exact .inr ⟨.inl rfl, hne⟩
    · exact .inl e
    · exact .inr ⟨.inr ⟨e, n'⟩, n⟩
theorem val_set {l : List Pr} (h : Ris l) (k v : ByteArray) : valOf (setL l k v) k = v := val_of (ris_set h k v) ((mem_set h k v _).2 (.inl rfl))
theorem val_set_ne {l : List Pr} (h : Ris l) {k k' : ByteArray} (v : ByteArray) (hne : k' ≠ k) : valOf (setL l k v) k' = valOf l k' := by
  cases hh : hasB l k'
  · have h1 : hasB (setL l k v) k' = false := by
      cases e : hasB (setL l k v) k'
      · rfl
      · rcases (has_set h k v k').1 e with g | g
        · exact absurd g hne
        · rw [hh] at g; cases g
    rw [valOf_no hh, valOf_no h1]
  · obtain ⟨x, hx⟩ := (has_iff h k').1 hh
    rw [val_of h hx, val_of (ris_set h k v) ((mem_set h k v _).2 (.inr ⟨hx, hne⟩))]
theorem mem_val {l : List Pr} {k : ByteArray} (hh : hasB l k = true) : (k, valOf l k) ∈ l := by
  obtain ⟨hlt, he⟩ := hasB_iff.1 hh
  rw [valOf_yes hlt he]
  exact at_mem hlt he
theorem set_same {l : List Pr} (h : Ris l) {k v : ByteArray} (hh : hasB l k = true) (hv : valOf l k = v) : setL l k v = l := by
  subst hv
  have hm := mem_val hh
  refine Ris.ext (ris_set h k _) h fun p => ?_
  rw [mem_set h]
  constructor
  · rintro (e | ⟨e, _⟩)
    · subst e; exact hm
    · exact e
  · intro e
    by_cases n : p.1 = k
    · left
      have : (k, p.2) ∈ l := by rw [← n]; exact e
      exact Prod.ext n (h.key this hm)
    · exact .inr ⟨e, n⟩
/-- one step of a joining: no other text has that id -/
def stepOk (o : List Pr) (p : Pr) : Bool := !hasB o p.1 || decide (valOf o p.1 = p.2)
theorem stepOk_new {o : List Pr} {p : Pr} (h : hasB o p.1 = false) : stepOk o p = true := by unfold stepOk; rw [h]; rfl
theorem stepOk_same {o : List Pr} {p : Pr} (h : valOf o p.1 = p.2) : stepOk o p = true := by unfold stepOk; rw [decide_eq_true h, Bool.or_true]
theorem stepOk_no {o : List Pr} {p : Pr} (h : hasB o p.1 = true) (h' : ¬ valOf o p.1 = p.2) : stepOk o p = false := by unfold stepOk; rw [h, decide_eq_false h']; rfl
theorem stepOk_iff {o : List Pr} (ho : Ris o) {p : Pr} : stepOk o p = true ↔ ∀ v, (p.1, v) ∈ o → v = p.2 := by
  constructor
  · intro h v hv
    have hh := (has_iff ho p.1).2 ⟨v, hv⟩
    unfold stepOk at h
    rw [hh] at h
    simp at h
    rw [← h, val_of ho hv]
  · intro h
    cases hh : hasB o p.1
    · exact stepOk_new hh
    · exact stepOk_same (h _ (mem_val hh))
/-- the first k of b joined to a -/
def jl (a b : List Pr) (k : Nat) : List Pr := (b.take k).foldl (fun o p => setL o p.1 p.2) a
theorem jl_zero (a b : List Pr) : jl a b 0 = a := rfl
theorem jl_succ (a b : List Pr) (k : Nat) (h : k < b.length) : jl a b (k + 1) = setL (jl a b k) b[k].1 b[k].2 := by
  unfold jl
  rw [List.take_succ_eq_append_getElem h, List.foldl_append]
  rfl
theorem jl_ris {a b : List Pr} (ha : Ris a) : ∀ k, k ≤ b.length → Ris (jl a b k)
  | 0, _ => ha
  | k + 1, h => by rw [jl_succ a b k (by omega)]; exact ris_set (jl_ris ha k (by omega)) _ _
theorem len_set_le (l : List Pr) (k v : ByteArray) : l.length ≤ (setL l k v).length ∧ (setL l k v).length ≤ l.length + 1 := by rw [len_set]; split <;> omega
theorem jl_mono (a b : List Pr) : ∀ d k, k + d ≤ b.length → (jl a b k).length ≤ (jl a b (k + d)).length
  | 0, _, _ => Nat.le_refl _
  | d + 1, k, h => by
    have h1 := jl_mono a b d k (by omega)
    have h2 := (len_set_le (jl a b (k + d)) b[k + d].1 b[k + d].2).1
    rw [← jl_succ a b (k + d) (by omega)] at h2
    exact Nat.le_trans h1 h2
theorem jl_len (a b : List Pr) : ∀ k, k ≤ b.length → (jl a b k).length ≤ a.length + k
  | 0, _ => Nat.le_refl _
  | k + 1, h => by
    have h1 := jl_len a b k (by omega)
    have h2 := (len_set_le (jl a b k) b[k].1 b[k].2).2
    rw [← jl_succ a b k (by omega)] at h2
    omega
def jokTo (a b : List Pr) (k : Nat) : Prop := ∀ i (h : i < b.length), i < k → stepOk (jl a b i) b[i] = true
theorem jokTo_zero (a b : List Pr) : jokTo a b 0 := fun _ _ h => absurd h (by omega)
theorem jokTo_succ {a b : List Pr} {k : Nat} (hk : k < b.length) (h : jokTo a b k) (h1 : stepOk (jl a b k) b[k] = true) : jokTo a b (k + 1) := by
  intro i hi hik
  rcases Nat.lt_or_ge i k with g | g
  · exact h i hi g
  · obtain rfl : i = k := by omega
    exact h1
/-- what is there behind k steps -/
theorem jl_mem {a b : List Pr} (ha : Ris a) : ∀ k, k ≤ b.length → jokTo a b k → ∀ p, p ∈ jl a b k ↔ p ∈ a ∨ p ∈ b.take k
  | 0, _, _, p => by rw [jl_zero]; simp
  | k + 1, h, hj, p => by
    have hk : k < b.length := by omega
    have ih := jl_mem ha k (by omega) (fun i hi hik => hj i hi (by omega)) p
    have hr := jl_ris (b := b) ha k (by omega)
    have hs := (stepOk_iff hr).1 (hj k hk (by omega))
    rw [jl_succ a b k hk, mem_set hr, List.take_succ_eq_append_getElem hk, List.mem_append, List.mem_singleton]
    constructor
    · rintro (e | ⟨e, _⟩)
      · exact .inr (.inr (by rw [e]))
      · rcases ih.1 e with g | g
        · exact .inl g
        · exact .inr (.inl g)
    · intro e
      by_cases n : p.1 = b[k].1
      · left
        have hp : p ∈ jl a b k ∨ p = b[k] := by
          rcases e with g | g | g
          · exact .inl (ih.2 (.inl g))
          · exact .inl (ih.2 (.inr g))
          · exact .inr g
        rcases hp with g | g
        · have : p.2 = b[k].2 := hs p.2 (by rw [← n]; exact g)
          exact Prod.ext n this
        · rw [g]
      · right
        refine ⟨?_, n⟩
        rcases e with g | g | g
        · exact ih.2 (.inl g)
        · exact ih.2 (.inr g)
        · rw [g] at n; exact absurd rfl n
/-- which joinings go through: no id of both has two texts -/
theorem jok_iff {a b : List Pr} (ha : Ris a) (hb : Ris b) : jokTo a b b.length ↔ ∀ k v v', (k, v) ∈ a → (k, v') ∈ b → v = v' := by
  constructor
  · intro h k v v' h1 h2
    have hm := jl_mem ha b.length (Nat.le_refl _) h
    exact (jl_ris (b := b) ha b.length (Nat.le_refl _)).key ((hm _).2 (.inl h1)) ((hm _).2 (.inr (by rw [List.take_length]; exact h2)))
  · intro h
    have : ∀ k, k ≤ b.length → jokTo a b k := by
      intro k
      induction k with
      | zero => exact fun _ => jokTo_zero a b
      | succ k ih =>
        intro hk
        have ih' := ih (by omega)
        refine jokTo_succ (by omega) ih' ((stepOk_iff (jl_ris ha k (by omega))).2 fun v hv => ?_)
        rcases (jl_mem ha k (by omega) ih' _).1 hv with g | g
        · exact h _ _ _ g (List.getElem_mem (by omega))
        · exact hb.key (List.mem_of_mem_take g) (List.getElem_mem (by omega))
    exact this _ (Nat.le_refl _)
end Go.Proofs.YtdahpnjamlfakaaGreatDoor
/-
  Words for memory: worlds that part by draws alone; a slice that reads as a list of pairs; rows of pairs of the call's own.
-/
namespace Go.Proofs.YtdahpnjamlfakaaGreatDoor
open Go.RowKit

/-- the texts of the pairs are texts that Go can hold -/
def lens (l : List Pr) : Prop := ∀ i (h : i < l.length), l[i].1.size ≤ maxLen ∧ l[i].2.size ≤ maxLen
theorem lens_nil : lens [] := fun _ h => absurd h (by simp)
/-- the slice at A reads as the pairs l, and lies below block B -/
def PIn (w : World) (B : Nat) (A : Option Addr) (l : List Pr) : Prop :=
  lens l ∧ (0 < l.length → ∃ b off, A = some ⟨b, off, none⟩ ∧ b < B ∧ ∀ i (h : i < l.length), w.cell? ⟨b, off + i * 2, none⟩ = some (.string l[i].1) ∧ w.cell? ⟨b, off + i * 2 + 1, none⟩ = some (.string l[i].2))
theorem PIn.nil (w : World) (B : Nat) (A : Option Addr) : PIn w B A [] := ⟨lens_nil, fun h => absurd h (by simp)⟩
theorem PIn.keep {w w' : World} {B : Nat} {A : Option Addr} {l : List Pr} (h : PIn w B A l) (hk : ∀ b o, b < B → w'.cell? ⟨b, o, none⟩ = w.cell? ⟨b, o, none⟩) : PIn w' B A l :=
  ⟨h.1, fun hp => by
    obtain ⟨b, off, e, hb, hc⟩ := h.2 hp
    exact ⟨b, off, e, hb, fun i hi => ⟨(hk _ _ hb).trans (hc i hi).1, (hk _ _ hb).trans (hc i hi).2⟩⟩⟩
theorem PIn.quiet {w w' : World} {B : Nat} {A : Option Addr} {l : List Pr} (h : PIn w B A l) (q : Quiet w w') : PIn w' B A l := h.keep fun _ _ _ => q.cell _
theorem PIn.below {w w' : World} {B : Nat} {A : Option Addr} {l : List Pr} (h : PIn w B A l) (q : Below B w w') : PIn w' B A l := h.keep fun _ _ hb => q.cell (by exact hb)
theorem PIn.more {w : World} {B B' : Nat} {A : Option Addr} {l : List Pr} (h : PIn w B A l) (hB : B ≤ B') : PIn w B' A l :=
  ⟨h.1, fun hp => by obtain ⟨b, off, e, hb, hc⟩ := h.2 hp; exact ⟨b, off, e, by omega, hc⟩⟩


/-- the cells of a list of pairs -/
def pcells (l : List Pr) : List Value := l.flatMap fun p => [.string p.1, .string p.2]
theorem pcells_nil : pcells [] = [] := rfl
theorem pcells_cons (p : Pr) (l : List Pr) : pcells (p :: l) = .string p.1 :: .string p.2 :: pcells l := rfl
theorem pcells_append (a b : List Pr) : pcells (a ++ b) = pcells a ++ pcells b := by unfold pcells; rw [List.flatMap_append]
theorem pcells_length (l : List Pr) : (pcells l).length = l.length * 2 := by
  induction l with
  | nil => rfl
  | cons p r ih => rw [pcells_cons]; simp only [List.length_cons, ih]; omega
theorem pcells_get : ∀ (l : List Pr) (i : Nat) (h : i < l.length), (pcells l)[i * 2]? = some (.string l[i].1) ∧ (pcells l)[i * 2 + 1]? = some (.string l[i].2)
  | p :: r, 0, _ => by rw [pcells_cons]; exact ⟨rfl, rfl⟩
  | p :: r, i + 1, h => by
    obtain ⟨a, b⟩ := pcells_get r i (by simpa using h)
    rw [pcells_cons, show (i + 1) * 2 = i * 2 + 1 + 1 by omega]
    exact ⟨by simpa using a, by simpa using b⟩
theorem pcells_set : ∀ (l : List Pr) (i : Nat) (a b : ByteArray), ((pcells l).set (i * 2) (.string a)).set (i * 2 + 1) (.string b) = pcells (l.set i (a, b))
  | [], _, _, _ => by simp [pcells_nil]
  | p :: r, 0, a, b => by simp [pcells_cons]
  | p :: r, i + 1, a, b => by
    rw [pcells_cons, List.set_cons_succ, pcells_cons, ← pcells_set r i a b, show (i + 1) * 2 = i * 2 + 1 + 1 by omega]
    simp
theorem pcells_one (l : List Pr) : ∀ u ∈ pcells l, u.oneCell' = true := by
  intro u hu
  unfold pcells at hu
  rw [List.mem_flatMap] at hu
  obtain ⟨p, _, hp⟩ := hu
  simp at hp
  rcases hp with rfl | rfl <;> rfl

/-- the slice at A is a row of the call's own, from block B on, and holds the pairs l -/
def Own (w : World) (B : Nat) (A : Option Addr) (cap : Nat) (l : List Pr) : Prop := lens l ∧ w.ownsRow B 83 2 (.slice A l.length cap) l.length (pcells l)
theorem Own.nil (w : World) (B : Nat) : Own w B none 0 [] := ⟨lens_nil, World.ownsRow_nil _ _ _ _⟩
theorem Own.form {w : World} {B : Nat} {A : Option Addr} {cap : Nat} {l : List Pr} (h : Own w B A cap l) : (A = none ∧ cap = 0 ∧ l = []) ∨ ∃ g, A = some ⟨g, 0, none⟩ ∧ B ≤ g ∧ g < w.heap.size := by
  rcases h.2.2 with ⟨e, e'⟩ | ⟨g, c, cur, e, hb, hg, _⟩
  · injection e with e1 e2 e3
    exact .inl ⟨e1, e3, List.eq_nil_of_length_eq_zero e2⟩
  · injection e with e1 e2 e3
    exact .inr ⟨g, e1, hb, (Array.getElem?_eq_some_iff.1 hg).1⟩
theorem Own.pin {w : World} {B : Nat} {A : Option Addr} {cap : Nat} {l : List Pr} (h : Own w B A cap l) : PIn w w.heap.size A l := by
  refine ⟨h.1, fun hp => ?_⟩
  rcases h.form with ⟨_, _, rfl⟩ | ⟨g, rfl, _, hg⟩
  · simp at hp
  · refine ⟨g, 0, rfl, hg, fun i hi => ?_⟩
    obtain ⟨a, b⟩ := pcells_get l i hi
    have h1 := h.2.cellAt (i * 2) (by omega)
    have h2 := h.2.cellAt (i * 2 + 1) (by omega)
    rw [Nat.zero_add]
    exact ⟨h1.trans a, h2.trans b⟩
theorem Own.below {w w' : World} {B : Nat} {A : Option Addr} {cap : Nat} {l : List Pr} (h : Own w B A cap l) (hb : Below w.heap.size w w') : Own w' B A cap l := by
  refine ⟨h.1, h.2.kept (Below.toGrown hb none) ?_⟩
  cases hv : (Value.slice A l.length cap).ownBlock <;> simp
theorem Own.more {w : World} {B B' : Nat} {A : Option Addr} {cap : Nat} {l : List Pr} (h : Own w B A cap l) (hB : B' ≤ B) : Own w B' A cap l := by
  refine ⟨h.1, h.2.1, ?_⟩
  rcases h.2.2 with e | ⟨g, c, cur, e, hb, r⟩
  · exact .inl e
  · exact .inr ⟨g, c, cur, e, Nat.le_trans hB hb, r⟩
end Go.Proofs.YtdahpnjamlfakaaGreatDoor
/-
  What walks over texts import.
-/

/-
  append, make and cuts over slices of pairs, in the words of PMem: what is appended to a row of the call's own is a row of the call's own.
-/
namespace Go.Proofs.YtdahpnjamlfakaaGreatDoor
open Go.RowKit

theorem infoP : (Tryz.prog.info? 83).map (fun i => (i.zero, i.size, i.bytes)) = some (some (.agg #[.string ByteArray.empty, .string ByteArray.empty]), 2, 32) := by kernel_rfl

theorem add_pl (b off j : Nat) : (⟨b, off, none⟩ : Addr).add j = ⟨b, off + j, none⟩ := by unfold Addr.add; split <;> simp_all
/-- where a slice that is cut from place k on begins -/
def cutA (A : Option Addr) (cap k : Nat) : Option Addr := if cap = k then A else A.map (·.add (k * 2))
theorem PIn.take {w : World} {B : Nat} {A : Option Addr} {l : List Pr} (h : PIn w B A l) (cap k : Nat) : PIn w B (cutA A cap 0) (l.take k) := by
  have e : cutA A cap 0 = A := by
    unfold cutA
    split
    · rfl
    · cases A <;> simp [Addr.add]
  rw [e]
  refine ⟨fun i hi => ?_, fun hp => ?_⟩
  · have h2 : i < l.length := by rw [List.length_take] at hi; omega
    rw [List.getElem_take]
    exact h.1 i h2
  · obtain ⟨b, off, e, hb, hc⟩ := h.2 (by rw [List.length_take] at hp; omega)
    refine ⟨b, off, e, hb, fun i hi => ?_⟩
    have h2 : i < l.length := by rw [List.length_take] at hi; omega
    rw [List.getElem_take]
    exact hc i h2
theorem PIn.drop {w : World} {B : Nat} {A : Option Addr} {l : List Pr} (h : PIn w B A l) {cap : Nat} (hc : l.length ≤ cap) (k : Nat) : PIn w B (cutA A cap k) (l.drop k) := by
  refine ⟨fun i hi => ?_, fun hp => ?_⟩
  · have h2 : k + i < l.length := by rw [List.length_drop] at hi; omega
    rw [List.getElem_drop]
    exact h.1 _ h2
  · rw [List.length_drop] at hp
    obtain ⟨b, off, e, hb, hc⟩ := h.2 (by omega)
    refine ⟨b, off + k * 2, ?_, hb, fun i hi => ?_⟩
    · unfold cutA
      rw [if_neg (by omega), e, Option.map_some, add_pl]
    · have h2 : k + i < l.length := by rw [List.length_drop] at hi; omega
      rw [List.getElem_drop]
      have := hc (k + i) h2
      rw [show off + k * 2 + i * 2 = off + (k + i) * 2 by omega]
      exact this

theorem lens_append {a b : List Pr} (ha : lens a) (hb : lens b) : lens (a ++ b) := by
  intro i hi
  rcases Nat.lt_or_ge i a.length with g | g
  · rw [List.getElem_append_left g]; exact ha i g
  · rw [List.getElem_append_right g]; exact hb _ (by rw [List.length_append] at hi; omega)

theorem Own.grownBelow {w w' : World} {B : Nat} {A : Option Addr} {cap : Nat} {l : List Pr} (h : Own w B A cap l) (hg : w.grownBy w' (Value.slice A l.length cap).ownBlock) (hB : B ≤ w.heap.size) : Below B w w' :=
  (Below.refl B w).grown hg hB (fun k hk => (h.2.lt k hk).1)

/-- the row of a slice -/
def rowOf (A : Option Addr) : Option Nat := A.map (·.block)
theorem rowOf_own (A : Option Addr) (n cap : Nat) : (Value.slice A n cap).ownBlock = rowOf A := by cases A <;> rfl

section
variable (t ty : TypeId) (ht : Tryz.prog.underlying t = some (.slice 83))
include ht
set_option maxRecDepth 100000 in
theorem run_app {w : World} {B B' : Nat} {A A' : Option Addr} {cap c : Nat} {l l' : List Pr} (hown : Own w B A cap l) (hin : PIn w B' A' l') (hB : B ≤ w.heap.size) (hb : l.length + l'.length ≤ 3000000) :
    ∃ A2 cap2 w', (Builtin.append_ #[t, t] ty #[.slice A l.length cap, .slice A' l'.length c]).run Tryz.prog w = .ok (.slice A2 (l ++ l').length cap2) w' ∧ Own w' B A2 cap2 (l ++ l') ∧ w.grownBy w' (rowOf A) ∧ (rowOf A2 = rowOf A ∨ rowOf A2 = some w.heap.size) := by
  obtain ⟨i, hi, hz0, hz1, hz2⟩ := info_parts infoP
  have hlen : (l ++ l').length = l.length + l'.length := List.length_append
  cases A' with
  | none =>
    have h0 : l' = [] := by
      rcases Nat.eq_zero_or_pos l'.length with e | e
      · exact List.eq_nil_of_length_eq_zero e
      · obtain ⟨_, _, x, _⟩ := hin.2 e
        cases x
    subst h0
    refine ⟨A, cap, w, ?_, by simpa using hown, World.grownBy.refl _ _, .inl rfl⟩
    rcases hown.2.2 with ⟨e, e'⟩ | ⟨g, cap', cur, e, _, _, hnc, _⟩
    · injection e with e1 e2 e3
      subst e1 e3
      simp [Builtin.append_, run_underlying ht, sizeOf, typeInfo, hi, Builtin.lenOf, Builtin.firstCells, e2]
    · injection e with e1 e2 e3
      subst e1 e3
      simp [Builtin.append_, run_underlying ht, sizeOf, typeInfo, hi, Builtin.lenOf, Builtin.firstCells, hnc, storeCells]
  | some a =>
    have hcells : ∀ j u, (pcells l')[j]? = some u → w.cell? (a.add j) = some u := by
      intro j u hu
      have hj : j < l'.length * 2 := by
        rw [← pcells_length]
        exact (List.getElem?_eq_some_iff.1 hu).1
      obtain ⟨b, off, e, _, hc⟩ := hin.2 (by omega)
      injection e with e
      subst e
      rw [add_pl]
      obtain ⟨p1, p2⟩ := pcells_get l' (j / 2) (by omega)
      obtain ⟨c1, c2⟩ := hc (j / 2) (by omega)
      rcases Nat.mod_two_eq_zero_or_one j with h | h
      · have hj2 : j / 2 * 2 = j := by omega
        rw [hj2] at p1 c1
        rw [p1] at hu
        rw [c1, hu]
      · have hj2 : j / 2 * 2 + 1 = j := by omega
        rw [hj2] at p2
        rw [show off + j / 2 * 2 + 1 = off + j by omega] at c2
        rw [p2] at hu
        rw [c2, hu]
    obtain ⟨v', w', hrun, h2, h3, _, h5⟩ := run_append_own_at (P := Tryz.prog) w B t ty 83 i _ 2 32 ht hi hz0 hz1 hz2 rfl (by omega) (.slice A l.length cap) l.length (pcells l) hown.2 a l'.length c (pcells l') (pcells_length l') hcells (pcells_one l')
      (by simp only [maxLen]; omega) (by omega) hB
    have hv : ∃ A2 cap2, v' = .slice A2 (l.length + l'.length) cap2 := by
      rcases h2.2 with ⟨e, e'⟩ | ⟨g, cap', cur, e, _⟩
      · exact ⟨none, 0, by rw [e, e']⟩
      · exact ⟨_, _, e⟩
    obtain ⟨A2, cap2, rfl⟩ := hv
    refine ⟨A2, cap2, w', by rw [hlen]; exact hrun, ⟨lens_append hown.1 hin.1, ?_⟩, by rw [← rowOf_own A l.length cap]; exact h3, ?_⟩
    · rw [hlen, pcells_append]
      exact h2
    · rw [rowOf_own, rowOf_own] at h5
      exact h5

theorem wp_app {w : World} {o : Oper} {a : Act} {K : Act → World → Prop} {Q : Exit → Act → World → Prop} (s x : Operand)
    (ho : o.op = .call { callee := .builtin .append, args := #[s, x], argTypes := #[t, t] })
    {B B' : Nat} {A A' : Option Addr} {cap c n m : Nat} {l l' : List Pr} (hs : a.eval s = .slice A n cap) (hx : a.eval x = .slice A' m c) (hn : n = l.length) (hm : m = l'.length)
    (hown : Own w B A cap l) (hin : PIn w B' A' l') (hB : B ≤ w.heap.size) (hb : l.length + l'.length ≤ 3000000)
    (h : ∀ A2 cap2 w', Own w' B A2 cap2 (l ++ l') → w.grownBy w' (rowOf A) → (rowOf A2 = rowOf A ∨ rowOf A2 = some w.heap.size) → K (a.put o.dst (.slice A2 (l ++ l').length cap2)) w') : o.wp Tryz.prog a w K Q := by
  subst hn hm
  obtain ⟨A2, cap2, w', hrun, h2, h3, h4⟩ := run_app t o.type ht (c := c) hown hin hB hb
  unfold Oper.wp execOp
  simp only [ho, resolve, invoke, builtin, Sem.run_bind, Sem.run_pure, Result.andThen_ok, List.map_toArray, List.map_cons, List.map_nil, hs, hx, hrun]
  exact h A2 cap2 w' h2 h3 h4

theorem wpList_app {w : World} {ops : Array Oper} {rest : List Oper} {o : Oper} {a : Act} {Q : Exit → Act → World → Prop} (hgd : o.guard = none) (s x : Operand)
    (ho : o.op = .call { callee := .builtin .append, args := #[s, x], argTypes := #[t, t] })
    {B B' : Nat} {A A' : Option Addr} {cap c n m : Nat} {l l' : List Pr} (hs : a.eval s = .slice A n cap) (hx : a.eval x = .slice A' m c) (hn : n = l.length) (hm : m = l'.length)
    (hown : Own w B A cap l) (hin : PIn w B' A' l') (hB : B ≤ w.heap.size) (hb : l.length + l'.length ≤ 3000000)
    (h : ∀ A2 cap2 w', Own w' B A2 cap2 (l ++ l') → w.grownBy w' (rowOf A) → (rowOf A2 = rowOf A ∨ rowOf A2 = some w.heap.size) → wpList Tryz.prog ops Q rest (a.put o.dst (.slice A2 (l ++ l').length cap2)) w') : wpList Tryz.prog ops Q (o :: rest) a w :=
  wpList_plain hgd fun _ hK => wp_app t ht s x ho hs hx hn hm hown hin hB hb fun A2 cap2 w' h2 h3 h4 => hK _ _ (h A2 cap2 w' h2 h3 h4)

theorem step_app {w : World} {ops : Array Oper} {o : Oper} {a : Act} {K : Act → World → Prop} {Q : Exit → Act → World → Prop} {E : Prop} (hgd : o.guard = none) (s x : Operand)
    (ho : o.op = .call { callee := .builtin .append, args := #[s, x], argTypes := #[t, t] })
    {B B' : Nat} {A A' : Option Addr} {cap c n m : Nat} {l l' : List Pr} (hs : a.eval s = .slice A n cap) (hx : a.eval x = .slice A' m c) (hn : n = l.length) (hm : m = l'.length)
    (hown : Own w B A cap l) (hin : PIn w B' A' l') (hB : B ≤ w.heap.size) (hb : l.length + l'.length ≤ 3000000)
    (h : ∀ A2 cap2 w', Own w' B A2 cap2 (l ++ l') → w.grownBy w' (rowOf A) → (rowOf A2 = rowOf A ∨ rowOf A2 = some w.heap.size) → K (a.put o.dst (.slice A2 (l ++ l').length cap2)) w') :
    if Region.wanted o (yielded ops a.tmps) = true then Oper.wp Tryz.prog o a w K Q else E := by
  have hw : Region.wanted o (yielded ops a.tmps) = true := by simp [Region.wanted, hgd]
  rw [if_pos hw]
  exact wp_app t ht s x ho hs hx hn hm hown hin hB hb h

theorem run_cut_h (A : Option Addr) (n cap k : Nat) (hk : k ≤ cap) (w : World) : (Instr.slice t (.slice A n cap) none (some (.int .i64 (k : Int))) none).run Tryz.prog w = .ok (.slice (cutA A cap 0) k cap) w := by
  have hs : ((sizeOf 83).run Tryz.prog w) = .ok 2 w := by kernel_rfl
  have he : Tryz.prog.elem t = 83 := by simp [Program.elem, ht]
  rw [run_slice_h (P := Tryz.prog) (t := t) (a := A) (len := n) (cap := cap) (w := w) (by rw [he]; exact ht) .i64 k (by omega) (by omega), he, hs]
  simp [Result.andThen, sliced, cutA]
theorem run_cut_l (A : Option Addr) (n cap k : Nat) (hk : k ≤ n) (w : World) : (Instr.slice t (.slice A n cap) (some (.int .i64 (k : Int))) none none).run Tryz.prog w = .ok (.slice (cutA A cap k) (n - k) (cap - k)) w := by
  have hs : ((sizeOf 83).run Tryz.prog w) = .ok 2 w := by kernel_rfl
  have he : Tryz.prog.elem t = 83 := by simp [Program.elem, ht]
  rw [run_slice_l (P := Tryz.prog) (t := t) (a := A) (len := n) (cap := cap) (w := w) (by rw [he]; exact ht) .i64 k (by omega) (by omega), he, hs]
  simp [Result.andThen, sliced, cutA]
end
end Go.Proofs.YtdahpnjamlfakaaGreatDoor
/-
  Rows of pairs of the call's own, in words: what comes back, what is made, what lies apart.
-/
namespace Go.Proofs.YtdahpnjamlfakaaGreatDoor
open Go.RowKit

/-- a row of the call's own comes back -/
def RetOwn (B : Nat) (l : List Pr) (w : World) (e : Ending) (w' : World) : Prop := ∃ A cap, l.length ≤ cap ∧ e = .returned (.slice A l.length cap) ∧ Own w' B A cap l ∧ Below B w w'
theorem Own.cap_le {w : World} {B : Nat} {A : Option Addr} {cap : Nat} {l : List Pr} (h : Own w B A cap l) : l.length ≤ cap := by
  rcases h.2.2 with ⟨e, e'⟩ | ⟨g, c, cur, e, _, _, hnc, _⟩
  · injection e with e1 e2 e3; omega
  · injection e with e1 e2 e3; omega
theorem Own.made {w : World} {B n cap : Nat} (h : w.ownsRow B 83 2 (.slice (some ⟨n, 0, none⟩) 0 cap) 0 []) : Own w B (some ⟨n, 0, none⟩) cap [] := ⟨lens_nil, h⟩
theorem PIn.one (w : World) (k v : ByteArray) (hk : k.size ≤ maxLen) (hv : v.size ≤ maxLen) (t : TypeId) : PIn (w.alloc (.cells #[.string k, .string v] t)) (w.heap.size + 1) (some ⟨w.heap.size, 0, none⟩) [(k, v)] := by
  refine ⟨fun i hi => ?_, fun _ => ⟨w.heap.size, 0, rfl, by omega, fun i hi => ?_⟩⟩
  · obtain rfl : i = 0 := by simpa using hi
    exact ⟨hk, hv⟩
  · obtain rfl : i = 0 := by simpa using hi
    have h := heap_alloc_new w (.cells #[.string k, .string v] t)
    exact ⟨cell_of_row _ w.heap.size 0 #[.string k, .string v] t (0, 0) h, cell_of_row _ w.heap.size 1 #[.string k, .string v] t (0, 0) h⟩
theorem Own.alloc {w : World} {B : Nat} {A : Option Addr} {cap : Nat} {l : List Pr} (h : Own w B A cap l) (o : Obj) : Own (w.alloc o) B A cap l := h.below ((Below.refl _ _).alloc (Nat.le_refl _) o)
theorem Own.built (w : World) (B : Nat) (hB : B ≤ w.heap.size) : Own (w.alloc (.cells #[] 83)) B (some ⟨w.heap.size, 0, none⟩) 0 [] :=
  ⟨lens_nil, World.ownsRow_made w #[] 0 hB (by simp [maxLen]) rfl⟩

theorem Own.drew {w : World} {B : Nat} {A : Option Addr} {cap : Nat} {l : List Pr} (h : Own w B A cap l) : Own w.drew B A cap l := h
theorem PIn.drew {w : World} {B : Nat} {A : Option Addr} {l : List Pr} (h : PIn w B A l) : PIn w.drew B A l := h
/-- a list of pairs of the call's own, and whether there is one -/
def RetOwnB (B : Nat) (l : List Pr) (b : Bool) (w : World) (e : Ending) (w' : World) : Prop := ∃ A cap, l.length ≤ cap ∧ e = .returned (.tuple #[.slice A l.length cap, .bool b]) ∧ Own w' B A cap l ∧ Below B w w'
theorem retOwnB_no {B : Nat} {l : List Pr} {b : Bool} {w w' : World} (hl : l = []) (hb : b = false) (h : Below B w w') : RetOwnB B l b w (.returned (.tuple #[.slice none 0 0, .bool false])) w' := by
  subst hl hb; exact ⟨none, 0, by simp, rfl, Own.nil _ _, h⟩
theorem rowOf_some {b o g : Nat} (h : rowOf (some (⟨b, o, none⟩ : Addr)) = some g) : b = g := by injection h
theorem Own.apart {w w' : World} {B : Nat} {A A' : Option Addr} {cap : Nat} {l : List Pr} (h : Own w B A cap l) (hg : w.grownBy w' (rowOf A')) (hne : ∀ g, rowOf A = some g → rowOf A' ≠ some g) : Own w' B A cap l := by
  refine ⟨h.1, h.2.kept hg ?_⟩
  rw [rowOf_own]
  cases e : rowOf A with
  | none => exact .inl rfl
  | some g => exact .inr (fun x => hne g e x.symm)
theorem Own.row {w : World} {B : Nat} {A : Option Addr} {cap : Nat} {l : List Pr} (h : Own w B A cap l) : ∀ g, rowOf A = some g → B ≤ g ∧ g < w.heap.size := by
  intro g hg
  exact h.2.lt g (by rw [rowOf_own]; exact hg)
/-- .. with an id -/
def RetOwnI (B : Nat) (l : List Pr) (s : ByteArray) (b : Bool) (w : World) (e : Ending) (w' : World) : Prop := ∃ A cap, l.length ≤ cap ∧ e = .returned (.tuple #[.slice A l.length cap, .string s, .bool b]) ∧ Own w' B A cap l ∧ Below B w w'
theorem retOwnI_no {B : Nat} {l : List Pr} {s : ByteArray} {b : Bool} {w w' : World} (hl : l = []) (hs : s = ByteArray.empty) (hb : b = false) (h : Below B w w') : RetOwnI B l s b w (.returned (.tuple #[.slice none 0 0, .string ByteArray.empty, .bool false])) w' := by
  subst hl hs hb; exact ⟨none, 0, by simp, rfl, Own.nil _ _, h⟩
end Go.Proofs.YtdahpnjamlfakaaGreatDoor
/-
  What the laws' own helpers on pairs answer: szPair, szPairS, toPair, toPairS, eqPair, eqPairS.
-/
namespace Go.Proofs.YtdahpnjamlfakaaGreatDoor
open Go.RowKit

/-- what szPair leaves: -1, or what is left -/
def SzRet (n : Nat) (left : Int) (w : World) (e : Ending) (w' : World) : Prop := (e = .returned (.int .i64 (-1)) ∨ ∃ r : Int, 0 ≤ r ∧ r + n ≤ left ∧ e = .returned (.int .i64 r)) ∧ Below w.heap.size w w'

end Go.Proofs.YtdahpnjamlfakaaGreatDoor
/-
  What the laws' own helpers on lists of pairs answer: toPairS, eqPairS.
-/
namespace Go.Proofs.YtdahpnjamlfakaaGreatDoor
open Go.RowKit

theorem infoPair : (Tryz.prog.info? 83).map (fun i => (i.zero, i.size, i.bytes)) = some (some (.agg #[.string ByteArray.empty, .string ByteArray.empty]), 2, 32) := by kernel_rfl

theorem made_pairs (n : Nat) : (madeCells #[Value.string ByteArray.empty, Value.string ByteArray.empty] (n * 2)).toList = pcells (List.replicate n emp) := by
  apply List.ext_getElem?
  intro j
  by_cases hj : j < n * 2
  · have h2 := pcells_get (List.replicate n emp) (j / 2) (by simp; omega)
    rcases Nat.mod_two_eq_zero_or_one j with e | e
    · have hj2 : j / 2 * 2 = j := by omega
      rw [hj2] at h2
      rw [h2.1]
      simp [madeCells, hj, e, emp]
    · have hj2 : j / 2 * 2 + 1 = j := by omega
      rw [hj2] at h2
      rw [h2.2]
      simp [madeCells, hj, e, emp]
  · rw [List.getElem?_eq_none (by simp [madeCells]; omega), List.getElem?_eq_none (by rw [pcells_length]; simp; omega)]

theorem set_step (l : List Pr) (n k : Nat) (hk : k < l.length) (hn : l.length = n) : (l.take k ++ List.replicate (n - k) emp).set k (l[k].1, l[k].2) = l.take (k + 1) ++ List.replicate (n - (k + 1)) emp := by
  have hlen : (l.take k).length = k := by rw [List.length_take]; omega
  have h1 : (l.take k ++ List.replicate (n - k) emp).set k (l[k].1, l[k].2) = l.take k ++ (List.replicate (n - k) emp).set 0 (l[k].1, l[k].2) := by
    rw [List.set_append_right _ _ (by omega), hlen, Nat.sub_self]
  rw [h1, show n - k = n - (k + 1) + 1 by omega, List.replicate_succ, List.set_cons_zero, List.take_succ_eq_append_getElem hk, List.append_assoc]
  rfl

end Go.Proofs.YtdahpnjamlfakaaGreatDoor
/-
  An argument that is a list of pairs, opened.
-/
namespace Go.Proofs.YtdahpnjamlfakaaGreatDoor
open Go.ChangeShapes Go.WideShapes Go.ChangeAt Go.RowKit Go.Deep

section
variable {H : Type} {enc : TypeId × Value → H} {W : World}
end
end Go.Proofs.YtdahpnjamlfakaaGreatDoor
/-
  What impl's sorted list answers when asked whether it rises.
-/
namespace Go.Proofs.YtdahpnjamlfakaaGreatDoor
open Go.RowKit

theorem sortKey_any (a b : ByteArray) (w : World) :
    Calls Tryz.prog 208 #[.agg #[.string a, .string b]] w fun e w' => e = .returned (.string a) ∧ w.alloc (.cells #[.string a, .string b] 83) = w' := by
  go_enter Tryz.func208, Tryz.ntmps208
  go_wp2
  go_ret
  exact ⟨rfl, rfl⟩

theorem method_sortKey (x y : Value) (w : World) : (method 321 83 (.agg #[x, y]) "loop.example/g00652/impl.sortKey").run Tryz.prog w = .ok (208, .agg #[x, y]) w := by kernel_rfl

set_option maxRecDepth 100000 in
set_option maxHeartbeats 1000000 in
theorem rises_any (A : Option Addr) (l : List Pr) (cap : Nat) (w : World) (hl : l.length ≤ maxLen) (hin : PIn w w.heap.size A l) :
    Calls Tryz.prog 104 #[.slice A l.length cap] w fun e w' => e = .returned (.bool (risesB l)) ∧ Below w.heap.size w w' := by
  unfold maxLen at hl
  generalize hn : l.length = n at *
  have HN := hide hn
  clear hn
  have hme := method_sortKey
  go_enter Tryz.func104, Tryz.ntmps104
  go_wp2
  go_loopw [3] (fun i wr => ∃ k : Nat, (k ≤ n ∨ k = 1) ∧ 1 ≤ k ∧ i = .int .i64 k ∧ Hid (risesTo l k) ∧ Hid (Below w.heap.size w wr)) (fun i _ => n - (intOf i).toNat)
  case atStart => exact ⟨1, .inr rfl, by omega, rfl, risesTo_one l, Below.refl _ w⟩
  case round =>
    obtain ⟨k, hk, h1, rfl, H, Q⟩ := hrel
    by_cases hlt : k < n
    · have hin2 := hin.below Q.out
      obtain ⟨b, off, rfl, hbB, hc⟩ := hin2.2 (by rw [HN.out]; omega)
      have hkl : k < l.length := by rw [HN.out]; omega
      obtain ⟨c1, c2⟩ := hc k hkl
      obtain ⟨c3, c4⟩ := hc (k - 1) (by omega)
      cases hrise : ltB (l[k - 1]'(by omega)).1 (l[k]'hkl).1
      · have Z := hide (risesB_no (l := l) (k := k - 1) (by omega) (by simpa [show k - 1 + 1 = k by omega] using hrise))
        have hrise2 : Op.bytesLess (l[k - 1]'(by omega)).1.toList (l[k]'hkl).1.toList = false := hrise
        generalize (l[k]'hkl).1 = s at *
        generalize (l[k]'hkl).2 = v at *
        generalize (l[k - 1]'(by omega)).1 = s0 at *
        generalize (l[k - 1]'(by omega)).2 = v0 at *
        have q1 : IntKind.i64.wrap ((k : Int) - 1) = (k : Int) - 1 := IntWalk.i64_in _ (by omega)
        have q2 : (0 : Int) ≤ (k : Int) - 1 := by omega
        have q3 : (1 : Int) ≤ (k : Int) := by omega
        have q4 : ((k : Int) - 1).toNat = k - 1 := by omega
        have q5 : (k : Int) - 1 < (n : Int) := by omega
        clear hin hin2 hc hrise hkl
        go_wp2
        go_region_held3 (fun w' => w'.cell? ⟨b, off + k * 2, none⟩ = some (.string s) ∧ w'.cell? ⟨b, off + k * 2 + 1, none⟩ = some (.string v) ∧ w'.cell? ⟨b, off + (k - 1) * 2, none⟩ = some (.string s0) ∧ w'.cell? ⟨b, off + (k - 1) * 2 + 1, none⟩ = some (.string v0)) (go_keep)
          (first | (go_at_call 208; refine (sortKey_any _ _ _).mono ?_; rintro e w' ⟨rfl, rfl⟩))
        clear q1 q4
        go_wp2
        go_ret
        exact ⟨ret_bool Z.out.symm, Q.out.trans ((((Below.refl _ _).drew).alloc Q.out.size _).alloc (by have := Q.out.size; simp; omega) _)⟩
      · have Z := hide (risesTo_succ (l := l) (k := k - 1) (by omega) (by simpa [show k - 1 + 1 = k by omega] using H.out) (by simpa [show k - 1 + 1 = k by omega] using hrise))
        have hrise2 : Op.bytesLess (l[k - 1]'(by omega)).1.toList (l[k]'hkl).1.toList = true := hrise
        generalize (l[k]'hkl).1 = s at *
        generalize (l[k]'hkl).2 = v at *
        generalize (l[k - 1]'(by omega)).1 = s0 at *
        generalize (l[k - 1]'(by omega)).2 = v0 at *
        have q1 : IntKind.i64.wrap ((k : Int) - 1) = (k : Int) - 1 := IntWalk.i64_in _ (by omega)
        have q2 : (0 : Int) ≤ (k : Int) - 1 := by omega
        have q3 : (1 : Int) ≤ (k : Int) := by omega
        have q4 : ((k : Int) - 1).toNat = k - 1 := by omega
        have q5 : (k : Int) - 1 < (n : Int) := by omega
        clear hin hin2 hc hrise hkl
        go_wp2
        go_region_held3 (fun w' => w'.cell? ⟨b, off + k * 2, none⟩ = some (.string s) ∧ w'.cell? ⟨b, off + k * 2 + 1, none⟩ = some (.string v) ∧ w'.cell? ⟨b, off + (k - 1) * 2, none⟩ = some (.string s0) ∧ w'.cell? ⟨b, off + (k - 1) * 2 + 1, none⟩ = some (.string v0)) (go_keep)
          (first | (go_at_call 208; refine (sortKey_any _ _ _).mono ?_; rintro e w' ⟨rfl, rfl⟩))
        clear q1 q4
        go_wp2
        go_roundw
        case rel => exact ⟨k + 1, by omega, by omega, by go_num, by rw [show k + 1 = k - 1 + 2 by omega]; exact Z, Q.out.trans ((((Below.refl _ _).drew).alloc Q.out.size _).alloc (by have := Q.out.size; simp; omega) _)⟩
        case measure => simp [intOf]; omega
    · have Z : Hid (risesB l = true) := hide (risesB_yes (by
        intro i hi hik
        exact H.out i hi (by rw [HN.out] at hi; omega)))
      go_wp2
      go_ret
      exact ⟨ret_bool Z.out.symm, Q.out⟩
end Go.Proofs.YtdahpnjamlfakaaGreatDoor
/-
  A region that draws its order, whose operations read and whose callees only make memory of their own: walked once. The class of worlds: those that are as w was below block B.
-/
namespace Go.Proofs.YtdahpnjamlfakaaGreatDoor
open Go.RowKit

/-- the worlds that are as w was below block B -/
def Cls (B : Nat) (w : World) : Type := { x : World // Below B w x }
def Cls.wo {B : Nat} {w : World} (u : Cls B w) : World := u.val
theorem Cls.below {B : Nat} {w : World} (u : Cls B w) : Below B w u.wo := u.property
def Cls.mk' {B : Nat} {w : World} (x : World) (h : Below B w x) : Cls B w := ⟨x, h⟩
instance clsNonempty {B : Nat} {w : World} : Nonempty (Cls B w) := ⟨Cls.mk' w (Below.refl B w)⟩
theorem wp_region_cls {P : Program} {id : Nat} {Q : Exit → Act → World → Prop} {a : Act} {w : World} {l : List Oper} (hm : P.follows .mixedOrders = true) (hB : Region.lexB .any l.toArray = true) (B : Nat)
    (h : wpQuiet P l.toArray (fun w' => ∃ u : Cls B w, w' = u.wo) (fun a' => ∀ w', (∃ u : Cls B w, w' = u.wo) → Q .normal a' w') l a) : (Code.region id l.toArray true).wp P Q a w :=
  wp_region_quiet (C := fun w' => ∃ u : Cls B w, w' = u.wo) hm hB ⟨Cls.mk' w.drew (Below.refl B w).drew, rfl⟩ (by simpa using h)
theorem cls_cell {B : Nat} {w : World} {p : Addr} {v : Value} (hp : p.block < B) (h : w.cell? p = some v) : ∀ u : Cls B w, u.wo.cell? p = some v := fun u => (u.below.cell hp).trans h
theorem cls_call {P : Program} {f : FuncId} {args : Array Value} {B : Nat} {w : World} {v : Value} {u : Cls B w} (hB : B ≤ w.heap.size) (h : Calls P f args u.wo fun e w' => e = .returned v ∧ Below u.wo.heap.size u.wo w') :
    Calls P f args u.wo fun e w'' => e = .returned v ∧ ∃ u' : Cls B w, w'' = u'.wo :=
  h.mono fun _ w' ⟨he, hb⟩ => ⟨he, Cls.mk' w' (u.below.trans (hb.mono (Nat.le_trans hB u.below.size))), rfl⟩
end Go.Proofs.YtdahpnjamlfakaaGreatDoor
/-
  The laws' marks: markText, markPairS, heldPairS.
-/
namespace Go.Proofs.YtdahpnjamlfakaaGreatDoor
open Go.RowKit

def digF : Nat → Nat → ByteArray → ByteArray
  | 0, _, acc => acc
  | f + 1, k, acc => if k = 0 then acc else digF f (k / 10) (⟨#[(48 + k % 10).toUInt8]⟩ ++ acc)
theorem digF_step {f k : Nat} {s r : ByteArray} (hk : 0 < k) (hkf : k ≤ f) (h : digF f k s = r) : digF (f - 1) (k / 10) (⟨#[(48 + k % 10).toUInt8]⟩ ++ s) = r := by
  obtain ⟨g, rfl⟩ : ∃ g, f = g + 1 := ⟨f - 1, by omega⟩
  rw [digF, if_neg (by omega)] at h
  exact h
theorem digF_zero {f : Nat} {s r : ByteArray} (h : digF f 0 s = r) : s = r := by
  cases f with
  | zero => exact h
  | succ f => rw [digF, if_pos rfl] at h; exact h
/-- the text m and k in decimal -/
def markS (k : Nat) : ByteArray := ⟨#[109]⟩ ++ digF k k ByteArray.empty

theorem dig_conv (j : Nat) (W : World) : (convert 22 9 (.slice (some ⟨W.heap.size, 0, none⟩) 1 1)).run Tryz.prog (W.alloc (.cells #[.int .u8 (48 + (j : Int) % 10)] 5)) = .ok (.string ⟨#[(48 + j % 10).toUInt8]⟩) (W.alloc (.cells #[.int .u8 (48 + (j : Int) % 10)] 5)) := by
  have h := run_convert_bytes_back (P := Tryz.prog) (W.alloc (.cells #[.int .u8 (48 + (j : Int) % 10)] 5)) 22 9 5 ⟨W.heap.size, 0, none⟩ 1 [(48 + j % 10).toUInt8] Tryz.underlying22 Tryz.underlying5 Tryz.underlying9 (fun i hi => by
    obtain rfl : i = 0 := by simpa using hi
    rw [show (⟨W.heap.size, 0, none⟩ : Addr).add 0 = ⟨W.heap.size, 0, none⟩ from rfl, cell_of_row _ W.heap.size 0 _ 5 (0, 0) (heap_alloc_new W _)]
    simp
    omega)
  exact h

/-- n pairs of marks from k on -/
def marks (k n : Nat) : List Pr := (List.range n).map fun i => (markS (k + 2 * i), markS (k + 2 * i + 1))
theorem marks_len (k n : Nat) : (marks k n).length = n := by unfold marks; simp
theorem marks_succ (k n : Nat) : marks k (n + 1) = marks k n ++ [(markS (k + 2 * n), markS (k + 2 * n + 1))] := by unfold marks; rw [List.range_succ, List.map_append]; rfl
theorem marks_get (k n i : Nat) (h : i < (marks k n).length) : (marks k n)[i] = (markS (k + 2 * i), markS (k + 2 * i + 1)) := by simp only [marks, List.getElem_map, List.getElem_range]
theorem marks_step (k : Nat) (l : List Pr) (i : Nat) (h : i < l.length) : (marks k i ++ l.drop i).set i (markS (k + 2 * i), markS (k + 2 * i + 1)) = marks k (i + 1) ++ l.drop (i + 1) := by
  rw [List.set_append_right _ _ (by rw [marks_len]; exact Nat.le_refl _), marks_len, Nat.sub_self, List.drop_eq_getElem_cons h, List.set_cons_zero, marks_succ, List.append_assoc]
  rfl
theorem dig_size : ∀ (f k : Nat) (s : ByteArray), (digF f k s).size ≤ s.size + f
  | 0, _, s => Nat.le_refl _
  | f + 1, k, s => by
    unfold digF
    split
    · omega
    · refine Nat.le_trans (dig_size f _ _) ?_
      rw [ByteArray.size_append]
      show 1 + s.size + f ≤ _
      omega
theorem mark_size (k : Nat) : (markS k).size ≤ k + 1 := by
  unfold markS
  rw [ByteArray.size_append]
  have := dig_size k k ByteArray.empty
  have h0 : ByteArray.empty.size = 0 := rfl
  have h1 : (ByteArray.mk #[109]).size = 1 := rfl
  omega
theorem marks_lens (k n : Nat) (h : k + 2 * n ≤ 10000000) : lens (marks k n) := by
  intro i hi
  rw [marks_get]
  have := marks_len k n
  have h1 := mark_size (k + 2 * i)
  have h2 := mark_size (k + 2 * i + 1)
  unfold maxLen
  constructor <;> simp only <;> omega

/-- the pairs of a row of the call's own are marked; nothing else is turned -/
def MarkRet (k : Nat) (w : World) (B : Nat) (A : Option Addr) (cap n : Nat) (e : Ending) (w' : World) : Prop := e = .returned (.int .i64 (k + 2 * n : Nat)) ∧ Own w' B A cap (marks k n) ∧ w.grownBy w' (rowOf A)

end Go.Proofs.YtdahpnjamlfakaaGreatDoor
/-
  Marks from a number that stands as an integer.
-/
namespace Go.Proofs.YtdahpnjamlfakaaGreatDoor
open Go.RowKit
end Go.Proofs.YtdahpnjamlfakaaGreatDoor
/-
  What laws.sameMap answers.
-/
namespace Go.Proofs.YtdahpnjamlfakaaGreatDoor
open Go.RowKit

set_option maxRecDepth 100000 in
set_option maxHeartbeats 1000000 in
theorem sameMap_any (A A' : Option Addr) (l l' : List Pr) (cap cap' : Nat) (w : World) (B B' : Nat) (hl : l.length ≤ maxLen) (hl' : l'.length ≤ maxLen) (hin : PIn w B A l) (hin' : PIn w B' A' l') :
    Calls Tryz.prog 23 #[.slice A l.length cap, .slice A' l'.length cap'] w fun e w' => e = .returned (.bool (eqL l l')) ∧ Quiet w w' := by
  unfold maxLen at hl hl'
  by_cases he : l.length = l'.length
  · rw [← he]
    rw [← he] at hl'
    generalize hn : l.length = n at *
    have HN := hide hn
    have HN' := hide he
    clear hn he hl'
    go_enter Tryz.func23, Tryz.ntmps23
    go_wp2
    go_loopw [5] (fun i wr => ∃ k : Nat, k ≤ n ∧ i = .int .i64 k ∧ Hid (l.take k = l'.take k) ∧ Hid (Quiet w wr)) (fun i _ => n - (intOf i).toNat)
    case atStart => exact ⟨0, Nat.zero_le _, rfl, rfl, Quiet.refl w⟩
    case round =>
      obtain ⟨k, hk, rfl, H, Q⟩ := hrel
      by_cases hlt : k < n
      · have hin2 := hin.quiet Q.out
        have hin2' := hin'.quiet Q.out
        have hkl : k < l.length := by rw [HN.out]; omega
        have hkl' : k < l'.length := by rw [← HN'.out]; omega
        obtain ⟨b, off, rfl, hbB, hc⟩ := hin2.2 (by omega)
        obtain ⟨b', off', rfl, hbB', hc'⟩ := hin2'.2 (by omega)
        obtain ⟨c1, c2⟩ := hc k hkl
        obtain ⟨c3, c4⟩ := hc' k hkl'
        by_cases hp : l[k]'hkl = l'[k]'hkl'
        · have Z : Hid (l.take (k + 1) = l'.take (k + 1)) := hide (by rw [List.take_succ_eq_append_getElem hkl, List.take_succ_eq_append_getElem hkl', H.out, hp])
          rw [← hp] at c3 c4
          generalize (l[k]'hkl).1 = s at *
          generalize (l[k]'hkl).2 = v at *
          clear hin hin2 hc hin' hin2' hc' hp
          go_wp2
          go_quiet (fail)
          go_wp2
          go_roundw
          case rel => exact ⟨k + 1, by omega, by go_num, Z, Q.out.drewN _⟩
          case measure => simp [intOf]; omega
        · have Z : Hid (eqL l l' = false) := hide (eqL_no (by rintro rfl; exact hp rfl))
          have hp2 : ¬ ((l[k]'hkl).1 = (l'[k]'hkl').1 ∧ (l[k]'hkl).2 = (l'[k]'hkl').2) := fun h => hp (Prod.ext h.1 h.2)
          generalize (l[k]'hkl).1 = s at *
          generalize (l[k]'hkl).2 = v at *
          generalize (l'[k]'hkl').1 = s' at *
          generalize (l'[k]'hkl').2 = v' at *
          clear hin hin2 hc hin' hin2' hc' hp
          by_cases h1 : s = s'
          · have h2 : ¬ v = v' := fun h => hp2 ⟨h1, h⟩
            subst h1
            have d2 := eqS_no h2
            clear hp2 h2
            go_wp2
            go_quiet (fail)
            go_wp2
            go_ret
            exact ⟨ret_bool Z.out.symm, Q.out.drewN _⟩
          · have d1 := eqS_no h1
            clear hp2 h1
            go_wp2
            go_quiet (fail)
            go_wp2
            go_ret
            exact ⟨ret_bool Z.out.symm, Q.out.drewN _⟩
      · obtain rfl : k = n := by omega
        have Z : Hid (eqL l l' = true) := hide (eqL_yes (by
          have h := H.out
          rw [List.take_of_length_le (by rw [HN.out]; exact Nat.le_refl _), List.take_of_length_le (by rw [← HN'.out]; exact Nat.le_refl _)] at h
          exact h))
        go_wp2
        go_ret
        exact ⟨ret_bool Z.out.symm, Q.out⟩
  · have Z : Hid (eqL l l' = false) := hide (eqL_no (by rintro rfl; exact he rfl))
    have d : ((l.length : Int) != (l'.length : Int)) = true := by simp; omega
    clear he
    go_enter Tryz.func23, Tryz.ntmps23
    go_wp2
    go_ret
    exact ⟨ret_bool Z.out.symm, Quiet.refl _⟩
end Go.Proofs.YtdahpnjamlfakaaGreatDoor
/-
  Right objects as a list, and what spec.ObjsOk answers.
-/
namespace Go.Proofs.YtdahpnjamlfakaaGreatDoor
open Go.RowKit

/-- the first k objects are right: short texts, each with its id -/
def textsTo (l : List Pr) (k : Nat) : Prop := ∀ i (h : i < l.length), i < k → l[i].2.size ≤ 2000 ∧ idL l[i].2 = l[i].1
theorem textsTo_zero (l : List Pr) : textsTo l 0 := fun _ _ h => absurd h (by omega)
theorem textsTo_succ {l : List Pr} {k : Nat} (hk : k < l.length) (h : textsTo l k) (h1 : l[k].2.size ≤ 2000) (h2 : idL l[k].2 = l[k].1) : textsTo l (k + 1) := by
  intro i hi hik
  rcases Nat.lt_or_ge i k with g | g
  · exact h i hi g
  · obtain rfl : i = k := by omega
    exact ⟨h1, h2⟩
theorem risesTo_zero (l : List Pr) : risesTo l 0 := fun _ _ h => absurd h (by omega)
theorem risesTo_next {l : List Pr} {k : Nat} (hk : k < l.length) (h : risesTo l k) (h3 : ∀ (hp : 0 < k), ltB (l[k - 1]'(by omega)).1 l[k].1 = true) : risesTo l (k + 1) := by
  intro i hi hik
  rcases Nat.lt_or_ge (i + 1) k with g | g
  · exact h i hi g
  · obtain rfl : k = i + 1 := by omega
    simpa using h3 (by omega)
open Classical in
/-- right objects -/
noncomputable def objsB (l : List Pr) : Bool := decide (l.length ≤ 60 ∧ textsTo l l.length ∧ risesTo l l.length)
open Classical in
theorem objsB_iff {l : List Pr} : objsB l = true ↔ l.length ≤ 60 ∧ textsTo l l.length ∧ risesTo l l.length := by unfold objsB; exact decide_eq_true_iff
theorem objsB_yes {l : List Pr} (h : l.length ≤ 60) (h1 : textsTo l l.length) (h2 : risesTo l l.length) : objsB l = true := objsB_iff.2 ⟨h, h1, h2⟩
theorem objsB_len {l : List Pr} (h : 60 < l.length) : objsB l = false := by
  cases e : objsB l
  · rfl
  · have := (objsB_iff.1 e).1; omega
theorem objsB_text {l : List Pr} {k : Nat} (hk : k < l.length) (h : 2000 < l[k].2.size) : objsB l = false := by
  cases e : objsB l
  · rfl
  · have := ((objsB_iff.1 e).2.1 k hk hk).1; omega
theorem objsB_id {l : List Pr} {k : Nat} (hk : k < l.length) (h : ¬ idL l[k].2 = l[k].1) : objsB l = false := by
  cases e : objsB l
  · rfl
  · exact absurd ((objsB_iff.1 e).2.1 k hk hk).2 h
theorem objsB_rise {l : List Pr} {k : Nat} (hk : k + 1 < l.length) (h : ltB l[k].1 l[k + 1].1 = false) : objsB l = false := by
  cases e : objsB l
  · rfl
  · have := (objsB_iff.1 e).2.2 k hk hk; rw [h] at this; cases this
theorem neS_yes {a b : ByteArray} (h : ¬ a = b) : (a.toList != b.toList) = true := by rw [bne, eqS_no h]; rfl
theorem neS_no {a b : ByteArray} (h : a = b) : (a.toList != b.toList) = false := by rw [bne, eqS_yes h]; rfl

set_option maxRecDepth 100000 in
set_option maxHeartbeats 4000000 in
theorem specObjsOk_any (A : Option Addr) (l : List Pr) (cap : Nat) (w : World) (hl : l.length ≤ maxLen) (hin : PIn w w.heap.size A l) :
    Calls Tryz.prog 96 #[.slice A l.length cap] w fun e w' => e = .returned (.bool (objsB l)) ∧ Below w.heap.size w w' := by
  unfold maxLen at hl
  generalize hn : l.length = n at *
  have HN := hide hn
  clear hn
  go_enter Tryz.func96, Tryz.ntmps96
  go_wp2
  go_loopw [3] (fun i wr => ∃ k : Nat, k ≤ n ∧ i = .int .i64 k ∧ Hid (textsTo l k) ∧ Hid (risesTo l k) ∧ Hid (Below w.heap.size w wr)) (fun i _ => n - (intOf i).toNat)
  case atStart => exact ⟨0, Nat.zero_le _, rfl, textsTo_zero l, risesTo_zero l, Below.refl _ w⟩
  case round =>
    obtain ⟨k, hk, rfl, H, R, Q⟩ := hrel
    by_cases hlt : k < n
    · have hin2 := hin.below Q.out
      obtain ⟨b, off, rfl, hbB, hc⟩ := hin2.2 (by rw [HN.out]; omega)
      have hkl : k < l.length := by rw [HN.out]; omega
      have hbw : b < wr.heap.size := by have := Q.out.size; omega
      obtain ⟨c1, c2⟩ := hc k hkl
      obtain ⟨s1, s2⟩ := hin2.1 k hkl
      have hqs := Q.out.size
      by_cases htx : (l[k]'hkl).2.size ≤ 2000
      · have L2 := hide (fun W => l2Id_any (l[k]'hkl).2 W htx)
        have ht : decide ((2000 : Int) < ((l[k]'hkl).2.size : Int)) = false := decide_eq_false (by omega)
        by_cases hid : idL (l[k]'hkl).2 = (l[k]'hkl).1
        · have ne := eqS_yes hid
          by_cases h0 : 0 < k
          · obtain ⟨c3, _⟩ := hc (k - 1) (by omega)
            have q1 : IntKind.i64.wrap ((k : Int) - 1) = (k : Int) - 1 := IntWalk.i64_in _ (by omega)
            have q2 : (0 : Int) ≤ (k : Int) - 1 := by omega
            have q3 : (1 : Int) ≤ (k : Int) := by omega
            have q4 : ((k : Int) - 1).toNat = k - 1 := by omega
            have q5 : (k : Int) - 1 < (n : Int) := by omega
            have q6 : decide (0 < k) = true := decide_eq_true h0
            cases hrise : ltB (l[k - 1]'(by omega)).1 (l[k]'hkl).1
            · have Z := hide (objsB_rise (l := l) (k := k - 1) (by omega) (by simpa [show k - 1 + 1 = k by omega] using hrise))
              have hrise2 : Op.bytesLess (l[k - 1]'(by omega)).1.toList (l[k]'hkl).1.toList = false := hrise
              generalize idL (l[k]'hkl).2 = dd at *
              generalize (l[k]'hkl).1 = s at *
              generalize (l[k]'hkl).2 = v at *
              generalize (l[k - 1]'(by omega)).1 = s0 at *
              have HI := hide hid
              clear hin hin2 hc hrise hid
              have y1 := cls_cell (B := wr.heap.size) hbw c1
              have y2 := cls_cell (B := wr.heap.size) hbw c2
              have y3 := cls_cell (B := wr.heap.size) hbw c3
              clear c1 c2 c3
              go_wp2
              refine wp_region_cls (by kernel_rfl) (by kernel_rfl) wr.heap.size ?_
              repeat (go_big_quiet_step ((go_at_call 56; exact cls_call (Nat.le_refl _) (L2.out _))))
              refine wpQuiet_nil ?_
              intro _ hw'
              obtain ⟨u, hw''⟩ := hw'
              subst hw''
              clear q1 q4
              go_wp2
              go_ret
              exact ⟨ret_bool Z.out.symm, Q.out.trans (u.below.mono hqs)⟩
            · have Z1 := hide (textsTo_succ hkl H.out htx hid)
              have Z2 := hide (risesTo_next hkl R.out (fun _ => hrise))
              have hrise2 : Op.bytesLess (l[k - 1]'(by omega)).1.toList (l[k]'hkl).1.toList = true := hrise
              generalize idL (l[k]'hkl).2 = dd at *
              generalize (l[k]'hkl).1 = s at *
              generalize (l[k]'hkl).2 = v at *
              generalize (l[k - 1]'(by omega)).1 = s0 at *
              have HI := hide hid
              clear hin hin2 hc hrise hid
              have y1 := cls_cell (B := wr.heap.size) hbw c1
              have y2 := cls_cell (B := wr.heap.size) hbw c2
              have y3 := cls_cell (B := wr.heap.size) hbw c3
              clear c1 c2 c3
              go_wp2
              refine wp_region_cls (by kernel_rfl) (by kernel_rfl) wr.heap.size ?_
              repeat (go_big_quiet_step ((go_at_call 56; exact cls_call (Nat.le_refl _) (L2.out _))))
              refine wpQuiet_nil ?_
              intro _ hw'
              obtain ⟨u, hw''⟩ := hw'
              subst hw''
              clear q1 q4
              go_wp2
              exact ⟨⟨k + 1, by omega, by go_num, Z1, Z2, hide (Q.out.trans (u.below.mono hqs))⟩, by simp [intOf]; omega⟩
          · have Z1 := hide (textsTo_succ hkl H.out htx hid)
            have Z2 := hide (risesTo_next hkl R.out (fun h => absurd h h0))
            have q6 : decide (0 < k) = false := decide_eq_false h0
            generalize idL (l[k]'hkl).2 = dd at *
            generalize (l[k]'hkl).1 = s at *
            generalize (l[k]'hkl).2 = v at *
            have HI := hide hid
            clear hin hin2 hc hid
            have y1 := cls_cell (B := wr.heap.size) hbw c1
            have y2 := cls_cell (B := wr.heap.size) hbw c2
            clear c1 c2
            go_wp2
            refine wp_region_cls (by kernel_rfl) (by kernel_rfl) wr.heap.size ?_
            repeat (go_big_quiet_step ((go_at_call 56; exact cls_call (Nat.le_refl _) (L2.out _))))
            refine wpQuiet_nil ?_
            intro _ hw'
            obtain ⟨u, hw''⟩ := hw'
            subst hw''
            go_wp2
            exact ⟨⟨k + 1, by omega, by go_num, Z1, Z2, hide (Q.out.trans (u.below.mono hqs))⟩, by simp [intOf]; omega⟩
        · have Z := hide (objsB_id hkl hid)
          have ne := eqS_no hid
          generalize idL (l[k]'hkl).2 = dd at *
          generalize (l[k]'hkl).1 = s at *
          generalize (l[k]'hkl).2 = v at *
          clear hin hin2 hc hid
          have y1 := cls_cell (B := wr.heap.size) hbw c1
          have y2 := cls_cell (B := wr.heap.size) hbw c2
          clear c1 c2
          go_wp2
          refine wp_region_cls (by kernel_rfl) (by kernel_rfl) wr.heap.size ?_
          repeat (go_big_quiet_step ((go_at_call 56; exact cls_call (Nat.le_refl _) (L2.out _))))
          refine wpQuiet_nil ?_
          intro _ hw'
          obtain ⟨u, hw''⟩ := hw'
          subst hw''
          go_wp2
          go_ret
          exact ⟨ret_bool Z.out.symm, Q.out.trans (u.below.mono hqs)⟩
      · have Z := hide (objsB_text hkl (by omega))
        generalize (l[k]'hkl).1 = s at *
        generalize (l[k]'hkl).2 = v at *
        have ht : decide ((2000 : Int) < (v.size : Int)) = true := decide_eq_true (by omega)
        clear hin hin2 hc
        go_wp2
        go_quiet (fail)
        go_wp2
        go_ret
        exact ⟨ret_bool Z.out.symm, ⟨Q.out.os, Q.out.tape, Q.out.output, Q.out.size, Q.out.block⟩⟩
    · obtain rfl : k = n := by omega
      by_cases h60 : k ≤ 60
      · have Z : Hid (objsB l = true) := hide (objsB_yes (by rw [HN.out]; omega) (by rw [HN.out]; exact H.out) (by rw [HN.out]; exact R.out))
        have d : decide ((k : Int) ≤ 60) = true := decide_eq_true (by omega)
        go_wp2
        go_ret
        exact ⟨ret_bool Z.out.symm, Q.out⟩
      · have Z : Hid (objsB l = false) := hide (objsB_len (by rw [HN.out]; omega))
        have d : decide ((k : Int) ≤ 60) = false := decide_eq_false (by omega)
        go_wp2
        go_ret
        exact ⟨ret_bool Z.out.symm, Q.out⟩
end Go.Proofs.YtdahpnjamlfakaaGreatDoor
/-
  What impl.textsOf and impl.ObjsOk make of a list of objects.
-/
namespace Go.Proofs.YtdahpnjamlfakaaGreatDoor
open Go.RowKit Go.Maps

theorem lawS : Keyed Tryz.prog 9 := string_keyed Tryz.underlying9
/-- a text as a key -/
def keyL (s : ByteArray) : Lit := .string s.data.toList
/-- a text as an element -/
def elD (s : ByteArray) : DataW Unit := .lit (.string s.data.toList)
/-- the map that objects fill, one behind the other -/
def mapD (l : List Pr) : DataW Unit := l.foldl (fun D p => D.put (keyL p.1) (elD p.2)) (.map [])
theorem mapD_nil : mapD [] = .map [] := rfl
theorem mapD_step (l : List Pr) (k : Nat) (h : k < l.length) : mapD (l.take (k + 1)) = (mapD (l.take k)).put (keyL l[k].1) (elD l[k].2) := by
  unfold mapD
  rw [List.take_succ_eq_append_getElem h, List.foldl_append]
  rfl
/-- the block bm is the map that the objects l make -/
def TMap (w : World) (bm : Nat) (n : Nat) (l : List Pr) : Prop := w.ownsMap Tryz.prog 9 (plainElem Tryz.prog 9) bm n (mapD l)
theorem run_mkMap (w : World) (n : Nat) : (Instr.makeMap 43 (some (.int .i64 (n : Int)))).run Tryz.prog w = .ok (.map (some w.heap.size)) (w.alloc (.map #[] 0)) := by
  simp [Instr.makeMap, run_underlying Tryz.underlying43, asInt, asIntOf, go_sem]

set_option maxRecDepth 100000 in
set_option maxHeartbeats 4000000 in
theorem textsOf_any (A : Option Addr) (l : List Pr) (cap : Nat) (w : World) (hl : l.length ≤ maxLen) (hin : PIn w w.heap.size A l) (hT : Tabs w) :
    Calls Tryz.prog 61 #[.slice A l.length cap] w fun e w' => Below w.heap.size w w' ∧ ((objsB l = false ∧ e = .returned (.tuple #[.map none, .bool false])) ∨ (objsB l = true ∧ ∃ bm, e = .returned (.tuple #[.map (some bm), .bool true]) ∧ w.heap.size ≤ bm ∧ TMap w' bm l.length l)) := by
  have hlm := hl
  unfold maxLen at hl
  have HT := hide hT
  have IN := hide hin
  have HM := hide hlm
  have RS := hide (rises_any A l cap w hlm hin)
  clear hT hin hlm
  generalize hn : l.length = n at *
  have HN := hide hn
  clear hn
  by_cases h60 : n ≤ 60
  · have c60 : ¬ ((60 : Int) < (n : Int)) := by omega
    go_enter Tryz.func61, Tryz.ntmps61
    go_wp2_with fail
    refine RS.out.mono ?_
    rintro e w1 ⟨rfl, b1⟩
    have B1 := hide b1
    clear b1 RS
    cases hr : risesB l
    · have Z : Hid (objsB l = false) := hide (by
        cases e : objsB l
        · rfl
        · have := risesB_yes (objsB_iff.1 e).2.2; rw [hr] at this; cases this)
      clear hr
      go_wp2
      go_ret2
      exact ⟨B1.out, .inl ⟨Z.out, rfl⟩⟩
    · have HR := hide (risesB_iff.1 hr)
      clear hr
      have hmk := run_mkMap w1 n
      go_wp2
      have M0 : Hid (TMap (w1.alloc (.map #[] 0)) w1.heap.size 0 (l.take 0)) := hide (World.ownsMap_made w1 _ _ _)
      have L0 : Hid (Below w1.heap.size w1 (w1.alloc (.map #[] 0))) := hide ((Below.refl _ _).alloc (Nat.le_refl _) _)
      have T1 := hide (HT.out.below B1.out HT.out.1)
      have I1 := hide ((IN.out.below B1.out).more B1.out.size)
      have hg1 := T1.out.1
      go_loopw [20] (fun iv wr => ∃ k : Nat, k ≤ n ∧ iv = .int .i64 k ∧ Hid (textsTo l k) ∧ Hid (TMap wr w1.heap.size k (l.take k)) ∧ Hid (Below w1.heap.size w1 wr)) (fun i _ => n - (intOf i).toNat)
      case atStart => exact ⟨0, Nat.zero_le _, rfl, textsTo_zero l, M0, L0⟩
      case round =>
        clear M0 L0
        obtain ⟨k, hk, rfl, H, M, Q⟩ := hrel
        have hqs := Q.out.size
        by_cases hlt : k < n
        · have hin2 := I1.out.below Q.out
          obtain ⟨b, off, rfl, hbB, hc⟩ := hin2.2 (by rw [HN.out]; omega)
          have hkl : k < l.length := by rw [HN.out]; omega
          have hbw : b < wr.heap.size := by omega
          obtain ⟨c1, c2⟩ := hc k hkl
          obtain ⟨s1, s2⟩ := hin2.1 k hkl
          have TW := hide (T1.out.below Q.out hg1)
          have MS := hide (mapD_step l k hkl)
          by_cases htx : (l[k]'hkl).2.size ≤ 2000
          · have ht : decide ((2000 : Int) < ((l[k]'hkl).2.size : Int)) = false := decide_eq_false (by omega)
            by_cases hid : idL (l[k]'hkl).2 = (l[k]'hkl).1
            · have ne := eqS_yes hid.symm
              have Z1 := hide (textsTo_succ hkl H.out htx hid)
              have L2 : Hid (∀ W, Tabs W → Calls Tryz.prog 47 #[.string (l[k]'hkl).2] W fun e w' => e = .returned (.string (idL (l[k]'hkl).2)) ∧ Below W.heap.size W w') := hide fun W hW => idI_any _ W htx hW
              generalize idL (l[k]'hkl).2 = dd at *
              generalize (l[k]'hkl).1 = s at *
              generalize (l[k]'hkl).2 = v at *
              have HI := hide hid
              clear hin2 hc hid
              go_wp2
              have y1 := cls_cell (B := wr.heap.size + 1) (w := wr.alloc (.cells #[.string s, .string v] 83)) (p := ⟨wr.heap.size, 0, none⟩) (by exact Nat.lt_succ_self _) (by rw [cell_of_row _ _ 0 _ _ _ (heap_alloc_new wr _)]; rfl : _ = some (.string s))
              have y2 := cls_cell (B := wr.heap.size + 1) (w := wr.alloc (.cells #[.string s, .string v] 83)) (p := ⟨wr.heap.size, 1, none⟩) (by exact Nat.lt_succ_self _) (by rw [cell_of_row _ _ 1 _ _ _ (heap_alloc_new wr _)]; rfl : _ = some (.string v))
              refine wp_region_cls (by kernel_rfl) (by kernel_rfl) (wr.heap.size + 1) ?_
              repeat (go_big_quiet_step ((go_at_call 47; exact cls_call (by simp) (L2.out _ (TW.out.below ((Below.refl wr.heap.size wr).alloc (Nat.le_refl _) (.cells #[.string s, .string v] 83) |>.trans (Cls.below _ |>.mono (Nat.le_succ _))) (by omega))))))
              refine wpQuiet_nil ?_
              intro _ hw'
              obtain ⟨u, hw''⟩ := hw'
              subst hw''
              have MU : Hid (TMap u.wo w1.heap.size k (l.take k)) := hide ((M.out.alloc _).kept (Below.toGrown (by rw [show (wr.alloc (.cells #[.string s, .string v] 83)).heap.size = wr.heap.size + 1 by simp]; exact u.below) none) (by simp))
              have g1 := y1 u
              have g2 := y2 u
              clear y1 y2
              go_wp2_with (at_mapUpdate; refine wpList_mapUpdate_own _ rfl _ _ _ 43 rfl 9 9 lawS Tryz.underlying43 _ w1.heap.size k (mapD (l.take k)) rfl MU.out (by unfold maxLen; omega) _ _ (keyL s) rfl rfl (Go.WideMaps.keyOf_string_mk Tryz.underlying9 s1) (elD v) [] (plainElem_string Tryz.underlying9 s2) ?_; intro w5 o5 g5)
              have O5 : Hid (TMap w5 w1.heap.size (k + 1) (l.take (k + 1))) := hide (by unfold TMap; rw [MS.out]; exact o5)
              have B5 : Hid (Below w1.heap.size w1 w5) := hide (((Q.out.alloc hqs _).trans (u.below.mono (by omega))).grown g5 (by have := u.below.size; simp at this; omega) (fun j hj => by injection hj with hj; omega))
              clear o5 g5
              go_wp2
              exact ⟨⟨k + 1, by omega, by go_num, Z1, O5, B5⟩, by simp [intOf]; omega⟩
            · have ne := eqS_no (fun h => hid h.symm)
              have Z := hide (objsB_id hkl hid)
              have L2 : Hid (∀ W, Tabs W → Calls Tryz.prog 47 #[.string (l[k]'hkl).2] W fun e w' => e = .returned (.string (idL (l[k]'hkl).2)) ∧ Below W.heap.size W w') := hide fun W hW => idI_any _ W htx hW
              generalize idL (l[k]'hkl).2 = dd at *
              generalize (l[k]'hkl).1 = s at *
              generalize (l[k]'hkl).2 = v at *
              clear hin2 hc hid
              go_wp2
              have y1 := cls_cell (B := wr.heap.size + 1) (w := wr.alloc (.cells #[.string s, .string v] 83)) (p := ⟨wr.heap.size, 0, none⟩) (by exact Nat.lt_succ_self _) (by rw [cell_of_row _ _ 0 _ _ _ (heap_alloc_new wr _)]; rfl : _ = some (.string s))
              have y2 := cls_cell (B := wr.heap.size + 1) (w := wr.alloc (.cells #[.string s, .string v] 83)) (p := ⟨wr.heap.size, 1, none⟩) (by exact Nat.lt_succ_self _) (by rw [cell_of_row _ _ 1 _ _ _ (heap_alloc_new wr _)]; rfl : _ = some (.string v))
              refine wp_region_cls (by kernel_rfl) (by kernel_rfl) (wr.heap.size + 1) ?_
              repeat (go_big_quiet_step ((go_at_call 47; exact cls_call (by simp) (L2.out _ (TW.out.below ((Below.refl wr.heap.size wr).alloc (Nat.le_refl _) (.cells #[.string s, .string v] 83) |>.trans (Cls.below _ |>.mono (Nat.le_succ _))) (by omega))))))
              refine wpQuiet_nil ?_
              intro _ hw'
              obtain ⟨u, hw''⟩ := hw'
              subst hw''
              go_wp2
              go_ret2
              exact ⟨B1.out.trans (((Q.out.alloc hqs _).trans (u.below.mono (by omega))).mono B1.out.size), .inl ⟨Z.out, rfl⟩⟩
          · have ht : decide ((2000 : Int) < ((l[k]'hkl).2.size : Int)) = true := decide_eq_true (by omega)
            have Z := hide (objsB_text hkl (by omega))
            generalize (l[k]'hkl).1 = s at *
            generalize (l[k]'hkl).2 = v at *
            clear hin2 hc
            go_wp2
            have y1 := cls_cell (B := wr.heap.size + 1) (w := wr.alloc (.cells #[.string s, .string v] 83)) (p := ⟨wr.heap.size, 0, none⟩) (by exact Nat.lt_succ_self _) (by rw [cell_of_row _ _ 0 _ _ _ (heap_alloc_new wr _)]; rfl : _ = some (.string s))
            have y2 := cls_cell (B := wr.heap.size + 1) (w := wr.alloc (.cells #[.string s, .string v] 83)) (p := ⟨wr.heap.size, 1, none⟩) (by exact Nat.lt_succ_self _) (by rw [cell_of_row _ _ 1 _ _ _ (heap_alloc_new wr _)]; rfl : _ = some (.string v))
            refine wp_region_cls (by kernel_rfl) (by kernel_rfl) (wr.heap.size + 1) ?_
            repeat (go_big_quiet_step (fail))
            refine wpQuiet_nil ?_
            intro _ hw'
            obtain ⟨u, hw''⟩ := hw'
            subst hw''
            go_wp2
            go_ret2
            exact ⟨B1.out.trans (((Q.out.alloc hqs _).trans (u.below.mono (by omega))).mono B1.out.size), .inl ⟨Z.out, rfl⟩⟩
        · have ek : Hid (k = n) := hide (by omega)
          have hgt : ¬ ((k : Int) < (n : Int)) := by omega
          clear hlt
          go_wp2
          go_ret2
          refine ⟨B1.out.trans (Q.out.mono B1.out.size), .inr ⟨objsB_yes (by rw [HN.out]; exact h60) (by rw [HN.out, ← ek.out]; exact H.out) HR.out, w1.heap.size, rfl, B1.out.size, ?_⟩⟩
          have h := M.out
          rw [ek.out, ← HN.out, List.take_length] at h
          rw [← HN.out]
          exact h
  · have Z : Hid (objsB l = false) := hide (objsB_len (by rw [HN.out]; omega))
    have c60 : (60 : Int) < (n : Int) := by omega
    go_enter Tryz.func61, Tryz.ntmps61
    go_wp2
    go_ret2
    exact ⟨Below.refl _ _, .inl ⟨Z.out, rfl⟩⟩

end Go.Proofs.YtdahpnjamlfakaaGreatDoor
/-
  Where an id stands among objects: spec.l3At, spec.l3Find.
-/
namespace Go.Proofs.YtdahpnjamlfakaaGreatDoor
open Go.RowKit

set_option maxRecDepth 100000 in
set_option maxHeartbeats 1000000 in
theorem l3At_any (A : Option Addr) (l : List Pr) (cap : Nat) (key : ByteArray) (w : World) (B : Nat) (hl : l.length ≤ maxLen) (hin : PIn w B A l) :
    Calls Tryz.prog 29 #[.slice A l.length cap, .string key] w fun e w' => e = .returned (.int .i64 (atN l key : Nat)) ∧ w = w' := by
  unfold maxLen at hl
  generalize hn : l.length = n at *
  have HN := hide hn
  clear hn
  go_enter Tryz.func29, Tryz.ntmps29
  go_wp2
  go_loop [5] (fun i => ∃ k : Nat, k ≤ n ∧ i = .int .i64 k ∧ Hid (∀ t (h : t < l.length), t < k → ltB l[t].1 key = true)) (fun i => n - (intOf i).toNat)
  case atStart => exact ⟨0, Nat.zero_le _, rfl, hide fun t _ h => absurd h (by omega)⟩
  case round =>
    obtain ⟨k, hk, rfl, H⟩ := hrel
    by_cases hlt : k < n
    · have hkl : k < l.length := by rw [HN.out]; omega
      obtain ⟨b, off, rfl, hbB, hc⟩ := hin.2 (by omega)
      obtain ⟨c1, _⟩ := hc k hkl
      cases hs : ltB (l[k]'hkl).1 key
      · have E : Hid (atN l key = k) := hide (atN_eq (by omega) H.out (fun _ => hs))
        have hs2 : Op.bytesLess (l[k]'hkl).1.toList key.toList = false := hs
        generalize (l[k]'hkl).1 = s at *
        clear hin hc hs
        go_wp2
        go_ret
        exact ⟨ret_int (by rw [E.out]), rfl⟩
      · have Z : Hid (∀ t (h : t < l.length), t < k + 1 → ltB l[t].1 key = true) := hide (fun t h h' => by
          rcases Nat.lt_or_ge t k with g | g
          · exact H.out t h g
          · obtain rfl : t = k := by omega
            exact hs)
        have hs2 : Op.bytesLess (l[k]'hkl).1.toList key.toList = true := hs
        generalize (l[k]'hkl).1 = s at *
        clear hin hc hs
        go_wp2
        go_round
        case rel => exact ⟨k + 1, by omega, by go_num, Z⟩
        case measure => simp [intOf]; omega
    · obtain rfl : k = n := by omega
      have E : Hid (atN l key = k) := hide (atN_eq (by rw [HN.out]; exact Nat.le_refl _) H.out (fun h => absurd h (by rw [HN.out]; omega)))
      have hk2 : ¬ (k : Int) < (k : Int) := by omega
      clear hlt
      go_wp2
      go_ret
      exact ⟨ret_int (by rw [E.out]), rfl⟩

set_option maxRecDepth 100000 in
set_option maxHeartbeats 1000000 in
theorem l3Find_any (A : Option Addr) (l : List Pr) (cap : Nat) (key : ByteArray) (w : World) (B : Nat) (hl : l.length ≤ maxLen) (hin : PIn w B A l) :
    Calls Tryz.prog 98 #[.slice A l.length cap, .string key] w fun e w' => e = .returned (.tuple #[.string (valOf l key), .bool (hasB l key)]) ∧ w = w' := by
  have R := hide (l3At_any A l cap key w B hl hin)
  have hle := atN_le l key
  unfold maxLen at hl
  by_cases hlt : atN l key < l.length
  · obtain ⟨b, off, rfl, hbB, hc⟩ := hin.2 (by omega)
    obtain ⟨c1, c2⟩ := hc (atN l key) hlt
    have ne : ((atN l key : Int) == (l.length : Int)) = false := by rw [beq_eq_false_iff_ne]; omega
    by_cases he : (l[atN l key]'hlt).1 = key
    · have Z := hide (ret_sb (valOf_yes hlt he) (hasB_yes hlt he))
      have d1 := eqS_yes he
      generalize (l[atN l key]'hlt).1 = s at *
      generalize (l[atN l key]'hlt).2 = v at *
      generalize atN l key = m at *
      clear hin hc he
      generalize l.length = n at *
      go_enter Tryz.func98, Tryz.ntmps98
      go_wp2_with (go_at_call 29; refine R.out.mono ?_; rintro e w' ⟨rfl, rfl⟩)
      go_ret2
      exact ⟨Z.out.symm, rfl⟩
    · have Z := hide (ret_sb (valOf_no (hasB_no hlt he)) (hasB_no hlt he))
      have d1 := eqS_no he
      generalize (l[atN l key]'hlt).1 = s at *
      generalize (l[atN l key]'hlt).2 = v at *
      generalize atN l key = m at *
      clear hin hc he
      generalize l.length = n at *
      go_enter Tryz.func98, Tryz.ntmps98
      go_wp2_with (go_at_call 29; refine R.out.mono ?_; rintro e w' ⟨rfl, rfl⟩)
      go_ret2
      exact ⟨Z.out.symm, rfl⟩
  · have Z := hide (ret_sb (valOf_no (hasB_end hlt)) (hasB_end hlt))
    have ne : ((atN l key : Int) == (l.length : Int)) = true := by rw [beq_iff_eq]; omega
    generalize atN l key = m at *
    clear hin
    generalize l.length = n at *
    go_enter Tryz.func98, Tryz.ntmps98
    go_wp2_with (go_at_call 29; refine R.out.mono ?_; rintro e w' ⟨rfl, rfl⟩)
    go_ret2
    exact ⟨Z.out.symm, rfl⟩

end Go.Proofs.YtdahpnjamlfakaaGreatDoor
/-
  What Find tells, in the reference and in the program.
-/
namespace Go.Proofs.YtdahpnjamlfakaaGreatDoor
open Go.RowKit Go.Maps

theorem keyL_inj {a b : ByteArray} (h : keyL a = keyL b) : a = b := by
  unfold keyL at h
  injection h with h
  exact Go.WideShapes.bytes_inj h
theorem keyL_key (s : ByteArray) : WideAt.IsKeyLit (keyL s) := trivial
theorem mapF_isMap : ∀ (l : List Pr) (D : DataW Unit), IsMap D → IsMap (l.foldl (fun D p => D.put (keyL p.1) (elD p.2)) D)
  | [], _, h => h
  | _ :: r, _, h => mapF_isMap r _ (h.put _ _)
theorem mapF_miss (k : ByteArray) : ∀ (l : List Pr) (D : DataW Unit), (∀ p ∈ l, p.1 ≠ k) → (has (l.foldl (fun D p => D.put (keyL p.1) (elD p.2)) D) (keyL k) = has D (keyL k)) ∧ ∀ z, (l.foldl (fun D p => D.put (keyL p.1) (elD p.2)) D).atKey (keyL k) z = D.atKey (keyL k) z
  | [], _, _ => ⟨rfl, fun _ => rfl⟩
  | p :: r, D, h => by
    have ih := mapF_miss k r (D.put (keyL p.1) (elD p.2)) (fun q hq => h q (List.mem_cons_of_mem _ hq))
    have hne : keyL k ≠ keyL p.1 := fun e => h p (List.mem_cons_self ..) (keyL_inj e).symm
    refine ⟨ih.1.trans (has_put_other hne _), fun z => (ih.2 z).trans (atKey_put_other hne _ z)⟩
/-- what the map of right objects tells at an id -/
theorem mapD_look {l : List Pr} (hr : risesTo l l.length) (k : ByteArray) : has (mapD l) (keyL k) = hasB l k ∧ (mapD l).atKey (keyL k) (elD ByteArray.empty) = elD (valOf l k) := by
  by_cases hh : ∃ i, ∃ h : i < l.length, l[i].1 = k
  · obtain ⟨i, h, e⟩ := hh
    have hat : atN l k = i := atN_eq (by omega) (fun j hj hji => by rw [← e]; exact rises_lt hr i h j hji) (fun _ => by rw [e]; exact ltB_irrefl k)
    have hs : l = l.take i ++ l[i] :: l.drop (i + 1) := by rw [List.getElem_cons_drop, List.take_append_drop]
    have hm : ∀ p ∈ l.drop (i + 1), p.1 ≠ k := by
      intro p hp ep
      obtain ⟨j, hj, rfl⟩ := List.getElem_of_mem hp
      rw [List.getElem_drop] at ep
      have hj' : i + 1 + j < l.length := by simp at hj; omega
      have := rises_lt hr (i + 1 + j) hj' i (by omega)
      rw [e, ep, ltB_irrefl] at this
      cases this
    have hD : mapD l = (l.drop (i + 1)).foldl (fun D p => D.put (keyL p.1) (elD p.2)) ((mapD (l.take i)).put (keyL l[i].1) (elD l[i].2)) := by
      conv => lhs; rw [hs]
      unfold mapD
      rw [List.foldl_append]
      rfl
    have hmiss := mapF_miss k _ ((mapD (l.take i)).put (keyL l[i].1) (elD l[i].2)) hm
    have hmap : IsMap (mapD (l.take i)) := mapF_isMap _ _ isMap_empty
    have h1 : hasB l k = true := hasB_iff.2 ⟨by rw [hat]; exact h, by simp only [hat]; exact e⟩
    have h2 : valOf l k = l[i].2 := by
      rw [valOf_yes (by rw [hat]; exact h) (by simp only [hat]; exact e)]
      simp only [hat]
    rw [hD, h1, h2, hmiss.1, hmiss.2, e]
    exact ⟨has_put_same hmap (keyL_key k) _, atKey_put_same hmap (keyL_key k) _ _⟩
  · have hm : ∀ p ∈ l, p.1 ≠ k := by
      intro p hp ep
      obtain ⟨j, hj, rfl⟩ := List.getElem_of_mem hp
      exact hh ⟨j, hj, ep⟩
    have hmiss := mapF_miss k l (.map []) hm
    have h1 : hasB l k = false := by
      cases e : hasB l k
      · rfl
      · obtain ⟨h, e'⟩ := hasB_iff.1 e
        exact absurd ⟨_, h, e'⟩ hh
    refine ⟨hmiss.1.trans ?_, (hmiss.2 _).trans ?_⟩
    · rw [h1]; rfl
    · rw [valOf_no h1]; rfl

/-- whether Find finds, and what -/
noncomputable def findB (l : List Pr) (k : ByteArray) : Bool := objsB l && hasB l k
noncomputable def findV (l : List Pr) (k : ByteArray) : ByteArray := if objsB l = true then valOf l k else ByteArray.empty
theorem findB_no {l : List Pr} {k : ByteArray} (h : objsB l = false) : findB l k = false := by unfold findB; rw [h]; rfl
theorem findB_yes {l : List Pr} {k : ByteArray} (h : objsB l = true) : findB l k = hasB l k := by unfold findB; rw [h]; rfl
theorem findV_no {l : List Pr} {k : ByteArray} (h : objsB l = false) : findV l k = ByteArray.empty := by unfold findV; rw [h]; rfl
theorem findV_yes {l : List Pr} {k : ByteArray} (h : objsB l = true) : findV l k = valOf l k := by unfold findV; rw [h]; rfl

set_option maxRecDepth 100000 in
set_option maxHeartbeats 1000000 in
theorem specFind_any (A : Option Addr) (l : List Pr) (cap : Nat) (key : ByteArray) (w : World) (hl : l.length ≤ maxLen) (hin : PIn w w.heap.size A l) :
    Calls Tryz.prog 121 #[.slice A l.length cap, .string key] w fun e w' => e = .returned (.tuple #[.string (findV l key), .bool (findB l key)]) ∧ Below w.heap.size w w' := by
  have R := hide (specObjsOk_any A l cap w hl hin)
  have IN := hide hin
  have HL := hide hl
  clear hin hl
  go_enter Tryz.func121, Tryz.ntmps121
  go_wp2_with fail
  refine R.out.mono ?_
  rintro e w1 ⟨rfl, b1⟩
  have B1 := hide b1
  clear b1 R
  cases hm : objsB l
  · have Z := hide (ret_sb (findV_no (k := key) hm) (findB_no (k := key) hm))
    clear hm
    go_wp2
    go_ret2
    exact ⟨Z.out.symm, B1.out⟩
  · have Z := hide (ret_sb (findV_yes (k := key) hm) (findB_yes (k := key) hm))
    have F := hide (l3Find_any A l cap key w1 w.heap.size HL.out (IN.out.below B1.out))
    clear hm
    generalize valOf l key = vv at Z F
    generalize hasB l key = hb at Z F
    go_wp2_with fail
    refine F.out.mono ?_
    rintro e w2 ⟨rfl, rfl⟩
    go_wp2
    go_ret2
    exact ⟨Z.out.symm, B1.out⟩

theorem zeroS (w : World) : (zeroValue 9).run Tryz.prog w = .ok (.string ByteArray.empty) w := by kernel_rfl

set_option maxRecDepth 100000 in
set_option maxHeartbeats 1000000 in
theorem implFind_any (A : Option Addr) (l : List Pr) (cap : Nat) (key : ByteArray) (w : World) (hk : key.size ≤ maxLen) (hl : l.length ≤ maxLen) (hin : PIn w w.heap.size A l) (hT : Tabs w) :
    Calls Tryz.prog 30 #[.slice A l.length cap, .string key] w fun e w' => e = .returned (.tuple #[.string (findV l key), .bool (findB l key)]) ∧ Below w.heap.size w w' := by
  have T := hide (textsOf_any A l cap w hl hin hT)
  clear hin hT hl
  go_enter Tryz.func30, Tryz.ntmps30
  go_wp2_with fail
  refine T.out.mono ?_
  rintro e w1 ⟨b1, ⟨hf, rfl⟩ | ⟨hf, bm, rfl, _, tm⟩⟩
  · have B1 := hide b1
    have Z := hide (ret_sb (findV_no (k := key) hf) (findB_no (k := key) hf))
    clear b1 hf T
    go_wp2
    go_ret2
    exact ⟨Z.out.symm, B1.out⟩
  · have B1 := hide b1
    obtain ⟨q1, q2⟩ := mapD_look (objsB_iff.1 hf).2.2 key
    obtain ⟨v, ps, hrun, hv⟩ := World.ownsMap.look_ok tm lawS Tryz.underlying43 (zeroS w1) (zd := elD ByteArray.empty) (zp := []) (plainElem_string Tryz.underlying9 (by simp [maxLen])) (Go.WideMaps.keyOf_string_mk Tryz.underlying9 hk)
    obtain ⟨c, rfl, hc, _⟩ := plainElem_string_inv Tryz.underlying9 hv
    have q2' : (mapD l).atKey (keyL key) (elD ByteArray.empty) = elD c := by injection hc
    have ec : c = valOf l key := by
      rw [q2] at q2'
      unfold elD at q2'
      injection q2' with q2'
      injection q2' with q2'
      exact (Go.WideShapes.bytes_inj q2').symm
    have q1' : Maps.has (mapD l) (.string key.data.toList) = hasB l key := q1
    rw [q1', ec] at hrun
    have Z := hide (ret_sb (findV_yes (k := key) hf) (findB_yes (k := key) hf))
    clear b1 hf T tm hv hc q1 q1' q2 q2' ec
    generalize valOf l key = vv at *
    generalize hasB l key = hb at *
    go_wp2
    go_ret2
    exact ⟨Z.out.symm, B1.out⟩
end Go.Proofs.YtdahpnjamlfakaaGreatDoor
