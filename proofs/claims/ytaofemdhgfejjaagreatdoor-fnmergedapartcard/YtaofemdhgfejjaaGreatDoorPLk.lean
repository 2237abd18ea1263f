/-
  Right maps by what they tell of each key. Plain mathematics.
-/
import Derived.Test.YtaofemdhgfejjaaGreatDoorPAlg
namespace Go.Proofs.YtaofemdhgfejjaaGreatDoor
open Go.RowKit

/-- what a map has of a key -/
def lk (l : List Pr) (k : ByteArray) : Option ByteArray := if hasB l k = true then some (valOf l k) else none
theorem lk_yes {l : List Pr} {k : ByteArray} (h : hasB l k = true) : lk l k = some (valOf l k) := by unfold lk; rw [if_pos h]
theorem lk_no {l : List Pr} {k : ByteArray} (h : hasB l k = false) : lk l k = none := by unfold lk; rw [h]; rfl
theorem lk_some {l : List Pr} (h : Ris l) {k v : ByteArray} : lk l k = some v ↔ (k, v) ∈ l := by
  cases hh : hasB l k
  · rw [lk_no hh]
    constructor
    · intro x; cases x
    · intro x
      have := (has_iff h k).2 ⟨v, x⟩
      rw [hh] at this
      cases this
  · rw [lk_yes hh]
    obtain ⟨v', hv⟩ := (has_iff h k).1 hh
    rw [val_of h hv]
    constructor
    · intro x; injection x with x; rw [← x]; exact hv
    · intro x; rw [h.key x hv]
theorem lk_has (l : List Pr) (k : ByteArray) : hasB l k = (lk l k).isSome := by
  cases hh : hasB l k
  · rw [lk_no hh]; rfl
  · rw [lk_yes hh]; rfl
theorem lk_val (l : List Pr) (k : ByteArray) : valOf l k = (lk l k).getD ByteArray.empty := by
  cases hh : hasB l k
  · rw [lk_no hh, valOf_no hh]; rfl
  · rw [lk_yes hh]; rfl
theorem lk_eq {l l' : List Pr} {k k' : ByteArray} : lk l k = lk l' k' ↔ hasB l k = hasB l' k' ∧ valOf l k = valOf l' k' := by
  constructor
  · intro h
    rw [lk_has, lk_has, lk_val, lk_val, h]
    exact ⟨rfl, rfl⟩
  · rintro ⟨h1, h2⟩
    unfold lk
    rw [h1, h2]
theorem lk_nil (k : ByteArray) : lk [] k = none := lk_no (hasB_end (by simp))
theorem ext_lk {l l' : List Pr} (h : Ris l) (h' : Ris l') (e : ∀ k, lk l k = lk l' k) : l = l' :=
  h.ext h' fun p => by
    have h1 := lk_some h (k := p.1) (v := p.2)
    have h2 := lk_some h' (k := p.1) (v := p.2)
    rw [e] at h1
    exact h1.symm.trans h2
theorem lk_set {l : List Pr} (h : Ris l) (k v k' : ByteArray) : lk (setL l k v) k' = if k' = k then some v else lk l k' := by
  apply Option.ext
  intro a
  rw [lk_some (ris_set h k v), mem_set h]
  by_cases e : k' = k
  · subst e
    rw [if_pos rfl]
    constructor
    · rintro (x | ⟨_, x⟩)
      · injection x with _ x; rw [x]
      · exact absurd rfl x
    · intro x; injection x with x; rw [x]; exact .inl rfl
  · rw [if_neg e, lk_some h]
    constructor
    · rintro (x | ⟨x, _⟩)
      · injection x with x; exact absurd x e
      · exact x
    · intro x; exact .inr ⟨x, e⟩
theorem ris_del {l : List Pr} (h : Ris l) (k : ByteArray) : Ris (delL l k) := by
  unfold delL
  split
  · exact ris_erase h _
  · exact h
theorem mem_del {l : List Pr} (h : Ris l) (k : ByteArray) (p : Pr) : p ∈ delL l k ↔ p ∈ l ∧ p.1 ≠ k := by
  unfold delL
  split
  next hh => exact mem_erase h hh p
  next hh =>
    constructor
    · intro x
      refine ⟨x, fun e => hh ((has_iff h k).2 ⟨p.2, ?_⟩)⟩
      rw [← e]
      exact x
    · exact fun x => x.1
theorem lk_del {l : List Pr} (h : Ris l) (k k' : ByteArray) : lk (delL l k) k' = if k' = k then none else lk l k' := by
  apply Option.ext
  intro a
  rw [lk_some (ris_del h k), mem_del h]
  by_cases e : k' = k
  · rw [if_pos e]
    constructor
    · intro x; exact absurd e x.2
    · intro x; cases x
  · rw [if_neg e, lk_some h]
    exact ⟨fun x => x.1, fun x => ⟨x, e⟩⟩
theorem at_mono (m : List Pr) {k k' : ByteArray} (h : ltB k k' = true) : atN m k ≤ atN m k' := by
  rcases Nat.lt_or_ge (atN m k') (atN m k) with g | g
  · have hl : atN m k' < m.length := by have := atN_le m k; omega
    have h1 := atN_lt m k _ g hl
    have h2 := atN_not m k' hl
    rw [ltB_trans h1 h] at h2
    cases h2
  · exact g
theorem at_mono_has {m : List Pr} {k k' : ByteArray} (hh : hasB m k = true) (h : ltB k k' = true) : atN m k + 1 ≤ atN m k' := by
  have hm := at_mono m h
  rcases Nat.lt_or_ge (atN m k) (atN m k') with g | g
  · exact g
  · have e : atN m k' = atN m k := by omega
    obtain ⟨hl, he⟩ := hasB_iff.1 hh
    have h2 := atN_not m k' (by rw [e]; exact hl)
    simp only [e] at h2
    rw [he, h] at h2
    cases h2
theorem mapB_ris {l : List Pr} (h : mapB l = true) : Ris l := (mapB_all.1 h).2.2
end Go.Proofs.YtaofemdhgfejjaaGreatDoor
