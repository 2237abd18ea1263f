/-
  Mergers of right maps, key by key. Plain mathematics.
-/
import Derived.Test.YtaofemdhgfejjaaGreatDoorPLk
import Derived.Test.YtaofemdhgfejjaaGreatDoorMPut
namespace Go.Proofs.YtaofemdhgfejjaaGreatDoor
open Go.RowKit

/-- all keys of some pairs, rising -/
def keysM (l : List Pr) : List ByteArray := l.foldl (fun ks p => putK ks p.1) []
theorem keys_fold : ∀ (l : List Pr) (ks : List ByteArray), RisK ks → RisK (l.foldl (fun ks p => putK ks p.1) ks) ∧ ∀ t, t ∈ l.foldl (fun ks p => putK ks p.1) ks ↔ t ∈ ks ∨ ∃ p ∈ l, p.1 = t
  | [], ks, h => ⟨h, fun t => by simp⟩
  | p :: r, ks, h => by
    obtain ⟨h1, h2⟩ := keys_fold r (putK ks p.1) (risK_put h _)
    refine ⟨h1, fun t => ?_⟩
    rw [List.foldl_cons, h2, mem_putK]
    constructor
    · rintro ((h | h) | ⟨q, hq, e⟩)
      · exact .inl h
      · exact .inr ⟨p, List.mem_cons_self .., h.symm⟩
      · exact .inr ⟨q, List.mem_cons_of_mem _ hq, e⟩
    · rintro (h | ⟨q, hq, e⟩)
      · exact .inl (.inl h)
      · rcases List.mem_cons.1 hq with rfl | hq
        · exact .inl (.inr e.symm)
        · exact .inr ⟨q, hq, e⟩
theorem risK_keys (l : List Pr) : RisK (keysM l) := (keys_fold l [] List.Pairwise.nil).1
theorem mem_keys (l : List Pr) (t : ByteArray) : t ∈ keysM l ↔ ∃ p ∈ l, p.1 = t := by
  have := (keys_fold l [] List.Pairwise.nil).2 t
  unfold keysM
  rw [this]
  simp
theorem key_lk {l : List Pr} (h : Ris l) (k : ByteArray) : (∃ p ∈ l, p.1 = k) ↔ lk l k ≠ none := by
  constructor
  · rintro ⟨p, hp, rfl⟩
    rw [(lk_some h (k := p.1) (v := p.2)).2 hp]
    simp
  · intro hne
    cases e : lk l k with
    | none => exact absurd e hne
    | some v => exact ⟨(k, v), (lk_some h).1 e, rfl⟩
/-- what a key has in a merger, told by what the three maps have of it; none: both changed it, and not alike -/
def oneM (o x y : Option ByteArray) : Option (Option ByteArray) := if x = o then some y else if y = o ∨ x = y then some x else none
theorem oneM_swap (o x y : Option ByteArray) : oneM o x y = oneM o y x := by
  unfold oneM
  by_cases h1 : x = o
  · by_cases h2 : y = o
    · rw [if_pos h1, if_pos h2, h1, h2]
    · rw [if_pos h1, if_neg h2, if_pos (.inl h1)]
  · by_cases h2 : y = o
    · rw [if_neg h1, if_pos h2, if_pos (.inl h2)]
    · rw [if_neg h1, if_neg h2]
      by_cases h3 : x = y
      · rw [if_pos (.inr h3), if_pos (.inr h3.symm), h3]
      · rw [if_neg (by rintro (h | h); exact h2 h; exact h3 h), if_neg (by rintro (h | h); exact h1 h; exact h3 h.symm)]
/-- the value of a key in a merger, with this map where both changed it -/
def pickM (base a b side : List Pr) (k : ByteArray) : Option ByteArray := (oneM (lk base k) (lk a k) (lk b k)).getD (lk side k)
def merK (base a b : List Pr) : List ByteArray := keysM (base ++ a ++ b)
def merM (base a b side : List Pr) : List Pr := (merK base a b).filterMap fun k => (pickM base a b side k).map fun v => (k, v)
def badM (base a b : List Pr) : List ByteArray := (merK base a b).filter fun k => (oneM (lk base k) (lk a k) (lk b k)).isNone
theorem mem_merK {base a b : List Pr} (h0 : Ris base) (h1 : Ris a) (h2 : Ris b) (k : ByteArray) : k ∈ merK base a b ↔ lk base k ≠ none ∨ lk a k ≠ none ∨ lk b k ≠ none := by
  unfold merK
  rw [mem_keys, ← key_lk h0, ← key_lk h1, ← key_lk h2]
  constructor
  · rintro ⟨p, hp, e⟩
    rw [List.mem_append, List.mem_append] at hp
    rcases hp with (h | h) | h
    · exact .inl ⟨p, h, e⟩
    · exact .inr (.inl ⟨p, h, e⟩)
    · exact .inr (.inr ⟨p, h, e⟩)
  · rintro (⟨p, h, e⟩ | ⟨p, h, e⟩ | ⟨p, h, e⟩)
    · exact ⟨p, by simp [h], e⟩
    · exact ⟨p, by simp [h], e⟩
    · exact ⟨p, by simp [h], e⟩
theorem merK_swap {base a b : List Pr} (h0 : Ris base) (h1 : Ris a) (h2 : Ris b) : merK base a b = merK base b a :=
  RisK.ext (risK_keys _) (risK_keys _) fun k => by
    rw [mem_merK h0 h1 h2, mem_merK h0 h2 h1]
    constructor
    · rintro (h | h | h)
      · exact .inl h
      · exact .inr (.inr h)
      · exact .inr (.inl h)
    · rintro (h | h | h)
      · exact .inl h
      · exact .inr (.inr h)
      · exact .inr (.inl h)
theorem badM_swap {base a b : List Pr} (h0 : Ris base) (h1 : Ris a) (h2 : Ris b) : badM base a b = badM base b a := by
  unfold badM
  rw [merK_swap h0 h1 h2]
  congr 1
  funext k
  rw [oneM_swap]
theorem merM_swap {base a b : List Pr} (h0 : Ris base) (h1 : Ris a) (h2 : Ris b) (side : List Pr) : merM base a b side = merM base b a side := by
  unfold merM pickM
  rw [merK_swap h0 h1 h2]
  congr 1
  funext k
  rw [oneM_swap]
theorem ris_filterMap : ∀ {l : List ByteArray}, RisK l → ∀ (f : ByteArray → Option ByteArray), Ris (l.filterMap fun k => (f k).map fun v => (k, v))
  | [], _, _ => List.Pairwise.nil
  | x :: r, h, f => by
    have h' := List.pairwise_cons.1 h
    have ih := ris_filterMap h'.2 f
    rw [List.filterMap_cons]
    cases e : f x with
    | none => exact ih
    | some v =>
      refine List.pairwise_cons.2 ⟨fun p hp => ?_, ih⟩
      obtain ⟨k, hk, ek⟩ := List.mem_filterMap.1 hp
      cases e' : f k with
      | none => rw [e'] at ek; cases ek
      | some u =>
        rw [e'] at ek
        injection ek with ek
        rw [← ek]
        exact h'.1 k hk
theorem ris_mer (base a b side : List Pr) : Ris (merM base a b side) := ris_filterMap (risK_keys _) _
theorem lk_mer {base a b side : List Pr} (h0 : Ris base) (h1 : Ris a) (h2 : Ris b) (hs : ∀ k, lk side k ≠ none → lk base k ≠ none ∨ lk a k ≠ none ∨ lk b k ≠ none) (k : ByteArray) : lk (merM base a b side) k = pickM base a b side k := by
  apply Option.ext
  intro v
  rw [lk_some (ris_mer base a b side)]
  unfold merM
  rw [List.mem_filterMap]
  constructor
  · rintro ⟨k', _, e⟩
    cases e' : pickM base a b side k' with
    | none => rw [e'] at e; cases e
    | some u =>
      rw [e'] at e
      injection e with e
      injection e with e1 e2
      rw [← e1, ← e2]
      exact e'
  · intro e
    refine ⟨k, (mem_merK h0 h1 h2 k).2 ?_, by rw [e]; rfl⟩
    unfold pickM oneM at e
    split at e
    next hx =>
      right; right
      intro hb
      rw [hb] at e
      cases e
    next hx =>
      split at e
      next =>
        right; left
        intro ha
        rw [ha] at e
        cases e
      next =>
        exact hs k (fun x => by rw [x] at e; cases e)
theorem bad_iff {base a b : List Pr} (h0 : Ris base) (h1 : Ris a) (h2 : Ris b) (k : ByteArray) : k ∈ badM base a b ↔ oneM (lk base k) (lk a k) (lk b k) = none := by
  unfold badM
  rw [List.mem_filter, mem_merK h0 h1 h2, Option.isNone_iff_eq_none]
  constructor
  · exact fun h => h.2
  · intro h
    refine ⟨?_, h⟩
    by_cases x : lk a k = none
    · left
      intro y
      unfold oneM at h
      rw [if_pos (by rw [x, y])] at h
      cases h
    · exact .inr (.inl x)
end Go.Proofs.YtaofemdhgfejjaaGreatDoor
