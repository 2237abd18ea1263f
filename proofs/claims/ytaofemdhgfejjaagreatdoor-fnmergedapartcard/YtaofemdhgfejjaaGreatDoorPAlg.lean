/-
  Right maps by their pairs: two of the same pairs are one; what is put, what is dropped, what is got. Plain mathematics.
-/
import Derived.Test.YtaofemdhgfejjaaGreatDoorPDropI
namespace Go.Proofs.YtaofemdhgfejjaaGreatDoor
open Go.RowKit

def Ris (l : List Pr) : Prop := l.Pairwise fun a b => ltB a.1 b.1 = true
theorem ris_iff {l : List Pr} : risesTo l l.length ↔ Ris l := by
  constructor
  · intro h
    unfold Ris
    rw [List.pairwise_iff_getElem]
    intro i j hi hj hij
    exact rises_lt h j hj i hij
  · intro h i hi _
    exact List.pairwise_iff_getElem.1 h i (i + 1) (by omega) hi (by omega)
theorem Ris.ext : ∀ {l l' : List Pr}, Ris l → Ris l' → (∀ p, p ∈ l ↔ p ∈ l') → l = l'
  | [], [], _, _, _ => rfl
  | [], b :: t, _, _, h => absurd ((h b).2 (List.mem_cons_self ..)) (by simp)
  | a :: t, [], _, _, h => absurd ((h a).1 (List.mem_cons_self ..)) (by simp)
  | a :: t, b :: t', h1, h2, h => by
    have h1' := List.pairwise_cons.1 h1
    have h2' := List.pairwise_cons.1 h2
    have hab : a = b := by
      rcases List.mem_cons.1 ((h a).1 (List.mem_cons_self ..)) with e | e
      · exact e
      · rcases List.mem_cons.1 ((h b).2 (List.mem_cons_self ..)) with e' | e'
        · exact e'.symm
        · have x := h2'.1 a e
          have y := h1'.1 b e'
          rw [ltB_asymm x] at y
          cases y
    subst hab
    congr 1
    refine Ris.ext h1'.2 h2'.2 fun p => ⟨fun hp => ?_, fun hp => ?_⟩
    · rcases List.mem_cons.1 ((h p).1 (List.mem_cons_of_mem _ hp)) with e | e
      · subst e; have := h1'.1 p hp; rw [ltB_irrefl] at this; cases this
      · exact e
    · rcases List.mem_cons.1 ((h p).2 (List.mem_cons_of_mem _ hp)) with e | e
      · subst e; have := h2'.1 p hp; rw [ltB_irrefl] at this; cases this
      · exact e
theorem Ris.key {l : List Pr} (h : Ris l) {k v v' : ByteArray} (a : (k, v) ∈ l) (b : (k, v') ∈ l) : v = v' := by
  obtain ⟨i, hi, e⟩ := List.getElem_of_mem a
  obtain ⟨j, hj, e'⟩ := List.getElem_of_mem b
  rcases Nat.lt_trichotomy i j with g | g | g
  · have := List.pairwise_iff_getElem.1 h i j hi hj g
    rw [e, e', ltB_irrefl] at this; cases this
  · subst g; rw [e] at e'; injection e'
  · have := List.pairwise_iff_getElem.1 h j i hj hi g
    rw [e, e', ltB_irrefl] at this; cases this
theorem ne_of_lt {a b : ByteArray} (h : ltB a b = true) : a ≠ b := by rintro rfl; rw [ltB_irrefl] at h; cases h
theorem mem_take {l : List Pr} (h : Ris l) (k : ByteArray) (p : Pr) : p ∈ l.take (atN l k) ↔ p ∈ l ∧ ltB p.1 k = true := by
  constructor
  · intro hp
    obtain ⟨i, hi, e⟩ := List.getElem_of_mem hp
    rw [List.length_take] at hi
    rw [List.getElem_take] at e
    subst e
    exact ⟨List.getElem_mem _, atN_lt l k i (by omega) (by omega)⟩
  · rintro ⟨hp, hlt⟩
    obtain ⟨i, hi, e⟩ := List.getElem_of_mem hp
    subst e
    have hia : i < atN l k := by
      rcases Nat.lt_or_ge i (atN l k) with g | g
      · exact g
      · have hn := atN_not l k (by omega)
        rcases Nat.lt_or_ge (atN l k) i with g' | g'
        · have := List.pairwise_iff_getElem.1 h (atN l k) i (by omega) hi g'
          rw [ltB_trans this hlt] at hn; cases hn
        · obtain rfl : i = atN l k := by omega
          rw [hlt] at hn; cases hn
    have : (l.take (atN l k))[i]'(by rw [List.length_take]; omega) = l[i] := List.getElem_take ..
    rw [← this]
    exact List.getElem_mem _
theorem lt_at {l : List Pr} {k : ByteArray} (hh : hasB l k = false) (h : atN l k < l.length) : ltB k l[atN l k].1 = true := by
  rcases ltB_tri l[atN l k].1 k with g | g | g
  · rw [atN_not l k h] at g; cases g
  · rw [hasB_yes h g] at hh; cases hh
  · exact g
/-- from where on the keys are greater -/
def behind (l : List Pr) (k : ByteArray) : Nat := if hasB l k = true then atN l k + 1 else atN l k
theorem mem_drop {l : List Pr} (h : Ris l) (k : ByteArray) (p : Pr) : p ∈ l.drop (behind l k) ↔ p ∈ l ∧ ltB k p.1 = true := by
  have key : ∀ i (hi : i < l.length), behind l k ≤ i ↔ ltB k l[i].1 = true := by
    intro i hi
    unfold behind
    cases hh : hasB l k
    · simp only [Bool.false_eq_true, if_false]
      constructor
      · intro g
        have h1 := lt_at hh (by omega)
        rcases Nat.lt_or_ge (atN l k) i with g' | g'
        · exact ltB_trans h1 (List.pairwise_iff_getElem.1 h (atN l k) i (by omega) hi g')
        · obtain rfl : i = atN l k := by omega
          exact h1
      · intro g
        rcases Nat.lt_or_ge i (atN l k) with g' | g'
        · have := atN_lt l k i g' hi
          rw [ltB_asymm this] at g; cases g
        · exact g'
    · obtain ⟨hlt, he⟩ := hasB_iff.1 hh
      simp only [if_true]
      constructor
      · intro g
        have := List.pairwise_iff_getElem.1 h (atN l k) i hlt hi (by omega)
        rw [he] at this
        exact this
      · intro g
        rcases Nat.lt_trichotomy i (atN l k) with g' | g' | g'
        · have := atN_lt l k i g' hi
          rw [ltB_asymm this] at g; cases g
        · subst g'
          rw [he, ltB_irrefl] at g; cases g
        · omega
  constructor
  · intro hp
    obtain ⟨i, hi, e⟩ := List.getElem_of_mem hp
    rw [List.length_drop] at hi
    rw [List.getElem_drop] at e
    subst e
    exact ⟨List.getElem_mem _, (key _ (by omega)).1 (by omega)⟩
  · rintro ⟨hp, hlt⟩
    obtain ⟨i, hi, e⟩ := List.getElem_of_mem hp
    subst e
    have hb := (key i hi).2 hlt
    have : (l.drop (behind l k))[i - behind l k]'(by rw [List.length_drop]; omega) = l[i] := by
      rw [List.getElem_drop]
      congr 1
      omega
    rw [← this]
    exact List.getElem_mem _
theorem setL_behind (l : List Pr) (k v : ByteArray) : setL l k v = l.take (atN l k) ++ (k, v) :: l.drop (behind l k) := rfl
theorem mem_set {l : List Pr} (h : Ris l) (k v : ByteArray) (p : Pr) : p ∈ setL l k v ↔ p = (k, v) ∨ (p ∈ l ∧ p.1 ≠ k) := by
  rw [setL_behind, List.mem_append, List.mem_cons, mem_take h, mem_drop h]
  constructor
  · rintro (⟨a, b⟩ | a | ⟨a, b⟩)
    · exact .inr ⟨a, ne_of_lt b⟩
    · exact .inl a
    · exact .inr ⟨a, (ne_of_lt b).symm⟩
  · rintro (a | ⟨a, b⟩)
    · exact .inr (.inl a)
    · rcases ltB_tri p.1 k with g | g | g
      · exact .inl ⟨a, g⟩
      · exact absurd g b
      · exact .inr (.inr ⟨a, g⟩)
theorem ris_set {l : List Pr} (h : Ris l) (k v : ByteArray) : Ris (setL l k v) := by
  unfold Ris
  rw [setL_behind, List.pairwise_append, List.pairwise_cons]
  refine ⟨List.Pairwise.sublist (List.take_sublist _ _) h, ⟨fun p hp => ((mem_drop h k p).1 hp).2, List.Pairwise.sublist (List.drop_sublist _ _) h⟩, fun a ha b hb => ?_⟩
  have h1 := ((mem_take h k a).1 ha).2
  rcases List.mem_cons.1 hb with e | e
  · subst e; exact h1
  · exact ltB_trans h1 ((mem_drop h k b).1 e).2
theorem at_mem {l : List Pr} {k : ByteArray} (hlt : atN l k < l.length) (he : l[atN l k].1 = k) : (k, l[atN l k].2) ∈ l := by
  have e : (k, l[atN l k].2) = l[atN l k] := Prod.ext he.symm rfl
  rw [e]
  exact List.getElem_mem _
theorem has_iff {l : List Pr} (h : Ris l) (k : ByteArray) : hasB l k = true ↔ ∃ v, (k, v) ∈ l := by
  constructor
  · intro hh
    obtain ⟨hlt, he⟩ := hasB_iff.1 hh
    exact ⟨l[atN l k].2, at_mem hlt he⟩
  · rintro ⟨v, hv⟩
    cases hh : hasB l k
    · have e1 : ¬ (k, v) ∈ l.take (atN l k) := fun x => by have := ((mem_take h k (k, v)).1 x).2; rw [ltB_irrefl] at this; cases this
      have e2 : ¬ (k, v) ∈ l.drop (behind l k) := fun x => by have := ((mem_drop h k (k, v)).1 x).2; rw [ltB_irrefl] at this; cases this
      have : behind l k = atN l k := by unfold behind; rw [hh]; rfl
      rw [this] at e2
      rw [← List.take_append_drop (atN l k) l, List.mem_append] at hv
      rcases hv with hv | hv
      · exact absurd hv e1
      · exact absurd hv e2
    · rfl
theorem val_of {l : List Pr} (h : Ris l) {k v : ByteArray} (hv : (k, v) ∈ l) : valOf l k = v := by
  obtain ⟨hlt, he⟩ := hasB_iff.1 ((has_iff h k).2 ⟨v, hv⟩)
  rw [valOf_yes hlt he]
  exact h.key (at_mem hlt he) hv
theorem mem_erase {l : List Pr} (h : Ris l) {k : ByteArray} (hh : hasB l k = true) (p : Pr) : p ∈ l.eraseIdx (atN l k) ↔ p ∈ l ∧ p.1 ≠ k := by
  rw [List.eraseIdx_eq_take_drop_succ, List.mem_append, mem_take h]
  have : atN l k + 1 = behind l k := by unfold behind; rw [hh]; rfl
  rw [this, mem_drop h]
  constructor
  · rintro (⟨a, b⟩ | ⟨a, b⟩)
    · exact ⟨a, ne_of_lt b⟩
    · exact ⟨a, (ne_of_lt b).symm⟩
  · rintro ⟨a, b⟩
    rcases ltB_tri p.1 k with g | g | g
    · exact .inl ⟨a, g⟩
    · exact absurd g b
    · exact .inr ⟨a, g⟩
theorem ris_erase {l : List Pr} (h : Ris l) (i : Nat) : Ris (l.eraseIdx i) := List.Pairwise.sublist (List.eraseIdx_sublist _ _) h
theorem len_set (l : List Pr) (k v : ByteArray) : (setL l k v).length = if hasB l k = true then l.length else l.length + 1 := by
  have hle := atN_le l k
  unfold setL
  rw [List.length_append, List.length_take, List.length_cons, List.length_drop]
  cases hh : hasB l k
  · simp; omega
  · obtain ⟨hlt, _⟩ := hasB_iff.1 hh
    simp; omega
theorem mapB_all {l : List Pr} : mapB l = true ↔ l.length ≤ 40 ∧ (∀ p ∈ l, keyB p.1 = true ∧ valB p.2 = true) ∧ Ris l := by
  rw [mapB_iff]
  constructor
  · rintro ⟨a, b, c⟩
    refine ⟨a, fun p hp => ?_, ris_iff.1 c⟩
    obtain ⟨i, hi, e⟩ := List.getElem_of_mem hp
    subst e
    exact b i hi hi
  · rintro ⟨a, b, c⟩
    exact ⟨a, fun i hi _ => b _ (List.getElem_mem _), ris_iff.2 c⟩
theorem mapB_set {l : List Pr} {k v : ByteArray} (h : mapB l = true) (hk : keyB k = true) (hv : valB v = true) (hl : hasB l k = true ∨ l.length < 40) : mapB (setL l k v) = true := by
  obtain ⟨a, b, c⟩ := mapB_all.1 h
  refine mapB_all.2 ⟨?_, fun p hp => ?_, ris_set c k v⟩
  · rw [len_set]; split
    · exact a
    · rcases hl with g | g
      · rename_i x; exact absurd g x
      · omega
  · rcases (mem_set c k v p).1 hp with e | ⟨e, _⟩
    · subst e; exact ⟨hk, hv⟩
    · exact b p e
/-- what it takes that a put is right -/
theorem putB_iff {l : List Pr} {k v : ByteArray} : putB l k v = true ↔ mapB l = true ∧ keyB k = true ∧ valB v = true ∧ (hasB l k = true ∨ l.length < 40) := by
  constructor
  · intro h
    have h1 : mapB l = true := by
      cases e : mapB l
      · rw [putB_no e] at h; cases h
      · rfl
    have h2 : mapB (setL l k v) = true := by
      cases e : mapB (setL l k v)
      · rw [putB_no2 e] at h; cases h
      · rfl
    obtain ⟨a, b, c⟩ := mapB_all.1 h2
    have hc := (mapB_all.1 h1).2.2
    have hm := b (k, v) ((mem_set hc k v _).2 (.inl rfl))
    refine ⟨h1, hm.1, hm.2, ?_⟩
    rw [len_set] at a
    cases hh : hasB l k
    · rw [hh] at a; simp at a; exact .inr (by omega)
    · exact .inl rfl
  · rintro ⟨h1, h2, h3, h4⟩
    exact putB_yes h1 (mapB_set h1 h2 h3 h4)
theorem has_set {l : List Pr} (h : Ris l) (k v k' : ByteArray) : hasB (setL l k v) k' = true ↔ k' = k ∨ hasB l k' = true := by
  rw [has_iff (ris_set h k v), has_iff h]
  constructor
  · rintro ⟨x, hx⟩
    rcases (mem_set h k v _).1 hx with e | ⟨e, _⟩
    · injection e with e1 e2; exact .inl e1
    · exact .inr ⟨x, e⟩
  · rintro (e | ⟨x, hx⟩)
    · subst e; exact ⟨v, (mem_set h _ v _).2 (.inl rfl)⟩
    · by_cases e : k' = k
      · subst e; exact ⟨v, (mem_set h _ v _).2 (.inl rfl)⟩
      · exact ⟨x, (mem_set h k v _).2 (.inr ⟨hx, e⟩)⟩
theorem set_set {l : List Pr} (h : Ris l) (k v v' : ByteArray) : setL (setL l k v') k v = setL l k v := by
  refine Ris.ext (ris_set (ris_set h k v') k v) (ris_set h k v) fun p => ?_
  rw [mem_set (ris_set h k v'), mem_set h, mem_set h]
  constructor
  · rintro (e | ⟨e | ⟨e, _⟩, n⟩)
    · exact .inl e
    · subst e; exact absurd rfl n
    · exact .inr ⟨e, n⟩
  · rintro (e | ⟨e, n⟩)
    · exact .inl e
    · exact .inr ⟨.inr ⟨e, n⟩, n⟩
theorem set_swap {l : List Pr} (h : Ris l) {k k' : ByteArray} (v v' : ByteArray) (hne : k ≠ k') : setL (setL l k v) k' v' = setL (setL l k' v') k v := by
  refine Ris.ext (ris_set (ris_set h k v) k' v') (ris_set (ris_set h k' v') k v) fun p => ?_
  rw [mem_set (ris_set h k v), mem_set h, mem_set (ris_set h k' v'), mem_set h]
  constructor
  · rintro (e | ⟨e | ⟨e, n⟩, n'⟩)
    · subst e; exact .inr ⟨.inl rfl, hne.symm⟩
    · exact .inl e
    · exact .inr ⟨.inr ⟨e, n'⟩, n⟩
  · rintro (e | ⟨e | ⟨e, n⟩, n'⟩)
    · subst e; exact .inr ⟨.inl rfl, hne⟩
    · exact .inl e
    · exact .inr ⟨.inr ⟨e, n'⟩, n⟩
theorem erase_set {l : List Pr} (h : Ris l) {k : ByteArray} (v : ByteArray) (hh : hasB l k = false) : (setL l k v).eraseIdx (atN (setL l k v) k) = l := by
  have hs : hasB (setL l k v) k = true := (has_set h k v k).2 (.inl rfl)
  refine Ris.ext (ris_erase (ris_set h k v) _) h fun p => ?_
  rw [mem_erase (ris_set h k v) hs, mem_set h]
  constructor
  · rintro ⟨e | ⟨e, _⟩, n⟩
    · subst e; exact absurd rfl n
    · exact e
  · intro e
    have n : p.1 ≠ k := by
      intro x
      have : hasB l k = true := (has_iff h k).2 ⟨p.2, by rw [← x]; exact e⟩
      rw [hh] at this; cases this
    exact ⟨.inr ⟨e, n⟩, n⟩
theorem set_erase {l : List Pr} (h : Ris l) {k : ByteArray} (hh : hasB l k = true) : setL (l.eraseIdx (atN l k)) k (valOf l k) = l := by
  obtain ⟨v, hv⟩ := (has_iff h k).1 hh
  rw [val_of h hv]
  refine Ris.ext (ris_set (ris_erase h _) k v) h fun p => ?_
  rw [mem_set (ris_erase h _), mem_erase h hh]
  constructor
  · rintro (e | ⟨⟨e, _⟩, _⟩)
    · subst e; exact hv
    · exact e
  · intro e
    by_cases n : p.1 = k
    · left
      have : (k, p.2) ∈ l := by rw [← n]; exact e
      have := h.key this hv
      exact Prod.ext n this
    · exact .inr ⟨⟨e, n⟩, n⟩
theorem has_erase {l : List Pr} (h : Ris l) {k : ByteArray} (hh : hasB l k = true) (k' : ByteArray) : hasB (l.eraseIdx (atN l k)) k' = true ↔ k' ≠ k ∧ hasB l k' = true := by
  rw [has_iff (ris_erase h _), has_iff h]
  constructor
  · rintro ⟨x, hx⟩
    have := (mem_erase h hh _).1 hx
    exact ⟨this.2, x, this.1⟩
  · rintro ⟨n, x, hx⟩
    exact ⟨x, (mem_erase h hh _).2 ⟨hx, n⟩⟩
theorem mapB_erase {l : List Pr} (h : mapB l = true) (i : Nat) : mapB (l.eraseIdx i) = true := by
  obtain ⟨a, b, c⟩ := mapB_all.1 h
  refine mapB_all.2 ⟨?_, fun p hp => b p (List.mem_of_mem_eraseIdx hp), ris_erase c i⟩
  rw [List.length_eraseIdx]; split <;> omega
end Go.Proofs.YtaofemdhgfejjaaGreatDoor
