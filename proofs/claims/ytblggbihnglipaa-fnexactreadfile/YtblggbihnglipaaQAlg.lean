/-
  Rising lists by their members; what is put in. Plain mathematics.
-/
import Derived.Test.YtblggbihnglipaaPOrd
namespace Go.Proofs.Ytblggbihnglipaa
open Go.RowKit

/-- with the pair, in place of one of its key -/
def setL (l : List Pr) (k v : ByteArray) : List Pr := l.take (atN l k) ++ (k, v) :: l.drop (if hasB l k = true then atN l k + 1 else atN l k)
def Ris (l : List Pr) : Prop := l.Pairwise fun a b => ltB a.1 b.1 = true
theorem ris_iff {l : List Pr} : risesTo l l.length ↔ Ris l := by
  constructor
  · intro h
    unfold Ris
    rw [List.pairwise_iff_getElem]
    intro i j hi hj hij
    exact rises_lt h j hj i hij
  · intro h i hi _
    exact List.pairwise_iff_getElem.1 h i (i + 1) (by omega) hi (by omega)
theorem Ris.ext : ∀ {l l' : List Pr}, Ris l → Ris l' → (∀ p, p ∈ l ↔ p ∈ l') → l = l'
  | [], [], _, _, _ => rfl
  | [], b :: t, _, _, h => absurd ((h b).2 (List.mem_cons_self ..)) (by simp)
  | a :: t, [], _, _, h => absurd ((h a).1 (List.mem_cons_self ..)) (by simp)
  | a :: t, b :: t', h1, h2, h => by
    have h1' := List.pairwise_cons.1 h1
    have h2' := List.pairwise_cons.1 h2
    have hab : a = b := by
      rcases List.mem_cons.1 ((h a).1 (List.mem_cons_self ..)) with e | e
      · exact e
      · rcases List.mem_cons.1 ((h b).2 (List.mem_cons_self ..)) with e' | e'
        · exact e'.symm
        · have x := h2'.1 a e
          have y := h1'.1 b e'
          rw [ltB_asymm x] at y
          cases y
    subst hab
    congr 1
    refine Ris.ext h1'.2 h2'.2 fun p => ⟨fun hp => ?_, fun hp => ?_⟩
    · rcases List.mem_cons.1 ((h p).1 (List.mem_cons_of_mem _ hp)) with e | e
      · subst e; have := h1'.1 p hp; rw [ltB_irrefl] at this; cases this
      · exact e
    · rcases List.mem_cons.1 ((h p).2 (List.mem_cons_of_mem _ hp)) with e | e
      · subst e; have := h2'.1 p hp; rw [ltB_irrefl] at this; cases this
      · exact e
theorem Ris.key {l : List Pr} (h : Ris l) {k v v' : ByteArray} (a : (k, v) ∈ l) (b : (k, v') ∈ l) : v = v' := by
  obtain ⟨i, hi, e⟩ := List.getElem_of_mem a
  obtain ⟨j, hj, e'⟩ := List.getElem_of_mem b
  rcases Nat.lt_trichotomy i j with g | g | g
  · have := List.pairwise_iff_getElem.1 h i j hi hj g
    rw [e, e', ltB_irrefl] at this; cases this
  · subst g; rw [e] at e'; injection e'
  · have := List.pairwise_iff_getElem.1 h j i hj hi g
    rw [e, e', ltB_irrefl] at this; cases this
theorem ne_of_lt {a b : ByteArray} (h : ltB a b = true) : a ≠ b := by rintro rfl; rw [ltB_irrefl] at h; cases h
theorem mem_take {l : List Pr} (h : Ris l) (k : ByteArray) (p : Pr) : p ∈ l.take (atN l k) ↔ p ∈ l ∧ ltB p.1 k = true := by
  constructor
  · intro hp
    obtain ⟨i, hi, e⟩ := List.getElem_of_mem hp
    rw [List.length_take] at hi
    rw [List.getElem_take] at e
    subst e
    exact ⟨List.getElem_mem _, atN_lt l k i (by omega) (by omega)⟩
  · rintro ⟨hp, hlt⟩
    obtain ⟨i, hi, e⟩ := List.getElem_of_mem hp
    subst e
    have hia : i < atN l k := by
      rcases Nat.lt_or_ge i (atN l k) with g | g
      · exact g
      · have hn := atN_not l k (by omega)
        rcases Nat.lt_or_ge (atN l k) i with g' | g'
        · have := List.pairwise_iff_getElem.1 h (atN l k) i (by omega) hi g'
          rw [ltB_trans this hlt] at hn; cases hn
        · obtain rfl : i = atN l k := by omega
          rw [hlt] at hn; cases hn
    have : (l.take (atN l k))[i]'(by rw [List.length_take]; omega) = l[i] := List.getElem_take ..
    rw [← this]
    exact List.getElem_mem _
theorem lt_at {l : List Pr} {k : ByteArray} (hh : hasB l k = false) (h : atN l k < l.length) : ltB k l[atN l k].1 = true := by
  rcases ltB_tri l[atN l k].1 k with g | g | g
  · rw [atN_not l k h] at g; cases g
  · rw [hasB_yes h g] at hh; cases hh
  · exact g
/-- from where on the keys are greater -/
def behind (l : List Pr) (k : ByteArray) : Nat := if hasB l k = true then atN l k + 1 else atN l k
theorem mem_drop {l : List Pr} (h : Ris l) (k : ByteArray) (p : Pr) : p ∈ l.drop (behind l k) ↔ p ∈ l ∧ ltB k p.1 = true := by
  have key : ∀ i (hi : i < l.length), behind l k ≤ i ↔ ltB k l[i].1 = true := by
    intro i hi
    unfold behind
    cases hh : hasB l k
    · simp only [Bool.false_eq_true, if_false]
      constructor
      · intro g
        have h1 := lt_at hh (by omega)
        rcases Nat.lt_or_ge (atN l k) i with g' | g'
        · exact ltB_trans h1 (List.pairwise_iff_getElem.1 h (atN l k) i (by omega) hi g')
        · obtain rfl : i = atN l k := by omega
          exact h1
      · intro g
        rcases Nat.lt_or_ge i (atN l k) with g' | g'
        · have := atN_lt l k i g' hi
          rw [ltB_asymm this] at g; cases g
        · exact g'
    · obtain ⟨hlt, he⟩ := hasB_iff.1 hh
      simp only [if_true]
      constructor
      · intro g
        have := List.pairwise_iff_getElem.1 h (atN l k) i hlt hi (by omega)
        rw [he] at this
        exact this
      · intro g
        rcases Nat.lt_trichotomy i (atN l k) with g' | g' | g'
        · have := atN_lt l k i g' hi
          rw [ltB_asymm this] at g; cases g
        · subst g'
          rw [he, ltB_irrefl] at g; cases g
        · omega
  constructor
  · intro hp
    obtain ⟨i, hi, e⟩ := List.getElem_of_mem hp
    rw [List.length_drop] at hi
    rw [List.getElem_drop] at e
    subst e
    exact ⟨List.getElem_mem _, (key _ (by omega)).1 (by omega)⟩
  · rintro ⟨hp, hlt⟩
    obtain ⟨i, hi, e⟩ := List.getElem_of_mem hp
    subst e
    have hb := (key i hi).2 hlt
    have : (l.drop (behind l k))[i - behind l k]'(by rw [List.length_drop]; omega) = l[i] := by
      rw [List.getElem_drop]
      congr 1
      omega
    rw [← this]
    exact List.getElem_mem _
theorem setL_behind (l : List Pr) (k v : ByteArray) : setL l k v = l.take (atN l k) ++ (k, v) :: l.drop (behind l k) := rfl
theorem mem_set {l : List Pr} (h : Ris l) (k v : ByteArray) (p : Pr) : p ∈ setL l k v ↔ p = (k, v) ∨ (p ∈ l ∧ p.1 ≠ k) := by
  rw [setL_behind, List.mem_append, List.mem_cons, mem_take h, mem_drop h]
  constructor
  · rintro (⟨a, b⟩ | a | ⟨a, b⟩)
    · exact .inr ⟨a, ne_of_lt b⟩
    · exact .inl a
    · exact .inr ⟨a, (ne_of_lt b).symm⟩
  · rintro (a | ⟨a, b⟩)
    · exact .inr (.inl a)
    · rcases ltB_tri p.1 k with g | g | g
      · exact .inl ⟨a, g⟩
      · exact absurd g b
      · exact .inr (.inr ⟨a, g⟩)
theorem ris_set {l : List Pr} (h : Ris l) (k v : ByteArray) : Ris (setL l k v) := by
  unfold Ris
  rw [setL_behind, List.pairwise_append, List.pairwise_cons]
  refine ⟨List.Pairwise.sublist (List.take_sublist _ _) h, ⟨fun p hp => ((mem_drop h k p).1 hp).2, List.Pairwise.sublist (List.drop_sublist _ _) h⟩, fun a ha b hb => ?_⟩
  have h1 := ((mem_take h k a).1 ha).2
  rcases List.mem_cons.1 hb with e | e
  · subst e; exact h1
  · exact ltB_trans h1 ((mem_drop h k b).1 e).2
theorem at_mem {l : List Pr} {k : ByteArray} (hlt : atN l k < l.length) (he : l[atN l k].1 = k) : (k, l[atN l k].2) ∈ l := by
  have e : (k, l[atN l k].2) = l[atN l k] := Prod.ext he.symm rfl
  rw [e]
  exact List.getElem_mem _
theorem has_iff {l : List Pr} (h : Ris l) (k : ByteArray) : hasB l k = true ↔ ∃ v, (k, v) ∈ l := by
  constructor
  · intro hh
    obtain ⟨hlt, he⟩ := hasB_iff.1 hh
    exact ⟨l[atN l k].2, at_mem hlt he⟩
  · rintro ⟨v, hv⟩
    cases hh : hasB l k
    · have e1 : ¬ (k, v) ∈ l.take (atN l k) := fun x => by have := ((mem_take h k (k, v)).1 x).2; rw [ltB_irrefl] at this; cases this
      have e2 : ¬ (k, v) ∈ l.drop (behind l k) := fun x => by have := ((mem_drop h k (k, v)).1 x).2; rw [ltB_irrefl] at this; cases this
      have : behind l k = atN l k := by unfold behind; rw [hh]; rfl
      rw [this] at e2
      rw [← List.take_append_drop (atN l k) l, List.mem_append] at hv
      rcases hv with hv | hv
      · exact absurd hv e1
      · exact absurd hv e2
    · rfl
theorem val_of {l : List Pr} (h : Ris l) {k v : ByteArray} (hv : (k, v) ∈ l) : valOf l k = v := by
  obtain ⟨hlt, he⟩ := hasB_iff.1 ((has_iff h k).2 ⟨v, hv⟩)
  rw [valOf_yes hlt he]
  exact h.key (at_mem hlt he) hv
theorem mem_erase {l : List Pr} (h : Ris l) {k : ByteArray} (hh : hasB l k = true) (p : Pr) : p ∈ l.eraseIdx (atN l k) ↔ p ∈ l ∧ p.1 ≠ k := by
  rw [List.eraseIdx_eq_take_drop_succ, List.mem_append, mem_take h]
  have : atN l k + 1 = behind l k := by unfold behind; rw [hh]; rfl
  rw [this, mem_drop h]
  constructor
  · rintro (⟨a, b⟩ | ⟨a, b⟩)
    · exact ⟨a, ne_of_lt b⟩
    · exact ⟨a, (ne_of_lt b).symm⟩
  · rintro ⟨a, b⟩
    rcases ltB_tri p.1 k with g | g | g
    · exact .inl ⟨a, g⟩
    · exact absurd g b
    · exact .inr ⟨a, g⟩
theorem ris_erase {l : List Pr} (h : Ris l) (i : Nat) : Ris (l.eraseIdx i) := List.Pairwise.sublist (List.eraseIdx_sublist _ _) h
theorem len_set (l : List Pr) (k v : ByteArray) : (setL l k v).length = if hasB l k = true then l.length else l.length + 1 := by
  have hle := atN_le l k
  unfold setL
  rw [List.length_append, List.length_take, List.length_cons, List.length_drop]
  cases hh : hasB l k
  · simp; omega
  · obtain ⟨hlt, _⟩ := hasB_iff.1 hh
    simp; omega
theorem has_set {l : List Pr} (h : Ris l) (k v k' : ByteArray) : hasB (setL l k v) k' = true ↔ k' = k ∨ hasB l k' = true := by
  rw [has_iff (ris_set h k v), has_iff h]
  constructor
  · rintro ⟨x, hx⟩
    rcases (mem_set h k v _).1 hx with e | ⟨e, _⟩
    · injection e with e1 e2; exact .inl e1
    · exact .inr ⟨x, e⟩
  · rintro (e | ⟨x, hx⟩)
    · subst e; exact ⟨v, (mem_set h _ v _).2 (.inl rfl)⟩
    · by_cases e : k' = k
      · subst e; exact ⟨v, (mem_set h _ v _).2 (.inl rfl)⟩
      · exact ⟨x, (mem_set h k v _).2 (.inr ⟨hx, e⟩)⟩
theorem set_set {l : List Pr} (h : Ris l) (k v v' : ByteArray) : setL (setL l k v') k v = setL l k v := by
  refine Ris.ext (ris_set (ris_set h k v') k v) (ris_set h k v) fun p => ?_
  rw [mem_set (ris_set h k v'), mem_set h, mem_set h]
  constructor
  · rintro (e | ⟨e | ⟨e, _⟩, n⟩)
    · exact .inl e
    · subst e; exact absurd rfl n
    · exact .inr ⟨e, n⟩
  · rintro (e | ⟨e, n⟩)
    · exact .inl e
    · exact .inr ⟨.inr ⟨e, n⟩, n⟩
theorem set_swap {l : List Pr} (h : Ris l) {k k' : ByteArray} (v v' : ByteArray) (hne : k ≠ k') : setL (setL l k v) k' v' = setL (setL l k' v') k v := by
  refine Ris.ext (ris_set (ris_set h k v) k' v') (ris_set (ris_set h k' v') k v) fun p => ?_
  rw [mem_set (ris_set h k v), mem_set h, mem_set (ris_set h k' v'), mem_set h]
  constructor
  · rintro (e | ⟨e | ⟨e, n⟩, n'⟩)
    · subst e; exact .inr ⟨.inl rfl, hne.symm⟩
    · exact .inl e
    · exact .inr ⟨.inr ⟨e, n'⟩, n⟩
  · rintro (e | ⟨e | ⟨e, n⟩, n'⟩)
    · subst e; exact .inr ⟨.inl rfl, hne⟩
    · exact .inl e
    · exact .inr ⟨.inr ⟨e, n'⟩, n⟩
theorem val_set {l : List Pr} (h : Ris l) (k v : ByteArray) : valOf (setL l k v) k = v := val_of (ris_set h k v) ((mem_set h k v _).2 (.inl rfl))
theorem val_set_ne {l : List Pr} (h : Ris l) {k k' : ByteArray} (v : ByteArray) (hne : k' ≠ k) : valOf (setL l k v) k' = valOf l k' := by
  cases hh : hasB l k'
  · have h1 : hasB (setL l k v) k' = false := by
      cases e : hasB (setL l k v) k'
      · rfl
      · rcases (has_set h k v k').1 e with g | g
        · exact absurd g hne
        · rw [hh] at g; cases g
    rw [valOf_no hh, valOf_no h1]
  · obtain ⟨x, hx⟩ := (has_iff h k').1 hh
    rw [val_of h hx, val_of (ris_set h k v) ((mem_set h k v _).2 (.inr ⟨hx, hne⟩))]
theorem mem_val {l : List Pr} {k : ByteArray} (hh : hasB l k = true) : (k, valOf l k) ∈ l := by
  obtain ⟨hlt, he⟩ := hasB_iff.1 hh
  rw [valOf_yes hlt he]
  exact at_mem hlt he
theorem set_same {l : List Pr} (h : Ris l) {k v : ByteArray} (hh : hasB l k = true) (hv : valOf l k = v) : setL l k v = l := by
  subst hv
  have hm := mem_val hh
  refine Ris.ext (ris_set h k _) h fun p => ?_
  rw [mem_set h]
  constructor
  · rintro (e | ⟨e, _⟩)
    · subst e; exact hm
    · exact e
  · intro e
    by_cases n : p.1 = k
    · left
      have : (k, p.2) ∈ l := by rw [← n]; exact e
      exact Prod.ext n (h.key this hm)
    · exact .inr ⟨e, n⟩
/-- one step of a joining: no other text has that id -/
def stepOk (o : List Pr) (p : Pr) : Bool := !hasB o p.1 || decide (valOf o p.1 = p.2)
theorem stepOk_new {o : List Pr} {p : Pr} (h : hasB o p.1 = false) : stepOk o p = true := by unfold stepOk; rw [h]; rfl
theorem stepOk_same {o : List Pr} {p : Pr} (h : valOf o p.1 = p.2) : stepOk o p = true := by unfold stepOk; rw [decide_eq_true h, Bool.or_true]
theorem stepOk_no {o : List Pr} {p : Pr} (h : hasB o p.1 = true) (h' : ¬ valOf o p.1 = p.2) : stepOk o p = false := by unfold stepOk; rw [h, decide_eq_false h']; rfl
theorem stepOk_iff {o : List Pr} (ho : Ris o) {p : Pr} : stepOk o p = true ↔ ∀ v, (p.1, v) ∈ o → v = p.2 := by
  constructor
  · intro h v hv
    have hh := (has_iff ho p.1).2 ⟨v, hv⟩
    unfold stepOk at h
    rw [hh] at h
    simp at h
    rw [← h, val_of ho hv]
  · intro h
    cases hh : hasB o p.1
    · exact stepOk_new hh
    · exact stepOk_same (h _ (mem_val hh))
/-- the first k of b joined to a -/
def jl (a b : List Pr) (k : Nat) : List Pr := (b.take k).foldl (fun o p => setL o p.1 p.2) a
theorem jl_zero (a b : List Pr) : jl a b 0 = a := rfl
theorem jl_succ (a b : List Pr) (k : Nat) (h : k < b.length) : jl a b (k + 1) = setL (jl a b k) b[k].1 b[k].2 := by
  unfold jl
  rw [List.take_succ_eq_append_getElem h, List.foldl_append]
  rfl
theorem jl_ris {a b : List Pr} (ha : Ris a) : ∀ k, k ≤ b.length → Ris (jl a b k)
  | 0, _ => ha
  | k + 1, h => by rw [jl_succ a b k (by omega)]; exact ris_set (jl_ris ha k (by omega)) _ _
theorem len_set_le (l : List Pr) (k v : ByteArray) : l.length ≤ (setL l k v).length ∧ (setL l k v).length ≤ l.length + 1 := by rw [len_set]; split <;> omega
theorem jl_mono (a b : List Pr) : ∀ d k, k + d ≤ b.length → (jl a b k).length ≤ (jl a b (k + d)).length
  | 0, _, _ => Nat.le_refl _
  | d + 1, k, h => by
    have h1 := jl_mono a b d k (by omega)
    have h2 := (len_set_le (jl a b (k + d)) b[k + d].1 b[k + d].2).1
    rw [← jl_succ a b (k + d) (by omega)] at h2
    exact Nat.le_trans h1 h2
theorem jl_len (a b : List Pr) : ∀ k, k ≤ b.length → (jl a b k).length ≤ a.length + k
  | 0, _ => Nat.le_refl _
  | k + 1, h => by
    have h1 := jl_len a b k (by omega)
    have h2 := (len_set_le (jl a b k) b[k].1 b[k].2).2
    rw [← jl_succ a b k (by omega)] at h2
    omega
def jokTo (a b : List Pr) (k : Nat) : Prop := ∀ i (h : i < b.length), i < k → stepOk (jl a b i) b[i] = true
theorem jokTo_zero (a b : List Pr) : jokTo a b 0 := fun _ _ h => absurd h (by omega)
theorem jokTo_succ {a b : List Pr} {k : Nat} (hk : k < b.length) (h : jokTo a b k) (h1 : stepOk (jl a b k) b[k] = true) : jokTo a b (k + 1) := by
  intro i hi hik
  rcases Nat.lt_or_ge i k with g | g
  · exact h i hi g
  · obtain rfl : i = k := by omega
    exact h1
/-- what is there behind k steps -/
theorem jl_mem {a b : List Pr} (ha : Ris a) : ∀ k, k ≤ b.length → jokTo a b k → ∀ p, p ∈ jl a b k ↔ p ∈ a ∨ p ∈ b.take k
  | 0, _, _, p => by rw [jl_zero]; simp
  | k + 1, h, hj, p => by
    have hk : k < b.length := by omega
    have ih := jl_mem ha k (by omega) (fun i hi hik => hj i hi (by omega)) p
    have hr := jl_ris (b := b) ha k (by omega)
    have hs := (stepOk_iff hr).1 (hj k hk (by omega))
    rw [jl_succ a b k hk, mem_set hr, List.take_succ_eq_append_getElem hk, List.mem_append, List.mem_singleton]
    constructor
    · rintro (e | ⟨e, _⟩)
      · exact .inr (.inr (by rw [e]))
      · rcases ih.1 e with g | g
        · exact .inl g
        · exact .inr (.inl g)
    · intro e
      by_cases n : p.1 = b[k].1
      · left
        have hp : p ∈ jl a b k ∨ p = b[k] := by
          rcases e with g | g | g
          · exact .inl (ih.2 (.inl g))
          · exact .inl (ih.2 (.inr g))
          · exact .inr g
        rcases hp with g | g
        · have : p.2 = b[k].2 := hs p.2 (by rw [← n]; exact g)
          exact Prod.ext n this
        · rw [g]
      · right
        refine ⟨?_, n⟩
        rcases e with g | g | g
        · exact ih.2 (.inl g)
        · exact ih.2 (.inr g)
        · rw [g] at n; exact absurd rfl n
/-- which joinings go through: no id of both has two texts -/
theorem jok_iff {a b : List Pr} (ha : Ris a) (hb : Ris b) : jokTo a b b.length ↔ ∀ k v v', (k, v) ∈ a → (k, v') ∈ b → v = v' := by
  constructor
  · intro h k v v' h1 h2
    have hm := jl_mem ha b.length (Nat.le_refl _) h
    exact (jl_ris (b := b) ha b.length (Nat.le_refl _)).key ((hm _).2 (.inl h1)) ((hm _).2 (.inr (by rw [List.take_length]; exact h2)))
  · intro h
    have : ∀ k, k ≤ b.length → jokTo a b k := by
      intro k
      induction k with
      | zero => exact fun _ => jokTo_zero a b
      | succ k ih =>
        intro hk
        have ih' := ih (by omega)
        refine jokTo_succ (by omega) ih' ((stepOk_iff (jl_ris ha k (by omega))).2 fun v hv => ?_)
        rcases (jl_mem ha k (by omega) ih' _).1 hv with g | g
        · exact h _ _ _ g (List.getElem_mem (by omega))
        · exact hb.key (List.mem_of_mem_take g) (List.getElem_mem (by omega))
    exact this _ (Nat.le_refl _)
end Go.Proofs.Ytblggbihnglipaa
