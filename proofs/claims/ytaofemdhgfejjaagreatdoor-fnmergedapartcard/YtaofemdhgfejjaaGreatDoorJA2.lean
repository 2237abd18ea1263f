/-
  Texts that this proof leans on, joined: part 2.
-/
import Derived.Shelf.SortM.Plain
import Derived.Shelf.SortM.SortNone
import Derived.Shelf.Slices.CompactS
import Derived.Ground.SlgmProg
import Derived.Ground.NamesProg
import Derived.Test.YtaofemdhgfejjaaGreatDoorProg
import Derived.Lib.SlicesCompact
import Derived.Sort.KeysCollected
import Derived.OwnWalk
import Derived.IntWalk
import Derived.BigQuiet
import Derived.Laws.Rows
import Derived.Laws.Tables
import Derived.Maps.AppendAt
import Derived.Deep.Slices
import Derived.Sort.OwnSorted
import Derived.Sort.Grow
import Derived.Lib.OwnBridge
import Derived.Lib.RowBridge
import Derived.Test.YtaofemdhgfejjaaGreatDoorJA1
/-
  Right maps by their pairs: two of the same pairs are one; what is put, what is dropped, what is got. Plain mathematics.
-/
namespace Go.Proofs.YtaofemdhgfejjaaGreatDoor
open Go.RowKit

def Ris (l : List Pr) : Prop := l.Pairwise fun a b => ltB a.1 b.1 = true
theorem ris_iff {l : List Pr} : risesTo l l.length ↔ Ris l := by
  constructor
  · intro h
    unfold Ris
    rw [List.pairwise_iff_getElem]
    intro i j hi hj hij
    exact rises_lt h j hj i hij
  · intro h i hi _
    exact List.pairwise_iff_getElem.1 h i (i + 1) (by omega) hi (by omega)
theorem Ris.ext : ∀ {l l' : List Pr}, Ris l → Ris l' → (∀ p, p ∈ l ↔ p ∈ l') → l = l'
  | [], [], _, _, _ => rfl
  | [], b :: t, _, _, h => absurd ((h b).2 (List.mem_cons_self ..)) (by simp)
  | a :: t, [], _, _, h => absurd ((h a).1 (List.mem_cons_self ..)) (by simp)
  | a :: t, b :: t', h1, h2, h => by
    have h1' := List.pairwise_cons.1 h1
    have h2' := List.pairwise_cons.1 h2
    have hab : a = b := by
      rcases List.mem_cons.1 ((h a).1 (List.mem_cons_self ..)) with e | e
      · exact e
      · rcases List.mem_cons.1 ((h b).2 (List.mem_cons_self ..)) with e' | e'
        · exact e'.symm
        · have x := h2'.1 a e
          have y := h1'.1 b e'
          rw [ltB_asymm x] at y
          cases y
    subst hab
    congr 1
    refine Ris.ext h1'.2 h2'.2 fun p => ⟨fun hp => ?_, fun hp => ?_⟩
    · rcases List.mem_cons.1 ((h p).1 (List.mem_cons_of_mem _ hp)) with e | e
      · subst e; have := h1'.1 p hp; rw [ltB_irrefl] at this; cases this
      · exact e
    · rcases List.mem_cons.1 ((h p).2 (List.mem_cons_of_mem _ hp)) with e | e
      · subst e; have := h2'.1 p hp; rw [ltB_irrefl] at this; cases this
      · exact e
theorem Ris.key {l : List Pr} (h : Ris l) {k v v' : ByteArray} (a : (k, v) ∈ l) (b : (k, v') ∈ l) : v = v' := by
  obtain ⟨i, hi, e⟩ := List.getElem_of_mem a
  obtain ⟨j, hj, e'⟩ := List.getElem_of_mem b
  rcases Nat.lt_trichotomy i j with g | g | g
  · have := List.pairwise_iff_getElem.1 h i j hi hj g
    rw [e, e', ltB_irrefl] at this; cases this
  · subst g; rw [e] at e'; injection e'
  · have := List.pairwise_iff_getElem.1 h j i hj hi g
    rw [e, e', ltB_irrefl] at this; cases this
theorem ne_of_lt {a b : ByteArray} (h : ltB a b = true) : a ≠ b := by rintro rfl; rw [ltB_irrefl] at h; cases h
theorem mem_take {l : List Pr} (h : Ris l) (k : ByteArray) (p : Pr) : p ∈ l.take (atN l k) ↔ p ∈ l ∧ ltB p.1 k = true := by
  constructor
  · intro hp
    obtain ⟨i, hi, e⟩ := List.getElem_of_mem hp
    rw [List.length_take] at hi
    rw [List.getElem_take] at e
    subst e
    exact ⟨List.getElem_mem _, atN_lt l k i (by omega) (by omega)⟩
  · rintro ⟨hp, hlt⟩
    obtain ⟨i, hi, e⟩ := List.getElem_of_mem hp
    subst e
    have hia : i < atN l k := by
      rcases Nat.lt_or_ge i (atN l k) with g | g
      · exact g
      · have hn := atN_not l k (by omega)
        rcases Nat.lt_or_ge (atN l k) i with g' | g'
        · have := List.pairwise_iff_getElem.1 h (atN l k) i (by omega) hi g'
          rw [ltB_trans this hlt] at hn; cases hn
        · obtain rfl : i = atN l k := by omega
          rw [hlt] at hn; cases hn
    have : (l.take (atN l k))[i]'(by rw [List.length_take]; omega) = l[i] := List.getElem_take ..
    rw [← this]
    exact List.getElem_mem _
theorem lt_at {l : List Pr} {k : ByteArray} (hh : hasB l k = false) (h : atN l k < l.length) : ltB k l[atN l k].1 = true := by
  rcases ltB_tri l[atN l k].1 k with g | g | g
  · rw [atN_not l k h] at g; cases g
  · rw [hasB_yes h g] at hh; cases hh
  · exact g
/-- from where on the keys are greater -/
def behind (l : List Pr) (k : ByteArray) : Nat := if hasB l k = true then atN l k + 1 else atN l k
theorem mem_drop {l : List Pr} (h : Ris l) (k : ByteArray) (p : Pr) : p ∈ l.drop (behind l k) ↔ p ∈ l ∧ ltB k p.1 = true := by
  have key : ∀ i (hi : i < l.length), behind l k ≤ i ↔ ltB k l[i].1 = true := by
    intro i hi
    unfold behind
    cases hh : hasB l k
    · simp only [Bool.false_eq_true, if_false]
      constructor
      · intro g
        have h1 := lt_at hh (by omega)
        rcases Nat.lt_or_ge (atN l k) i with g' | g'
        · exact ltB_trans h1 (List.pairwise_iff_getElem.1 h (atN l k) i (by omega) hi g')
        · obtain rfl : i = atN l k := by omega
          exact h1
      · intro g
        rcases Nat.lt_or_ge i (atN l k) with g' | g'
        · have := atN_lt l k i g' hi
          rw [ltB_asymm this] at g; cases g
        · exact g'
    · obtain ⟨hlt, he⟩ := hasB_iff.1 hh
      simp only [if_true]
      constructor
      · intro g
        have := List.pairwise_iff_getElem.1 h (atN l k) i hlt hi (by omega)
        rw [he] at this
        exact this
      · intro g
        rcases Nat.lt_trichotomy i (atN l k) with g' | g' | g'
        · have := atN_lt l k i g' hi
          rw [ltB_asymm this] at g; cases g
        · subst g'
          rw [he, ltB_irrefl] at g; cases g
        · omega
  constructor
  · intro hp
    obtain ⟨i, hi, e⟩ := List.getElem_of_mem hp
    rw [List.length_drop] at hi
    rw [List.getElem_drop] at e
    subst e
    exact ⟨List.getElem_mem _, (key _ (by omega)).1 (by omega)⟩
  · rintro ⟨hp, hlt⟩
    obtain ⟨i, hi, e⟩ := List.getElem_of_mem hp
    subst e
    have hb := (key i hi).2 hlt
    have : (l.drop (behind l k))[i - behind l k]'(by rw [List.length_drop]; omega) = l[i] := by
      rw [List.getElem_drop]
      congr 1
      omega
    rw [← this]
    exact List.getElem_mem _
theorem setL_behind (l : List Pr) (k v : ByteArray) : setL l k v = l.take (atN l k) ++ (k, v) :: l.drop (behind l k) := rfl
theorem mem_set {l : List Pr} (h : Ris l) (k v : ByteArray) (p : Pr) : p ∈ setL l k v ↔ p = (k, v) ∨ (p ∈ l ∧ p.1 ≠ k) := by
  rw [setL_behind, List.mem_append, List.mem_cons, mem_take h, mem_drop h]
  constructor
  · rintro (⟨a, b⟩ | a | ⟨a, b⟩)
    · exact .inr ⟨a, ne_of_lt b⟩
    · exact .inl a
    · exact .inr ⟨a, (ne_of_lt b).symm⟩
  · rintro (a | ⟨a, b⟩)
    · exact .inr (.inl a)
    · rcases ltB_tri p.1 k with g | g | g
      · exact .inl ⟨a, g⟩
      · exact absurd g b
      · exact .inr (.inr ⟨a, g⟩)
theorem ris_set {l : List Pr} (h : Ris l) (k v : ByteArray) : Ris (setL l k v) := by
  unfold Ris
  rw [setL_behind, List.pairwise_append, List.pairwise_cons]
  refine ⟨List.Pairwise.sublist (List.take_sublist _ _) h, ⟨fun p hp => ((mem_drop h k p).1 hp).2, List.Pairwise.sublist (List.drop_sublist _ _) h⟩, fun a ha b hb => ?_⟩
  have h1 := ((mem_take h k a).1 ha).2
  rcases List.mem_cons.1 hb with e | e
  · subst e; exact h1
  · exact ltB_trans h1 ((mem_drop h k b).1 e).2
theorem at_mem {l : List Pr} {k : ByteArray} (hlt : atN l k < l.length) (he : l[atN l k].1 = k) : (k, l[atN l k].2) ∈ l := by
  have e : (k, l[atN l k].2) = l[atN l k] := Prod.ext he.symm rfl
  rw [e]
  exact List.getElem_mem _
theorem has_iff {l : List Pr} (h : Ris l) (k : ByteArray) : hasB l k = true ↔ ∃ v, (k, v) ∈ l := by
  constructor
  · intro hh
    obtain ⟨hlt, he⟩ := hasB_iff.1 hh
    exact ⟨l[atN l k].2, at_mem hlt he⟩
  · rintro ⟨v, hv⟩
    cases hh : hasB l k
    · have e1 : ¬ (k, v) ∈ l.take (atN l k) := fun x => by have := ((mem_take h k (k, v)).1 x).2; rw [ltB_irrefl] at this; cases this
      have e2 : ¬ (k, v) ∈ l.drop (behind l k) := fun x => by have := ((mem_drop h k (k, v)).1 x).2; rw [ltB_irrefl] at this; cases this
      have : behind l k = atN l k := by unfold behind; rw [hh]; rfl
      rw [this] at e2
      rw [← List.take_append_drop (atN l k) l, List.mem_append] at hv
      rcases hv with hv | hv
      · exact absurd hv e1
      · exact absurd hv e2
    · rfl
theorem val_of {l : List Pr} (h : Ris l) {k v : ByteArray} (hv : (k, v) ∈ l) : valOf l k = v := by
  obtain ⟨hlt, he⟩ := hasB_iff.1 ((has_iff h k).2 ⟨v, hv⟩)
  rw [valOf_yes hlt he]
  exact h.key (at_mem hlt he) hv
theorem mem_erase {l : List Pr} (h : Ris l) {k : ByteArray} (hh : hasB l k = true) (p : Pr) : p ∈ l.eraseIdx (atN l k) ↔ p ∈ l ∧ p.1 ≠ k := by
  rw [List.eraseIdx_eq_take_drop_succ, List.mem_append, mem_take h]
  have : atN l k + 1 = behind l k := by unfold behind; rw [hh]; rfl
  rw [this, mem_drop h]
  constructor
  · rintro (⟨a, b⟩ | ⟨a, b⟩)
    · exact ⟨a, ne_of_lt b⟩
    · exact ⟨a, (ne_of_lt b).symm⟩
  · rintro ⟨a, b⟩
    rcases ltB_tri p.1 k with g | g | g
    · exact .inl ⟨a, g⟩
    · exact absurd g b
    · exact .inr ⟨a, g⟩
theorem ris_erase {l : List Pr} (h : Ris l) (i : Nat) : Ris (l.eraseIdx i) := List.Pairwise.sublist (List.eraseIdx_sublist _ _) h
theorem len_set (l : List Pr) (k v : ByteArray) : (setL l k v).length = if hasB l k = true then l.length else l.length + 1 := by
  have hle := atN_le l k
  unfold setL
  rw [List.length_append, List.length_take, List.length_cons, List.length_drop]
  cases hh : hasB l k
  · simp; omega
  · obtain ⟨hlt, _⟩ := hasB_iff.1 hh
    simp; omega
theorem mapB_all {l : List Pr} : mapB l = true ↔ l.length ≤ 40 ∧ (∀ p ∈ l, keyB p.1 = true ∧ valB p.2 = true) ∧ Ris l := by
  rw [mapB_iff]
  constructor
  · rintro ⟨a, b, c⟩
    refine ⟨a, fun p hp => ?_, ris_iff.1 c⟩
    obtain ⟨i, hi, e⟩ := List.getElem_of_mem hp
    subst e
    exact b i hi hi
  · rintro ⟨a, b, c⟩
    exact ⟨a, fun i hi _ => b _ (List.getElem_mem _), ris_iff.2 c⟩
theorem mapB_set {l : List Pr} {k v : ByteArray} (h : mapB l = true) (hk : keyB k = true) (hv : valB v = true) (hl : hasB l k = true ∨ l.length < 40) : mapB (setL l k v) = true := by
  obtain ⟨a, b, c⟩ := mapB_all.1 h
  refine mapB_all.2 ⟨?_, fun p hp => ?_, ris_set c k v⟩
  · rw [len_set]; split
    · exact a
    · rcases hl with g | g
      · rename_i x; exact absurd g x
      · omega
  · rcases (mem_set c k v p).1 hp with e | ⟨e, _⟩
    · subst e; exact ⟨hk, hv⟩
    · exact b p e
/-- what it takes that a put is right -/
theorem putB_iff {l : List Pr} {k v : ByteArray} : putB l k v = true ↔ mapB l = true ∧ keyB k = true ∧ valB v = true ∧ (hasB l k = true ∨ l.length < 40) := by
  constructor
  · intro h
    have h1 : mapB l = true := by
      cases e : mapB l
      · rw [putB_no e] at h; cases h
      · rfl
    have h2 : mapB (setL l k v) = true := by
      cases e : mapB (setL l k v)
      · rw [putB_no2 e] at h; cases h
      · rfl
    obtain ⟨a, b, c⟩ := mapB_all.1 h2
    have hc := (mapB_all.1 h1).2.2
    have hm := b (k, v) ((mem_set hc k v _).2 (.inl rfl))
    refine ⟨h1, hm.1, hm.2, ?_⟩
    rw [len_set] at a
    cases hh : hasB l k
    · rw [hh] at a; simp at a; exact .inr (by omega)
    · exact .inl rfl
  · rintro ⟨h1, h2, h3, h4⟩
    exact putB_yes h1 (mapB_set h1 h2 h3 h4)
theorem has_set {l : List Pr} (h : Ris l) (k v k' : ByteArray) : hasB (setL l k v) k' = true ↔ k' = k ∨ hasB l k' = true := by
  rw [has_iff (ris_set h k v), has_iff h]
  constructor
  · rintro ⟨x, hx⟩
    rcases (mem_set h k v _).1 hx with e | ⟨e, _⟩
    · injection e with e1 e2; exact .inl e1
    · exact .inr ⟨x, e⟩
  · rintro (e | ⟨x, hx⟩)
    · subst e; exact ⟨v, (mem_set h _ v _).2 (.inl rfl)⟩
    · by_cases e : k' = k
      · subst e; exact ⟨v, (mem_set h _ v _).2 (.inl rfl)⟩
      · exact ⟨x, (mem_set h k v _).2 (.inr ⟨hx, e⟩)⟩
theorem set_set {l : List Pr} (h : Ris l) (k v v' : ByteArray) : setL (setL l k v') k v = setL l k v := by
  refine Ris.ext (ris_set (ris_set h k v') k v) (ris_set h k v) fun p => ?_
  rw [mem_set (ris_set h k v'), mem_set h, mem_set h]
  constructor
  · rintro (e | ⟨e | ⟨e, _⟩, n⟩)
    · exact .inl e
    · subst e; exact absurd rfl n
    · exact .inr ⟨e, n⟩
  · rintro (e | ⟨e, n⟩)
    · exact .inl e
    · exact .inr ⟨.inr ⟨e, n⟩, n⟩
theorem set_swap {l : List Pr} (h : Ris l) {k k' : ByteArray} (v v' : ByteArray) (hne : k ≠ k') : setL (setL l k v) k' v' = setL (setL l k' v') k v := by
  refine Ris.ext (ris_set (ris_set h k v) k' v') (ris_set (ris_set h k' v') k v) fun p => ?_
  rw [mem_set (ris_set h k v), mem_set h, mem_set (ris_set h k' v'), mem_set h]
  constructor
  · rintro (e | ⟨e | ⟨e, n⟩, n'⟩)
    · subst e; exact .inr ⟨.inl rfl, hne.symm⟩
    · exact .inl e
    · exact .inr ⟨.inr ⟨e, n'⟩, n⟩
  · rintro (e | ⟨e | ⟨e, n⟩, n'⟩)
    · subst e; exact .inr ⟨.inl rfl, hne⟩
    · exact .inl e
    · exact .inr ⟨.inr ⟨e, n'⟩, n⟩
theorem erase_set {l : List Pr} (h : Ris l) {k : ByteArray} (v : ByteArray) (hh : hasB l k = false) : (setL l k v).eraseIdx (atN (setL l k v) k) = l := by
  have hs : hasB (setL l k v) k = true := (has_set h k v k).2 (.inl rfl)
  refine Ris.ext (ris_erase (ris_set h k v) _) h fun p => ?_
  rw [mem_erase (ris_set h k v) hs, mem_set h]
  constructor
  · rintro ⟨e | ⟨e, _⟩, n⟩
    · subst e; exact absurd rfl n
    · exact e
  · intro e
    have n : p.1 ≠ k := by
      intro x
      have : hasB l k = true := (has_iff h k).2 ⟨p.2, by rw [← x]; exact e⟩
      rw [hh] at this; cases this
    exact ⟨.inr ⟨e, n⟩, n⟩
theorem set_erase {l : List Pr} (h : Ris l) {k : ByteArray} (hh : hasB l k = true) : setL (l.eraseIdx (atN l k)) k (valOf l k) = l := by
  obtain ⟨v, hv⟩ := (has_iff h k).1 hh
  rw [val_of h hv]
  refine Ris.ext (ris_set (ris_erase h _) k v) h fun p => ?_
  rw [mem_set (ris_erase h _), mem_erase h hh]
  constructor
  · rintro (e | ⟨⟨e, _⟩, _⟩)
    · subst e; exact hv
    · exact e
  · intro e
    by_cases n : p.1 = k
    · left
      have : (k, p.2) ∈ l := by rw [← n]; exact e
      have := h.key this hv
      exact Prod.ext n this
    · exact .inr ⟨⟨e, n⟩, n⟩
theorem has_erase {l : List Pr} (h : Ris l) {k : ByteArray} (hh : hasB l k = true) (k' : ByteArray) : hasB (l.eraseIdx (atN l k)) k' = true ↔ k' ≠ k ∧ hasB l k' = true := by
  rw [has_iff (ris_erase h _), has_iff h]
  constructor
  · rintro ⟨x, hx⟩
    have := (mem_erase h hh _).1 hx
    exact ⟨this.2, x, this.1⟩
  · rintro ⟨n, x, hx⟩
    exact ⟨x, (mem_erase h hh _).2 ⟨hx, n⟩⟩
theorem mapB_erase {l : List Pr} (h : mapB l = true) (i : Nat) : mapB (l.eraseIdx i) = true := by
  obtain ⟨a, b, c⟩ := mapB_all.1 h
  refine mapB_all.2 ⟨?_, fun p hp => b p (List.mem_of_mem_eraseIdx hp), ris_erase c i⟩
  rw [List.length_eraseIdx]; split <;> omega
end Go.Proofs.YtaofemdhgfejjaaGreatDoor
/-
  What is drawn for the laws on mergers: right maps.
-/
namespace Go.Proofs.YtaofemdhgfejjaaGreatDoor
open Go.RowKit

/-- a drawn map, which is right -/
def RdM (rb : Nat) (w : World) (e : Ending) (w' : World) : Prop := ∃ A cap l, l.length ≤ cap ∧ l.length ≤ 40 ∧ mapB l = true ∧ e = .returned (.slice A l.length cap) ∧ Own w' (rb + 1) A cap l ∧ Rd w' rb ∧ w.grownBy w' (some rb)
theorem mapB_nil : mapB [] = true := mapB_yes (by simp) ⟨fun _ h => absurd h (by simp), fun _ h => absurd h (by simp)⟩
theorem putB_map {l : List Pr} {k v : ByteArray} (h : putB l k v = true) : mapB (putL l k v) = true := by
  rw [putL_yes h]
  unfold putB at h
  rw [Bool.and_eq_true] at h
  exact h.2
theorem getB_map {l : List Pr} {k : ByteArray} (h : getB l k = true) : mapB (dropL l k) = true := by
  rw [dropL_yes h]
  refine mapB_erase ?_ _
  cases e : mapB l
  · rw [getB_no e] at h; cases h
  · rfl
set_option maxRecDepth 100000 in
set_option maxHeartbeats 1000000 in
theorem pairsM_any (rb : Nat) (most : Int) (w : World) (h : Rd w rb) (h0 : 0 ≤ most) (h1 : most ≤ 100) :
    Calls Tryz.prog 23 #[.pointer (some ⟨rb, 0, none⟩), .int .i64 most] w (RdM rb w) := by
  have hlt := h.lt
  have O0 := hide (Own.built w (rb + 1) hlt)
  have r0 := h.below ((Below.refl _ w).alloc (Nat.le_refl _) (.cells #[] 60))
  clear h
  go_enter Tryz.func23, Tryz.ntmps23
  go_wp2_with fail
  refine (below_any rb (most + 1) _ r0 (by omega) (by omega)).mono ?_
  rintro e w1 ⟨x, hx0, hx1, rfl, r1, g1⟩
  obtain ⟨k0, rfl⟩ := Int.eq_ofNat_of_zero_le hx0
  have O1 := hide (O0.out.rd g1)
  have R1 := hide r1
  have G1 := hide (World.grownBy.trans (World.grownBy_alloc w _ _) g1)
  clear r0 r1 g1 O0
  go_wp2
  go_loopw [5, 6] (fun m i wr => ∃ (k : Nat) (A : Option Addr) (cap : Nat) (l : List Pr), k ≤ k0 ∧ i = .int .i64 k ∧ m = .slice A l.length cap ∧ l.length ≤ 40 ∧ Hid (mapB l = true) ∧ Hid (Own wr (rb + 1) A cap l) ∧ Hid (Rd wr rb) ∧ Hid (w.grownBy wr (some rb))) (fun _ i _ => (intOf i).toNat)
  case atStart => exact ⟨k0, _, 0, [], Nat.le_refl _, rfl, rfl, by simp, hide mapB_nil, O1, R1, G1⟩
  case round =>
    clear O1 R1 G1
    obtain ⟨k, A, cap, l, hk, rfl, rfl, hl, MB, O, R, G⟩ := hrel
    by_cases hk0 : 0 < k
    · have hrl := R.out.lt
      go_wp2_with fail
      refine (key_any rb wr R.out).mono ?_
      rintro e w2 ⟨s, hs, _, rfl, r2, g2⟩
      have O2 := hide (O.out.rd g2)
      have G2 := hide (World.grownBy.trans G.out g2)
      clear g2 O R G
      go_wp2_with fail
      refine (val_any rb w2 r2).mono ?_
      rintro e w3 ⟨v, hv, _, rfl, r3, g3⟩
      have O3 := hide (O2.out.rd g3)
      have R3 := hide r3
      have G3 := hide (World.grownBy.trans G2.out g3)
      clear g3 O2 G2 r2 r3
      go_wp2_with fail
      refine (specPut_any A l cap s v w3 (by unfold maxLen; omega) O3.out.cap_le O3.out.pin (by unfold maxLen; omega) (by unfold maxLen; omega)).mono ?_
      rintro e w4 ⟨A4, cap4, hc4, rfl, own4, b4⟩
      have O4 := hide (own4.more (B' := rb + 1) R3.out.lt)
      have O4' := hide (O3.out.below b4)
      have R4 := hide (R3.out.below b4)
      have G4 := hide (World.grownBy.trans G3.out (grown_of_below b4))
      have hpl := putL_len l s v
      clear own4 b4 O3 R3 G3
      cases hb : putB l s v
      · go_wp2
        go_roundw
        case rel => exact ⟨k - 1, A, cap, l, by omega, by go_num, rfl, hl, MB, O4', R4, G4⟩
        case measure => simp [intOf]; omega
      · go_wp2
        go_roundw
        case rel => exact ⟨k - 1, A4, cap4, putL l s v, by omega, by go_num, rfl, hpl, hide (putB_map hb), O4, R4, G4⟩
        case measure => simp [intOf]; omega
    · go_wp2
      go_ret
      exact ⟨A, cap, l, O.out.cap_le, hl, MB.out, rfl, O.out, R.out, G.out⟩

set_option maxRecDepth 100000 in
set_option maxHeartbeats 2000000 in
theorem turned_any (rb : Nat) (A : Option Addr) (l : List Pr) (cap : Nat) (w : World) (h : Rd w rb) (hl : l.length ≤ 40) (hmb : mapB l = true) (hown : Own w (rb + 1) A cap l) :
    Calls Tryz.prog 24 #[.pointer (some ⟨rb, 0, none⟩), .slice A l.length cap] w (RdM rb w) := by
  have O0 := hide hown
  have M0 := hide hmb
  clear hown hmb
  go_enter Tryz.func24, Tryz.ntmps24
  go_wp2_with fail
  refine (below_any rb 3 _ h (by omega) (by omega)).mono ?_
  rintro e w1 ⟨x, hx0, hx1, rfl, r1, g1⟩
  obtain ⟨k0, rfl⟩ := Int.eq_ofNat_of_zero_le hx0
  have O1 := hide (O0.out.rd g1)
  have R1 := hide r1
  have G1 := hide g1
  clear h r1 g1 O0
  go_wp2
  go_loopw [1, 5] (fun m i wr => ∃ (k : Nat) (A : Option Addr) (cap : Nat) (l : List Pr), k ≤ k0 ∧ i = .int .i64 k ∧ m = .slice A l.length cap ∧ l.length ≤ 40 ∧ Hid (mapB l = true) ∧ Hid (Own wr (rb + 1) A cap l) ∧ Hid (Rd wr rb) ∧ Hid (w.grownBy wr (some rb))) (fun _ i _ => (intOf i).toNat)
  case atStart => exact ⟨k0, A, cap, l, Nat.le_refl _, rfl, rfl, hl, M0, O1, R1, G1⟩
  case round =>
    clear O1 R1 G1 hl M0
    obtain ⟨k, A, cap, l, hk, rfl, rfl, hl, MB, O, R, G⟩ := hrel
    by_cases hk0 : 0 < k
    · have hrl := R.out.lt
      go_wp2_with fail
      refine (key_any rb wr R.out).mono ?_
      rintro e w2 ⟨s, hs, _, rfl, r2, g2⟩
      have O2 := hide (O.out.rd g2)
      have G2 := hide (World.grownBy.trans G.out g2)
      clear g2 O R G
      go_wp2_with fail
      refine (val_any rb w2 r2).mono ?_
      rintro e w3 ⟨v, hv, _, rfl, r3, g3⟩
      have O3 := hide (O2.out.rd g3)
      have R3 := hide r3
      have G3 := hide (World.grownBy.trans G2.out g3)
      clear g3 O2 G2 r2 r3
      go_wp2_with fail
      refine (specPut_any A l cap s v w3 (by unfold maxLen; omega) O3.out.cap_le O3.out.pin (by unfold maxLen; omega) (by unfold maxLen; omega)).mono ?_
      rintro e w4 ⟨A4, cap4, hc4, rfl, own4, b4⟩
      have O4 := hide (own4.more (B' := rb + 1) R3.out.lt)
      have O4' := hide (O3.out.below b4)
      have R4 := hide (R3.out.below b4)
      have G4 := hide (World.grownBy.trans G3.out (grown_of_below b4))
      have hpl := putL_len l s v
      clear own4 b4 O3 R3 G3
      go_wp2_with fail
      refine (once_any rb 3 w4 R4.out (by omega) (by omega)).mono ?_
      rintro e w5 ⟨x, rfl, r5, g5⟩
      have O5 := hide (O4.out.rd g5)
      have O5' := hide (O4'.out.rd g5)
      have R5 := hide r5
      have G5 := hide (World.grownBy.trans G4.out g5)
      clear g5 r5 O4 O4' R4 G4
      cases x
      · cases hb : putB l s v
        · go_wp2
          exact ⟨⟨k - 1, A, cap, l, by omega, by go_num, rfl, hl, MB, O5', R5, G5⟩, by simp [intOf]; omega⟩
        · go_wp2
          exact ⟨⟨k - 1, A4, cap4, putL l s v, by omega, by go_num, rfl, hpl, hide (putB_map hb), O5, R5, G5⟩, by simp [intOf]; omega⟩
      · go_wp2_with fail
        refine (key_any rb w5 R5.out).mono ?_
        rintro e w6 ⟨s', hs', _, rfl, r6, g6⟩
        have O6 := hide (O5'.out.rd g6)
        have R6 := hide r6
        have G6 := hide (World.grownBy.trans G5.out g6)
        clear g6 O5 O5' R5 G5 r6
        go_wp2_with fail
        refine (specDrop_any A l cap s' w6 (by unfold maxLen; omega) O6.out.cap_le O6.out.pin).mono ?_
        rintro e w7 ⟨A7, cap7, hc7, rfl, own7, b7⟩
        have O7 := hide (own7.more (B' := rb + 1) R6.out.lt)
        have O7' := hide (O6.out.below b7)
        have R7 := hide (R6.out.below b7)
        have G7 := hide (World.grownBy.trans G6.out (grown_of_below b7))
        have hdl := dropL_len l s'
        clear own7 b7 O6 R6 G6
        cases hb : getB l s'
        · go_wp2
          exact ⟨⟨k - 1, A, cap, l, by omega, by go_num, rfl, hl, MB, O7', R7, G7⟩, by simp [intOf]; omega⟩
        · go_wp2
          exact ⟨⟨k - 1, A7, cap7, dropL l s', by omega, by go_num, rfl, hdl, hide (getB_map hb), O7, R7, G7⟩, by simp [intOf]; omega⟩
    · go_wp2
      go_ret
      exact ⟨A, cap, l, O.out.cap_le, hl, MB.out, rfl, O.out, R.out, G.out⟩

/-- three drawn maps, all right, in rows of the call's own -/
def Drawn3 (w : World) (A0 : Option Addr) (c0 : Nat) (l0 : List Pr) (A1 : Option Addr) (c1 : Nat) (l1 : List Pr) (A2 : Option Addr) (c2 : Nat) (l2 : List Pr) (w' : World) : Prop :=
  l0.length ≤ c0 ∧ l1.length ≤ c1 ∧ l2.length ≤ c2 ∧ mapB l0 = true ∧ mapB l1 = true ∧ mapB l2 = true ∧ Own w' w.heap.size A0 c0 l0 ∧ Own w' w.heap.size A1 c1 l1 ∧ Own w' w.heap.size A2 c2 l2 ∧ Below w.heap.size w w'

set_option maxRecDepth 100000 in
set_option maxHeartbeats 1000000 in
theorem drawMerged_any (A : Option Addr) (n cap : Nat) (w : World) (hn : n ≤ 1048576) (hin : CIn w w.heap.size A n) :
    Calls Tryz.prog 8 #[.slice A n cap] w fun e w' => ∃ A0 c0 l0 A1 c1 l1 A2 c2 l2, e = .returned (.tuple #[.slice A0 l0.length c0, .slice A1 l1.length c1, .slice A2 l2.length c2]) ∧ Drawn3 w A0 c0 l0 A1 c1 l1 A2 c2 l2 w' := by
  go_enter Tryz.func8, Tryz.ntmps8
  go_wp2_with fail
  refine (l1Open_any A n cap w hn hin).mono ?_
  rintro e w1 ⟨rfl, r1, b1⟩
  have B1 := hide b1
  clear b1 hin
  go_wp2_with fail
  refine (pairsM_any w.heap.size 6 w1 r1 (by omega) (by omega)).mono ?_
  rintro e w2 ⟨A0, c0, l0, hc0, hl0, mb0, rfl, own0, r2, g2⟩
  have M0 := hide mb0
  have B2 := hide (B1.out.trans (grown_below g2 B1.out.size))
  have O2 := hide own0
  clear own0 g2 r1 B1 mb0
  go_wp2_with fail
  refine (turned_any w.heap.size A0 l0 c0 w2 r2 hl0 M0.out O2.out).mono ?_
  rintro e w3 ⟨A3, c3, l3, hc3, hl3, mb3, rfl, own3, r3, g3⟩
  have M3 := hide mb3
  have B3 := hide (B2.out.trans (grown_below g3 B2.out.size))
  have O3 := hide (O2.out.rd g3)
  have P3 := hide own3
  clear own3 g3 r2 B2 O2 mb3
  go_wp2_with fail
  refine (turned_any w.heap.size A3 l3 c3 w3 r3 hl3 M3.out P3.out).mono ?_
  rintro e w4 ⟨A1, c1, l1, hc1, hl1, mb1, rfl, own1, r4, g4⟩
  have M1 := hide mb1
  have B4 := hide (B3.out.trans (grown_below g4 B3.out.size))
  have O4 := hide (O3.out.rd g4)
  have P4 := hide own1
  clear own1 g4 r3 B3 O3 mb1 P3 M3
  go_wp2_with fail
  refine (turned_any w.heap.size A0 l0 c0 w4 r4 hl0 M0.out O4.out).mono ?_
  rintro e w5 ⟨A5, c5, l5, hc5, hl5, mb5, rfl, own5, r5, g5⟩
  have M5 := hide mb5
  have B5 := hide (B4.out.trans (grown_below g5 B4.out.size))
  have O5 := hide (O4.out.rd g5)
  have P5 := hide (P4.out.rd g5)
  have S5 := hide own5
  clear own5 g5 r4 B4 O4 P4 mb5
  go_wp2_with fail
  refine (turned_any w.heap.size A5 l5 c5 w5 r5 hl5 M5.out S5.out).mono ?_
  rintro e w6 ⟨A2, c2, l2, hc2, hl2, mb2, rfl, own2, r6, g6⟩
  have M2 := hide mb2
  have B6 := hide (B5.out.trans (grown_below g6 B5.out.size))
  have O6 := hide (O5.out.rd g6)
  have P6 := hide (P5.out.rd g6)
  have S6 := hide own2
  clear own2 g6 r5 B5 O5 P5 mb2 S5 M5 r6
  go_wp2
  go_ret3
  exact ⟨A0, c0, l0, A1, c1, l1, A2, c2, l2, rfl, hc0, hc1, hc2, M0.out, M1.out, M2.out, O6.out.more (by omega), P6.out.more (by omega), S6.out.more (by omega), B6.out⟩
end Go.Proofs.YtaofemdhgfejjaaGreatDoor
/-
  DERIVED: THE SHELF's CONTRACTS AT THIS DUMP, IN PLAIN WORDS (tools/lay-plain.mjs out of 'YtaofemdhgfejjaaGreatDoorSLay.lean', which tools/lay-shelf.mjs wrote): THE SAME DECLARATIONS UNDER THE SAME NAMES: 'import', 'namespace', 'open', 'def', 'theorem' AND NOTHING ELSE: no command of the shelf's: FOR A HAND-IN. Each laying: the table of numbers ('.._ren') and one theorem, a field a fact of the dump's own or the kernel's comparison; each contract: ONE APPLICATION.
-/
namespace Go.Proofs
open Go.Shelf
def Tryz.sort73_ren : Go.Shelf.Ren := ⟨fun | 6 => 73 | 8 => 84 | 9 => 83 | 19 => 97 | 20 => 98 | 21 => 88 | 22 => 89 | 23 => 90 | 24 => 91 | 25 => 92 | 26 => 93 | 27 => 94 | 28 => 95 | 29 => 96 | 36 => 99 | 31 => 100 | 32 => 101 | 37 => 102 | 38 => 103 | 39 => 104 | 41 => 105 | n => n, fun | 27 => 27 | 29 => 9 | 3 => 3 | 32 => 152 | 26 => 27 | 0 => 0 | 44 => 171 | 46 => 153 | 4 => 4 | 36 => 164 | 35 => 163 | 41 => 61 | 5 => 5 | 9 => 9 | 53 => 173 | 57 => 176 | 63 => 178 | 64 => 179 | n => n, fun | n => n⟩
theorem Tryz.sort73 : Go.Proofs.SlLaysM.n6 Tryz.prog Tryz.sort73_ren := {
  mixed := by kernel_rfl
  f6 := ⟨Tryz.f73.name, by decide, Tryz.func73.trans (congrArg some (by kernel_rfl))⟩
  f8 := Tryz.func84.trans (congrArg some (by kernel_rfl))
  f9 := ⟨Tryz.f83.name, by decide, Tryz.func83.trans (congrArg some (by kernel_rfl))⟩
  f19 := Tryz.func97.trans (congrArg some (by kernel_rfl))
  f20 := Tryz.func98.trans (congrArg some (by kernel_rfl))
  f21 := ⟨Tryz.f88.name, by decide, Tryz.func88.trans (congrArg some (by kernel_rfl))⟩
  f22 := ⟨Tryz.f89.name, by decide, Tryz.func89.trans (congrArg some (by kernel_rfl))⟩
  f23 := ⟨Tryz.f90.name, by decide, Tryz.func90.trans (congrArg some (by kernel_rfl))⟩
  f24 := ⟨Tryz.f91.name, by decide, Tryz.func91.trans (congrArg some (by kernel_rfl))⟩
  f25 := ⟨Tryz.f92.name, by decide, Tryz.func92.trans (congrArg some (by kernel_rfl))⟩
  f26 := ⟨Tryz.f93.name, by decide, Tryz.func93.trans (congrArg some (by kernel_rfl))⟩
  f27 := ⟨Tryz.f94.name, by decide, Tryz.func94.trans (congrArg some (by kernel_rfl))⟩
  f28 := ⟨Tryz.f95.name, by decide, Tryz.func95.trans (congrArg some (by kernel_rfl))⟩
  f29 := ⟨Tryz.f96.name, by decide, Tryz.func96.trans (congrArg some (by kernel_rfl))⟩
  f31 := Tryz.func100.trans (congrArg some (by kernel_rfl))
  f32 := Tryz.func101.trans (congrArg some (by kernel_rfl))
  f36 := ⟨Tryz.f99.name, by decide, Tryz.func99.trans (congrArg some (by kernel_rfl))⟩
  f37 := ⟨Tryz.f102.name, by decide, Tryz.func102.trans (congrArg some (by kernel_rfl))⟩
  f38 := ⟨Tryz.f103.name, by decide, Tryz.func103.trans (congrArg some (by kernel_rfl))⟩
  f39 := ⟨Tryz.f104.name, by decide, Tryz.func104.trans (congrArg some (by kernel_rfl))⟩
  f41 := ⟨Tryz.f105.name, by decide, Tryz.func105.trans (congrArg some (by kernel_rfl))⟩
  t0 := Tryz.underlying0
  a0 := Tryz.isAgg0
  z0 := Tryz.sizeOf0
  v0 := Tryz.zeroValue0
  t3 := Tryz.underlying3
  a3 := Tryz.isAgg3
  z3 := Tryz.sizeOf3
  v3 := Tryz.zeroValue3
  t4 := Tryz.underlying4
  a4 := Tryz.isAgg4
  z4 := Tryz.sizeOf4
  v4 := Tryz.zeroValue4
  t5 := Tryz.underlying5
  a5 := Tryz.isAgg5
  z5 := Tryz.sizeOf5
  v5 := Tryz.zeroValue5
  t9 := Tryz.underlying9
  a9 := Tryz.isAgg9
  z9 := Tryz.sizeOf9
  v9 := Tryz.zeroValue9
  t26 := Tryz.underlying27
  a26 := Tryz.isAgg27
  z26 := Tryz.sizeOf27
  v26 := Tryz.zeroValue27
  t27 := Tryz.underlying27
  a27 := Tryz.isAgg27
  z27 := Tryz.sizeOf27
  v27 := Tryz.zeroValue27
  t29 := Tryz.underlying9
  a29 := Tryz.isAgg9
  z29 := Tryz.sizeOf9
  v29 := Tryz.zeroValue9
  t32 := Tryz.underlying152
  a32 := Tryz.isAgg152
  z32 := Tryz.sizeOf152
  v32 := Tryz.zeroValue152
  t35 := Tryz.underlying163
  a35 := Tryz.isAgg163
  z35 := Tryz.sizeOf163
  v35 := Tryz.zeroValue163
  t36 := Tryz.underlying164
  a36 := Tryz.isAgg164
  z36 := Tryz.sizeOf164
  v36 := Tryz.zeroValue164
  t41 := Tryz.underlying61
  a41 := Tryz.isAgg61
  z41 := Tryz.sizeOf61
  v41 := Tryz.zeroValue61
  t44 := Tryz.underlying171
  a44 := Tryz.isAgg171
  z44 := Tryz.sizeOf171
  v44 := Tryz.zeroValue171
  t46 := Tryz.underlying153
  a46 := Tryz.isAgg153
  z46 := Tryz.sizeOf153
  v46 := Tryz.zeroValue153
  t53 := Tryz.underlying173
  a53 := Tryz.isAgg173
  z53 := Tryz.sizeOf173
  v53 := Tryz.zeroValue173
  t57 := Tryz.underlying176
  a57 := Tryz.isAgg176
  z57 := Tryz.sizeOf176
  v57 := Tryz.zeroValue176
  t63 := Tryz.underlying178
  a63 := Tryz.isAgg178
  z63 := Tryz.sizeOf178
  v63 := Tryz.zeroValue178
  t64 := Tryz.underlying179
  a64 := Tryz.isAgg179
  z64 := Tryz.sizeOf179
  v64 := Tryz.zeroValue179 }
def Tryz.compact74_ren : Go.Shelf.Ren := ⟨fun | 194 => 74 | n => n, fun | 31 => 27 | 9 => 9 | 3 => 3 | 4 => 4 | 0 => 0 | n => n, fun | n => n⟩
theorem Tryz.compact74 : Go.Proofs.Lays.n194 Tryz.prog Tryz.compact74_ren := {
  mixed := by kernel_rfl
  f194 := Tryz.func74.trans (congrArg some (by kernel_rfl))
  t0 := Tryz.underlying0
  a0 := Tryz.isAgg0
  z0 := Tryz.sizeOf0
  v0 := Tryz.zeroValue0
  t3 := Tryz.underlying3
  a3 := Tryz.isAgg3
  z3 := Tryz.sizeOf3
  v3 := Tryz.zeroValue3
  t4 := Tryz.underlying4
  a4 := Tryz.isAgg4
  z4 := Tryz.sizeOf4
  v4 := Tryz.zeroValue4
  t9 := Tryz.underlying9
  a9 := Tryz.isAgg9
  z9 := Tryz.sizeOf9
  v9 := Tryz.zeroValue9
  t31 := Tryz.underlying27
  a31 := Tryz.isAgg27
  z31 := Tryz.sizeOf27
  v31 := Tryz.zeroValue27 }
end Go.Proofs
/-
  Rising texts: two of the same members are one; one more. Plain mathematics.
-/
namespace Go.Proofs.YtaofemdhgfejjaaGreatDoor
open Go.RowKit

/-- rising texts -/
def RisK (l : List ByteArray) : Prop := l.Pairwise fun a b => ltB a b = true
theorem RisK.ext : ∀ {l l' : List ByteArray}, RisK l → RisK l' → (∀ p, p ∈ l ↔ p ∈ l') → l = l'
  | [], [], _, _, _ => rfl
  | [], b :: t, _, _, h => absurd ((h b).2 (List.mem_cons_self ..)) (by simp)
  | a :: s, [], _, _, h => absurd ((h a).1 (List.mem_cons_self ..)) (by simp)
  | a :: s, b :: t, ha, hb, h => by
    have ha' := List.pairwise_cons.1 ha
    have hb' := List.pairwise_cons.1 hb
    have e : a = b := by
      rcases List.mem_cons.1 ((h a).1 (List.mem_cons_self ..)) with e | m
      · exact e
      · rcases List.mem_cons.1 ((h b).2 (List.mem_cons_self ..)) with e | m'
        · exact e.symm
        · have h1 := hb'.1 a m
          have h2 := ha'.1 b m'
          rw [ltB_asymm h1] at h2
          cases h2
    subst e
    congr 1
    refine RisK.ext ha'.2 hb'.2 fun p => ?_
    constructor
    · intro hp
      rcases List.mem_cons.1 ((h p).1 (List.mem_cons_of_mem _ hp)) with e | m
      · have := ha'.1 p hp
        rw [e, ltB_irrefl] at this
        cases this
      · exact m
    · intro hp
      rcases List.mem_cons.1 ((h p).2 (List.mem_cons_of_mem _ hp)) with e | m
      · have := hb'.1 p hp
        rw [e, ltB_irrefl] at this
        cases this
      · exact m
/-- a rising list with one more -/
def putK : List ByteArray → ByteArray → List ByteArray
  | [], s => [s]
  | x :: r, s => if ltB x s = true then x :: putK r s else if x = s then x :: r else s :: x :: r
theorem mem_putK : ∀ (l : List ByteArray) (s t : ByteArray), t ∈ putK l s ↔ t ∈ l ∨ t = s
  | [], s, t => by simp [putK]
  | x :: r, s, t => by
    unfold putK
    split
    · rw [List.mem_cons, List.mem_cons, mem_putK r s t]
      constructor
      · rintro (h | h | h)
        · exact .inl (.inl h)
        · exact .inl (.inr h)
        · exact .inr h
      · rintro ((h | h) | h)
        · exact .inl h
        · exact .inr (.inl h)
        · exact .inr (.inr h)
    · split
      next e => subst e; simp; intro h; exact .inl h
      next => simp [or_comm, or_left_comm]
theorem risK_put : ∀ {l : List ByteArray}, RisK l → ∀ s, RisK (putK l s)
  | [], _, s => List.pairwise_cons.2 ⟨fun _ h => absurd h (by simp), List.Pairwise.nil⟩
  | x :: r, h, s => by
    have h' := List.pairwise_cons.1 h
    unfold putK
    split
    next e =>
      refine List.pairwise_cons.2 ⟨fun t ht => ?_, risK_put h'.2 s⟩
      rcases (mem_putK r s t).1 ht with m | rfl
      · exact h'.1 t m
      · exact e
    next e =>
      split
      · exact h
      next ne =>
        have hlt : ltB s x = true := by
          rcases ltB_tri x s with g | g | g
          · exact absurd g e
          · exact absurd g ne
          · exact g
        refine List.pairwise_cons.2 ⟨fun t ht => ?_, h⟩
        rcases List.mem_cons.1 ht with rfl | m
        · exact hlt
        · exact ltB_trans hlt (h'.1 t m)
/-- found by what stands ahead of the place -/
theorem putK_there : ∀ (l : List ByteArray) (s : ByteArray) (k : Nat) (h : k < l.length), (∀ i (hi : i < l.length), i < k → ltB l[i] s = true) → l[k] = s → putK l s = l
  | x :: r, s, 0, _, _, he => by
    have he : x = s := he
    subst he
    unfold putK
    rw [ltB_irrefl]
    simp
  | x :: r, s, k + 1, h, hl, he => by
    have h0 : ltB x s = true := hl 0 (by simp) (by omega)
    unfold putK
    rw [if_pos h0, putK_there r s k (by simpa using h) (fun i hi hik => hl (i + 1) (by simpa using hi) (by omega)) (by simpa using he)]
theorem putK_new : ∀ (l : List ByteArray) (s : ByteArray) (k : Nat), k ≤ l.length → (∀ i (hi : i < l.length), i < k → ltB l[i] s = true) → (∀ (h : k < l.length), ltB l[k] s = false ∧ ¬ l[k] = s) → putK l s = l.take k ++ s :: l.drop k
  | [], s, k, hk, _, _ => by
    have : k = 0 := by simpa using hk
    subst this
    rfl
  | x :: r, s, 0, _, _, hn => by
    obtain ⟨h1, h2⟩ := hn (by simp)
    have h1 : ltB x s = false := h1
    have h2 : ¬ x = s := h2
    unfold putK
    rw [h1, if_neg (by simp), if_neg h2]
    rfl
  | x :: r, s, k + 1, hk, hl, hn => by
    have h0 : ltB x s = true := hl 0 (by simp) (by omega)
    unfold putK
    rw [if_pos h0, putK_new r s k (by simpa using hk) (fun i hi hik => hl (i + 1) (by simpa using hi) (by omega)) (fun h => hn (by simpa using h))]
    rfl
end Go.Proofs.YtaofemdhgfejjaaGreatDoor
/-
  Texts sorted, each once: the rising list of the same members. Plain mathematics.
-/
namespace Go.Proofs.YtaofemdhgfejjaaGreatDoor
open Go.RowKit Go.Lib

theorem le_of_ltL : ∀ {x y : List UInt8}, Op.bytesLess x y = true → x ≤ y
  | _, [], h => by simp [Op.bytesLess] at h
  | [], _ :: _, _ => List.nil_le _
  | a :: x, b :: y, h => by
    simp only [Op.bytesLess, Bool.or_eq_true, Bool.and_eq_true, decide_eq_true_eq, beq_iff_eq] at h
    rw [List.cons_le_cons_iff]
    rcases h with h | ⟨h, h'⟩
    · exact .inl h
    · exact .inr ⟨h, le_of_ltL h'⟩
theorem ofL_toL (x : List UInt8) : (ByteArray.mk x.toArray).toList = x := by rw [Go.ByteArray.toList_eq]
theorem lt_of_le_ne {x y : List UInt8} (h : x ≤ y) (hne : x ≠ y) : ltB (ByteArray.mk x.toArray) (ByteArray.mk y.toArray) = true := by
  rcases ltB_tri (ByteArray.mk x.toArray) (ByteArray.mk y.toArray) with g | g | g
  · exact g
  · have e : (ByteArray.mk x.toArray).toList = (ByteArray.mk y.toArray).toList := by rw [g]
    rw [ofL_toL, ofL_toL] at e
    exact absurd e hne
  · unfold ltB at g
    rw [ofL_toL, ofL_toL] at g
    exact absurd (List.le_antisymm h (le_of_ltL g)) hne
theorem kept_first (d : Array (List UInt8)) (x : List UInt8) : ∀ i, d[i]! = x → ∃ j, j ≤ i ∧ keeps d j = true ∧ d[j]! = x
  | 0, h => ⟨0, Nat.le_refl _, by simp [keeps], h⟩
  | i + 1, h => by
    by_cases e : d[i + 1]! = d[i]!
    · obtain ⟨j, h1, h2, h3⟩ := kept_first d x i (by rw [← e]; exact h)
      exact ⟨j, by omega, h2, h3⟩
    · exact ⟨i + 1, Nat.le_refl _, keeps_pos e, h⟩
theorem compact_mem (zs : List (List UInt8)) (x : List UInt8) : x ∈ compact zs ↔ x ∈ zs := by
  have hget : ∀ i, i < zs.length → zs.toArray[i]! ∈ zs := fun i hi => by
    have : zs.toArray[i]! = zs[i] := by simp [hi]
    rw [this]
    exact List.getElem_mem hi
  unfold compact compactUpTo
  rw [List.mem_map]
  constructor
  · rintro ⟨i, hi, rfl⟩
    exact hget i (List.mem_range.1 (List.mem_filter.1 hi).1)
  · intro hx
    obtain ⟨i, hi, rfl⟩ := List.mem_iff_getElem.1 hx
    obtain ⟨j, h1, h2, h3⟩ := kept_first zs.toArray zs[i] i (by simp [hi])
    exact ⟨j, List.mem_filter.2 ⟨List.mem_range.2 (by omega), h2⟩, h3⟩
theorem compact_rise (zs : List (List UInt8)) (h : zs.Pairwise fun x y => x ≤ y) : (compact zs).Pairwise fun x y => x ≤ y ∧ x ≠ y := by
  have hget : ∀ i (hi : i < zs.length), zs.toArray[i]! = zs[i] := fun i hi => by simp [hi]
  have hle : ∀ i j, i ≤ j → j < zs.length → zs.toArray[i]! ≤ zs.toArray[j]! := fun i j hij hj => by
    rw [hget i (by omega), hget j hj]
    rcases Nat.lt_or_ge i j with g | g
    · exact List.pairwise_iff_getElem.1 h i j (by omega) hj g
    · obtain rfl : i = j := by omega
      exact List.le_refl _
  unfold compact compactUpTo
  rw [List.pairwise_map, List.pairwise_filter]
  refine List.Pairwise.imp_of_mem (R := fun i j => i < j) ?_ List.pairwise_lt_range
  intro i j hi hj hij _ hk
  have hj' := List.mem_range.1 hj
  refine ⟨hle i j (by omega) hj', fun e => ?_⟩
  have h1 := hle i (j - 1) (by omega) (by omega)
  have h2 := hle (j - 1) j (by omega) hj'
  rw [e] at h1
  have h3 := List.le_antisymm h2 h1
  unfold keeps at hk
  have hk := of_decide_eq_true hk
  rcases hk with x | x
  · omega
  · exact x h3.symm
/-- the texts of bs, sorted, each once -/
theorem uniq_keys {bs ks : List ByteArray} (hk : RisK ks) (hm : ∀ x, x ∈ ks ↔ x ∈ bs) : compact ((bs.map fun b => b.data.toList).mergeSort fun x y => decide (x ≤ y)) = ks.map fun b => b.data.toList := by
  have tr : ∀ a b c : List UInt8, decide (a ≤ b) = true → decide (b ≤ c) = true → decide (a ≤ c) = true := fun a b c h1 h2 => by simp only [decide_eq_true_eq] at *; exact List.le_trans h1 h2
  have to : ∀ a b : List UInt8, (decide (a ≤ b) || decide (b ≤ a)) = true := fun a b => by simp only [Bool.or_eq_true, decide_eq_true_eq]; exact List.le_total a b
  have hs := List.pairwise_mergeSort tr to (bs.map fun b => b.data.toList)
  have hr := compact_rise _ (hs.imp fun {x y} h => of_decide_eq_true h)
  have h1 : RisK ((compact ((bs.map fun b => b.data.toList).mergeSort fun x y => decide (x ≤ y))).map fun l => ByteArray.mk l.toArray) := List.pairwise_map.2 (hr.imp fun {x y} h => lt_of_le_ne h.1 h.2)
  have back : ∀ b : ByteArray, ByteArray.mk b.data.toList.toArray = b := fun b => by simp
  have e : (compact ((bs.map fun b => b.data.toList).mergeSort fun x y => decide (x ≤ y))).map (fun l => ByteArray.mk l.toArray) = ks := by
    refine RisK.ext h1 hk fun x => ?_
    rw [hm, List.mem_map]
    constructor
    · rintro ⟨l, hl, rfl⟩
      rw [compact_mem, List.mem_mergeSort, List.mem_map] at hl
      obtain ⟨b, hb, rfl⟩ := hl
      rw [back]
      exact hb
    · intro hx
      exact ⟨x.data.toList, (compact_mem _ _).2 (List.mem_mergeSort.2 (List.mem_map.2 ⟨x, hx, rfl⟩)), back x⟩
  rw [← e, List.map_map]
  conv => lhs; rw [← List.map_id (compact _)]
  refine List.map_congr_left fun l _ => ?_
  simp
end Go.Proofs.YtaofemdhgfejjaaGreatDoor
/-
  Slices of strings: read, copied, compared; what laws.szStringS, laws.toStringS, laws.eqStringS answer.
-/
namespace Go.Proofs.YtaofemdhgfejjaaGreatDoor
open Go.RowKit

def slenS (l : List ByteArray) : Prop := ∀ i (h : i < l.length), l[i].size ≤ maxLen
/-- the slice at A reads as the texts l, and lies below block B -/
def SIn (w : World) (B : Nat) (A : Option Addr) (l : List ByteArray) : Prop :=
  slenS l ∧ (0 < l.length → ∃ b off, A = some ⟨b, off, none⟩ ∧ b < B ∧ ∀ i (h : i < l.length), w.cell? ⟨b, off + i, none⟩ = some (.string l[i]))
theorem SIn.below {w w' : World} {B : Nat} {A : Option Addr} {l : List ByteArray} (h : SIn w B A l) (q : Below B w w') : SIn w' B A l :=
  ⟨h.1, fun hp => by
    obtain ⟨b, off, e, hb, hc⟩ := h.2 hp
    exact ⟨b, off, e, hb, fun i hi => (q.cell (p := ⟨b, off + i, none⟩) hb).trans (hc i hi)⟩⟩
theorem SIn.more {w : World} {B B' : Nat} {A : Option Addr} {l : List ByteArray} (h : SIn w B A l) (hB : B ≤ B') : SIn w B' A l :=
  ⟨h.1, fun hp => by obtain ⟨b, off, e, hb, hc⟩ := h.2 hp; exact ⟨b, off, e, by omega, hc⟩⟩
/-- n texts as cells -/
def strsA (f : Nat → ByteArray) (n : Nat) : Array Value := ((List.range n).map fun j => Value.string (f j)).toArray
theorem strsA_size (f : Nat → ByteArray) (n : Nat) : (strsA f n).size = n := by simp [strsA]
theorem strsA_get (f : Nat → ByteArray) {n j : Nat} (h : j < n) : (strsA f n)[j]? = some (.string (f j)) := by simp [strsA, h]
theorem strsA_eq {f : Nat → ByteArray} {n : Nat} {cs : Array Value} (hs : cs.size = n) (h : ∀ j, j < n → cs[j]? = some (.string (f j))) : cs = strsA f n := by
  apply Array.ext_getElem?
  intro j
  by_cases hj : j < n
  · rw [h j hj, strsA_get f hj]
  · rw [Array.getElem?_eq_none (by omega), Array.getElem?_eq_none (by rw [strsA_size]; omega)]
theorem strsA_set (f : Nat → ByteArray) (n k : Nat) (c : ByteArray) : (strsA f n).setIfInBounds k (.string c) = strsA (fun j => if j = k then c else f j) n := by
  refine strsA_eq (by simp [strsA_size]) fun j hj => ?_
  by_cases e : j = k
  · subst e
    rw [Array.getElem?_setIfInBounds_self_of_lt (by rw [strsA_size]; exact hj), if_pos rfl]
  · rw [Array.getElem?_setIfInBounds_ne (by omega), if_neg e, strsA_get f hj]
theorem strsA_congr {f f' : Nat → ByteArray} {n : Nat} (h : ∀ j, j < n → f j = f' j) : strsA f n = strsA f' n := by
  refine strsA_eq (strsA_size f n) fun j hj => ?_
  rw [strsA_get f hj, h j hj]
/-- the first k texts of l, nothing behind them -/
def cutF (l : List ByteArray) (k : Nat) : Nat → ByteArray := fun j => if j < k then l.getD j ByteArray.empty else ByteArray.empty
theorem cutF_step (l : List ByteArray) (n k : Nat) (hk : k < l.length) : strsA (cutF l (k + 1)) n = (strsA (cutF l k) n).setIfInBounds k (.string l[k]) := by
  rw [strsA_set]
  refine strsA_congr fun j hj => ?_
  unfold cutF
  by_cases e : j = k
  · subst e; rw [if_pos (by omega), if_pos rfl]; simp [hk]
  · rw [if_neg e]
    by_cases h' : j < k
    · rw [if_pos (by omega), if_pos h']
    · rw [if_neg (by omega), if_neg h']
/-- a block that holds the texts l reads as them -/
theorem SIn.row {w : World} {g B : Nat} {l : List ByteArray} {t : TypeId} {fr : Nat × Nat} (hl : slenS l) (hB : g < B) (h : w.heap[g]? = some (.cells (strsA (cutF l l.length) l.length) t fr)) : SIn w B (some ⟨g, 0, none⟩) l :=
  ⟨hl, fun _ => ⟨g, 0, rfl, hB, fun i hi => by
    rw [Nat.zero_add, cell_of_row w g i _ t fr h, strsA_get _ hi]
    unfold cutF
    rw [if_pos hi]
    simp [hi]⟩⟩

theorem infoS1 : (Tryz.prog.info? 9).map (fun i => (i.zero, i.size, i.bytes)) = some (some (.string ByteArray.empty), 1, 16) := by kernel_rfl
theorem made_strs (n : Nat) : madeCells #[.string ByteArray.empty] n = strsA (fun _ => ByteArray.empty) n := by
  refine strsA_eq (size_madeCells _ _) fun j hj => ?_
  simp [madeCells, hj, Nat.mod_one]
theorem run_mks (w : World) (n : Nat) (hn : n ≤ 1048576) : (Instr.makeSlice 27 (.int .i64 (n : Int)) (.int .i64 (n : Int))).run Tryz.prog w = .ok (.slice (some ⟨w.heap.size, 0, none⟩) n n) (w.alloc (.cells (strsA (fun _ => ByteArray.empty) n) 9)) := by
  obtain ⟨i, hi, hz0, hz1, hz2⟩ := info_parts infoS1
  have h := run_make (P := Tryz.prog) w 27 9 i _ Tryz.underlying27 hi hz0 .i64 .i64 (n : Int) (n : Int) (by omega) (by omega) (by rw [hz2]; omega) (by omega)
  rw [hz1, Int.toNat_natCast, Nat.mul_one] at h
  rw [h, ← made_strs]
  rfl

/-- what szStringS leaves: -1, or what is left -/
def SzS (n : Nat) (left : Int) (w : World) (e : Ending) (w' : World) : Prop := (e = .returned (.int .i64 (-1)) ∨ ∃ r : Int, 0 ≤ r ∧ r + n ≤ left ∧ e = .returned (.int .i64 r)) ∧ w = w'

end Go.Proofs.YtaofemdhgfejjaaGreatDoor
/-
  Words for memory: rows of texts of the call's own.
-/
namespace Go.Proofs.YtaofemdhgfejjaaGreatDoor
open Go.RowKit

/-- the slice at A has these texts -/
def ZIn (w : World) (B : Nat) (A : Option Addr) (bs : List ByteArray) : Prop :=
  0 < bs.length → ∃ b off, A = some ⟨b, off, none⟩ ∧ b < B ∧ ∀ i (h : i < bs.length), w.cell? ⟨b, off + i, none⟩ = some (Value.string bs[i])
theorem ZIn.below {w w' : World} {B : Nat} {A : Option Addr} {bs : List ByteArray} (h : ZIn w B A bs) (q : Below B w w') : ZIn w' B A bs := fun hp => by
  obtain ⟨b, off, e, hb, hc⟩ := h hp
  exact ⟨b, off, e, hb, fun i hi => cellB q hb (hc i hi)⟩
theorem ZIn.more {w : World} {B B' : Nat} {A : Option Addr} {bs : List ByteArray} (h : ZIn w B A bs) (hB : B ≤ B') : ZIn w B' A bs := fun hp => by
  obtain ⟨b, off, e, hb, hc⟩ := h hp
  exact ⟨b, off, e, by omega, hc⟩
def ZOwn (w : World) (B : Nat) (A : Option Addr) (cap : Nat) (bs : List ByteArray) : Prop := w.ownsRow B 9 1 (.slice A bs.length cap) bs.length (bs.map Value.string)
theorem ZOwn.nil (w : World) (B : Nat) : ZOwn w B none 0 [] := World.ownsRow_nil _ _ _ _
theorem ZOwn.form {w : World} {B : Nat} {A : Option Addr} {cap : Nat} {bs : List ByteArray} (h : ZOwn w B A cap bs) : (A = none ∧ cap = 0 ∧ bs = []) ∨ ∃ g, A = some ⟨g, 0, none⟩ ∧ B ≤ g ∧ g < w.heap.size := by
  rcases h.2 with ⟨e, e'⟩ | ⟨g, c, cur, e, hb, hg, _⟩
  · injection e with e1 e2 e3
    exact .inl ⟨e1, e3, List.eq_nil_of_length_eq_zero e2⟩
  · injection e with e1 e2 e3
    exact .inr ⟨g, e1, hb, (Array.getElem?_eq_some_iff.1 hg).1⟩
theorem ZOwn.zin {w : World} {B : Nat} {A : Option Addr} {cap : Nat} {bs : List ByteArray} (h : ZOwn w B A cap bs) : ZIn w w.heap.size A bs := fun hp => by
  rcases h.form with ⟨_, _, rfl⟩ | ⟨g, rfl, _, hg⟩
  · simp at hp
  · refine ⟨g, 0, rfl, hg, fun i hi => ?_⟩
    have h1 := h.cellAt i (by omega)
    rw [Nat.zero_add]
    refine h1.trans ?_
    simp [hi]
theorem ZOwn.cap_le {w : World} {B : Nat} {A : Option Addr} {cap : Nat} {bs : List ByteArray} (h : ZOwn w B A cap bs) : bs.length ≤ cap := by
  rcases h.2 with ⟨e, e'⟩ | ⟨g, c, cur, e, _, _, hnc, _⟩
  · injection e with e1 e2 e3; omega
  · injection e with e1 e2 e3; omega
theorem ZOwn.below {w w' : World} {B : Nat} {A : Option Addr} {cap : Nat} {bs : List ByteArray} (h : ZOwn w B A cap bs) (hb : Below w.heap.size w w') : ZOwn w' B A cap bs := by
  refine World.ownsRow.kept h (Below.toGrown hb none) ?_
  cases hv : (Value.slice A bs.length cap).ownBlock <;> simp
theorem ZOwn.more {w : World} {B B' : Nat} {A : Option Addr} {cap : Nat} {bs : List ByteArray} (h : ZOwn w B A cap bs) (hB : B' ≤ B) : ZOwn w B' A cap bs := by
  refine ⟨h.1, ?_⟩
  rcases h.2 with e | ⟨g, c, cur, e, hb, r⟩
  · exact .inl e
  · exact .inr ⟨g, c, cur, e, Nat.le_trans hB hb, r⟩
theorem ZOwn.row {w : World} {B : Nat} {A : Option Addr} {cap : Nat} {bs : List ByteArray} (h : ZOwn w B A cap bs) : ∀ g, rowOf A = some g → B ≤ g ∧ g < w.heap.size := by
  intro g hg
  exact h.lt g (by rw [rowOf_own]; exact hg)
theorem ZOwn.grownBelow {w w' : World} {B : Nat} {A : Option Addr} {cap : Nat} {bs : List ByteArray} (h : ZOwn w B A cap bs) (hg : w.grownBy w' (rowOf A)) (hB : B ≤ w.heap.size) : Below B w w' :=
  (Below.refl B w).grown hg hB (fun k hk => (h.row k hk).1)
theorem ZIn.one {w : World} (g : ByteArray) (t : TypeId) {s : Nat} (hs : w.heap.size = s) : ZIn (w.alloc (.cells #[Value.string g] t)) (s + 1) (some ⟨s, 0, none⟩) [g] := fun _ => by
  subst hs
  refine ⟨w.heap.size, 0, rfl, by omega, fun i hi => ?_⟩
  obtain rfl : i = 0 := by simpa using hi
  exact cell_of_row _ w.heap.size 0 #[Value.string g] t (0, 0) (heap_alloc_new w (.cells #[Value.string g] t))
/-- where a slice of pointers that is cut from place k on begins -/
def cutZ (A : Option Addr) (cap k : Nat) : Option Addr := if cap = k then A else A.map (·.add k)
theorem ZIn.take {w : World} {B : Nat} {A : Option Addr} {bs : List ByteArray} (h : ZIn w B A bs) (cap k : Nat) : ZIn w B (cutZ A cap 0) (bs.take k) := fun hp => by
  have e : cutZ A cap 0 = A := by
    unfold cutZ
    split
    · rfl
    · cases A <;> simp [Addr.add]
  rw [e]
  obtain ⟨b, off, e, hb, hc⟩ := h (by rw [List.length_take] at hp; omega)
  refine ⟨b, off, e, hb, fun i hi => ?_⟩
  rw [List.getElem_take]
  exact hc i (by rw [List.length_take] at hi; omega)
theorem ZIn.drop {w : World} {B : Nat} {A : Option Addr} {bs : List ByteArray} (h : ZIn w B A bs) {cap : Nat} (hc : bs.length ≤ cap) (k : Nat) : ZIn w B (cutZ A cap k) (bs.drop k) := fun hp => by
  rw [List.length_drop] at hp
  obtain ⟨b, off, e, hb, hc⟩ := h (by omega)
  refine ⟨b, off + k, ?_, hb, fun i hi => ?_⟩
  · unfold cutZ
    rw [if_neg (by omega), e, Option.map_some, add_pl]
  · rw [List.length_drop] at hi
    rw [List.getElem_drop, Nat.add_assoc]
    exact hc (k + i) (by omega)
theorem infoZ : (Tryz.prog.info? 9).map (fun i => (i.zero, i.size, i.bytes)) = some (some (.string ByteArray.empty), 1, 16) := by kernel_rfl

section
variable (t ty : TypeId) (ht : Tryz.prog.underlying t = some (.slice 9))
include ht
set_option maxRecDepth 100000 in
theorem run_appZ {w : World} {B B' : Nat} {A A' : Option Addr} {cap c : Nat} {l l' : List ByteArray} (hown : ZOwn w B A cap l) (hin : ZIn w B' A' l') (hB : B ≤ w.heap.size) (hb : l.length + l'.length ≤ 3000000) :
    ∃ A2 cap2 w', (Builtin.append_ #[t, t] ty #[.slice A l.length cap, .slice A' l'.length c]).run Tryz.prog w = .ok (.slice A2 (l ++ l').length cap2) w' ∧ ZOwn w' B A2 cap2 (l ++ l') ∧ w.grownBy w' (rowOf A) ∧ (rowOf A2 = rowOf A ∨ rowOf A2 = some w.heap.size) := by
  obtain ⟨i, hi, hz0, hz1, hz2⟩ := info_parts infoZ
  have hlen : (l ++ l').length = l.length + l'.length := List.length_append
  cases A' with
  | none =>
    have h0 : l' = [] := by
      rcases Nat.eq_zero_or_pos l'.length with e | e
      · exact List.eq_nil_of_length_eq_zero e
      · obtain ⟨_, _, x, _⟩ := hin e
        cases x
    subst h0
    refine ⟨A, cap, w, ?_, by simpa using hown, World.grownBy.refl _ _, .inl rfl⟩
    rcases hown.2 with ⟨e, e'⟩ | ⟨g, cap', cur, e, _, _, hnc, _⟩
    · injection e with e1 e2 e3
      subst e1 e3
      simp [Builtin.append_, run_underlying ht, sizeOf, typeInfo, hi, Builtin.lenOf, Builtin.firstCells, e2]
    · injection e with e1 e2 e3
      subst e1 e3
      simp [Builtin.append_, run_underlying ht, sizeOf, typeInfo, hi, Builtin.lenOf, Builtin.firstCells, hnc, storeCells]
  | some a =>
    have hcells : ∀ j u, (l'.map Value.string)[j]? = some u → w.cell? (a.add j) = some u := by
      intro j u hu
      have hj : j < l'.length := by
        have := (List.getElem?_eq_some_iff.1 hu).1
        rw [List.length_map] at this
        exact this
      obtain ⟨b, off, e, _, hc⟩ := hin (by omega)
      injection e with e
      subst e
      rw [add_pl, hc j hj, ← hu]
      simp [hj]
    obtain ⟨v', w', hrun, h2, h3, _, h5⟩ := run_append_own_at (P := Tryz.prog) w B t ty 9 i _ 1 16 ht hi hz0 hz1 hz2 rfl (by omega) (.slice A l.length cap) l.length (l.map Value.string) hown a l'.length c (l'.map Value.string) (by simp) hcells (by
        intro u hu
        obtain ⟨g, _, rfl⟩ := List.mem_map.1 hu
        rfl)
      (by simp only [maxLen]; omega) (by omega) hB
    have hv : ∃ A2 cap2, v' = .slice A2 (l.length + l'.length) cap2 := by
      rcases h2.2 with ⟨e, e'⟩ | ⟨g, cap', cur, e, _⟩
      · exact ⟨none, 0, by rw [e, e']⟩
      · exact ⟨_, _, e⟩
    obtain ⟨A2, cap2, rfl⟩ := hv
    refine ⟨A2, cap2, w', by rw [hlen]; exact hrun, ?_, by rw [← rowOf_own A l.length cap]; exact h3, ?_⟩
    · unfold ZOwn
      rw [hlen, List.map_append]
      exact h2
    · rw [rowOf_own, rowOf_own] at h5
      exact h5

theorem wp_appZ {w : World} {o : Oper} {a : Act} {K : Act → World → Prop} {Q : Exit → Act → World → Prop} (s x : Operand)
    (ho : o.op = .call { callee := .builtin .append, args := #[s, x], argTypes := #[t, t] })
    {B B' : Nat} {A A' : Option Addr} {cap c n m : Nat} {l l' : List ByteArray} (hs : a.eval s = .slice A n cap) (hx : a.eval x = .slice A' m c) (hn : n = l.length) (hm : m = l'.length)
    (hown : ZOwn w B A cap l) (hin : ZIn w B' A' l') (hB : B ≤ w.heap.size) (hb : l.length + l'.length ≤ 3000000)
    (h : ∀ A2 cap2 w', ZOwn w' B A2 cap2 (l ++ l') → w.grownBy w' (rowOf A) → (rowOf A2 = rowOf A ∨ rowOf A2 = some w.heap.size) → K (a.put o.dst (.slice A2 (l ++ l').length cap2)) w') : o.wp Tryz.prog a w K Q := by
  subst hn hm
  obtain ⟨A2, cap2, w', hrun, h2, h3, h4⟩ := run_appZ t o.type ht (c := c) hown hin hB hb
  unfold Oper.wp execOp
  simp only [ho, resolve, invoke, builtin, Sem.run_bind, Sem.run_pure, Result.andThen_ok, List.map_toArray, List.map_cons, List.map_nil, hs, hx, hrun]
  exact h A2 cap2 w' h2 h3 h4

theorem wpList_appZ {w : World} {ops : Array Oper} {rest : List Oper} {o : Oper} {a : Act} {Q : Exit → Act → World → Prop} (hgd : o.guard = none) (s x : Operand)
    (ho : o.op = .call { callee := .builtin .append, args := #[s, x], argTypes := #[t, t] })
    {B B' : Nat} {A A' : Option Addr} {cap c n m : Nat} {l l' : List ByteArray} (hs : a.eval s = .slice A n cap) (hx : a.eval x = .slice A' m c) (hn : n = l.length) (hm : m = l'.length)
    (hown : ZOwn w B A cap l) (hin : ZIn w B' A' l') (hB : B ≤ w.heap.size) (hb : l.length + l'.length ≤ 3000000)
    (h : ∀ A2 cap2 w', ZOwn w' B A2 cap2 (l ++ l') → w.grownBy w' (rowOf A) → (rowOf A2 = rowOf A ∨ rowOf A2 = some w.heap.size) → wpList Tryz.prog ops Q rest (a.put o.dst (.slice A2 (l ++ l').length cap2)) w') : wpList Tryz.prog ops Q (o :: rest) a w :=
  wpList_plain hgd fun _ hK => wp_appZ t ht s x ho hs hx hn hm hown hin hB hb fun A2 cap2 w' h2 h3 h4 => hK _ _ (h A2 cap2 w' h2 h3 h4)

theorem run_cutZ_h (A : Option Addr) (n cap k : Nat) (hk : k ≤ cap) (w : World) : (Instr.slice t (.slice A n cap) none (some (.int .i64 (k : Int))) none).run Tryz.prog w = .ok (.slice (cutZ A cap 0) k cap) w := by
  have hs : ((sizeOf 9).run Tryz.prog w) = .ok 1 w := by kernel_rfl
  have he : Tryz.prog.elem t = 9 := by simp [Program.elem, ht]
  rw [run_slice_h (P := Tryz.prog) (t := t) (a := A) (len := n) (cap := cap) (w := w) (by rw [he]; exact ht) .i64 k (by omega) (by omega), he, hs]
  simp [Result.andThen, sliced, cutZ]
theorem run_cutZ_l (A : Option Addr) (n cap k : Nat) (hk : k ≤ n) (w : World) : (Instr.slice t (.slice A n cap) (some (.int .i64 (k : Int))) none none).run Tryz.prog w = .ok (.slice (cutZ A cap k) (n - k) (cap - k)) w := by
  have hs : ((sizeOf 9).run Tryz.prog w) = .ok 1 w := by kernel_rfl
  have he : Tryz.prog.elem t = 9 := by simp [Program.elem, ht]
  rw [run_slice_l (P := Tryz.prog) (t := t) (a := A) (len := n) (cap := cap) (w := w) (by rw [he]; exact ht) .i64 k (by omega) (by omega), he, hs]
  simp [Result.andThen, sliced, cutZ]
end

theorem ZOwn.alloc {w : World} {B : Nat} {A : Option Addr} {cap : Nat} {l : List ByteArray} (h : ZOwn w B A cap l) (o : Obj) : ZOwn (w.alloc o) B A cap l := h.below ((Below.refl _ _).alloc (Nat.le_refl _) o)
theorem ZOwn.built (w : World) (B : Nat) (hB : B ≤ w.heap.size) : ZOwn (w.alloc (.cells #[] 9)) B (some ⟨w.heap.size, 0, none⟩) 0 [] := World.ownsRow_made w #[] 0 hB (by simp [maxLen]) rfl
theorem ZOwn.kept {w w' : World} {B r : Nat} {A : Option Addr} {cap : Nat} {bs : List ByteArray} (h : ZOwn w B A cap bs) (hg : w.grownBy w' (some r)) (hne : rowOf A ≠ some r) : ZOwn w' B A cap bs := by
  refine World.ownsRow.kept h hg ?_
  rw [rowOf_own]
  cases e : rowOf A with
  | none => exact .inl rfl
  | some g => exact .inr (fun x => hne (by rw [e, x]))
end Go.Proofs.YtaofemdhgfejjaaGreatDoor
/-
  What slices.Sort and slices.Compact do to a row of texts of the call's own, by the library's contracts.
-/
namespace Go.Proofs.YtaofemdhgfejjaaGreatDoor
open Go.RowKit Go.Lib Go.Sort

/-- texts as lists of bytes -/
def toLs (bs : List ByteArray) : List (List UInt8) := bs.map fun b => b.data.toList
def sortL (zs : List (List UInt8)) : List (List UInt8) := zs.mergeSort fun x y => decide (x ≤ y)
theorem sortL_len (zs : List (List UInt8)) : (sortL zs).length = zs.length := List.length_mergeSort zs
theorem toLs_len (bs : List ByteArray) : (toLs bs).length = bs.length := by unfold toLs; simp
theorem toLs_enc (bs : List ByteArray) : (toLs bs).map encStr = bs.map Value.string := by
  unfold toLs
  rw [List.map_map]
  refine List.map_congr_left fun p _ => ?_
  simp [encStr]
/-- a row of the call's own, its texts as lists of bytes -/
def LOwn (w : World) (B : Nat) (A : Option Addr) (cap : Nat) (zs : List (List UInt8)) : Prop := w.ownsRow B 9 1 (.slice A zs.length cap) zs.length (zs.map encStr)
theorem ZOwn.toL {w : World} {B : Nat} {A : Option Addr} {cap : Nat} {bs : List ByteArray} (h : ZOwn w B A cap bs) : LOwn w B A cap (toLs bs) := by
  unfold LOwn
  rw [toLs_enc, toLs_len]
  exact h
theorem LOwn.toZ {w : World} {B : Nat} {A : Option Addr} {cap : Nat} {bs : List ByteArray} (h : LOwn w B A cap (toLs bs)) : ZOwn w B A cap bs := by
  unfold LOwn at h
  rw [toLs_enc, toLs_len] at h
  exact h
theorem LOwn.form {w : World} {B : Nat} {A : Option Addr} {cap : Nat} {zs : List (List UInt8)} (h : LOwn w B A cap zs) : (A = none ∧ cap = 0 ∧ zs = []) ∨ ∃ g cur, A = some ⟨g, 0, none⟩ ∧ B ≤ g ∧ g < w.heap.size ∧ w.heap[g]? = some (.cells cur 9 (0, 0)) ∧ zs.length ≤ cap ∧ cap ≤ maxLen ∧ cur.size = cap * 1 ∧ Holds encStr w g 0 zs.toArray := by
  rcases h.2 with ⟨e, e'⟩ | ⟨g, c, cur, e, hb, hg, h1, h2, h3, h4⟩
  · injection e with e1 e2 e3
    exact .inl ⟨e1, e3, List.eq_nil_of_length_eq_zero e2⟩
  · injection e with e1 e2 e3
    obtain ⟨g', cap', e', _, _, _, _, _, hH⟩ := holds_of_ownsRow h (by rw [e1]; simp)
    rw [e1] at e'
    injection e' with e4 e5 e6
    injection e4 with e4
    injection e4 with e4
    subst e4 e3
    exact .inr ⟨g, cur, e1, hb, (Array.getElem?_eq_some_iff.1 hg).1, hg, h1, h2, h3, hH⟩

theorem sort_any (A : Option Addr) (zs : List (List UInt8)) (cap : Nat) (w : World) (B : Nat) (hown : LOwn w B A cap zs) (hl : zs.length ≤ 100000) :
    Calls Tryz.prog 73 #[.slice A zs.length cap] w fun e w' => e = .returned (.tuple #[]) ∧ LOwn w' B A cap (sortL zs) ∧ w.grownBy w' (rowOf A) := by
  rcases hown.form with ⟨rfl, rfl, rfl⟩ | ⟨g, cur, rfl, hB, hg, hc, h1, h2, h3, hH⟩
  · refine (show Calls Tryz.prog 73 #[.slice none 0 0] w fun e w' => e = .returned (.tuple #[]) ∧ w' = w from AnyM.slices_Sort_string_none Tryz.sort73 none 0 w).mono ?_
    rintro e w' ⟨rfl, rfl⟩
    exact ⟨rfl, by simpa [sortL] using hown, World.grownBy.refl _ _⟩
  · refine (show Calls Tryz.prog 73 #[.slice (some ⟨g, 0, none⟩) zs.length cap] w _ from AnyM.slices_Sort_string Tryz.sort73 g 0 cap zs w hH hg (by omega)).mono ?_
    rintro e w' ⟨rfl, n, os, rfl⟩
    refine ⟨rfl, ?_, grownBy_sorted _⟩
    have hs := ownsRow_sorted (n := n) (os := os) (ts := sortL zs) (sortL_len zs) hB hc h1 h2 h3
    unfold LOwn
    rw [sortL_len]
    exact hs

theorem compact_any (A : Option Addr) (zs : List (List UInt8)) (cap : Nat) (w : World) (B : Nat) (hown : LOwn w B A cap zs) (hl : zs.length ≤ 100000) :
    Calls Tryz.prog 74 #[.slice A zs.length cap] w fun e w' => e = .returned (.slice A (compact zs).length cap) ∧ LOwn w' B A cap (compact zs) ∧ w.grownBy w' (rowOf A) := by
  rcases hown.form with ⟨rfl, rfl, rfl⟩ | ⟨g, cur, rfl, hB, hg, hc, h1, h2, h3, hH⟩
  · refine (show Calls Tryz.prog 74 #[.slice none 0 0] w fun e w' => e = .returned (.slice none 0 0) ∧ w' = w from Any.slices_Compact_string_empty Tryz.compact74 none 0 w).mono ?_
    rintro e w' ⟨rfl, rfl⟩
    exact ⟨rfl, hown, World.grownBy.refl _ _⟩
  · refine (show Calls Tryz.prog 74 #[.slice (some ⟨g, 0, none⟩) zs.length cap] w _ from Any.slices_Compact_string Tryz.compact74 g 0 cap zs w hH (by omega) h1).mono ?_
    rintro e w' ⟨rfl, q, rfl⟩
    have hle := compact_length_le zs
    have hcc := ownsRow_putRow (q := q) (k := (compact zs).length) (ys := compact zs ++ List.replicate (zs.length - (compact zs).length) []) hown (by simp; omega) hle
    rw [List.take_left] at hcc
    refine ⟨rfl, hcc, ?_⟩
    refine ⟨rfl, rfl, rfl, by simp [putRow, mapBlock, Sort.ahead], fun k hk hne => ?_⟩
    have : g ≠ k := fun e => hne (by rw [e]; rfl)
    simp [putRow, mapBlock, Sort.ahead, Array.getElem?_modify, this]
/-- a row that is sorted, each once -/
theorem uniq_own {w : World} {B : Nat} {A : Option Addr} {cap : Nat} {bs ks : List ByteArray} (hk : RisK ks) (hm : ∀ x, x ∈ ks ↔ x ∈ bs) (h : LOwn w B A cap (compact (sortL (toLs bs)))) : ZOwn w B A cap ks ∧ (compact (sortL (toLs bs))).length = ks.length := by
  have e : compact (sortL (toLs bs)) = toLs ks := uniq_keys hk hm
  rw [e] at h ⊢
  exact ⟨h.toZ, toLs_len ks⟩
end Go.Proofs.YtaofemdhgfejjaaGreatDoor
/-
  Right maps by what they tell of each key. Plain mathematics.
-/
namespace Go.Proofs.YtaofemdhgfejjaaGreatDoor
open Go.RowKit

/-- what a map has of a key -/
def lk (l : List Pr) (k : ByteArray) : Option ByteArray := if hasB l k = true then some (valOf l k) else none
theorem lk_yes {l : List Pr} {k : ByteArray} (h : hasB l k = true) : lk l k = some (valOf l k) := by unfold lk; rw [if_pos h]
theorem lk_no {l : List Pr} {k : ByteArray} (h : hasB l k = false) : lk l k = none := by unfold lk; rw [h]; rfl
theorem lk_some {l : List Pr} (h : Ris l) {k v : ByteArray} : lk l k = some v ↔ (k, v) ∈ l := by
  cases hh : hasB l k
  · rw [lk_no hh]
    constructor
    · intro x; cases x
    · intro x
      have := (has_iff h k).2 ⟨v, x⟩
      rw [hh] at this
      cases this
  · rw [lk_yes hh]
    obtain ⟨v', hv⟩ := (has_iff h k).1 hh
    rw [val_of h hv]
    constructor
    · intro x; injection x with x; rw [← x]; exact hv
    · intro x; rw [h.key x hv]
theorem lk_has (l : List Pr) (k : ByteArray) : hasB l k = (lk l k).isSome := by
  cases hh : hasB l k
  · rw [lk_no hh]; rfl
  · rw [lk_yes hh]; rfl
theorem lk_val (l : List Pr) (k : ByteArray) : valOf l k = (lk l k).getD ByteArray.empty := by
  cases hh : hasB l k
  · rw [lk_no hh, valOf_no hh]; rfl
  · rw [lk_yes hh]; rfl
theorem lk_eq {l l' : List Pr} {k k' : ByteArray} : lk l k = lk l' k' ↔ hasB l k = hasB l' k' ∧ valOf l k = valOf l' k' := by
  constructor
  · intro h
    rw [lk_has, lk_has, lk_val, lk_val, h]
    exact ⟨rfl, rfl⟩
  · rintro ⟨h1, h2⟩
    unfold lk
    rw [h1, h2]
theorem lk_nil (k : ByteArray) : lk [] k = none := lk_no (hasB_end (by simp))
theorem ext_lk {l l' : List Pr} (h : Ris l) (h' : Ris l') (e : ∀ k, lk l k = lk l' k) : l = l' :=
  h.ext h' fun p => by
    have h1 := lk_some h (k := p.1) (v := p.2)
    have h2 := lk_some h' (k := p.1) (v := p.2)
    rw [e] at h1
    exact h1.symm.trans h2
theorem lk_set {l : List Pr} (h : Ris l) (k v k' : ByteArray) : lk (setL l k v) k' = if k' = k then some v else lk l k' := by
  apply Option.ext
  intro a
  rw [lk_some (ris_set h k v), mem_set h]
  by_cases e : k' = k
  · subst e
    rw [if_pos rfl]
    constructor
    · rintro (x | ⟨_, x⟩)
      · injection x with _ x; rw [x]
      · exact absurd rfl x
    · intro x; injection x with x; rw [x]; exact .inl rfl
  · rw [if_neg e, lk_some h]
    constructor
    · rintro (x | ⟨x, _⟩)
      · injection x with x; exact absurd x e
      · exact x
    · intro x; exact .inr ⟨x, e⟩
theorem ris_del {l : List Pr} (h : Ris l) (k : ByteArray) : Ris (delL l k) := by
  unfold delL
  split
  · exact ris_erase h _
  · exact h
theorem mem_del {l : List Pr} (h : Ris l) (k : ByteArray) (p : Pr) : p ∈ delL l k ↔ p ∈ l ∧ p.1 ≠ k := by
  unfold delL
  split
  next hh => exact mem_erase h hh p
  next hh =>
    constructor
    · intro x
      refine ⟨x, fun e => hh ((has_iff h k).2 ⟨p.2, ?_⟩)⟩
      rw [← e]
      exact x
    · exact fun x => x.1
theorem lk_del {l : List Pr} (h : Ris l) (k k' : ByteArray) : lk (delL l k) k' = if k' = k then none else lk l k' := by
  apply Option.ext
  intro a
  rw [lk_some (ris_del h k), mem_del h]
  by_cases e : k' = k
  · rw [if_pos e]
    constructor
    · intro x; exact absurd e x.2
    · intro x; cases x
  · rw [if_neg e, lk_some h]
    exact ⟨fun x => x.1, fun x => ⟨x, e⟩⟩
theorem at_mono (m : List Pr) {k k' : ByteArray} (h : ltB k k' = true) : atN m k ≤ atN m k' := by
  rcases Nat.lt_or_ge (atN m k') (atN m k) with g | g
  · have hl : atN m k' < m.length := by have := atN_le m k; omega
    have h1 := atN_lt m k _ g hl
    have h2 := atN_not m k' hl
    rw [ltB_trans h1 h] at h2
    cases h2
  · exact g
theorem at_mono_has {m : List Pr} {k k' : ByteArray} (hh : hasB m k = true) (h : ltB k k' = true) : atN m k + 1 ≤ atN m k' := by
  have hm := at_mono m h
  rcases Nat.lt_or_ge (atN m k) (atN m k') with g | g
  · exact g
  · have e : atN m k' = atN m k := by omega
    obtain ⟨hl, he⟩ := hasB_iff.1 hh
    have h2 := atN_not m k' (by rw [e]; exact hl)
    simp only [e] at h2
    rw [he, h] at h2
    cases h2
theorem mapB_ris {l : List Pr} (h : mapB l = true) : Ris l := (mapB_all.1 h).2.2
end Go.Proofs.YtaofemdhgfejjaaGreatDoor
/-
  Mergers of right maps, key by key. Plain mathematics.
-/
namespace Go.Proofs.YtaofemdhgfejjaaGreatDoor
open Go.RowKit

/-- all keys of some pairs, rising -/
def keysM (l : List Pr) : List ByteArray := l.foldl (fun ks p => putK ks p.1) []
theorem keys_fold : ∀ (l : List Pr) (ks : List ByteArray), RisK ks → RisK (l.foldl (fun ks p => putK ks p.1) ks) ∧ ∀ t, t ∈ l.foldl (fun ks p => putK ks p.1) ks ↔ t ∈ ks ∨ ∃ p ∈ l, p.1 = t
  | [], ks, h => ⟨h, fun t => by simp⟩
  | p :: r, ks, h => by
    obtain ⟨h1, h2⟩ := keys_fold r (putK ks p.1) (risK_put h _)
    refine ⟨h1, fun t => ?_⟩
    rw [List.foldl_cons, h2, mem_putK]
    constructor
    · rintro ((h | h) | ⟨q, hq, e⟩)
      · exact .inl h
      · exact .inr ⟨p, List.mem_cons_self .., h.symm⟩
      · exact .inr ⟨q, List.mem_cons_of_mem _ hq, e⟩
    · rintro (h | ⟨q, hq, e⟩)
      · exact .inl (.inl h)
      · rcases List.mem_cons.1 hq with rfl | hq
        · exact .inl (.inr e.symm)
        · exact .inr ⟨q, hq, e⟩
theorem risK_keys (l : List Pr) : RisK (keysM l) := (keys_fold l [] List.Pairwise.nil).1
theorem mem_keys (l : List Pr) (t : ByteArray) : t ∈ keysM l ↔ ∃ p ∈ l, p.1 = t := by
  have := (keys_fold l [] List.Pairwise.nil).2 t
  unfold keysM
  rw [this]
  simp
theorem key_lk {l : List Pr} (h : Ris l) (k : ByteArray) : (∃ p ∈ l, p.1 = k) ↔ lk l k ≠ none := by
  constructor
  · rintro ⟨p, hp, rfl⟩
    rw [(lk_some h (k := p.1) (v := p.2)).2 hp]
    simp
  · intro hne
    cases e : lk l k with
    | none => exact absurd e hne
    | some v => exact ⟨(k, v), (lk_some h).1 e, rfl⟩
/-- what a key has in a merger, told by what the three maps have of it; none: both changed it, and not alike -/
def oneM (o x y : Option ByteArray) : Option (Option ByteArray) := if x = o then some y else if y = o ∨ x = y then some x else none
theorem oneM_swap (o x y : Option ByteArray) : oneM o x y = oneM o y x := by
  unfold oneM
  by_cases h1 : x = o
  · by_cases h2 : y = o
    · rw [if_pos h1, if_pos h2, h1, h2]
    · rw [if_pos h1, if_neg h2, if_pos (.inl h1)]
  · by_cases h2 : y = o
    · rw [if_neg h1, if_pos h2, if_pos (.inl h2)]
    · rw [if_neg h1, if_neg h2]
      by_cases h3 : x = y
      · rw [if_pos (.inr h3), if_pos (.inr h3.symm), h3]
      · rw [if_neg (by rintro (h | h); exact h2 h; exact h3 h), if_neg (by rintro (h | h); exact h1 h; exact h3 h.symm)]
/-- the value of a key in a merger, with this map where both changed it -/
def pickM (base a b side : List Pr) (k : ByteArray) : Option ByteArray := (oneM (lk base k) (lk a k) (lk b k)).getD (lk side k)
def merK (base a b : List Pr) : List ByteArray := keysM (base ++ a ++ b)
def merM (base a b side : List Pr) : List Pr := (merK base a b).filterMap fun k => (pickM base a b side k).map fun v => (k, v)
def badM (base a b : List Pr) : List ByteArray := (merK base a b).filter fun k => (oneM (lk base k) (lk a k) (lk b k)).isNone
theorem mem_merK {base a b : List Pr} (h0 : Ris base) (h1 : Ris a) (h2 : Ris b) (k : ByteArray) : k ∈ merK base a b ↔ lk base k ≠ none ∨ lk a k ≠ none ∨ lk b k ≠ none := by
  unfold merK
  rw [mem_keys, ← key_lk h0, ← key_lk h1, ← key_lk h2]
  constructor
  · rintro ⟨p, hp, e⟩
    rw [List.mem_append, List.mem_append] at hp
    rcases hp with (h | h) | h
    · exact .inl ⟨p, h, e⟩
    · exact .inr (.inl ⟨p, h, e⟩)
    · exact .inr (.inr ⟨p, h, e⟩)
  · rintro (⟨p, h, e⟩ | ⟨p, h, e⟩ | ⟨p, h, e⟩)
    · exact ⟨p, by simp [h], e⟩
    · exact ⟨p, by simp [h], e⟩
    · exact ⟨p, by simp [h], e⟩
theorem merK_swap {base a b : List Pr} (h0 : Ris base) (h1 : Ris a) (h2 : Ris b) : merK base a b = merK base b a :=
  RisK.ext (risK_keys _) (risK_keys _) fun k => by
    rw [mem_merK h0 h1 h2, mem_merK h0 h2 h1]
    constructor
    · rintro (h | h | h)
      · exact .inl h
      · exact .inr (.inr h)
      · exact .inr (.inl h)
    · rintro (h | h | h)
      · exact .inl h
      · exact .inr (.inr h)
      · exact .inr (.inl h)
theorem badM_swap {base a b : List Pr} (h0 : Ris base) (h1 : Ris a) (h2 : Ris b) : badM base a b = badM base b a := by
  unfold badM
  rw [merK_swap h0 h1 h2]
  congr 1
  funext k
  rw [oneM_swap]
theorem merM_swap {base a b : List Pr} (h0 : Ris base) (h1 : Ris a) (h2 : Ris b) (side : List Pr) : merM base a b side = merM base b a side := by
  unfold merM pickM
  rw [merK_swap h0 h1 h2]
  congr 1
  funext k
  rw [oneM_swap]
theorem ris_filterMap : ∀ {l : List ByteArray}, RisK l → ∀ (f : ByteArray → Option ByteArray), Ris (l.filterMap fun k => (f k).map fun v => (k, v))
  | [], _, _ => List.Pairwise.nil
  | x :: r, h, f => by
    have h' := List.pairwise_cons.1 h
    have ih := ris_filterMap h'.2 f
    rw [List.filterMap_cons]
    cases e : f x with
    | none => exact ih
    | some v =>
      refine List.pairwise_cons.2 ⟨fun p hp => ?_, ih⟩
      obtain ⟨k, hk, ek⟩ := List.mem_filterMap.1 hp
      cases e' : f k with
      | none => rw [e'] at ek; cases ek
      | some u =>
        rw [e'] at ek
        injection ek with ek
        rw [← ek]
        exact h'.1 k hk
theorem ris_mer (base a b side : List Pr) : Ris (merM base a b side) := ris_filterMap (risK_keys _) _
theorem lk_mer {base a b side : List Pr} (h0 : Ris base) (h1 : Ris a) (h2 : Ris b) (hs : ∀ k, lk side k ≠ none → lk base k ≠ none ∨ lk a k ≠ none ∨ lk b k ≠ none) (k : ByteArray) : lk (merM base a b side) k = pickM base a b side k := by
  apply Option.ext
  intro v
  rw [lk_some (ris_mer base a b side)]
  unfold merM
  rw [List.mem_filterMap]
  constructor
  · rintro ⟨k', _, e⟩
    cases e' : pickM base a b side k' with
    | none => rw [e'] at e; cases e
    | some u =>
      rw [e'] at e
      injection e with e
      injection e with e1 e2
      rw [← e1, ← e2]
      exact e'
  · intro e
    refine ⟨k, (mem_merK h0 h1 h2 k).2 ?_, by rw [e]; rfl⟩
    unfold pickM oneM at e
    split at e
    next hx =>
      right; right
      intro hb
      rw [hb] at e
      cases e
    next hx =>
      split at e
      next =>
        right; left
        intro ha
        rw [ha] at e
        cases e
      next =>
        exact hs k (fun x => by rw [x] at e; cases e)
theorem bad_iff {base a b : List Pr} (h0 : Ris base) (h1 : Ris a) (h2 : Ris b) (k : ByteArray) : k ∈ badM base a b ↔ oneM (lk base k) (lk a k) (lk b k) = none := by
  unfold badM
  rw [List.mem_filter, mem_merK h0 h1 h2, Option.isNone_iff_eq_none]
  constructor
  · exact fun h => h.2
  · intro h
    refine ⟨?_, h⟩
    by_cases x : lk a k = none
    · left
      intro y
      unfold oneM at h
      rw [if_pos (by rw [x, y])] at h
      cases h
    · exact .inr (.inl x)
end Go.Proofs.YtaofemdhgfejjaaGreatDoor
/-
  Mergers with some keys as one side has them; what the promises on mergers say of right maps. Plain mathematics.
-/
namespace Go.Proofs.YtaofemdhgfejjaaGreatDoor
open Go.RowKit

def takeOne (f m : List Pr) (k : ByteArray) : List Pr := if hasB f k = true then setL (delL m k) k (valOf f k) else delL m k
theorem takeOne_yes {f m : List Pr} {k : ByteArray} (h : hasB f k = true) : takeOne f m k = setL (delL m k) k (valOf f k) := by unfold takeOne; rw [if_pos h]
theorem takeOne_no {f m : List Pr} {k : ByteArray} (h : hasB f k = false) : takeOne f m k = delL m k := by unfold takeOne; rw [h]; rfl
def takeL (f m : List Pr) (ks : List ByteArray) : List Pr := ks.foldl (takeOne f) m
theorem takeL_succ (f m : List Pr) (ks : List ByteArray) (k : Nat) (h : k < ks.length) : takeL f m (ks.take (k + 1)) = takeOne f (takeL f m (ks.take k)) ks[k] := by
  unfold takeL
  rw [List.take_succ_eq_append_getElem h, List.foldl_append]
  rfl
theorem del_len (m : List Pr) (k : ByteArray) : (delL m k).length ≤ m.length := by
  unfold delL
  split
  · exact (List.eraseIdx_sublist _ _).length_le
  · exact Nat.le_refl _
theorem setL_len' (l : List Pr) (k v : ByteArray) : (setL l k v).length ≤ l.length + 1 := by
  unfold setL
  have := atN_le l k
  simp only [List.length_append, List.length_take, List.length_cons, List.length_drop]
  split <;> omega
theorem takeOne_len (f m : List Pr) (k : ByteArray) : (takeOne f m k).length ≤ m.length + 1 := by
  have h1 := del_len m k
  have h2 := setL_len' (delL m k) k (valOf f k)
  unfold takeOne
  split <;> omega
theorem takeL_len (f : List Pr) : ∀ (ks : List ByteArray) (m : List Pr), (takeL f m ks).length ≤ m.length + ks.length
  | [], m => Nat.le_refl _
  | k :: r, m => by
    have h1 := takeOne_len f m k
    have h2 := takeL_len f r (takeOne f m k)
    have e : takeL f m (k :: r) = takeL f (takeOne f m k) r := rfl
    rw [e, List.length_cons]
    omega
theorem ris_takeOne {m : List Pr} (h : Ris m) (f : List Pr) (k : ByteArray) : Ris (takeOne f m k) := by
  unfold takeOne
  split
  · exact ris_set (ris_del h k) k _
  · exact ris_del h k
theorem lk_takeOne {m : List Pr} (h : Ris m) (f : List Pr) (k k' : ByteArray) : lk (takeOne f m k) k' = if k' = k then lk f k else lk m k' := by
  cases hh : hasB f k
  · rw [takeOne_no hh, lk_del h, lk_no hh]
  · rw [takeOne_yes hh, lk_set (ris_del h k), lk_del h, lk_yes hh]
    by_cases e : k' = k
    · rw [if_pos e, if_pos e]
    · rw [if_neg e, if_neg e, if_neg e]
theorem takeL_ris (f : List Pr) : ∀ (ks : List ByteArray) {m : List Pr}, Ris m → Ris (takeL f m ks)
  | [], _, h => h
  | k :: r, _, h => takeL_ris f r (ris_takeOne h f k)
open Classical in
theorem lk_takeL (f : List Pr) : ∀ (ks : List ByteArray) {m : List Pr}, Ris m → ∀ k', lk (takeL f m ks) k' = if k' ∈ ks then lk f k' else lk m k'
  | [], m, _, k' => by simp [takeL]
  | k :: r, m, h, k' => by
    have e : takeL f m (k :: r) = takeL f (takeOne f m k) r := rfl
    rw [e, lk_takeL f r (ris_takeOne h f k), lk_takeOne h]
    by_cases h1 : k' ∈ r
    · rw [if_pos h1, if_pos (List.mem_cons_of_mem _ h1)]
    · rw [if_neg h1]
      by_cases h2 : k' = k
      · rw [if_pos h2, h2, if_pos (List.mem_cons_self ..)]
      · rw [if_neg h2, if_neg (by simp [h1, h2])]
theorem side_sub {base a b f : List Pr} (hf : f = base ∨ f = a ∨ f = b) (k : ByteArray) (h : lk f k ≠ none) : lk base k ≠ none ∨ lk a k ≠ none ∨ lk b k ≠ none := by
  rcases hf with rfl | rfl | rfl
  · exact .inl h
  · exact .inr (.inl h)
  · exact .inr (.inr h)
open Classical in
theorem take_mer {base a b f : List Pr} (h0 : Ris base) (h1 : Ris a) (h2 : Ris b) (hf : f = a ∨ f = b) : takeL f (merM base a b base) (badM base a b) = merM base a b f := by
  refine ext_lk (takeL_ris f _ (ris_mer ..)) (ris_mer ..) fun k => ?_
  rw [lk_takeL f _ (ris_mer ..), lk_mer h0 h1 h2 (side_sub (.inl rfl)), lk_mer h0 h1 h2 (side_sub (.inr hf))]
  by_cases hb : k ∈ badM base a b
  · rw [if_pos hb]
    have := (bad_iff h0 h1 h2 k).1 hb
    unfold pickM
    rw [this]
    rfl
  · rw [if_neg hb]
    have : oneM (lk base k) (lk a k) (lk b k) ≠ none := fun e => hb ((bad_iff h0 h1 h2 k).2 e)
    unfold pickM
    cases e : oneM (lk base k) (lk a k) (lk b k) with
    | none => exact absurd e this
    | some r => rfl
/-- the keys of a merger, told by what stands in the three maps -/
theorem merK_from {base a b : List Pr} {k : ByteArray} (h : k ∈ merK base a b) : ∃ p, (p ∈ base ∨ p ∈ a ∨ p ∈ b) ∧ p.1 = k := by
  unfold merK at h
  obtain ⟨p, hp, e⟩ := (mem_keys _ _).1 h
  rw [List.mem_append, List.mem_append] at hp
  exact ⟨p, by rcases hp with (h | h) | h; exact .inl h; exact .inr (.inl h); exact .inr (.inr h), e⟩
theorem keysM_len : ∀ (l : List Pr) (ks : List ByteArray), (l.foldl (fun ks p => putK ks p.1) ks).length ≤ ks.length + l.length
  | [], ks => Nat.le_refl _
  | p :: r, ks => by
    have h := keysM_len r (putK ks p.1)
    have h2 := putK_len ks p.1
    rw [List.foldl_cons, List.length_cons]
    omega
where
  putK_len : ∀ (ks : List ByteArray) (s : ByteArray), (putK ks s).length ≤ ks.length + 1
    | [], s => Nat.le_refl _
    | x :: r, s => by
      have := putK_len r s
      unfold putK
      split
      · rw [List.length_cons, List.length_cons]; omega
      · split
        · rw [List.length_cons]; omega
        · rw [List.length_cons, List.length_cons]; exact Nat.le_refl _
theorem merK_len (base a b : List Pr) : (merK base a b).length ≤ base.length + a.length + b.length := by
  have := keysM_len (base ++ a ++ b) []
  unfold merK keysM
  simp only [List.length_append, List.length_nil] at this
  omega
theorem merM_len (base a b side : List Pr) : (merM base a b side).length ≤ base.length + a.length + b.length := by
  have h := merK_len base a b
  have : (merM base a b side).length ≤ (merK base a b).length := by unfold merM; exact List.length_filterMap_le _ _
  omega
theorem badM_len (base a b : List Pr) : (badM base a b).length ≤ base.length + a.length + b.length := by
  have h := merK_len base a b
  have : (badM base a b).length ≤ (merK base a b).length := by unfold badM; exact List.length_filter_le _ _
  omega
theorem badM_ris (base a b : List Pr) : RisK (badM base a b) := List.Pairwise.sublist List.filter_sublist (risK_keys _)
/-- the answers of Merged and Resolved -/
noncomputable def mgB (base a b : List Pr) : Bool := mapB base && (mapB a && (mapB b && mapB (merM base a b base)))
theorem mgB_iff {base a b : List Pr} : mgB base a b = true ↔ mapB base = true ∧ mapB a = true ∧ mapB b = true ∧ mapB (merM base a b base) = true := by simp [mgB]
noncomputable def mgL (base a b : List Pr) : List Pr := if mgB base a b = true then merM base a b base else []
noncomputable def mgK (base a b : List Pr) : List ByteArray := if mgB base a b = true then badM base a b else []
theorem mgL_yes {base a b : List Pr} (h : mgB base a b = true) : mgL base a b = merM base a b base := by unfold mgL; rw [if_pos h]
theorem mgK_yes {base a b : List Pr} (h : mgB base a b = true) : mgK base a b = badM base a b := by unfold mgK; rw [if_pos h]
theorem mgL_no {base a b : List Pr} (h : mgB base a b = false) : mgL base a b = [] := by unfold mgL; rw [h]; rfl
theorem mgK_no {base a b : List Pr} (h : mgB base a b = false) : mgK base a b = [] := by unfold mgK; rw [h]; rfl
theorem mgB_not {base a b : List Pr} (h : ¬ (mapB base = true ∧ mapB a = true ∧ mapB b = true ∧ mapB (merM base a b base) = true)) : mgB base a b = false := by
  cases e : mgB base a b
  · rfl
  · exact absurd (mgB_iff.1 e) h
theorem mgL_len (base a b : List Pr) : (mgL base a b).length ≤ 40 := by
  cases h : mgB base a b
  · rw [mgL_no h]; simp
  · rw [mgL_yes h]; exact (mapB_iff.1 (mgB_iff.1 h).2.2.2).1
theorem mgK_len (base a b : List Pr) : (mgK base a b).length ≤ 120 := by
  cases h : mgB base a b
  · rw [mgK_no h]; simp
  · rw [mgK_yes h]
    obtain ⟨h0, h1, h2, _⟩ := mgB_iff.1 h
    have := badM_len base a b
    have := (mapB_iff.1 h0).1
    have := (mapB_iff.1 h1).1
    have := (mapB_iff.1 h2).1
    omega
/-- the side that is chosen -/
def sideL (a b : List Pr) (side : Int) : List Pr := if side = 2 then b else a
noncomputable def rsB (base a b : List Pr) (side : Int) : Bool := mgB base a b && (decide (side = 1 ∨ side = 2) && mapB (merM base a b (sideL a b side)))
theorem rsB_iff {base a b : List Pr} {side : Int} : rsB base a b side = true ↔ mgB base a b = true ∧ (side = 1 ∨ side = 2) ∧ mapB (merM base a b (sideL a b side)) = true := by simp [rsB]
noncomputable def rsL (base a b : List Pr) (side : Int) : List Pr := if rsB base a b side = true then merM base a b (sideL a b side) else []
theorem rsL_yes {base a b : List Pr} {side : Int} (h : rsB base a b side = true) : rsL base a b side = merM base a b (sideL a b side) := by unfold rsL; rw [if_pos h]
theorem rsL_no {base a b : List Pr} {side : Int} (h : rsB base a b side = false) : rsL base a b side = [] := by unfold rsL; rw [h]; rfl
theorem rsB_not {base a b : List Pr} {side : Int} (h : ¬ (mgB base a b = true ∧ (side = 1 ∨ side = 2) ∧ mapB (merM base a b (sideL a b side)) = true)) : rsB base a b side = false := by
  cases e : rsB base a b side
  · rfl
  · exact absurd (rsB_iff.1 e) h
theorem rsL_len (base a b : List Pr) (side : Int) : (rsL base a b side).length ≤ 40 := by
  cases h : rsB base a b side
  · rw [rsL_no h]; simp
  · rw [rsL_yes h]; exact (mapB_iff.1 (rsB_iff.1 h).2.2).1
end Go.Proofs.YtaofemdhgfejjaaGreatDoor
/-
  What spec.l1Put answers exactly: the rising list with one more; the row is the call's own or the argument's.
-/
namespace Go.Proofs.YtaofemdhgfejjaaGreatDoor
open Go.RowKit

def PutXRet (B : Nat) (l : List ByteArray) (w : World) (e : Ending) (w' : World) : Prop := ∃ A cap, e = .returned (.slice A l.length cap) ∧ ZOwn w' B A cap l ∧ Below w.heap.size w w'
set_option maxRecDepth 100000 in
set_option maxHeartbeats 2000000 in
theorem l1PutX_any (A : Option Addr) (l : List ByteArray) (cap : Nat) (s : ByteArray) (w : World) (B : Nat) (hl : l.length ≤ 1000) (hown : ZOwn w B A cap l) (hB : B ≤ w.heap.size) :
    Calls Tryz.prog 79 #[.slice A l.length cap, .string s] w (PutXRet B (putK l s) w) := by
  have O := hide hown
  have IN := hide hown.zin
  have hcap := hown.cap_le
  clear hown
  generalize hn : l.length = n at *
  have HN := hide hn
  clear hn
  go_enter Tryz.func79, Tryz.ntmps79
  go_wp2
  go_loop [5] (fun i => ∃ k : Nat, k ≤ n ∧ i = .int .i64 k ∧ Hid (∀ i (hi : i < l.length), i < k → ltB l[i] s = true)) (fun i => n - (intOf i).toNat)
  case atStart => exact ⟨0, Nat.zero_le _, rfl, hide (fun _ _ h => absurd h (by omega))⟩
  case round =>
    obtain ⟨k, hk, rfl, H⟩ := hrel
    have LAST : ∀ (A' : Option Addr), A = A' → True := fun _ _ => trivial
    by_cases hlt : k < n
    · have hkl : k < l.length := by rw [HN.out]; omega
      obtain ⟨b, off, rfl, hbB, hc⟩ := IN.out (by omega)
      have c1 := hc k hkl
      have hki : (k : Int) < (n : Int) := by omega
      have MM : Hid (l[k]'hkl ∈ l) := hide (List.getElem_mem hkl)
      have K1 := run_cutZ_h 27 Tryz.underlying27 (some ⟨b, off, none⟩) n cap k (by omega)
      have K2 := run_cutZ_l 27 Tryz.underlying27 (some ⟨b, off, none⟩) n cap k (by omega)
      have IN1 := hide (IN.out.take cap k)
      have IN2 := hide (IN.out.drop (cap := cap) (by rw [HN.out]; exact hcap) k)
      have E1 := hide (show (l.take k).length = k by rw [List.length_take]; omega)
      have E2 := hide (show (l.drop k).length = n - k by rw [List.length_drop, HN.out])
      have E3 : Hid ((([] ++ l.take k) ++ [s]) ++ l.drop k = l.take k ++ s :: l.drop k) := hide (by simp)
      have PT := hide (fun h => putK_there l s k hkl H.out h)
      have PN := hide (fun h => putK_new l s k (by omega) H.out h)
      have NX : Hid (ltB (l[k]'hkl) s = true → ∀ i (hi : i < l.length), i < k + 1 → ltB l[i] s = true) := hide (fun h i hi hik => by
        rcases Nat.lt_or_ge i k with g | g
        · exact H.out i hi g
        · obtain rfl : i = k := by omega
          exact h)
      have PN2 : Hid (ltB (l[k]'hkl) s = false → ¬ l[k]'hkl = s → putK l s = l.take k ++ s :: l.drop k) := hide (fun h1 h2 => PN.out (fun _ => ⟨h1, h2⟩))
      clear hc LAST PN H
      generalize l[k]'hkl = x at *
      cases hs : Op.bytesLess x.toList s.toList
      · by_cases he : x = s
        · have e1 := eqS_yes he
          have PE := hide (PT.out he)
          clear he
          go_wp2
          go_ret
          rw [PE.out]
          exact ⟨_, cap, by rw [HN.out]; rfl, O.out, Below.refl _ _⟩
        · have e1 := eqS_no he
          have PE := hide (PN2.out hs he)
          have O1 := hide (ZOwn.built w w.heap.size (Nat.le_refl _))
          have B2 := hide ((Below.refl w.heap.size w).alloc (Nat.le_refl _) (.cells #[] 9))
          clear he
          go_wp2_with (first
            | (at_builtin; refine wpList_appZ 27 Tryz.underlying27 rfl (.tmp 34) (.tmp 37) rfl rfl rfl rfl E1.out.symm O1.out (IN1.out.below B2.out) B2.out.size (by rw [E1.out]; simp; omega) ?_; intro A3 cap3 w3 own3 g3 r3; have B3 := hide (B2.out.trans (O1.out.grownBelow g3 B2.out.size)); have O3 := hide own3; clear own3 g3 r3)
            | (at_builtin; refine wpList_appZ (l' := [s]) 27 Tryz.underlying27 rfl (.tmp 39) (.tmp 41) rfl rfl rfl (by simp) rfl (O3.out.alloc _) (ZIn.one s _ rfl) (Nat.le_trans B3.out.size (by simp)) (by rw [List.length_append, E1.out]; simp; omega) ?_; intro A4 cap4 w4 own4 g4 r4; have b4 := (O3.out.alloc (.cells #[Value.string s] 9)).grownBelow g4 (Nat.le_trans B3.out.size (by simp)); have b4' := ((Below.refl w.heap.size w3).alloc B3.out.size (.cells #[Value.string s] 9)).trans b4; have B4 := hide (B3.out.trans b4'); have O4 := hide own4; clear own4 g4 r4 b4 b4')
            | (at_builtin; refine wpList_appZ 27 Tryz.underlying27 rfl (.tmp 43) (.tmp 46) rfl rfl rfl (by simp) E2.out.symm O4.out (IN2.out.below B4.out) B4.out.size (by rw [List.length_append, List.length_append, E1.out, E2.out]; simp; omega) ?_; intro A5 cap5 w5 own5 g5 r5; have b5 := O4.out.grownBelow g5 B4.out.size; have B5 := hide (B4.out.trans b5); have O5 := hide own5; clear own5 g5 r5 b5))
          go_ret
          have O6 := O5.out
          rw [E3.out] at O6
          rw [PE.out]
          exact ⟨A5, cap5, by rw [← E3.out]; simp, O6.more hB, B5.out⟩
      · have NX2 := hide (NX.out hs)
        clear IN1 IN2 K1 K2
        go_wp2
        go_round
        case rel => exact ⟨k + 1, by omega, by go_num, NX2⟩
        case measure => simp [intOf]; omega
    · obtain rfl : k = n := by omega
      have hkk : ¬ (k : Int) < (k : Int) := by omega
      have PE := hide (putK_new l s k (by rw [HN.out]; exact Nat.le_refl _) H.out (fun h => absurd h (by rw [HN.out]; omega)))
      have K1 := run_cutZ_h 27 Tryz.underlying27 A k cap k (by omega)
      have K2 := run_cutZ_l 27 Tryz.underlying27 A k cap k (by omega)
      have IN1 := hide (IN.out.take cap k)
      have IN2 := hide (IN.out.drop (cap := cap) (by rw [HN.out]; exact hcap) k)
      have E1 := hide (show (l.take k).length = k by rw [List.length_take]; rw [HN.out]; omega)
      have E2 := hide (show (l.drop k).length = k - k by rw [List.length_drop, HN.out])
      have E3 : Hid ((([] ++ l.take k) ++ [s]) ++ l.drop k = l.take k ++ s :: l.drop k) := hide (by simp)
      have O1 := hide (ZOwn.built w w.heap.size (Nat.le_refl _))
      have B2 := hide ((Below.refl w.heap.size w).alloc (Nat.le_refl _) (.cells #[] 9))
      clear hlt LAST
      go_wp2_with (first
        | (at_builtin; refine wpList_appZ 27 Tryz.underlying27 rfl (.tmp 34) (.tmp 37) rfl rfl rfl rfl E1.out.symm O1.out (IN1.out.below B2.out) B2.out.size (by rw [E1.out]; simp; omega) ?_; intro A3 cap3 w3 own3 g3 r3; have B3 := hide (B2.out.trans (O1.out.grownBelow g3 B2.out.size)); have O3 := hide own3; clear own3 g3 r3)
        | (at_builtin; refine wpList_appZ (l' := [s]) 27 Tryz.underlying27 rfl (.tmp 39) (.tmp 41) rfl rfl rfl (by simp) rfl (O3.out.alloc _) (ZIn.one s _ rfl) (Nat.le_trans B3.out.size (by simp)) (by rw [List.length_append, E1.out]; simp; omega) ?_; intro A4 cap4 w4 own4 g4 r4; have b4 := (O3.out.alloc (.cells #[Value.string s] 9)).grownBelow g4 (Nat.le_trans B3.out.size (by simp)); have b4' := ((Below.refl w.heap.size w3).alloc B3.out.size (.cells #[Value.string s] 9)).trans b4; have B4 := hide (B3.out.trans b4'); have O4 := hide own4; clear own4 g4 r4 b4 b4')
        | (at_builtin; refine wpList_appZ 27 Tryz.underlying27 rfl (.tmp 43) (.tmp 46) rfl rfl rfl (by simp) (by rw [E2.out]; simp) O4.out (IN2.out.below B4.out) B4.out.size (by rw [List.length_append, List.length_append, E1.out, E2.out]; simp; omega) ?_; intro A5 cap5 w5 own5 g5 r5; have b5 := O4.out.grownBelow g5 B4.out.size; have B5 := hide (B4.out.trans b5); have O5 := hide own5; clear own5 g5 r5 b5))
      go_ret
      have O6 := O5.out
      rw [E3.out] at O6
      rw [PE.out]
      exact ⟨A5, cap5, by rw [← E3.out]; simp, O6.more hB, B5.out⟩
end Go.Proofs.YtaofemdhgfejjaaGreatDoor
/-
  What spec's l7Keys and l7One answer.
-/
namespace Go.Proofs.YtaofemdhgfejjaaGreatDoor
open Go.RowKit

/-- a row of texts of the call's own comes back -/
def RetZ (B : Nat) (l : List ByteArray) (w : World) (e : Ending) (w' : World) : Prop := ∃ A cap, e = .returned (.slice A l.length cap) ∧ ZOwn w' B A cap l ∧ Below B w w'
theorem ZOwn.apart {w w' : World} {B : Nat} {A A' : Option Addr} {cap : Nat} {l : List ByteArray} (h : ZOwn w B A cap l) (hg : w.grownBy w' (rowOf A')) (hne : ∀ g, rowOf A = some g → rowOf A' ≠ some g) : ZOwn w' B A cap l := by
  refine World.ownsRow.kept h hg ?_
  rw [rowOf_own]
  cases e : rowOf A with
  | none => exact .inl rfl
  | some g => exact .inr (fun x => hne g e x.symm)
theorem keysM_take (l : List Pr) (k : Nat) (h : k < l.length) : keysM (l.take (k + 1)) = putK (keysM (l.take k)) l[k].1 := by
  unfold keysM
  rw [List.take_succ_eq_append_getElem h, List.foldl_append]
  rfl
theorem keysM_le (l : List Pr) (k : Nat) : (keysM (l.take k)).length ≤ l.length := by
  have := keysM_len (l.take k) []
  rw [List.length_take] at this
  unfold keysM
  simp only [List.length_nil] at this
  omega

set_option maxRecDepth 100000 in
set_option maxHeartbeats 2000000 in
theorem l7Keys_any (A0 A1 A2 : Option Addr) (l0 l1 l2 : List Pr) (c0 c1 c2 : Nat) (w : World) (h0 : l0.length ≤ 200) (h1 : l1.length ≤ 200) (h2 : l2.length ≤ 200) (i0 : PIn w w.heap.size A0 l0) (i1 : PIn w w.heap.size A1 l1) (i2 : PIn w w.heap.size A2 l2) :
    Calls Tryz.prog 57 #[.slice A0 l0.length c0, .slice A1 l1.length c1, .slice A2 l2.length c2] w (RetZ w.heap.size (merK l0 l1 l2) w) := by
  have OZ := hide (ZOwn.built w w.heap.size (Nat.le_refl _))
  have BZ := hide ((Below.refl w.heap.size w).alloc (Nat.le_refl _) (.cells #[] 9))
  have OP0 : Hid (Own ((w.alloc (.cells #[] 9)).alloc (.cells #[] 60)) w.heap.size (some ⟨w.heap.size + 1, 0, none⟩) 0 []) := hide (by have := Own.built (w.alloc (.cells #[] 9)) w.heap.size BZ.out.size; simpa using this)
  have B1 := hide (BZ.out.alloc BZ.out.size (.cells #[] 60))
  have Z1 := hide (OZ.out.alloc (.cells #[] 60))
  have I0 := hide i0
  have I1 := hide i1
  have I2 := hide i2
  have ZS : Hid (w.heap.size < (w.alloc (.cells #[] 9)).heap.size) := hide (by simp)
  clear i0 i1 i2 OZ BZ
  generalize hn0 : l0.length = n0 at *
  generalize hn1 : l1.length = n1 at *
  generalize hn2 : l2.length = n2 at *
  have N0 := hide hn0
  have N1 := hide hn1
  have N2 := hide hn2
  clear hn0 hn1 hn2
  go_enter Tryz.func57, Tryz.ntmps57
  go_wp2_with (first
    | (at_builtin; refine wpList_app 24 Tryz.underlying24 rfl (.tmp 11) (.tmp 12) rfl rfl rfl rfl N0.out.symm OP0.out (I0.out.below B1.out) B1.out.size (by rw [N0.out]; simp; omega) ?_; intro A3 cap3 w3 own3 g3 r3; have b3 := OP0.out.grownBelow (by rw [rowOf_own]; exact g3) B1.out.size; have B3 := hide (B1.out.trans b3); have O3 := hide own3; clear own3)
    | (at_builtin; refine wpList_app 24 Tryz.underlying24 rfl (.tmp 13) (.tmp 14) rfl rfl rfl (by simp) N1.out.symm O3.out (I1.out.below B3.out) B3.out.size (by rw [List.length_append, N0.out, N1.out]; simp; omega) ?_; intro A4 cap4 w4 own4 g4 r4; have b4 := O3.out.grownBelow (by rw [rowOf_own]; exact g4) B3.out.size; have B4 := hide (B3.out.trans b4); have O4 := hide own4; clear own4)
    | (at_builtin; refine wpList_app 24 Tryz.underlying24 rfl (.tmp 15) (.tmp 16) rfl rfl rfl (by simp) N2.out.symm O4.out (I2.out.below B4.out) B4.out.size (by rw [List.length_append, List.length_append, N0.out, N1.out, N2.out]; simp; omega) ?_; intro A5 cap5 w5 own5 g5 r5; have b5 := O4.out.grownBelow (by rw [rowOf_own]; exact g5) B4.out.size; have B5 := hide (B4.out.trans b5); have O5 := hide own5; clear own5))
  have E : Hid (([] ++ l0 ++ l1) ++ l2 = l0 ++ l1 ++ l2) := hide (by simp)
  have z3 : w.heap.size + 2 ≤ w3.heap.size := by have := b3.size; simpa using this
  have z4 := b4.size
  have ne1 : ∀ g, rowOf (some (⟨w.heap.size, 0, none⟩ : Addr)) = some g → rowOf (some (⟨w.heap.size + 1, 0, none⟩ : Addr)) ≠ some g := fun g h x => by simp [rowOf] at h x; omega
  have ne3 : ∀ g, rowOf (some (⟨w.heap.size, 0, none⟩ : Addr)) = some g → rowOf A3 ≠ some g := fun g h x => by
    rcases r3 with e | e
    · rw [e] at x; exact ne1 g h x
    · rw [e] at x; simp [rowOf] at h x; omega
  have ne4 : ∀ g, rowOf (some (⟨w.heap.size, 0, none⟩ : Addr)) = some g → rowOf A4 ≠ some g := fun g h x => by
    rcases r4 with e | e
    · rw [e] at x; exact ne3 g h x
    · rw [e] at x; simp [rowOf] at h x; omega
  have Z5 := hide (((Z1.out.apart g3 ne1).apart g4 ne3).apart g5 ne4)
  have O6 := O5.out
  rw [E.out] at O6
  have OA := hide O6
  have NL : Hid (l0.length + (l1.length + l2.length) = (l0 ++ l1 ++ l2).length) := hide (by simp)
  have LN : (l0 ++ l1 ++ l2).length ≤ 600 := by simp only [List.length_append, N0.out, N1.out, N2.out]; omega
  rw [NL.out]
  have MK : Hid (merK l0 l1 l2 = keysM (l0 ++ l1 ++ l2)) := hide rfl
  clear Z1 g3 r3 b3 B3 O3 g4 r4 b4 B4 O4 g5 r5 b5 O5 O6 ne1 ne3 ne4 z3 z4 E OP0 B1 I0 I1 I2
  generalize l0 ++ l1 ++ l2 = la at *
  generalize hn : la.length = n at *
  have HN := hide hn
  clear hn NL N0 N1 N2
  go_loopw [7, 9] (fun ks i wr => ∃ (k : Nat) (A : Option Addr) (cap : Nat), k ≤ n ∧ i = .int .i64 k ∧ ks = .slice A (keysM (la.take k)).length cap ∧ Hid (ZOwn wr w.heap.size A cap (keysM (la.take k))) ∧ Hid (Own wr w.heap.size A5 cap5 la) ∧ Hid (Below w.heap.size w wr)) (fun _ i _ => n - (intOf i).toNat)
  case atStart => exact ⟨0, _, _, Nat.zero_le _, rfl, rfl, Z5, OA, B5⟩
  case round =>
    clear Z5 OA B5
    obtain ⟨k, A, cap, hk, rfl, rfl, Z, O, Q⟩ := hrel
    have KL : Hid ((keysM (la.take k)).length ≤ 600) := hide (by have := keysM_le la k; rw [HN.out] at this; omega)
    by_cases hlt : k < n
    · have hkl : k < la.length := by rw [HN.out]; omega
      have hin := O.out.pin
      obtain ⟨b, off, rfl, hbB, hc⟩ := hin.2 (by omega)
      obtain ⟨c1, _⟩ := hc k hkl
      have E2 := hide (keysM_take la k hkl)
      clear hc hin
      generalize (la[k]'hkl).1 = s at *
      generalize keysM (la.take k) = ks at *
      go_wp2_with fail
      refine (l1PutX_any A ks cap s _ w.heap.size (by have := KL.out; omega) Z.out Q.out.size).mono ?_
      rintro e w2 ⟨A2, cap2, rfl, z2, b2⟩
      have O2 := hide (O.out.below b2)
      have Q2 := hide (Q.out.trans (b2.mono Q.out.size))
      rw [← E2.out] at z2
      have Z2 := hide z2
      rw [← E2.out]
      clear z2 b2 O Q Z c1
      go_wp2
      go_roundw
      case rel => exact ⟨k + 1, A2, cap2, by omega, by go_num, rfl, Z2, O2, Q2⟩
      case measure => simp [intOf]; omega
    · obtain rfl : k = n := by omega
      have E3 : Hid (keysM (la.take k) = merK l0 l1 l2) := hide (by rw [List.take_of_length_le (by rw [HN.out]; exact Nat.le_refl _), MK.out])
      rw [E3.out] at Z ⊢
      go_wp2
      go_ret
      exact ⟨A, cap, rfl, Z.out, Q.out⟩

/-- what l7One answers -/
def oneV (o x y : Option ByteArray) : ByteArray := ((oneM o x y).getD none).getD ByteArray.empty
def oneH (o x y : Option ByteArray) : Bool := ((oneM o x y).getD none).isSome
def oneOk (o x y : Option ByteArray) : Bool := (oneM o x y).isSome
theorem ret_one {s s' : ByteArray} {a a' b b' : Bool} (h : s = s') (h1 : a = a') (h2 : b = b') : Ending.returned (.tuple #[.string s, .bool a, .bool b]) = .returned (.tuple #[.string s', .bool a', .bool b']) := by rw [h, h1, h2]
theorem two_ne {a b c : Bool} (h1 : ¬ b = a) (h2 : ¬ c = a) : b = c := by cases a <;> cases b <;> cases c <;> simp_all
theorem eqB_yes {a b : Bool} (h : a = b) : (a == b) = true := by simp [h]
theorem eqB_no {a b : Bool} (h : ¬ a = b) : (a == b) = false := by simp [h]

set_option maxRecDepth 100000 in
set_option maxHeartbeats 4000000 in
theorem l7One_any (A0 A1 A2 : Option Addr) (l0 l1 l2 : List Pr) (c0 c1 c2 : Nat) (key : ByteArray) (w : World) (B : Nat) (h0 : l0.length ≤ maxLen) (h1 : l1.length ≤ maxLen) (h2 : l2.length ≤ maxLen) (i0 : PIn w B A0 l0) (i1 : PIn w B A1 l1) (i2 : PIn w B A2 l2) :
    Calls Tryz.prog 58 #[.slice A0 l0.length c0, .slice A1 l1.length c1, .slice A2 l2.length c2, .string key] w fun e w' => e = .returned (.tuple #[.string (oneV (lk l0 key) (lk l1 key) (lk l2 key)), .bool (oneH (lk l0 key) (lk l1 key) (lk l2 key)), .bool (oneOk (lk l0 key) (lk l1 key) (lk l2 key))]) ∧ w = w' := by
  have R0 := hide (l1Get_any A0 l0 c0 key w B h0 i0)
  have R1 := hide (l1Get_any A1 l1 c1 key w B h1 i1)
  have R2 := hide (l1Get_any A2 l2 c2 key w B h2 i2)
  have Q1 : Hid (lk l1 key = lk l0 key ↔ hasB l1 key = hasB l0 key ∧ valOf l1 key = valOf l0 key) := hide lk_eq
  have Q2 : Hid (lk l2 key = lk l0 key ↔ hasB l2 key = hasB l0 key ∧ valOf l2 key = valOf l0 key) := hide lk_eq
  have Q3 : Hid (lk l1 key = lk l2 key ↔ hasB l1 key = hasB l2 key ∧ valOf l1 key = valOf l2 key) := hide lk_eq
  have V1 := hide (lk_val l1 key)
  have V2 := hide (lk_val l2 key)
  have U1 := hide (lk_has l1 key)
  have U2 := hide (lk_has l2 key)
  generalize hx0 : valOf l0 key = x0 at *
  generalize hx1 : valOf l1 key = x1 at *
  generalize hx2 : valOf l2 key = x2 at *
  generalize hb0 : hasB l0 key = b0 at *
  generalize hb1 : hasB l1 key = b1 at *
  generalize hb2 : hasB l2 key = b2 at *
  clear hx0 hx1 hx2 hb0 hb1 hb2 i0 i1 i2
  have YES1 : Hid (lk l1 key = lk l0 key → oneV (lk l0 key) (lk l1 key) (lk l2 key) = x2 ∧ oneH (lk l0 key) (lk l1 key) (lk l2 key) = b2 ∧ oneOk (lk l0 key) (lk l1 key) (lk l2 key) = true) := hide (fun e => by
    unfold oneV oneH oneOk oneM
    rw [if_pos e, V2.out, U2.out]
    exact ⟨rfl, rfl, rfl⟩)
  have YES2 : Hid (¬ lk l1 key = lk l0 key → (lk l2 key = lk l0 key ∨ lk l1 key = lk l2 key) → oneV (lk l0 key) (lk l1 key) (lk l2 key) = x1 ∧ oneH (lk l0 key) (lk l1 key) (lk l2 key) = b1 ∧ oneOk (lk l0 key) (lk l1 key) (lk l2 key) = true) := hide (fun e e2 => by
    unfold oneV oneH oneOk oneM
    rw [if_neg e, if_pos e2, V1.out, U1.out]
    exact ⟨rfl, rfl, rfl⟩)
  have NO : Hid (¬ lk l1 key = lk l0 key → ¬ (lk l2 key = lk l0 key ∨ lk l1 key = lk l2 key) → oneV (lk l0 key) (lk l1 key) (lk l2 key) = ByteArray.empty ∧ oneH (lk l0 key) (lk l1 key) (lk l2 key) = false ∧ oneOk (lk l0 key) (lk l1 key) (lk l2 key) = false) := hide (fun e e2 => by
    unfold oneV oneH oneOk oneM
    rw [if_neg e, if_neg e2]
    exact ⟨rfl, rfl, rfl⟩)
  generalize hr1 : oneV (lk l0 key) (lk l1 key) (lk l2 key) = r1 at *
  generalize hr2 : oneH (lk l0 key) (lk l1 key) (lk l2 key) = r2 at *
  generalize hr3 : oneOk (lk l0 key) (lk l1 key) (lk l2 key) = r3 at *
  clear hr1 hr2 hr3
  have GO : ∀ (FIN : Hid (∀ s a b, s = r1 ∧ a = r2 ∧ b = r3 → Ending.returned (.tuple #[.string s, .bool a, .bool b]) = .returned (.tuple #[.string r1, .bool r2, .bool r3]))), Calls Tryz.prog 58 #[.slice A0 l0.length c0, .slice A1 l1.length c1, .slice A2 l2.length c2, .string key] w fun e w' => e = .returned (.tuple #[.string r1, .bool r2, .bool r3]) ∧ w = w' := by
    intro FIN
    generalize l0.length = n0 at *
    generalize l1.length = n1 at *
    generalize l2.length = n2 at *
    go_enter Tryz.func58, Tryz.ntmps58
    go_wp2_with fail
    refine R0.out.mono ?_
    rintro e w' ⟨rfl, rfl⟩
    go_wp2_with fail
    refine R1.out.mono ?_
    rintro e w' ⟨rfl, rfl⟩
    go_wp2_with fail
    refine R2.out.mono ?_
    rintro e w' ⟨rfl, rfl⟩
    clear R0 R1 R2
    by_cases e1 : b1 = b0
    · have d1 := eqB_yes e1
      by_cases e2 : x1 = x0
      · have d2 := eqS_yes e2
        obtain ⟨f1, f2, f3⟩ := YES1.out (Q1.out.2 ⟨e1, e2⟩)
        have F := hide (FIN.out _ _ _ ⟨f1.symm, f2.symm, f3.symm⟩)
        clear e1 e2 f1 f2 f3 Q1 Q2 Q3 YES1 YES2 NO V1 V2 U1 U2
        go_wp2
        go_ret3
        exact ⟨F.out, rfl⟩
      · have d2 := eqS_no e2
        have N1 : Hid (¬ lk l1 key = lk l0 key) := hide (fun h => e2 (Q1.out.1 h).2)
        clear e2
        by_cases e3 : b2 = b0
        · have d3 := eqB_yes e3
          by_cases e4 : x2 = x0
          · have d4 := eqS_yes e4
            obtain ⟨f1, f2, f3⟩ := YES2.out N1.out (.inl (Q2.out.2 ⟨e3, e4⟩))
            have F := hide (FIN.out _ _ _ ⟨f1.symm, f2.symm, f3.symm⟩)
            clear e1 e3 e4 f1 f2 f3 Q1 Q2 Q3 YES1 YES2 NO V1 V2 U1 U2
            go_wp2
            go_ret3
            exact ⟨F.out, rfl⟩
          · have d4 := eqS_no e4
            have N2 : Hid (¬ lk l2 key = lk l0 key) := hide (fun h => e4 (Q2.out.1 h).2)
            clear e4
            have d5 := eqB_yes (e1.trans e3.symm)
            by_cases e6 : x1 = x2
            · have d6 := eqS_yes e6
              obtain ⟨f1, f2, f3⟩ := YES2.out N1.out (.inr (Q3.out.2 ⟨e1.trans e3.symm, e6⟩))
              have F := hide (FIN.out _ _ _ ⟨f1.symm, f2.symm, f3.symm⟩)
              clear e1 e3 e6 f1 f2 f3 Q1 Q2 Q3 YES1 YES2 NO V1 V2 U1 U2
              go_wp2
              go_ret3
              exact ⟨F.out, rfl⟩
            · have d6 := eqS_no e6
              obtain ⟨f1, f2, f3⟩ := NO.out N1.out (by rintro (h | h); exact N2.out h; exact e6 (Q3.out.1 h).2)
              have F := hide (FIN.out _ _ _ ⟨f1.symm, f2.symm, f3.symm⟩)
              clear e1 e3 e6 f1 f2 f3 Q1 Q2 Q3 YES1 YES2 NO V1 V2 U1 U2
              go_wp2
              go_ret3
              exact ⟨F.out, rfl⟩
        · have d3 := eqB_no e3
          have d5 := eqB_no (fun h : b1 = b2 => e3 (h.symm.trans e1))
          obtain ⟨f1, f2, f3⟩ := NO.out N1.out (by rintro (h | h); exact e3 (Q2.out.1 h).1; exact e3 ((Q3.out.1 h).1.symm.trans e1))
          have F := hide (FIN.out _ _ _ ⟨f1.symm, f2.symm, f3.symm⟩)
          clear e1 e3 f1 f2 f3 Q1 Q2 Q3 YES1 YES2 NO V1 V2 U1 U2
          go_wp2
          go_ret3
          exact ⟨F.out, rfl⟩
    · have d1 := eqB_no e1
      have N1 : Hid (¬ lk l1 key = lk l0 key) := hide (fun h => e1 (Q1.out.1 h).1)
      by_cases e3 : b2 = b0
      · have d3 := eqB_yes e3
        have d5 := eqB_no (fun h : b1 = b2 => e1 (h.trans e3))
        by_cases e4 : x2 = x0
        · have d4 := eqS_yes e4
          obtain ⟨f1, f2, f3⟩ := YES2.out N1.out (.inl (Q2.out.2 ⟨e3, e4⟩))
          have F := hide (FIN.out _ _ _ ⟨f1.symm, f2.symm, f3.symm⟩)
          clear e1 e3 e4 f1 f2 f3 Q1 Q2 Q3 YES1 YES2 NO V1 V2 U1 U2
          go_wp2
          go_ret3
          exact ⟨F.out, rfl⟩
        · have d4 := eqS_no e4
          obtain ⟨f1, f2, f3⟩ := NO.out N1.out (by rintro (h | h); exact e4 (Q2.out.1 h).2; exact e1 ((Q3.out.1 h).1.trans e3))
          have F := hide (FIN.out _ _ _ ⟨f1.symm, f2.symm, f3.symm⟩)
          clear e1 e3 e4 f1 f2 f3 Q1 Q2 Q3 YES1 YES2 NO V1 V2 U1 U2
          go_wp2
          go_ret3
          exact ⟨F.out, rfl⟩
      · have d3 := eqB_no e3
        have d5 := eqB_yes (two_ne e1 e3)
        by_cases e6 : x1 = x2
        · have d6 := eqS_yes e6
          obtain ⟨f1, f2, f3⟩ := YES2.out N1.out (.inr (Q3.out.2 ⟨two_ne e1 e3, e6⟩))
          have F := hide (FIN.out _ _ _ ⟨f1.symm, f2.symm, f3.symm⟩)
          clear e1 e3 e6 f1 f2 f3 Q1 Q2 Q3 YES1 YES2 NO V1 V2 U1 U2
          go_wp2
          go_ret3
          exact ⟨F.out, rfl⟩
        · have d6 := eqS_no e6
          obtain ⟨f1, f2, f3⟩ := NO.out N1.out (by rintro (h | h); exact e3 (Q2.out.1 h).1; exact e6 (Q3.out.1 h).2)
          have F := hide (FIN.out _ _ _ ⟨f1.symm, f2.symm, f3.symm⟩)
          clear e1 e3 e6 f1 f2 f3 Q1 Q2 Q3 YES1 YES2 NO V1 V2 U1 U2
          go_wp2
          go_ret3
          exact ⟨F.out, rfl⟩
  exact GO (hide (fun s a b h => ret_one h.1 h.2.1 h.2.2))
end Go.Proofs.YtaofemdhgfejjaaGreatDoor
/-
  Three rows of the call's own side by side: pairs, keys that are told, all keys.
-/
namespace Go.Proofs.YtaofemdhgfejjaaGreatDoor
open Go.RowKit

structure Rows3 (w : World) (B : Nat) (Ao : Option Addr) (co : Nat) (lo : List Pr) (Ab : Option Addr) (cb : Nat) (lb : List ByteArray) (AK : Option Addr) (cK : Nat) (lK : List ByteArray) : Prop where
  o : Own w B Ao co lo
  b : ZOwn w B Ab cb lb
  k : ZOwn w B AK cK lK
  ob : ∀ g, rowOf Ao = some g → rowOf Ab ≠ some g
  ok : ∀ g, rowOf AK = some g → rowOf Ao ≠ some g
  bk : ∀ g, rowOf AK = some g → rowOf Ab ≠ some g
section
variable {w w' : World} {B : Nat} {Ao : Option Addr} {co : Nat} {lo : List Pr} {Ab : Option Addr} {cb : Nat} {lb : List ByteArray} {AK : Option Addr} {cK : Nat} {lK : List ByteArray}
theorem Rows3.below (h : Rows3 w B Ao co lo Ab cb lb AK cK lK) (q : Below w.heap.size w w') : Rows3 w' B Ao co lo Ab cb lb AK cK lK := ⟨h.o.below q, h.b.below q, h.k.below q, h.ob, h.ok, h.bk⟩
theorem Rows3.alloc (h : Rows3 w B Ao co lo Ab cb lb AK cK lK) (x : Obj) : Rows3 (w.alloc x) B Ao co lo Ab cb lb AK cK lK := h.below ((Below.refl _ _).alloc (Nat.le_refl _) x)
theorem Rows3.appO (h : Rows3 w B Ao co lo Ab cb lb AK cK lK) {A2 : Option Addr} {c2 : Nat} {l2 : List Pr} (own : Own w' B A2 c2 l2) (g : w.grownBy w' (rowOf Ao)) (r : rowOf A2 = rowOf Ao ∨ rowOf A2 = some w.heap.size) : Rows3 w' B A2 c2 l2 Ab cb lb AK cK lK := by
  refine ⟨own, h.b.apart g (fun x hx y => h.ob x y hx), h.k.apart g h.ok, fun x hx hy => ?_, fun x hx hy => ?_, h.bk⟩
  · rcases r with e | e
    · rw [e] at hx; exact h.ob x hx hy
    · rw [e] at hx; injection hx with hx; have := (h.b.row x hy).2; omega
  · rcases r with e | e
    · rw [e] at hy; exact h.ok x hx hy
    · rw [e] at hy; injection hy with hy; have := (h.k.row x hx).2; omega
theorem Rows3.appB (h : Rows3 w B Ao co lo Ab cb lb AK cK lK) {A2 : Option Addr} {c2 : Nat} {l2 : List ByteArray} (own : ZOwn w' B A2 c2 l2) (g : w.grownBy w' (rowOf Ab)) (r : rowOf A2 = rowOf Ab ∨ rowOf A2 = some w.heap.size) : Rows3 w' B Ao co lo A2 c2 l2 AK cK lK := by
  refine ⟨h.o.apart g h.ob, own, h.k.apart g h.bk, fun x hx hy => ?_, h.ok, fun x hx hy => ?_⟩
  · rcases r with e | e
    · rw [e] at hy; exact h.ob x hx hy
    · rw [e] at hy; injection hy with hy; have := (h.o.row x hx).2; omega
  · rcases r with e | e
    · rw [e] at hy; exact h.bk x hx hy
    · rw [e] at hy; injection hy with hy; have := (h.k.row x hx).2; omega
end
/-- pairs and keys come back, in rows of the call's own that lie apart -/
def RetMZ (B : Nat) (l : List Pr) (ks : List ByteArray) (w : World) (e : Ending) (w' : World) : Prop :=
  ∃ A cap A' cap', l.length ≤ cap ∧ e = .returned (.tuple #[.slice A l.length cap, .slice A' ks.length cap']) ∧ Own w' B A cap l ∧ ZOwn w' B A' cap' ks ∧ Below B w w' ∧ ∀ g, rowOf A = some g → rowOf A' ≠ some g
/-- the merger of the first k keys -/
def merT (base a b side : List Pr) (k : Nat) : List Pr := ((merK base a b).take k).filterMap fun x => (pickM base a b side x).map fun v => (x, v)
def badT (base a b : List Pr) (k : Nat) : List ByteArray := ((merK base a b).take k).filter fun x => (oneM (lk base x) (lk a x) (lk b x)).isNone
theorem merT_zero (base a b side : List Pr) : merT base a b side 0 = [] := rfl
theorem badT_zero (base a b : List Pr) : badT base a b 0 = [] := rfl
theorem merT_all (base a b side : List Pr) {k : Nat} (h : (merK base a b).length ≤ k) : merT base a b side k = merM base a b side := by unfold merT merM; rw [List.take_of_length_le h]
theorem badT_all (base a b : List Pr) {k : Nat} (h : (merK base a b).length ≤ k) : badT base a b k = badM base a b := by unfold badT badM; rw [List.take_of_length_le h]
theorem merT_yes {base a b side : List Pr} {k : Nat} (h : k < (merK base a b).length) {v : ByteArray} (hv : pickM base a b side (merK base a b)[k] = some v) : merT base a b side (k + 1) = merT base a b side k ++ [((merK base a b)[k], v)] := by
  unfold merT
  rw [List.take_succ_eq_append_getElem h, List.filterMap_append]
  simp [hv]
theorem merT_no {base a b side : List Pr} {k : Nat} (h : k < (merK base a b).length) (hv : pickM base a b side (merK base a b)[k] = none) : merT base a b side (k + 1) = merT base a b side k := by
  unfold merT
  rw [List.take_succ_eq_append_getElem h, List.filterMap_append]
  simp [hv]
theorem badT_yes {base a b : List Pr} {k : Nat} (h : k < (merK base a b).length) (hv : oneM (lk base (merK base a b)[k]) (lk a (merK base a b)[k]) (lk b (merK base a b)[k]) = none) : badT base a b (k + 1) = badT base a b k ++ [(merK base a b)[k]] := by
  unfold badT
  rw [List.take_succ_eq_append_getElem h, List.filter_append]
  simp [hv]
theorem badT_no {base a b : List Pr} {k : Nat} (h : k < (merK base a b).length) {r : Option ByteArray} (hv : oneM (lk base (merK base a b)[k]) (lk a (merK base a b)[k]) (lk b (merK base a b)[k]) = some r) : badT base a b (k + 1) = badT base a b k := by
  unfold badT
  rw [List.take_succ_eq_append_getElem h, List.filter_append]
  simp [hv]
theorem merT_len (base a b side : List Pr) (k : Nat) : (merT base a b side k).length ≤ (merK base a b).length := by
  have h1 : (merT base a b side k).length ≤ ((merK base a b).take k).length := List.length_filterMap_le _ _
  rw [List.length_take] at h1
  omega
theorem badT_len (base a b : List Pr) (k : Nat) : (badT base a b k).length ≤ (merK base a b).length := by
  have h1 : (badT base a b k).length ≤ ((merK base a b).take k).length := List.length_filter_le _ _
  rw [List.length_take] at h1
  omega
theorem valOf_max {l : List Pr} (h : lens l) (k : ByteArray) : (valOf l k).size ≤ maxLen := by
  cases hh : hasB l k
  · rw [valOf_no hh]; simp [maxLen]
  · obtain ⟨hlt, he⟩ := hasB_iff.1 hh
    rw [valOf_yes hlt he]
    exact (h _ hlt).2
theorem mem_max {l : List Pr} (h : lens l) {p : Pr} (hp : p ∈ l) : p.1.size ≤ maxLen := by
  obtain ⟨i, hi, rfl⟩ := List.mem_iff_getElem.1 hp
  exact (h i hi).1
theorem merK_max {base a b : List Pr} (h0 : lens base) (h1 : lens a) (h2 : lens b) {k : ByteArray} (h : k ∈ merK base a b) : k.size ≤ maxLen := by
  obtain ⟨p, hp, rfl⟩ := merK_from h
  rcases hp with hp | hp | hp
  · exact mem_max h0 hp
  · exact mem_max h1 hp
  · exact mem_max h2 hp
/-- what a map tells of a key, as the program reads it -/
theorem lk_shape (l : List Pr) (k : ByteArray) : (hasB l k = true ∧ lk l k = some (valOf l k)) ∨ (hasB l k = false ∧ lk l k = none) := by
  cases h : hasB l k
  · exact .inr ⟨rfl, lk_no h⟩
  · exact .inl ⟨rfl, lk_yes h⟩
theorem one_shape (base a b : List Pr) (k : ByteArray) : oneM (lk base k) (lk a k) (lk b k) = none ∨ oneM (lk base k) (lk a k) (lk b k) = some (lk a k) ∨ oneM (lk base k) (lk a k) (lk b k) = some (lk b k) := by
  unfold oneM
  split
  · exact .inr (.inr rfl)
  · split
    · exact .inr (.inl rfl)
    · exact .inl rfl
end Go.Proofs.YtaofemdhgfejjaaGreatDoor
/-
  What impl.keysOf answers.
-/
namespace Go.Proofs.YtaofemdhgfejjaaGreatDoor
open Go.RowKit Go.Lib

abbrev Tri := Option Addr × List Pr × Nat
def triV (t : Tri) : Value := .slice t.1 t.2.1.length t.2.2
def catK (Ls : List Tri) : List ByteArray := (Ls.flatMap fun t => t.2.1).map (·.1)
theorem catK_succ (Ls : List Tri) (k : Nat) (h : k < Ls.length) : catK (Ls.take (k + 1)) = catK (Ls.take k) ++ (Ls[k].2.1).map (·.1) := by
  unfold catK
  rw [List.take_succ_eq_append_getElem h, List.flatMap_append, List.map_append]
  simp
theorem keys_succ (l : List Pr) (k : Nat) (h : k < l.length) : (l.take (k + 1)).map (·.1) = (l.take k).map (·.1) ++ [l[k].1] := by
  rw [List.take_succ_eq_append_getElem h, List.map_append]
  rfl
theorem catK_len (Ls : List Tri) (h : ∀ t ∈ Ls, t.2.1.length ≤ 200) : ∀ k, k ≤ Ls.length → (catK (Ls.take k)).length ≤ 200 * k
  | 0, _ => by simp [catK]
  | k + 1, hk => by
    have ih := catK_len Ls h k (by omega)
    rw [catK_succ Ls k (by omega), List.length_append, List.length_map]
    have := h _ (List.getElem_mem (show k < Ls.length by omega))
    omega

set_option maxRecDepth 100000 in
set_option maxHeartbeats 2000000 in
theorem keysOf_any (g : Nat) (Ls : List Tri) (w : World) (hc : ∀ i (h : i < Ls.length), w.cell? ⟨g, i, none⟩ = some (triV Ls[i])) (hg : g < w.heap.size) (hin : ∀ t ∈ Ls, PIn w w.heap.size t.1 t.2.1) (hlen : ∀ t ∈ Ls, t.2.1.length ≤ 200) (hn : Ls.length ≤ 3) (ks : List ByteArray) (hk : RisK ks) (hm : ∀ x, x ∈ ks ↔ x ∈ catK Ls) :
    Calls Tryz.prog 49 #[.slice (some ⟨g, 0, none⟩) Ls.length Ls.length] w (RetZ w.heap.size ks w) := by
  have HC := hide hc
  have HI := hide hin
  have HL := hide hlen
  have UQ := hide (fun (w' : World) (A : Option Addr) (cap : Nat) => uniq_own (w := w') (B := w.heap.size) (A := A) (cap := cap) hk hm)
  clear hc hin hlen hk hm
  generalize hnn : Ls.length = n at hn ⊢
  have HN := hide hnn
  clear hnn
  go_enter Tryz.func49, Tryz.ntmps49
  go_wp2
  go_loopw [3, 10] (fun o i wr => ∃ (k : Nat) (A : Option Addr) (cap : Nat), k ≤ n ∧ i = .int .i64 k ∧ o = .slice A (catK (Ls.take k)).length cap ∧ Hid (ZOwn wr w.heap.size A cap (catK (Ls.take k))) ∧ Hid (Below w.heap.size w wr)) (fun _ i _ => n - (intOf i).toNat)
  case atStart => exact ⟨0, none, 0, Nat.zero_le _, rfl, rfl, ZOwn.nil _ _, Below.refl _ _⟩
  case round =>
    obtain ⟨k, A, cap, hk, rfl, rfl, Z, Q⟩ := hrel
    have KL : Hid ((catK (Ls.take k)).length ≤ 600) := hide (by have := catK_len Ls HL.out k (by rw [HN.out]; exact hk); omega)
    by_cases hlt : k < n
    · have hkl : k < Ls.length := by rw [HN.out]; exact hlt
      have c0 := cellB Q.out hg (HC.out k hkl)
      have IN := hide (HI.out _ (List.getElem_mem hkl))
      have L2 := HL.out _ (List.getElem_mem hkl)
      have CS := hide (catK_succ Ls k hkl)
      unfold triV at c0
      generalize (Ls[k]'hkl).1 = A1 at *
      generalize (Ls[k]'hkl).2.1 = l1 at *
      generalize (Ls[k]'hkl).2.2 = cap1 at *
      generalize hm1 : l1.length = m at *
      have HM := hide hm1
      clear hm1
      generalize catK (Ls.take k) = cs at *
      go_wp2
      go_loopw [3, 16] (fun o i w2 => ∃ (j : Nat) (A2 : Option Addr) (cap2 : Nat), j ≤ m ∧ i = .int .i64 j ∧ o = .slice A2 (cs ++ (l1.take j).map (·.1)).length cap2 ∧ Hid (ZOwn w2 w.heap.size A2 cap2 (cs ++ (l1.take j).map (·.1))) ∧ Hid (Below w.heap.size w w2)) (fun _ i _ => m - (intOf i).toNat)
      case atStart => exact ⟨0, A, cap, Nat.zero_le _, rfl, by simp, by simpa using Z, Q⟩
      case round =>
        clear Z Q c0
        obtain ⟨j, A2, cap2, hj, rfl, rfl, Z, Q⟩ := hrel
        by_cases hjt : j < m
        · have hjl : j < l1.length := by rw [HM.out]; exact hjt
          obtain ⟨b, off, rfl, hbB, hcc⟩ := (IN.out.below Q.out).2 (by omega)
          obtain ⟨c1, c2⟩ := hcc j hjl
          have KS : Hid (cs ++ (l1.take (j + 1)).map (·.1) = (cs ++ (l1.take j).map (·.1)) ++ [(l1[j]'hjl).1]) := hide (by rw [keys_succ l1 j hjl, List.append_assoc])
          have LL : Hid ((cs ++ (l1.take j).map (·.1)).length ≤ 800) := hide (by have := KL.out; simp; omega)
          clear hcc
          generalize (l1[j]'hjl).1 = key at *
          generalize (l1[j]'hjl).2 = vv at *
          generalize cs ++ (l1.take j).map (·.1) = xs at *
          have BA := hide ((Q.out.alloc Q.out.size (.cells #[.string key, .string vv] 60)).alloc (Nat.le_trans Q.out.size (by simp)) (.cells #[.string key] 9))
          have ZA := hide ((Z.out.alloc (.cells #[.string key, .string vv] 60)).alloc (.cells #[.string key] 9))
          have z1 : Hid (wr.heap.size + 1 = (wr.alloc (.cells #[.string key, .string vv] 60)).heap.size) := hide (by simp)
          go_wp2_with (at_builtin; refine wpList_appZ (l' := [key]) 27 Tryz.underlying27 rfl (.tmp 20) (.tmp 23) rfl rfl rfl rfl rfl ZA.out (ZIn.one (w := wr.alloc (.cells #[.string key, .string vv] 60)) key _ z1.out.symm) BA.out.size (by have := LL.out; simp; omega) ?_; intro A5 cap5 w5 own5 g5 r5; have b5 := ZA.out.grownBelow g5 BA.out.size; have Q5 := hide (BA.out.trans b5); have Z5 := hide own5; clear own5 g5 r5 b5 ZA BA)
          rw [← KS.out] at Z5
          go_roundw
          case rel => exact ⟨j + 1, A5, cap5, by omega, by go_num, by rw [KS.out]; simp, Z5, Q5⟩
          case measure => simp [intOf]; omega
        · obtain rfl : j = m := by omega
          have E : Hid (cs ++ (l1.take j).map (·.1) = catK (Ls.take (k + 1))) := hide (by rw [CS.out, List.take_of_length_le (by rw [HM.out]; exact Nat.le_refl _)])
          rw [E.out] at Z
          rw [E.out]
          go_wp2
          go_roundw
          case rel => exact ⟨k + 1, A2, cap2, by omega, by go_num, rfl, Z, Q⟩
          case measure => simp [intOf]; omega
    · obtain rfl : k = n := by omega
      have E : Hid (catK (Ls.take k) = catK Ls) := hide (by rw [List.take_of_length_le (by rw [HN.out]; exact Nat.le_refl _)])
      rw [E.out] at Z KL
      rw [E.out]
      have ZL := hide Z.out.toL
      have e1 := toLs_len (catK Ls)
      have e2 := sortL_len (toLs (catK Ls))
      have SO := hide (sort_any A (toLs (catK Ls)) cap wr w.heap.size ZL.out (by have := KL.out; omega))
      have CO := hide (fun W (h : LOwn W w.heap.size A cap (sortL (toLs (catK Ls)))) => compact_any A (sortL (toLs (catK Ls))) cap W w.heap.size h (by have := KL.out; omega))
      rw [e1] at SO
      rw [e2, e1] at CO
      have RW := hide Z.out.row
      clear e1 e2 ZL
      go_wp2_with fail
      refine SO.out.mono ?_
      rintro e w2 ⟨rfl, o2, g2⟩
      have Q2 := hide (Q.out.trans (Z.out.grownBelow g2 Q.out.size))
      have O2 := hide o2
      clear o2 g2 SO
      go_wp2_with fail
      refine (CO.out _ O2.out).mono ?_
      rintro e w3 ⟨rfl, o3, g3⟩
      have Q3 := hide (Q2.out.trans ((Below.refl w.heap.size w2).grown g3 Q2.out.size (fun x hx => (RW.out x hx).1)))
      obtain ⟨z3, e3⟩ := UQ.out w3 A cap o3
      have Z3 := hide z3
      rw [e3]
      clear z3 e3 o3 g3 CO
      go_wp2
      go_ret
      exact ⟨A, cap, rfl, Z3.out, Q3.out⟩
end Go.Proofs.YtaofemdhgfejjaaGreatDoor
/-
  What impl's holdingOf and chosen answer.
-/
namespace Go.Proofs.YtaofemdhgfejjaaGreatDoor
open Go.RowKit

theorem block_of_alloc {w w' : World} {x : Obj} (h : Below (w.alloc x).heap.size (w.alloc x) w') : w'.heap[w.heap.size]? = some x := (h.block _ (by simp)).trans (heap_alloc_new w x)

set_option maxRecDepth 100000 in
set_option maxHeartbeats 1000000 in
theorem holdingOf_any (A : Option Addr) (l : List Pr) (cap : Nat) (key : ByteArray) (w : World) (hl : l.length ≤ 65536) (hin : PIn w w.heap.size A l) (hr : risesTo l l.length) :
    Calls Tryz.prog 51 #[.slice A l.length cap, .string key] w fun e w' => e = .returned (.agg #[.string (valOf l key), .bool (hasB l key)]) ∧ Below w.heap.size w w' := by
  have B0 := hide ((Below.refl w.heap.size w).alloc (Nat.le_refl _) (.cells #[.string ByteArray.empty, .bool false] 91))
  have IN := hide ((hin.below B0.out).more B0.out.size)
  have HR := hide hr
  clear hin hr
  go_enter Tryz.func51, Tryz.ntmps51
  go_wp2_with fail
  refine (place_any A l cap key _ hl IN.out HR.out).mono ?_
  rintro e w1 ⟨rfl, b1⟩
  have q1 := block_of_alloc b1
  have B1 := hide (B0.out.trans (b1.mono B0.out.size))
  have I1 := hide (IN.out.below b1)
  have z0 : w1.cell? ⟨w.heap.size, 0, none⟩ = some (.string ByteArray.empty) := cell_of_row w1 _ 0 _ _ _ q1
  have z1 : w1.cell? ⟨w.heap.size, 1, none⟩ = some (.bool false) := cell_of_row w1 _ 1 _ _ _ q1
  have f0 := frozen_of_row w1 _ 0 _ _ q1
  have f1 := frozen_of_row w1 _ 1 _ _ q1
  clear b1 B0 IN q1
  cases hh : hasB l key
  · have Z := hide (valOf_no hh)
    go_wp2
    refine bodyPost_ret (v := .agg #[.string ⟨#[]⟩, .bool false]) (by simp [results, Tryz.results51, go_sem, z0, z1]) rfl ?_
    rw [Z.out, hh]
    exact ⟨rfl, (B1.out.setCell (p := ⟨w.heap.size, 0, none⟩) (Nat.le_refl _) _).setCell (p := ⟨w.heap.size, 1, none⟩) (Nat.le_refl _) _⟩
  · obtain ⟨hlt, he⟩ := hasB_iff.1 hh
    have Z := hide (valOf_yes hlt he)
    obtain ⟨b, off, rfl, hbB, hc⟩ := I1.out.2 (by omega)
    obtain ⟨c1, c2⟩ := hc (atN l key) hlt
    generalize (l[atN l key]'hlt).2 = v at *
    generalize atN l key = m at *
    clear hc he I1
    go_wp2
    refine bodyPost_ret (v := .agg #[.string v, .bool true]) (by simp [results, Tryz.results51, go_sem, z0, z1]) rfl ?_
    rw [Z.out, hh]
    exact ⟨rfl, (B1.out.setCell (p := ⟨w.heap.size, 0, none⟩) (Nat.le_refl _) _).setCell (p := ⟨w.heap.size, 1, none⟩) (Nat.le_refl _) _⟩

/-- the holding that a merger takes, and whether it takes one -/
def chV (x0 x1 x2 : ByteArray) (b0 b1 b2 : Bool) : ByteArray × Bool × Bool := if x1 = x0 ∧ b1 = b0 then (x2, b2, true) else if (x2 = x0 ∧ b2 = b0) ∨ (x1 = x2 ∧ b1 = b2) then (x1, b1, true) else (x0, b0, false)
theorem ret_ch {p : ByteArray × Bool × Bool} {s : ByteArray} {a c : Bool} (h : p = (s, a, c)) : Ending.returned (.tuple #[.agg #[.string s, .bool a], .bool c]) = .returned (.tuple #[.agg #[.string p.1, .bool p.2.1], .bool p.2.2]) := by rw [h]
theorem ch_same {x0 x1 x2 : ByteArray} {b0 b1 b2 : Bool} (h : x1 = x0 ∧ b1 = b0) : chV x0 x1 x2 b0 b1 b2 = (x2, b2, true) := by unfold chV; rw [if_pos h]
theorem ch_one {x0 x1 x2 : ByteArray} {b0 b1 b2 : Bool} (h : ¬ (x1 = x0 ∧ b1 = b0)) (h' : (x2 = x0 ∧ b2 = b0) ∨ (x1 = x2 ∧ b1 = b2)) : chV x0 x1 x2 b0 b1 b2 = (x1, b1, true) := by unfold chV; rw [if_neg h, if_pos h']
theorem ch_none {x0 x1 x2 : ByteArray} {b0 b1 b2 : Bool} (h : ¬ (x1 = x0 ∧ b1 = b0)) (h' : ¬ ((x2 = x0 ∧ b2 = b0) ∨ (x1 = x2 ∧ b1 = b2))) : chV x0 x1 x2 b0 b1 b2 = (x0, b0, false) := by unfold chV; rw [if_neg h, if_neg h']
theorem below4 (w : World) (a b c d : Obj) : Below w.heap.size w ((((w.alloc a).alloc b).alloc c).alloc d) := ((((Below.refl _ _).alloc (Nat.le_refl _) _).alloc (by simp) _).alloc (by simp; omega) _).alloc (by simp; omega) _

set_option maxRecDepth 100000 in
set_option maxHeartbeats 4000000 in
theorem chosen_any (x0 x1 x2 : ByteArray) (b0 b1 b2 : Bool) (w : World) :
    Calls Tryz.prog 50 #[.agg #[.string x0, .bool b0], .agg #[.string x1, .bool b1], .agg #[.string x2, .bool b2]] w fun e w' => e = .returned (.tuple #[.agg #[.string (chV x0 x1 x2 b0 b1 b2).1, .bool (chV x0 x1 x2 b0 b1 b2).2.1], .bool (chV x0 x1 x2 b0 b1 b2).2.2]) ∧ Below w.heap.size w w' := by
  have BB := hide (below4 w)
  have FF : Hid (∀ s a c, chV x0 x1 x2 b0 b1 b2 = (s, a, c) → Ending.returned (.tuple #[.agg #[.string s, .bool a], .bool c]) = .returned (.tuple #[.agg #[.string (chV x0 x1 x2 b0 b1 b2).1, .bool (chV x0 x1 x2 b0 b1 b2).2.1], .bool (chV x0 x1 x2 b0 b1 b2).2.2])) := hide (fun s a c h => ret_ch h)
  by_cases e1 : x1 = x0
  · have de1 := eqS_yes e1
    by_cases e2 : b1 = b0
    · have de2 := eqB_yes e2
      have F := hide (FF.out _ _ _ (ch_same ⟨e1, e2⟩))
      clear FF e1 e2
      go_enter Tryz.func50, Tryz.ntmps50
      go_wp2
      refine bodyPost_ret (v := .tuple #[.agg #[.string x2, .bool b2], .bool true]) (by simp [results, Tryz.results50, go_sem]) rfl ?_
      exact ⟨F.out, BB.out _ _ _ _⟩
    · have de2 := eqB_no e2
      by_cases e3 : x2 = x0
      · have de3 := eqS_yes e3
        by_cases e4 : b2 = b0
        · have de4 := eqB_yes e4
          have F := hide (FF.out _ _ _ (ch_one (fun h => e2 h.2) (.inl ⟨e3, e4⟩)))
          clear FF e1 e2 e3 e4
          go_enter Tryz.func50, Tryz.ntmps50
          go_wp2
          refine bodyPost_ret (v := .tuple #[.agg #[.string x1, .bool b1], .bool true]) (by simp [results, Tryz.results50, go_sem]) rfl ?_
          exact ⟨F.out, BB.out _ _ _ _⟩
        · have de4 := eqB_no e4
          by_cases e5 : x1 = x2
          · have de5 := eqS_yes e5
            by_cases e6 : b1 = b2
            · have de6 := eqB_yes e6
              have F := hide (FF.out _ _ _ (ch_one (fun h => e2 h.2) (.inr ⟨e5, e6⟩)))
              clear FF e1 e2 e3 e4 e5 e6
              go_enter Tryz.func50, Tryz.ntmps50
              go_wp2
              refine bodyPost_ret (v := .tuple #[.agg #[.string x1, .bool b1], .bool true]) (by simp [results, Tryz.results50, go_sem]) rfl ?_
              exact ⟨F.out, BB.out _ _ _ _⟩
            · have de6 := eqB_no e6
              have F := hide (FF.out _ _ _ (ch_none (fun h => e2 h.2) (by rintro (h | h); exact (fun h => e4 h.2) h; exact e6 h.2)))
              clear FF e1 e2 e3 e4 e5 e6
              go_enter Tryz.func50, Tryz.ntmps50
              go_wp2
              refine bodyPost_ret (v := .tuple #[.agg #[.string x0, .bool b0], .bool false]) (by simp [results, Tryz.results50, go_sem]) rfl ?_
              exact ⟨F.out, BB.out _ _ _ _⟩
          · have de5 := eqS_no e5
            have F := hide (FF.out _ _ _ (ch_none (fun h => e2 h.2) (by rintro (h | h); exact (fun h => e4 h.2) h; exact e5 h.1)))
            clear FF e1 e2 e3 e4 e5
            go_enter Tryz.func50, Tryz.ntmps50
            go_wp2
            refine bodyPost_ret (v := .tuple #[.agg #[.string x0, .bool b0], .bool false]) (by simp [results, Tryz.results50, go_sem]) rfl ?_
            exact ⟨F.out, BB.out _ _ _ _⟩
      · have de3 := eqS_no e3
        by_cases e5 : x1 = x2
        · have de5 := eqS_yes e5
          by_cases e6 : b1 = b2
          · have de6 := eqB_yes e6
            have F := hide (FF.out _ _ _ (ch_one (fun h => e2 h.2) (.inr ⟨e5, e6⟩)))
            clear FF e1 e2 e3 e5 e6
            go_enter Tryz.func50, Tryz.ntmps50
            go_wp2
            refine bodyPost_ret (v := .tuple #[.agg #[.string x1, .bool b1], .bool true]) (by simp [results, Tryz.results50, go_sem]) rfl ?_
            exact ⟨F.out, BB.out _ _ _ _⟩
          · have de6 := eqB_no e6
            have F := hide (FF.out _ _ _ (ch_none (fun h => e2 h.2) (by rintro (h | h); exact (fun h => e3 h.1) h; exact e6 h.2)))
            clear FF e1 e2 e3 e5 e6
            go_enter Tryz.func50, Tryz.ntmps50
            go_wp2
            refine bodyPost_ret (v := .tuple #[.agg #[.string x0, .bool b0], .bool false]) (by simp [results, Tryz.results50, go_sem]) rfl ?_
            exact ⟨F.out, BB.out _ _ _ _⟩
        · have de5 := eqS_no e5
          have F := hide (FF.out _ _ _ (ch_none (fun h => e2 h.2) (by rintro (h | h); exact (fun h => e3 h.1) h; exact e5 h.1)))
          clear FF e1 e2 e3 e5
          go_enter Tryz.func50, Tryz.ntmps50
          go_wp2
          refine bodyPost_ret (v := .tuple #[.agg #[.string x0, .bool b0], .bool false]) (by simp [results, Tryz.results50, go_sem]) rfl ?_
          exact ⟨F.out, BB.out _ _ _ _⟩
  · have de1 := eqS_no e1
    by_cases e3 : x2 = x0
    · have de3 := eqS_yes e3
      by_cases e4 : b2 = b0
      · have de4 := eqB_yes e4
        have F := hide (FF.out _ _ _ (ch_one (fun h => e1 h.1) (.inl ⟨e3, e4⟩)))
        clear FF e1 e3 e4
        go_enter Tryz.func50, Tryz.ntmps50
        go_wp2
        refine bodyPost_ret (v := .tuple #[.agg #[.string x1, .bool b1], .bool true]) (by simp [results, Tryz.results50, go_sem]) rfl ?_
        exact ⟨F.out, BB.out _ _ _ _⟩
      · have de4 := eqB_no e4
        by_cases e5 : x1 = x2
        · have de5 := eqS_yes e5
          by_cases e6 : b1 = b2
          · have de6 := eqB_yes e6
            have F := hide (FF.out _ _ _ (ch_one (fun h => e1 h.1) (.inr ⟨e5, e6⟩)))
            clear FF e1 e3 e4 e5 e6
            go_enter Tryz.func50, Tryz.ntmps50
            go_wp2
            refine bodyPost_ret (v := .tuple #[.agg #[.string x1, .bool b1], .bool true]) (by simp [results, Tryz.results50, go_sem]) rfl ?_
            exact ⟨F.out, BB.out _ _ _ _⟩
          · have de6 := eqB_no e6
            have F := hide (FF.out _ _ _ (ch_none (fun h => e1 h.1) (by rintro (h | h); exact (fun h => e4 h.2) h; exact e6 h.2)))
            clear FF e1 e3 e4 e5 e6
            go_enter Tryz.func50, Tryz.ntmps50
            go_wp2
            refine bodyPost_ret (v := .tuple #[.agg #[.string x0, .bool b0], .bool false]) (by simp [results, Tryz.results50, go_sem]) rfl ?_
            exact ⟨F.out, BB.out _ _ _ _⟩
        · have de5 := eqS_no e5
          have F := hide (FF.out _ _ _ (ch_none (fun h => e1 h.1) (by rintro (h | h); exact (fun h => e4 h.2) h; exact e5 h.1)))
          clear FF e1 e3 e4 e5
          go_enter Tryz.func50, Tryz.ntmps50
          go_wp2
          refine bodyPost_ret (v := .tuple #[.agg #[.string x0, .bool b0], .bool false]) (by simp [results, Tryz.results50, go_sem]) rfl ?_
          exact ⟨F.out, BB.out _ _ _ _⟩
    · have de3 := eqS_no e3
      by_cases e5 : x1 = x2
      · have de5 := eqS_yes e5
        by_cases e6 : b1 = b2
        · have de6 := eqB_yes e6
          have F := hide (FF.out _ _ _ (ch_one (fun h => e1 h.1) (.inr ⟨e5, e6⟩)))
          clear FF e1 e3 e5 e6
          go_enter Tryz.func50, Tryz.ntmps50
          go_wp2
          refine bodyPost_ret (v := .tuple #[.agg #[.string x1, .bool b1], .bool true]) (by simp [results, Tryz.results50, go_sem]) rfl ?_
          exact ⟨F.out, BB.out _ _ _ _⟩
        · have de6 := eqB_no e6
          have F := hide (FF.out _ _ _ (ch_none (fun h => e1 h.1) (by rintro (h | h); exact (fun h => e3 h.1) h; exact e6 h.2)))
          clear FF e1 e3 e5 e6
          go_enter Tryz.func50, Tryz.ntmps50
          go_wp2
          refine bodyPost_ret (v := .tuple #[.agg #[.string x0, .bool b0], .bool false]) (by simp [results, Tryz.results50, go_sem]) rfl ?_
          exact ⟨F.out, BB.out _ _ _ _⟩
      · have de5 := eqS_no e5
        have F := hide (FF.out _ _ _ (ch_none (fun h => e1 h.1) (by rintro (h | h); exact (fun h => e3 h.1) h; exact e5 h.1)))
        clear FF e1 e3 e5
        go_enter Tryz.func50, Tryz.ntmps50
        go_wp2
        refine bodyPost_ret (v := .tuple #[.agg #[.string x0, .bool b0], .bool false]) (by simp [results, Tryz.results50, go_sem]) rfl ?_
        exact ⟨F.out, BB.out _ _ _ _⟩
end Go.Proofs.YtaofemdhgfejjaaGreatDoor
