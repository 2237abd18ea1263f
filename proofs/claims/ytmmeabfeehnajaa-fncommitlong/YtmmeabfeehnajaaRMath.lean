/-
  Which lists of refs are right; what is set, what is dropped. Plain mathematics.
-/
import Derived.Test.YtmmeabfeehnajaaQAlg
import Derived.Test.YtmmeabfeehnajaaQIdOk
namespace Go.Proofs.Ytmmeabfeehnajaa
open Go.RowKit

/-- the first k pairs are right, and rise -/
def refTo (l : List Pr) (k : Nat) : Prop :=
  (∀ i (h : i < l.length), i < k → keyB l[i].1 = true ∧ QI.idB l[i].2 = true) ∧ ∀ i (h : i + 1 < l.length), i + 1 < k → ltB l[i].1 l[i + 1].1 = true
theorem refTo_zero (l : List Pr) : refTo l 0 := ⟨fun _ _ h => absurd h (by omega), fun _ _ h => absurd h (by omega)⟩
theorem refTo_succ {l : List Pr} {k : Nat} (hk : k < l.length) (h : refTo l k) (h1 : keyB l[k].1 = true) (h2 : QI.idB l[k].2 = true) (h3 : ∀ (hp : 0 < k), ltB (l[k - 1]'(by omega)).1 l[k].1 = true) : refTo l (k + 1) := by
  refine ⟨fun i hi hik => ?_, fun i hi hik => ?_⟩
  · rcases Nat.lt_or_ge i k with g | g
    · exact h.1 i hi g
    · obtain rfl : i = k := by omega
      exact ⟨h1, h2⟩
  · rcases Nat.lt_or_ge (i + 1) k with g | g
    · exact h.2 i hi g
    · obtain rfl : k = i + 1 := by omega
      simpa using h3 (by omega)
open Classical in
noncomputable def refB (l : List Pr) : Bool := decide (l.length ≤ 20 ∧ refTo l l.length)
open Classical in
theorem refB_iff {l : List Pr} : refB l = true ↔ l.length ≤ 20 ∧ refTo l l.length := by unfold refB; exact decide_eq_true_iff
theorem refB_yes {l : List Pr} (h : l.length ≤ 20) (k : refTo l l.length) : refB l = true := refB_iff.2 ⟨h, k⟩
theorem refB_len {l : List Pr} (h : 20 < l.length) : refB l = false := by
  cases e : refB l
  · rfl
  · have := (refB_iff.1 e).1; omega
theorem refB_key {l : List Pr} {k : Nat} (hk : k < l.length) (h : keyB l[k].1 = false) : refB l = false := by
  cases e : refB l
  · rfl
  · have := ((refB_iff.1 e).2.1 k hk hk).1; rw [h] at this; cases this
theorem refB_val {l : List Pr} {k : Nat} (hk : k < l.length) (h : QI.idB l[k].2 = false) : refB l = false := by
  cases e : refB l
  · rfl
  · have := ((refB_iff.1 e).2.1 k hk hk).2; rw [h] at this; cases this
theorem refB_rise {l : List Pr} {k : Nat} (hk : k + 1 < l.length) (h : ltB l[k].1 l[k + 1].1 = false) : refB l = false := by
  cases e : refB l
  · rfl
  · have := (refB_iff.1 e).2.2 k hk hk; rw [h] at this; cases this
/-- pairs that are right, and do they rise: what the two loops of the program ask one behind the other -/
def refsTo (l : List Pr) (k : Nat) : Prop := ∀ i (h : i < l.length), i < k → keyB l[i].1 = true ∧ QI.idB l[i].2 = true
theorem refsTo_zero (l : List Pr) : refsTo l 0 := fun _ _ h => absurd h (by omega)
theorem refsTo_succ {l : List Pr} {k : Nat} (hk : k < l.length) (h : refsTo l k) (h1 : keyB l[k].1 = true) (h2 : QI.idB l[k].2 = true) : refsTo l (k + 1) := by
  intro i hi hik
  rcases Nat.lt_or_ge i k with g | g
  · exact h i hi g
  · obtain rfl : i = k := by omega
    exact ⟨h1, h2⟩
theorem refB_of {l : List Pr} (h : l.length ≤ 20) (hp : refsTo l l.length) : refB l = risesB l := by
  cases e : risesB l
  · cases e' : refB l
    · rfl
    · exact absurd (risesB_yes (refB_iff.1 e').2.2) (by rw [e]; simp)
  · exact refB_yes h ⟨hp, risesB_iff.1 e⟩

/-- without the name -/
def delL (l : List Pr) (k : ByteArray) : List Pr := if hasB l k = true then l.eraseIdx (atN l k) else l
/-- what the reference makes -/
def setS (l : List Pr) (k v : ByteArray) : List Pr := (delL l k).take (atN (delL l k) k) ++ (k, v) :: (delL l k).drop (atN (delL l k) k)
theorem setS_eq (l : List Pr) (k v : ByteArray) : (([] ++ (delL l k).take (atN (delL l k) k)) ++ [(k, v)]) ++ (delL l k).drop (atN (delL l k) k) = setS l k v := by unfold setS; simp
theorem delL_len (l : List Pr) (k : ByteArray) : (delL l k).length ≤ l.length := by
  unfold delL
  split
  · rw [List.length_eraseIdx]; split <;> omega
  · exact Nat.le_refl _
theorem erase_eq (l : List Pr) (k : Nat) : ([] ++ l.take k) ++ l.drop (k + 1) = l.eraseIdx k := by rw [List.nil_append, List.eraseIdx_eq_take_drop_succ]
theorem setS_setL {l : List Pr} (hr : risesTo l l.length) (k v : ByteArray) : setS l k v = setL l k v := by
  unfold setS setL
  cases hh : hasB l k
  · have hd : delL l k = l := by unfold delL; rw [hh]; simp
    rw [hd]
    simp
  · obtain ⟨hlt, he⟩ := hasB_iff.1 hh
    have hd : delL l k = l.eraseIdx (atN l k) := by unfold delL; rw [if_pos hh]
    have hel : (l.eraseIdx (atN l k)).length = l.length - 1 := by rw [List.length_eraseIdx, if_pos hlt]
    have ha : atN (l.eraseIdx (atN l k)) k = atN l k := by
      refine atN_eq (by omega) (fun i hi hik => ?_) (fun h => ?_)
      · rw [List.getElem_eraseIdx_of_lt (by omega) hik]
        exact atN_lt l k i hik (by omega)
      · rw [List.getElem_eraseIdx_of_ge (by omega) (Nat.le_refl _)]
        have h1 : atN l k + 1 < l.length := by omega
        have h2 := hr (atN l k) h1 h1
        rw [he] at h2
        exact ltB_asymm h2
    rw [hd, ha, List.eraseIdx_eq_take_drop_succ]
    have ht : (l.take (atN l k)).length = atN l k := by rw [List.length_take]; omega
    rw [List.take_append_of_le_length (by omega), List.take_take, Nat.min_self, List.drop_append_of_le_length (by omega), List.drop_of_length_le (by omega)]
    simp
theorem refB_ris {l : List Pr} (h : refB l = true) : Ris l := ris_iff.1 (refB_iff.1 h).2.2
theorem refB_all {l : List Pr} : refB l = true ↔ l.length ≤ 20 ∧ (∀ p ∈ l, keyB p.1 = true ∧ QI.idB p.2 = true) ∧ Ris l := by
  rw [refB_iff]
  constructor
  · rintro ⟨h, h1, h2⟩
    refine ⟨h, fun p hp => ?_, ris_iff.1 h2⟩
    obtain ⟨i, hi, rfl⟩ := List.mem_iff_getElem.1 hp
    exact h1 i hi hi
  · rintro ⟨h, h1, h2⟩
    exact ⟨h, fun i hi _ => h1 _ (List.getElem_mem hi), ris_iff.2 h2⟩
theorem refB_set {l : List Pr} {k v : ByteArray} (h : refB l = true) (hk : keyB k = true) (hv : QI.idB v = true) (hl : (setL l k v).length ≤ 20) : refB (setL l k v) = true := by
  obtain ⟨_, h2, h3⟩ := refB_all.1 h
  refine refB_all.2 ⟨hl, fun p hp => ?_, ris_set h3 k v⟩
  rcases (mem_set h3 k v p).1 hp with rfl | ⟨a, _⟩
  · exact ⟨hk, hv⟩
  · exact h2 p a
theorem refB_erase {l : List Pr} (h : refB l = true) (i : Nat) : refB (l.eraseIdx i) = true := by
  obtain ⟨h1, h2, h3⟩ := refB_all.1 h
  refine refB_all.2 ⟨?_, fun p hp => h2 p (List.eraseIdx_sublist _ _ |>.subset hp), ris_erase h3 i⟩
  rw [List.length_eraseIdx]; split <;> omega
noncomputable def gotB (l : List Pr) (k : ByteArray) : Bool := refB l && hasB l k
noncomputable def gotV (l : List Pr) (k : ByteArray) : ByteArray := if refB l = true then valOf l k else ByteArray.empty
noncomputable def stB (l : List Pr) (k v : ByteArray) : Bool := refB l && (keyB k && (QI.idB v && decide ((setL l k v).length ≤ 20)))
noncomputable def stL (l : List Pr) (k v : ByteArray) : List Pr := if stB l k v = true then setL l k v else []
noncomputable def drL (l : List Pr) (k : ByteArray) : List Pr := if gotB l k = true then l.eraseIdx (atN l k) else []
theorem gotB_no {l : List Pr} {k : ByteArray} (h : refB l = false) : gotB l k = false := by unfold gotB; rw [h]; rfl
theorem gotB_yes {l : List Pr} {k : ByteArray} (h : refB l = true) : gotB l k = hasB l k := by unfold gotB; rw [h]; rfl
theorem gotV_no {l : List Pr} {k : ByteArray} (h : refB l = false) : gotV l k = ByteArray.empty := by unfold gotV; rw [h]; rfl
theorem gotV_yes {l : List Pr} {k : ByteArray} (h : refB l = true) : gotV l k = valOf l k := by unfold gotV; rw [if_pos h]
theorem stB_iff {l : List Pr} {k v : ByteArray} : stB l k v = true ↔ refB l = true ∧ keyB k = true ∧ QI.idB v = true ∧ (setL l k v).length ≤ 20 := by
  unfold stB; simp only [Bool.and_eq_true, decide_eq_true_eq]
theorem stB_not {l : List Pr} {k v : ByteArray} (h : ¬ (refB l = true ∧ keyB k = true ∧ QI.idB v = true ∧ (setL l k v).length ≤ 20)) : stB l k v = false := by
  cases e : stB l k v
  · rfl
  · exact absurd (stB_iff.1 e) h
theorem stL_no {l : List Pr} {k v : ByteArray} (h : stB l k v = false) : stL l k v = [] := by unfold stL; rw [h]; rfl
theorem stL_yes {l : List Pr} {k v : ByteArray} (h : stB l k v = true) : stL l k v = setL l k v := by unfold stL; rw [if_pos h]
theorem drL_no {l : List Pr} {k : ByteArray} (h : gotB l k = false) : drL l k = [] := by unfold drL; rw [h]; rfl
theorem drL_yes {l : List Pr} {k : ByteArray} (h : gotB l k = true) : drL l k = l.eraseIdx (atN l k) := by unfold drL; rw [if_pos h]
theorem stL_len (l : List Pr) (k v : ByteArray) : (stL l k v).length ≤ 20 := by
  cases e : stB l k v
  · rw [stL_no e]; simp
  · rw [stL_yes e]; exact (stB_iff.1 e).2.2.2
theorem drL_len (l : List Pr) (k : ByteArray) : (drL l k).length ≤ 20 := by
  cases e : gotB l k
  · rw [drL_no e]; simp
  · rw [drL_yes e, List.length_eraseIdx]
    have h : refB l = true := by
      cases h : refB l
      · rw [gotB_no h] at e; cases e
      · rfl
    have := (refB_iff.1 h).1
    split <;> omega
end Go.Proofs.Ytmmeabfeehnajaa
