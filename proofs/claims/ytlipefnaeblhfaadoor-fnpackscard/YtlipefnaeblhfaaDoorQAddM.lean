/-
  What Add and Joined make of right objects. Plain mathematics.
-/
import Derived.Test.YtlipefnaeblhfaaDoorQObjs
import Derived.Test.YtlipefnaeblhfaaDoorQAlg
namespace Go.Proofs.YtlipefnaeblhfaaDoor
open Go.RowKit

theorem objs_all {l : List Pr} : objsB l = true ↔ l.length ≤ 60 ∧ (∀ p ∈ l, p.2.size ≤ 2000 ∧ idL p.2 = p.1) ∧ Ris l := by
  rw [objsB_iff]
  constructor
  · rintro ⟨a, b, c⟩
    refine ⟨a, fun p hp => ?_, ris_iff.1 c⟩
    obtain ⟨i, hi, e⟩ := List.getElem_of_mem hp
    subst e
    exact b i hi hi
  · rintro ⟨a, b, c⟩
    exact ⟨a, fun i hi _ => b _ (List.getElem_mem _), ris_iff.2 c⟩
/-- each of the list has a short text, and its id -/
def Rt (l : List Pr) : Prop := (∀ p ∈ l, p.2.size ≤ 2000 ∧ idL p.2 = p.1) ∧ Ris l
theorem rt_of {l : List Pr} (h : objsB l = true) : Rt l := (objs_all.1 h).2
theorem rt_objs {l : List Pr} (h : Rt l) : objsB l = decide (l.length ≤ 60) := by
  cases e : objsB l
  · rw [eq_comm, decide_eq_false_iff_not]
    intro x
    rw [objs_all.2 ⟨x, h⟩] at e
    cases e
  · exact (decide_eq_true (objs_all.1 e).1).symm
theorem rt_set {l : List Pr} (h : Rt l) {t : ByteArray} (ht : t.size ≤ 2000) : Rt (setL l (idL t) t) := by
  refine ⟨fun p hp => ?_, ris_set h.2 _ _⟩
  rcases (mem_set h.2 _ _ p).1 hp with e | ⟨e, _⟩
  · subst e; exact ⟨ht, rfl⟩
  · exact h.1 p e
/-- can a text be added to right objects? -/
noncomputable def addOk (l : List Pr) (t : ByteArray) : Bool := decide (t.size ≤ 2000) && (stepOk l (idL t, t) && (hasB l (idL t) || decide (l.length < 60)))
noncomputable def addB (l : List Pr) (t : ByteArray) : Bool := objsB l && addOk l t
noncomputable def addL (l : List Pr) (t : ByteArray) : List Pr := if addB l t = true then setL l (idL t) t else []
noncomputable def adI (l : List Pr) (t : ByteArray) : ByteArray := if addB l t = true then idL t else ByteArray.empty
theorem addB_no {l : List Pr} {t : ByteArray} (h : objsB l = false) : addB l t = false := by unfold addB; rw [h]; rfl
theorem addB_of {l : List Pr} {t : ByteArray} (h : objsB l = true) : addB l t = addOk l t := by unfold addB; rw [h]; rfl
theorem addL_no {l : List Pr} {t : ByteArray} (h : addB l t = false) : addL l t = [] := by unfold addL; rw [h]; rfl
theorem addL_yes {l : List Pr} {t : ByteArray} (h : addB l t = true) : addL l t = setL l (idL t) t := by unfold addL; rw [if_pos h]
theorem adI_no {l : List Pr} {t : ByteArray} (h : addB l t = false) : adI l t = ByteArray.empty := by unfold adI; rw [h]; rfl
theorem adI_yes {l : List Pr} {t : ByteArray} (h : addB l t = true) : adI l t = idL t := by unfold adI; rw [if_pos h]
theorem addOk_long {l : List Pr} {t : ByteArray} (h : 2000 < t.size) : addOk l t = false := by unfold addOk; rw [decide_eq_false (by omega)]; rfl
theorem addOk_other {l : List Pr} {t : ByteArray} (h : stepOk l (idL t, t) = false) : addOk l t = false := by unfold addOk; rw [h]; simp
theorem addOk_full {l : List Pr} {t : ByteArray} (h : hasB l (idL t) = false) (h' : 60 ≤ l.length) : addOk l t = false := by unfold addOk; rw [h, decide_eq_false (show ¬ l.length < 60 by omega)]; simp
theorem addOk_same {l : List Pr} {t : ByteArray} (ht : t.size ≤ 2000) (h : hasB l (idL t) = true) (h' : valOf l (idL t) = t) : addOk l t = true := by unfold addOk; rw [decide_eq_true ht, stepOk_same h', h]; rfl
theorem addOk_new {l : List Pr} {t : ByteArray} (ht : t.size ≤ 2000) (h : hasB l (idL t) = false) (h' : l.length < 60) : addOk l t = true := by unfold addOk; rw [decide_eq_true ht, stepOk_new h, decide_eq_true h', Bool.or_true]; rfl
theorem addB_iff {l : List Pr} {t : ByteArray} : addB l t = true ↔ objsB l = true ∧ t.size ≤ 2000 ∧ stepOk l (idL t, t) = true ∧ (hasB l (idL t) = true ∨ l.length < 60) := by
  unfold addB addOk
  simp only [Bool.and_eq_true, Bool.or_eq_true, decide_eq_true_eq]
theorem add_objs {l : List Pr} {t : ByteArray} (h : addB l t = true) : objsB (setL l (idL t) t) = true := by
  obtain ⟨h1, h2, h3, h4⟩ := addB_iff.1 h
  rw [rt_objs (rt_set (rt_of h1) h2)]
  refine decide_eq_true ?_
  rw [len_set]
  have := (objs_all.1 h1).1
  split
  · omega
  · rcases h4 with g | g
    · rename_i x; exact absurd g x
    · omega
theorem addL_objs (l : List Pr) (t : ByteArray) : (addL l t).length ≤ 60 := by
  cases e : addB l t
  · rw [addL_no e]; simp
  · rw [addL_yes e]; exact (objs_all.1 (add_objs e)).1
/-- what l3Add makes -/
def l3L (l : List Pr) (t : ByteArray) : List Pr := if hasB l (idL t) = true then l else setL l (idL t) t
theorem l3L_set {l : List Pr} (h : Ris l) {t : ByteArray} (h' : stepOk l (idL t, t) = true) : l3L l t = setL l (idL t) t := by
  unfold l3L
  cases e : hasB l (idL t)
  · rfl
  · rw [if_pos rfl]
    refine (set_same h e ?_).symm
    exact (stepOk_iff h).1 h' _ (mem_val e)
theorem l3L_len (l : List Pr) (t : ByteArray) : (l3L l t).length ≤ l.length + 1 := by
  unfold l3L
  split
  · omega
  · exact (len_set_le l _ _).2
/-- what spec.Add asks at its end -/
theorem addB_spec {l : List Pr} {t : ByteArray} (h : objsB l = true) (ht : t.size ≤ 2000) (h' : stepOk l (idL t, t) = true) : addB l t = objsB (setL l (idL t) t) := by
  rw [rt_objs (rt_set (rt_of h) ht), addB_of h]
  unfold addOk
  rw [decide_eq_true ht, h', len_set]
  have := (objs_all.1 h).1
  cases e : hasB l (idL t)
  · simp; omega
  · simp; omega

/-- joinings -/
noncomputable def joinB (a b : List Pr) : Bool := by
  classical
  exact objsB a && (objsB b && decide (jokTo a b b.length ∧ (jl a b b.length).length ≤ 60))
noncomputable def joinL (a b : List Pr) : List Pr := if joinB a b = true then jl a b b.length else []
theorem joinB_iff {a b : List Pr} : joinB a b = true ↔ objsB a = true ∧ objsB b = true ∧ jokTo a b b.length ∧ (jl a b b.length).length ≤ 60 := by
  unfold joinB
  simp only [Bool.and_eq_true, decide_eq_true_eq]
theorem joinB_f {a b : List Pr} (h : ¬ (objsB a = true ∧ objsB b = true ∧ jokTo a b b.length ∧ (jl a b b.length).length ≤ 60)) : joinB a b = false := by
  cases e : joinB a b
  · rfl
  · exact absurd (joinB_iff.1 e) h
theorem joinB_a {a b : List Pr} (h : objsB a = false) : joinB a b = false := joinB_f fun x => by rw [h] at x; cases x.1
theorem joinB_b {a b : List Pr} (h : objsB b = false) : joinB a b = false := joinB_f fun x => by rw [h] at x; cases x.2.1
theorem joinB_step {a b : List Pr} {k : Nat} (hk : k < b.length) (h : stepOk (jl a b k) b[k] = false) : joinB a b = false := joinB_f fun x => by have := x.2.2.1 k hk hk; rw [h] at this; cases this
theorem joinB_full {a b : List Pr} {k : Nat} (hk : k < b.length) (h : hasB (jl a b k) b[k].1 = false) (h' : 60 ≤ (jl a b k).length) : joinB a b = false := joinB_f fun x => by
  have h1 := jl_mono a b (b.length - (k + 1)) (k + 1) (by omega)
  rw [show k + 1 + (b.length - (k + 1)) = b.length by omega] at h1
  have h2 : (jl a b (k + 1)).length = (jl a b k).length + 1 := by rw [jl_succ a b k hk, len_set, h]; rfl
  omega
theorem joinB_long {a b : List Pr} (h : 60 < (jl a b b.length).length) : joinB a b = false := joinB_f fun x => by omega
theorem joinL_no {a b : List Pr} (h : joinB a b = false) : joinL a b = [] := by unfold joinL; rw [h]; rfl
theorem joinL_yes {a b : List Pr} (h : joinB a b = true) : joinL a b = jl a b b.length := by unfold joinL; rw [if_pos h]
theorem jl_rt {a b : List Pr} (ha : Rt a) (hb : Rt b) : ∀ k, k ≤ b.length → Rt (jl a b k)
  | 0, _ => ha
  | k + 1, h => by
    rw [jl_succ a b k (by omega)]
    obtain ⟨h1, h2⟩ := hb.1 _ (List.getElem_mem (show k < b.length by omega))
    have := rt_set (jl_rt ha hb k (by omega)) h1
    rw [h2] at this
    exact this
theorem join_objs {a b : List Pr} (h : joinB a b = true) : objsB (jl a b b.length) = true := by
  obtain ⟨h1, h2, _, h4⟩ := joinB_iff.1 h
  rw [rt_objs (jl_rt (rt_of h1) (rt_of h2) b.length (Nat.le_refl _))]
  exact decide_eq_true h4
theorem joinL_len (a b : List Pr) : (joinL a b).length ≤ 60 := by
  cases e : joinB a b
  · rw [joinL_no e]; simp
  · rw [joinL_yes e]; exact (joinB_iff.1 e).2.2.2
theorem join_mem {a b : List Pr} (h : joinB a b = true) (p : Pr) : p ∈ jl a b b.length ↔ p ∈ a ∨ p ∈ b := by
  obtain ⟨h1, h2, h3, _⟩ := joinB_iff.1 h
  rw [jl_mem (rt_of h1).2 b.length (Nat.le_refl _) h3, List.take_length]
end Go.Proofs.YtlipefnaeblhfaaDoor
