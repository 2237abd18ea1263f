/-
  What the laws on objects need of lists. Plain mathematics.
-/
import Derived.Test.YtaibonbabicilaaDoorQFind
import Derived.Test.YtaibonbabicilaaDoorQAddM
namespace Go.Proofs.YtaibonbabicilaaDoor
open Go.RowKit

theorem find_all {l : List Pr} (h : objsB l = true) {j : Nat} (hj : j < l.length) : findV l l[j].1 = l[j].2 ∧ findB l l[j].1 = true ∧ idL l[j].2 = l[j].1 ∧ l[j].2.size ≤ 2000 := by
  obtain ⟨h1, h2, h3⟩ := objs_all.1 h
  have hm : (l[j].1, l[j].2) ∈ l := List.getElem_mem hj
  obtain ⟨h4, h5⟩ := h2 _ (List.getElem_mem hj)
  refine ⟨?_, ?_, h5, h4⟩
  · rw [findV_yes h]; exact val_of h3 hm
  · rw [findB_yes h]; exact (has_iff h3 _).2 ⟨_, hm⟩
theorem find_mem {l : List Pr} (h : objsB l = true) {k v : ByteArray} (hm : (k, v) ∈ l) : findV l k = v ∧ findB l k = true := by
  have h3 := (objs_all.1 h).2.2
  refine ⟨?_, ?_⟩
  · rw [findV_yes h]; exact val_of h3 hm
  · rw [findB_yes h]; exact (has_iff h3 _).2 ⟨_, hm⟩
theorem order_half {l : List Pr} {t o : ByteArray} (h1 : addB l t = true) (h2 : addB (setL l (idL t) t) o = true) : addB l o = true ∧ addB (setL l (idL o) o) t = true := by
  obtain ⟨a1, a2, a3, a4⟩ := addB_iff.1 h1
  obtain ⟨b1, b2, b3, b4⟩ := addB_iff.1 h2
  have hr := (objs_all.1 a1).2.2
  have hn := ris_set hr (idL t) t
  have s1 := (stepOk_iff hr).1 a3
  have s2 := (stepOk_iff hn).1 b3
  have mt : (idL t, t) ∈ setL l (idL t) t := (mem_set hr _ _ _).2 (.inl rfl)
  have same : idL o = idL t → t = o := fun e => s2 t (by rw [show ((idL o, o) : Pr).1 = idL t from e]; exact mt)
  have so : stepOk l (idL o, o) = true := (stepOk_iff hr).2 fun x hx => by
    by_cases e : idL o = idL t
    · have hx' : (idL t, x) ∈ l := by rw [← e]; exact hx
      rw [s1 x hx', same e]
    · exact s2 x ((mem_set hr _ _ _).2 (.inr ⟨hx, e⟩))
  have ln := len_set l (idL t) t
  have lo : hasB l (idL o) = true ∨ l.length < 60 := by
    rcases b4 with g | g
    · rcases (has_set hr _ _ _).1 g with e | e
      · rcases a4 with g' | g'
        · left; rw [e]; exact g'
        · exact .inr g'
      · exact .inl e
    · right
      have := (len_set_le l (idL t) t).1
      omega
  have ho : addB l o = true := addB_iff.2 ⟨a1, b2, so, lo⟩
  refine ⟨ho, addB_iff.2 ⟨add_objs ho, a2, ?_, ?_⟩⟩
  · refine (stepOk_iff (ris_set hr _ _)).2 fun x hx => ?_
    rcases (mem_set hr _ _ _).1 hx with e | ⟨e, _⟩
    · injection e with e1 e2
      rw [e2]
      exact (same e1.symm).symm
    · exact s1 x e
  · by_cases e : idL t = idL o
    · left; exact (has_set hr _ _ _).2 (.inl e)
    · cases hj : hasB l (idL t)
      · have g : l.length < 60 := by
          rcases a4 with g | g
          · rw [hj] at g; cases g
          · exact g
        rw [hj, if_neg (by simp)] at ln
        right
        rw [len_set]
        cases hi : hasB l (idL o)
        · rw [if_neg (by simp)]
          rcases b4 with g' | g'
          · rcases (has_set hr _ _ _).1 g' with e' | e'
            · exact absurd e'.symm e
            · rw [hi] at e'; cases e'
          · omega
        · rw [if_pos rfl]; exact g
      · left; exact (has_set hr _ _ _).2 (.inr hj)
theorem order_bool {l : List Pr} {t o : ByteArray} (h : addB l t = true) : addB (addL l t) o = (addB l o && addB (addL l o) t) := by
  rw [addL_yes h]
  cases h2 : addB (setL l (idL t) t) o
  · cases h3 : addB l o
    · rfl
    · rw [addL_yes h3]
      cases h4 : addB (setL l (idL o) o) t
      · rfl
      · rw [(order_half h3 h4).2] at h2; cases h2
  · obtain ⟨a, b⟩ := order_half h h2
    rw [a, addL_yes a, b]
    rfl
theorem order_list {l : List Pr} {t o : ByteArray} (h : addB l t = true) (h2 : addB (addL l t) o = true) : addL (addL l t) o = addL (addL l o) t := by
  rw [addL_yes h2, addL_yes h]
  rw [addL_yes h] at h2
  obtain ⟨a, b⟩ := order_half h h2
  rw [addL_yes a, addL_yes b]
  have hr := (objs_all.1 (addB_iff.1 h).1).2.2
  by_cases e : idL t = idL o
  · have s2 := (stepOk_iff (ris_set hr _ _)).1 (addB_iff.1 h2).2.2.1
    have : t = o := s2 t (by rw [show ((idL o, o) : Pr).1 = idL t from e.symm]; exact (mem_set hr _ _ _).2 (.inl rfl))
    subst this
    rfl
  · exact set_swap hr t o e
/-- what is added twice -/
theorem add_again {l : List Pr} {t : ByteArray} (h : addB l t = true) : addB (addL l t) t = true ∧ addL (addL l t) t = addL l t ∧ adI (addL l t) t = idL t := by
  have hr := (objs_all.1 (addB_iff.1 h).1).2.2
  have hb : addB (setL l (idL t) t) t = true := addB_iff.2 ⟨add_objs h, (addB_iff.1 h).2.1, stepOk_same (val_set hr _ _), .inl ((has_set hr _ _ _).2 (.inl rfl))⟩
  rw [addL_yes h]
  exact ⟨hb, by rw [addL_yes hb, set_set hr], adI_yes hb⟩
theorem add_found {l : List Pr} {t : ByteArray} (h : addB l t = true) : objsB (addL l t) = true ∧ findV (addL l t) (idL t) = t ∧ findB (addL l t) (idL t) = true ∧ ∀ j (hj : j < l.length), findV (addL l t) l[j].1 = l[j].2 ∧ findB (addL l t) l[j].1 = true := by
  have hr := (objs_all.1 (addB_iff.1 h).1).2.2
  have ho : objsB (addL l t) = true := by rw [addL_yes h]; exact add_objs h
  have hm : ∀ p, p ∈ addL l t ↔ p = (idL t, t) ∨ (p ∈ l ∧ p.1 ≠ idL t) := fun p => by rw [addL_yes h]; exact mem_set hr _ _ p
  obtain ⟨f1, f2⟩ := find_mem ho ((hm _).2 (.inl rfl))
  refine ⟨ho, f1, f2, fun j hj => ?_⟩
  refine find_mem ho ((hm _).2 ?_)
  by_cases e : l[j].1 = idL t
  · left
    have := (stepOk_iff hr).1 (addB_iff.1 h).2.2.1 l[j].2 (by rw [show ((idL t, t) : Pr).1 = l[j].1 from e.symm]; exact List.getElem_mem hj)
    rw [e, this]
  · exact .inr ⟨List.getElem_mem hj, e⟩

theorem join_comm {a b : List Pr} (h : joinB a b = true) : joinB b a = true ∧ joinL b a = joinL a b := by
  obtain ⟨h1, h2, h3, h4⟩ := joinB_iff.1 h
  have ha := (rt_of h1).2
  have hb := (rt_of h2).2
  have hj : jokTo b a a.length := (jok_iff hb ha).2 fun k v v' x y => ((jok_iff ha hb).1 h3 k v' v y x).symm
  have e : jl b a a.length = jl a b b.length := Ris.ext (jl_ris hb _ (Nat.le_refl _)) (jl_ris ha _ (Nat.le_refl _)) fun p => by
    rw [jl_mem hb _ (Nat.le_refl _) hj, jl_mem ha _ (Nat.le_refl _) h3, List.take_length, List.take_length]
    exact Or.comm
  have hB : joinB b a = true := joinB_iff.2 ⟨h2, h1, hj, by rw [e]; exact h4⟩
  exact ⟨hB, by rw [joinL_yes hB, joinL_yes h, e]⟩
theorem join_again {a b : List Pr} (h : joinB a b = true) : joinB (joinL a b) b = true ∧ joinL (joinL a b) b = joinL a b := by
  obtain ⟨h1, h2, h3, h4⟩ := joinB_iff.1 h
  have ha := (rt_of h1).2
  have hb := (rt_of h2).2
  have ho := join_objs h
  have hn := (rt_of ho).2
  rw [joinL_yes h]
  have hj : jokTo (jl a b b.length) b b.length := (jok_iff hn hb).2 fun k v v' x y => hn.key x ((join_mem h _).2 (.inr y))
  have e : jl (jl a b b.length) b b.length = jl a b b.length := Ris.ext (jl_ris hn _ (Nat.le_refl _)) hn fun p => by
    rw [jl_mem hn _ (Nat.le_refl _) hj, List.take_length]
    exact ⟨fun x => x.elim id (fun y => (join_mem h _).2 (.inr y)), .inl⟩
  have hB : joinB (jl a b b.length) b = true := joinB_iff.2 ⟨ho, h2, hj, by rw [e]; exact h4⟩
  exact ⟨hB, by rw [joinL_yes hB, e]⟩
theorem join_len {a b : List Pr} (h : joinB a b = true) : a.length ≤ (joinL a b).length ∧ b.length ≤ (joinL a b).length := by
  obtain ⟨h1, h2⟩ := join_comm h
  constructor
  · rw [joinL_yes h]
    have := jl_mono a b b.length 0 (by omega)
    rw [jl_zero, Nat.zero_add] at this
    exact this
  · rw [← h2, joinL_yes h1]
    have := jl_mono b a a.length 0 (by omega)
    rw [jl_zero, Nat.zero_add] at this
    exact this
theorem join_in {a b : List Pr} (h : joinB a b = true) {j : Nat} (hj : j < (joinL a b).length) : findB a (joinL a b)[j].1 = true ∨ findB b (joinL a b)[j].1 = true := by
  obtain ⟨h1, h2, _, _⟩ := joinB_iff.1 h
  have hm : ((joinL a b)[j].1, (joinL a b)[j].2) ∈ joinL a b := List.getElem_mem hj
  have hm2 : ((joinL a b)[j].1, (joinL a b)[j].2) ∈ jl a b b.length := by rw [← joinL_yes h]; exact hm
  rcases (join_mem h _).1 hm2 with g | g
  · exact .inl (find_mem h1 g).2
  · exact .inr (find_mem h2 g).2
end Go.Proofs.YtaibonbabicilaaDoor
