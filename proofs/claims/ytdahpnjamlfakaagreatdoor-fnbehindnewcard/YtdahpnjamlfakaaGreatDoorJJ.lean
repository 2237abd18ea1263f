/-
  Texts that this proof leans on, joined: JJ.
-/
import Derived.Test.YtdahpnjamlfakaaGreatDoorJW
import Derived.Test.YtdahpnjamlfakaaGreatDoorJD
import Derived.Test.YtdahpnjamlfakaaGreatDoorJO
import Derived.Test.YtdahpnjamlfakaaGreatDoorJM
/-
  What impl.Add, impl.Joined and spec.Joined answer.
-/
namespace Go.Proofs.YtdahpnjamlfakaaGreatDoor
open Go.RowKit Go.Maps

theorem rt_lens {l : List Pr} (h : Rt l) : lens l := by
  intro i hi
  obtain ⟨h1, h2⟩ := h.1 _ (List.getElem_mem hi)
  refine ⟨?_, by unfold maxLen; omega⟩
  rw [← h2]
  exact idL_max _

/-- a step that add refuses: the joining is refused -/
theorem join_no {a b : List Pr} {k : Nat} (hk : k < b.length) (hb : Rt b) (h : addOk (jl a b k) b[k].2 = false) : joinB a b = false := by
  obtain ⟨h1, h2⟩ := hb.1 _ (List.getElem_mem hk)
  cases hs : stepOk (jl a b k) b[k]
  · exact joinB_step hk hs
  · unfold addOk at h
    rw [decide_eq_true h1, h2, Bool.true_and] at h
    have hs2 : stepOk (jl a b k) (b[k].1, b[k].2) = true := hs
    rw [hs2, Bool.true_and, Bool.or_eq_false_iff] at h
    exact joinB_full hk h.1 (by have := of_decide_eq_false h.2; omega)
theorem join_yes {a b : List Pr} {k : Nat} (hk : k < b.length) (hb : Rt b) (h : addOk (jl a b k) b[k].2 = true) (hl : (jl a b k).length ≤ 60) :
    stepOk (jl a b k) b[k] = true ∧ (jl a b (k + 1)).length ≤ 60 ∧ setL (jl a b k) (idL b[k].2) b[k].2 = jl a b (k + 1) := by
  obtain ⟨h1, h2⟩ := hb.1 _ (List.getElem_mem hk)
  unfold addOk at h
  rw [h2] at h
  simp only [Bool.and_eq_true, Bool.or_eq_true, decide_eq_true_eq] at h
  refine ⟨h.2.1, ?_, ?_⟩
  · rw [jl_succ a b k hk, len_set]
    split
    · exact hl
    · rcases h.2.2 with g | g
      · rename_i x; exact absurd g x
      · omega
  · rw [jl_succ a b k hk, h2]

end Go.Proofs.YtdahpnjamlfakaaGreatDoor
/-
  Joined with what lies in it already: the same; so with what a commit was made on.
-/
namespace Go.Proofs.YtdahpnjamlfakaaGreatDoor
open Go.RowKit

theorem jl_same {a b : List Pr} (ha : Ris a) (h : ∀ i (hi : i < b.length), hasB a b[i].1 = true ∧ valOf a b[i].1 = b[i].2) : ∀ k, k ≤ b.length → jl a b k = a
  | 0, _ => rfl
  | k + 1, hk => by
    rw [jl_succ a b k (by omega), jl_same ha h k (by omega)]
    obtain ⟨h1, h2⟩ := h k (by omega)
    exact set_same ha h1 h2
theorem join_same {a b : List Pr} (ha : objsB a = true) (hb : objsB b = true) (h : ∀ i (hi : i < b.length), hasB a b[i].1 = true ∧ valOf a b[i].1 = b[i].2) : joinL a b = a ∧ joinB a b = true := by
  have hr : Ris a := ris_iff.1 (objsB_iff.1 ha).2.2
  have hj : joinB a b = true := joinB_iff.2 ⟨ha, hb, fun i hi _ => by
    rw [jl_same hr h i (by omega)]
    exact stepOk_same (h i hi).2, by rw [jl_same hr h _ (Nat.le_refl _)]; exact (objsB_iff.1 ha).1⟩
  exact ⟨by rw [joinL_yes hj]; exact jl_same hr h _ (Nat.le_refl _), hj⟩
theorem cm_join {l m : List Pr} {ps : List ByteArray} {note : ByteArray} (h : cmP l m ps note) : joinL (cmL l m ps note) l = cmL l m ps note ∧ joinB (cmL l m ps note) l = true := by
  obtain ⟨_, eL, _⟩ := cmB_yes h
  rw [eL]
  have ho := (repoB_iff.1 h.1).1
  refine join_same (repoB_iff.1 (repo_cm h)).1 ho fun i hi => ?_
  obtain ⟨v1, v2⟩ := valOf_at (objsB_iff.1 ho).2.2 hi
  obtain ⟨k1, k2⟩ := add_keeps h.2.2.2.2.1 v1
  obtain ⟨k3, k4⟩ := add_keeps h.2.2.2.2.2 k1
  exact ⟨k3, by rw [k4, k2]; exact v2⟩
theorem addL_one (l : List Pr) (t : ByteArray) : (addL l t).length ≤ l.length + 1 := by
  cases e : addB l t
  · rw [addL_no e]; simp
  · rw [addL_yes e]; exact (len_set_le _ _ _).2
end Go.Proofs.YtdahpnjamlfakaaGreatDoor
/-
  What laws.sameMap answers.
-/
namespace Go.Proofs.YtdahpnjamlfakaaGreatDoor.M
open Go.RowKit
end Go.Proofs.YtdahpnjamlfakaaGreatDoor.M
