/-
  Mergers of what was changed apart. Plain mathematics.
-/
import Derived.Test.YtaofemdhgfejjaaGreatDoorMLaw
import Derived.Test.YtaofemdhgfejjaaGreatDoorHDifA
namespace Go.Proofs.YtaofemdhgfejjaaGreatDoor
open Go.RowKit

/-- no key stands in both lists of changes -/
def apartD (x y : List Ch) : Prop := ∀ c ∈ x, ∀ d ∈ y, c.1 ≠ d.1
theorem apart_lk {o a b : List Pr} (h0 : mapB o = true) (h1 : mapB a = true) (h2 : mapB b = true) (h : apartD (difM o a) (difM o b)) (k : ByteArray) : lk o k = lk a k ∨ lk o k = lk b k := by
  have ca := dif_char _ o a (Nat.le_refl _) (mapB_ris h0) (mapB_ris h1)
  have cb := dif_char _ o b (Nat.le_refl _) (mapB_ris h0) (mapB_ris h2)
  by_cases e1 : lk o k = lk a k
  · exact .inl e1
  · by_cases e2 : lk o k = lk b k
    · exact .inr e2
    · have := h _ (ca.2.1 k e1) _ (cb.2.1 k e2)
      exact absurd rfl this
theorem apart_mer {o a b : List Pr} (h0 : mapB o = true) (h1 : mapB a = true) (h2 : mapB b = true) (h : apartD (difM o a) (difM o b)) : badM o a b = [] ∧ appM a (difM o b) = merM o a b o := by
  have hk := apart_lk h0 h1 h2 h
  have hone : ∀ k, oneM (lk o k) (lk a k) (lk b k) = some (if lk o k = lk a k then lk b k else lk a k) := fun k => by
    unfold oneM
    by_cases e : lk a k = lk o k
    · rw [if_pos e, if_pos e.symm]
    · have e' : (if lk o k = lk a k then lk b k else lk a k) = lk a k := if_neg (fun x => e x.symm)
      rw [if_neg e, e']
      rcases hk k with x | x
      · exact absurd x.symm e
      · rw [if_pos (.inl x.symm)]
  refine ⟨bad_nil (mapB_ris h0) (mapB_ris h1) (mapB_ris h2) fun k => by rw [hone k]; simp, ?_⟩
  have cb := dif_char _ o b (Nat.le_refl _) (mapB_ris h0) (mapB_ris h2)
  have hr := ris_cp cb.2.2
  refine ext_lk (ris_app _ (mapB_ris h1)) (ris_mer ..) fun k => ?_
  rw [lk_mer (mapB_ris h0) (mapB_ris h1) (mapB_ris h2) (side_sub (.inl rfl))]
  unfold pickM
  rw [hone k, Option.getD_some]
  by_cases e : lk o k = lk b k
  · rw [lk_app_other _ (mapB_ris h1)]
    · by_cases e2 : lk o k = lk a k
      · rw [if_pos e2, ← e2, e]
      · rw [if_neg e2]
    · intro c h3 h4
      obtain ⟨_, hne⟩ := cb.1 c h3
      rw [h4] at hne
      exact hne e
  · have h3 := lk_app_mem (mapB_ris h1) hr _ (cb.2.1 k e)
    have e1 : (chF k (lk o k) (lk b k)).1 = k := rfl
    rw [e1] at h3
    rw [h3]
    rcases hk k with x | x
    · rw [if_pos x]
      show (if (lk b k).isSome = true then some ((lk b k).getD ByteArray.empty) else none) = lk b k
      cases lk b k <;> rfl
    · exact absurd x e
theorem apart_ok {o a b : List Pr} (hg : mgB o a b = true) (h : apartD (difM o a) (difM o b)) : appB a (difM o b) = true ∧ appL a (difM o b) = mgL o a b ∧ mgK o a b = [] := by
  obtain ⟨h0, h1, h2, h3⟩ := mgB_iff.1 hg
  obtain ⟨e1, e2⟩ := apart_mer h0 h1 h2 h
  have cb := dif_char _ o b (Nat.le_refl _) (mapB_ris h0) (mapB_ris h2)
  have ca := dif_char _ o a (Nat.le_refl _) (mapB_ris h0) (mapB_ris h1)
  have hb : appB a (difM o b) = true := by
    refine appB_all h1 (ris_cp cb.2.2) (fun i hi => ?_) (by rw [e2]; exact h3)
    have hm := List.getElem_mem hi
    rw [← fitB_lk (m := o)]
    · exact dif_fit h0 h2 _ hm
    · by_cases x : lk o (difM o b)[i].1 = lk a (difM o b)[i].1
      · exact x
      · have := h _ (ca.2.1 _ x) _ hm
        exact absurd rfl this
  exact ⟨hb, by rw [appL_yes hb, mgL_yes hg, e2], by rw [mgK_yes hg, e1]⟩
end Go.Proofs.YtaofemdhgfejjaaGreatDoor
