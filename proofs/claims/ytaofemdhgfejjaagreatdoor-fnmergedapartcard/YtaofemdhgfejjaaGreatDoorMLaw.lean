/-
  What the promises on mergers say of right maps. Plain mathematics.
-/
import Derived.Test.YtaofemdhgfejjaaGreatDoorMTak
namespace Go.Proofs.YtaofemdhgfejjaaGreatDoor
open Go.RowKit

theorem bad_lk {o a b s : List Pr} (h0 : Ris o) (h1 : Ris a) (h2 : Ris b) (hs : s = o ∨ s = a ∨ s = b) {k : ByteArray} (hk : k ∈ badM o a b) : lk (merM o a b s) k = lk s k := by
  rw [lk_mer h0 h1 h2 (side_sub hs)]
  unfold pickM
  rw [(bad_iff h0 h1 h2 k).1 hk]
  rfl
theorem good_lk {o a b s s' : List Pr} (h0 : Ris o) (h1 : Ris a) (h2 : Ris b) (hs : s = o ∨ s = a ∨ s = b) (hs' : s' = o ∨ s' = a ∨ s' = b) {k : ByteArray} (hk : ¬ k ∈ badM o a b) : lk (merM o a b s) k = lk (merM o a b s') k := by
  rw [lk_mer h0 h1 h2 (side_sub hs), lk_mer h0 h1 h2 (side_sub hs')]
  unfold pickM
  cases e : oneM (lk o k) (lk a k) (lk b k) with
  | none => exact absurd ((bad_iff h0 h1 h2 k).2 e) hk
  | some r => rfl
theorem bad_nil {o a b : List Pr} (h0 : Ris o) (h1 : Ris a) (h2 : Ris b) (h : ∀ k, oneM (lk o k) (lk a k) (lk b k) ≠ none) : badM o a b = [] := by
  cases e : badM o a b with
  | nil => rfl
  | cons k r => exact absurd ((bad_iff h0 h1 h2 k).1 (by rw [e]; exact List.mem_cons_self ..)) (h k)
theorem mer_of {o a b c : List Pr} (h0 : Ris o) (h1 : Ris a) (h2 : Ris b) (h3 : Ris c) (h : ∀ k, oneM (lk o k) (lk a k) (lk b k) = some (lk c k)) : merM o a b o = c ∧ badM o a b = [] := by
  refine ⟨ext_lk (ris_mer ..) h3 fun k => ?_, bad_nil h0 h1 h2 fun k => by rw [h k]; simp⟩
  rw [lk_mer h0 h1 h2 (side_sub (.inl rfl))]
  unfold pickM
  rw [h k]
  rfl
theorem one_left (o x : Option ByteArray) : oneM o x o = some x := by
  unfold oneM
  split
  next h => rw [h]
  next => rw [if_pos (.inl rfl)]
theorem one_right (o x : Option ByteArray) : oneM o o x = some x := by unfold oneM; rw [if_pos rfl]
theorem one_both (o x : Option ByteArray) : oneM o x x = some x := by
  unfold oneM
  split
  · rfl
  · rw [if_pos (.inr rfl)]
theorem mer_left {o a : List Pr} (h0 : mapB o = true) (h1 : mapB a = true) : merM o a o o = a ∧ badM o a o = [] := mer_of (mapB_ris h0) (mapB_ris h1) (mapB_ris h0) (mapB_ris h1) fun _ => one_left ..
theorem mer_right {o a : List Pr} (h0 : mapB o = true) (h1 : mapB a = true) : merM o o a o = a ∧ badM o o a = [] := mer_of (mapB_ris h0) (mapB_ris h0) (mapB_ris h1) (mapB_ris h1) fun _ => one_right ..
theorem mer_both {o a : List Pr} (h0 : mapB o = true) (h1 : mapB a = true) : merM o a a o = a ∧ badM o a a = [] := mer_of (mapB_ris h0) (mapB_ris h1) (mapB_ris h1) (mapB_ris h1) fun _ => one_both ..
theorem mgB_of {o a b : List Pr} (h0 : mapB o = true) (h1 : mapB a = true) (h2 : mapB b = true) : mgB o a b = mapB (merM o a b o) := by unfold mgB; rw [h0, h1, h2]; simp
theorem mg_left {o a : List Pr} (h0 : mapB o = true) (h1 : mapB a = true) : mgB o a o = true ∧ mgL o a o = a ∧ mgK o a o = [] := by
  obtain ⟨e1, e2⟩ := mer_left h0 h1
  have h : mgB o a o = true := by rw [mgB_of h0 h1 h0, e1]; exact h1
  exact ⟨h, by rw [mgL_yes h, e1], by rw [mgK_yes h, e2]⟩
theorem mg_right {o a : List Pr} (h0 : mapB o = true) (h1 : mapB a = true) : mgB o o a = true ∧ mgL o o a = a ∧ mgK o o a = [] := by
  obtain ⟨e1, e2⟩ := mer_right h0 h1
  have h : mgB o o a = true := by rw [mgB_of h0 h0 h1, e1]; exact h1
  exact ⟨h, by rw [mgL_yes h, e1], by rw [mgK_yes h, e2]⟩
theorem mg_both {o a : List Pr} (h0 : mapB o = true) (h1 : mapB a = true) : mgB o a a = true ∧ mgL o a a = a ∧ mgK o a a = [] := by
  obtain ⟨e1, e2⟩ := mer_both h0 h1
  have h : mgB o a a = true := by rw [mgB_of h0 h1 h1, e1]; exact h1
  exact ⟨h, by rw [mgL_yes h, e1], by rw [mgK_yes h, e2]⟩
theorem mg_swap {o a b : List Pr} (h : mgB o a b = true) : mgB o b a = true ∧ mgL o b a = mgL o a b ∧ mgK o b a = mgK o a b := by
  obtain ⟨h0, h1, h2, h3⟩ := mgB_iff.1 h
  have e1 := merM_swap (mapB_ris h0) (mapB_ris h1) (mapB_ris h2) o
  have e2 := badM_swap (mapB_ris h0) (mapB_ris h1) (mapB_ris h2)
  have h' : mgB o b a = true := mgB_iff.2 ⟨h0, h2, h1, by rw [← e1]; exact h3⟩
  exact ⟨h', by rw [mgL_yes h', mgL_yes h, e1], by rw [mgK_yes h', mgK_yes h, e2]⟩
/-- a key that is told is as it was -/
theorem mg_bad {o a b : List Pr} (h : mgB o a b = true) {k : ByteArray} (hk : k ∈ mgK o a b) : hasB o k = hasB (mgL o a b) k ∧ valOf o k = valOf (mgL o a b) k := by
  obtain ⟨h0, h1, h2, h3⟩ := mgB_iff.1 h
  rw [mgK_yes h] at hk
  rw [mgL_yes h]
  exact lk_eq.1 (bad_lk (mapB_ris h0) (mapB_ris h1) (mapB_ris h2) (.inl rfl) hk).symm
/-- what a merger has one of the three has -/
theorem mg_from {o a b : List Pr} (h : mgB o a b = true) {p : Pr} (hp : p ∈ mgL o a b) : (hasB o p.1 = true ∧ valOf o p.1 = p.2) ∨ (hasB a p.1 = true ∧ valOf a p.1 = p.2) ∨ (hasB b p.1 = true ∧ valOf b p.1 = p.2) := by
  obtain ⟨h0, h1, h2, h3⟩ := mgB_iff.1 h
  rw [mgL_yes h] at hp
  have e := (lk_some (ris_mer o a b o)).2 hp
  rw [lk_mer (mapB_ris h0) (mapB_ris h1) (mapB_ris h2) (side_sub (.inl rfl))] at e
  have said : ∀ (l : List Pr), lk l p.1 = some p.2 → hasB l p.1 = true ∧ valOf l p.1 = p.2 := fun l hl => by
    refine ⟨by rw [lk_has, hl]; rfl, by rw [lk_val, hl]; rfl⟩
  unfold pickM oneM at e
  split at e
  · exact .inr (.inr (said _ e))
  · split at e
    · exact .inr (.inl (said _ e))
    · exact .inl (said _ e)
theorem side_or (a b : List Pr) (side : Int) : sideL a b side = a ∨ sideL a b side = b := by unfold sideL; split; exact .inr rfl; exact .inl rfl
theorem rs_mg {o a b : List Pr} {side : Int} (h : rsB o a b side = true) : mgB o a b = true := (rsB_iff.1 h).1
/-- what is told is as on the side that is chosen, all else as in the merger -/
theorem rs_bad {o a b : List Pr} {side : Int} (h : rsB o a b side = true) {k : ByteArray} (hk : k ∈ mgK o a b) : hasB (sideL a b side) k = hasB (rsL o a b side) k ∧ valOf (sideL a b side) k = valOf (rsL o a b side) k := by
  obtain ⟨hm, _, _⟩ := rsB_iff.1 h
  obtain ⟨h0, h1, h2, h3⟩ := mgB_iff.1 hm
  rw [mgK_yes hm] at hk
  rw [rsL_yes h]
  exact lk_eq.1 (bad_lk (mapB_ris h0) (mapB_ris h1) (mapB_ris h2) (.inr (side_or a b side)) hk).symm
theorem rs_map {o a b : List Pr} {side : Int} (h : rsB o a b side = true) : mapB (rsL o a b side) = true := by rw [rsL_yes h]; exact (rsB_iff.1 h).2.2
theorem mg_map {o a b : List Pr} (h : mgB o a b = true) : mapB (mgL o a b) = true := by rw [mgL_yes h]; exact (mgB_iff.1 h).2.2.2
theorem rs_same {o a b : List Pr} {side : Int} (h : rsB o a b side = true) {k : ByteArray} (hk : lk (mgL o a b) k ≠ lk (rsL o a b side) k) : k ∈ mgK o a b := by
  obtain ⟨hm, _, _⟩ := rsB_iff.1 h
  obtain ⟨h0, h1, h2, h3⟩ := mgB_iff.1 hm
  rw [mgL_yes hm, rsL_yes h] at hk
  rw [mgK_yes hm]
  by_cases hb : k ∈ badM o a b
  · exact hb
  · exact absurd (good_lk (mapB_ris h0) (mapB_ris h1) (mapB_ris h2) (.inl rfl) (.inr (side_or a b side)) hb) hk
theorem rs_none {o a b : List Pr} {side : Int} (h : rsB o a b side = true) (hk : mgK o a b = []) : rsL o a b side = mgL o a b := by
  refine ext_lk (mapB_ris (rs_map h)) (mapB_ris (mg_map (rs_mg h))) fun k => ?_
  by_cases e : lk (mgL o a b) k = lk (rsL o a b side) k
  · exact e.symm
  · have := rs_same h e
    rw [hk] at this
    cases this
theorem side_swap {a b : List Pr} {side : Int} (h : side = 1 ∨ side = 2) : sideL b a (3 - side) = sideL a b side := by
  unfold sideL
  rcases h with rfl | rfl <;> rfl
theorem rs_swap {o a b : List Pr} {side : Int} (h : rsB o a b side = true) : rsB o b a (3 - side) = true ∧ rsL o b a (3 - side) = rsL o a b side := by
  obtain ⟨hm, hs, h4⟩ := rsB_iff.1 h
  obtain ⟨h0, h1, h2, h3⟩ := mgB_iff.1 hm
  have e : merM o b a (sideL b a (3 - side)) = merM o a b (sideL a b side) := by rw [side_swap hs, merM_swap (mapB_ris h0) (mapB_ris h1) (mapB_ris h2)]
  have h' : rsB o b a (3 - side) = true := rsB_iff.2 ⟨(mg_swap hm).1, by omega, by rw [e]; exact h4⟩
  exact ⟨h', by rw [rsL_yes h', rsL_yes h, e]⟩
end Go.Proofs.YtaofemdhgfejjaaGreatDoor
