/-
  What Find tells, in the reference and in the program.
-/
import Derived.Test.YtlipefnaeblhfaaDoorQFindS
import Derived.Test.YtlipefnaeblhfaaDoorQTexts
import Derived.Maps.StringElems
namespace Go.Proofs.YtlipefnaeblhfaaDoor
open Go.RowKit Go.Maps

theorem keyL_inj {a b : ByteArray} (h : keyL a = keyL b) : a = b := by
  unfold keyL at h
  injection h with h
  exact Go.WideShapes.bytes_inj h
theorem keyL_key (s : ByteArray) : WideAt.IsKeyLit (keyL s) := trivial
theorem mapF_isMap : ∀ (l : List Pr) (D : DataW Unit), IsMap D → IsMap (l.foldl (fun D p => D.put (keyL p.1) (elD p.2)) D)
  | [], _, h => h
  | _ :: r, _, h => mapF_isMap r _ (h.put _ _)
theorem mapF_miss (k : ByteArray) : ∀ (l : List Pr) (D : DataW Unit), (∀ p ∈ l, p.1 ≠ k) → (has (l.foldl (fun D p => D.put (keyL p.1) (elD p.2)) D) (keyL k) = has D (keyL k)) ∧ ∀ z, (l.foldl (fun D p => D.put (keyL p.1) (elD p.2)) D).atKey (keyL k) z = D.atKey (keyL k) z
  | [], _, _ => ⟨rfl, fun _ => rfl⟩
  | p :: r, D, h => by
    have ih := mapF_miss k r (D.put (keyL p.1) (elD p.2)) (fun q hq => h q (List.mem_cons_of_mem _ hq))
    have hne : keyL k ≠ keyL p.1 := fun e => h p (List.mem_cons_self ..) (keyL_inj e).symm
    refine ⟨ih.1.trans (has_put_other hne _), fun z => (ih.2 z).trans (atKey_put_other hne _ z)⟩
/-- what the map of right objects tells at an id -/
theorem mapD_look {l : List Pr} (hr : risesTo l l.length) (k : ByteArray) : has (mapD l) (keyL k) = hasB l k ∧ (mapD l).atKey (keyL k) (elD ByteArray.empty) = elD (valOf l k) := by
  by_cases hh : ∃ i, ∃ h : i < l.length, l[i].1 = k
  · obtain ⟨i, h, e⟩ := hh
    have hat : atN l k = i := atN_eq (by omega) (fun j hj hji => by rw [← e]; exact rises_lt hr i h j hji) (fun _ => by rw [e]; exact ltB_irrefl k)
    have hs : l = l.take i ++ l[i] :: l.drop (i + 1) := by rw [List.getElem_cons_drop, List.take_append_drop]
    have hm : ∀ p ∈ l.drop (i + 1), p.1 ≠ k := by
      intro p hp ep
      obtain ⟨j, hj, rfl⟩ := List.getElem_of_mem hp
      rw [List.getElem_drop] at ep
      have hj' : i + 1 + j < l.length := by simp at hj; omega
      have := rises_lt hr (i + 1 + j) hj' i (by omega)
      rw [e, ep, ltB_irrefl] at this
      cases this
    have hD : mapD l = (l.drop (i + 1)).foldl (fun D p => D.put (keyL p.1) (elD p.2)) ((mapD (l.take i)).put (keyL l[i].1) (elD l[i].2)) := by
      conv => lhs; rw [hs]
      unfold mapD
      rw [List.foldl_append]
      rfl
    have hmiss := mapF_miss k _ ((mapD (l.take i)).put (keyL l[i].1) (elD l[i].2)) hm
    have hmap : IsMap (mapD (l.take i)) := mapF_isMap _ _ isMap_empty
    have h1 : hasB l k = true := hasB_iff.2 ⟨by rw [hat]; exact h, by simp only [hat]; exact e⟩
    have h2 : valOf l k = l[i].2 := by
      rw [valOf_yes (by rw [hat]; exact h) (by simp only [hat]; exact e)]
      simp only [hat]
    rw [hD, h1, h2, hmiss.1, hmiss.2, e]
    exact ⟨has_put_same hmap (keyL_key k) _, atKey_put_same hmap (keyL_key k) _ _⟩
  · have hm : ∀ p ∈ l, p.1 ≠ k := by
      intro p hp ep
      obtain ⟨j, hj, rfl⟩ := List.getElem_of_mem hp
      exact hh ⟨j, hj, ep⟩
    have hmiss := mapF_miss k l (.map []) hm
    have h1 : hasB l k = false := by
      cases e : hasB l k
      · rfl
      · obtain ⟨h, e'⟩ := hasB_iff.1 e
        exact absurd ⟨_, h, e'⟩ hh
    refine ⟨hmiss.1.trans ?_, (hmiss.2 _).trans ?_⟩
    · rw [h1]; rfl
    · rw [valOf_no h1]; rfl

/-- whether Find finds, and what -/
noncomputable def findB (l : List Pr) (k : ByteArray) : Bool := objsB l && hasB l k
noncomputable def findV (l : List Pr) (k : ByteArray) : ByteArray := if objsB l = true then valOf l k else ByteArray.empty
theorem findB_no {l : List Pr} {k : ByteArray} (h : objsB l = false) : findB l k = false := by unfold findB; rw [h]; rfl
theorem findB_yes {l : List Pr} {k : ByteArray} (h : objsB l = true) : findB l k = hasB l k := by unfold findB; rw [h]; rfl
theorem findV_no {l : List Pr} {k : ByteArray} (h : objsB l = false) : findV l k = ByteArray.empty := by unfold findV; rw [h]; rfl
theorem findV_yes {l : List Pr} {k : ByteArray} (h : objsB l = true) : findV l k = valOf l k := by unfold findV; rw [h]; rfl

theorem zeroS (w : World) : (zeroValue 9).run Tryd.prog w = .ok (.string ByteArray.empty) w := by kernel_rfl

end Go.Proofs.YtlipefnaeblhfaaDoor
