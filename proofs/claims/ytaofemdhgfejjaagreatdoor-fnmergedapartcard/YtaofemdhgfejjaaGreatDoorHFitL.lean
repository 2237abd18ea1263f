/-
  Small facts: when a change is right where it is done.
-/
import Derived.Test.YtaofemdhgfejjaaGreatDoorHApp
namespace Go.Proofs.YtaofemdhgfejjaaGreatDoor
open Go.RowKit

theorem belowN {B : Nat} {w w' : World} (h : Below B w w') (n : Nat) : Below B w (w'.drewN n) := h.trans (Quiet.below ⟨n, rfl⟩ _)
theorem hasB_cases (m : List Pr) (x : ByteArray) : hasB m x = false ∨ hasB m x = true := by cases hasB m x <;> simp
theorem same_below {P : Program} {f : FuncId} {args : Array Value} {w : World} {v : Value} (h : Calls P f args w fun e w' => e = .returned v ∧ w = w') : Calls P f args w fun e w' => e = .returned v ∧ Below w.heap.size w w' :=
  h.mono fun _ _ ⟨he, hw⟩ => ⟨he, hw ▸ Below.refl _ _⟩
theorem emp_ne {s : ByteArray} (h : ¬ s = ByteArray.empty) : ((⟨#[]⟩ : ByteArray).toList == s.toList) = false ∧ (ByteArray.empty.toList == s.toList) = false ∧ (([] : List UInt8) == s.toList) = false ∧ (s.toList == ([] : List UInt8)) = false ∧ (s.toList == (⟨#[]⟩ : ByteArray).toList) = false := by
  have e0 : (⟨#[]⟩ : ByteArray) = ByteArray.empty := rfl
  have e1 : (ByteArray.empty).toList = [] := by rw [Go.ByteArray.toList_eq]; rfl
  have h1 := eqS_no (a := ByteArray.empty) (b := s) (fun e => h e.symm)
  have h2 := eqS_no (a := s) (b := ByteArray.empty) h
  refine ⟨by rw [e0]; exact h1, h1, by rw [← e1]; exact h1, by rw [← e1]; exact h2, by rw [e0]; exact h2⟩
theorem emp_eq {s : ByteArray} (h : s = ByteArray.empty) : ((⟨#[]⟩ : ByteArray).toList == s.toList) = true ∧ (ByteArray.empty.toList == s.toList) = true ∧ (([] : List UInt8) == s.toList) = true ∧ (s.toList == ([] : List UInt8)) = true ∧ (s.toList == (⟨#[]⟩ : ByteArray).toList) = true := by
  have e1 : (ByteArray.empty).toList = [] := by rw [Go.ByteArray.toList_eq]; rfl
  have e2 : (⟨#[]⟩ : ByteArray).toList = [] := e1
  subst h
  rw [e1, e2]
  exact ⟨rfl, rfl, rfl, rfl, rfl⟩
theorem fit_no_key {m : List Pr} {c : Ch} (h : keyB c.1 = false) : fitB m c = false := by unfold fitB; rw [h]; rfl
theorem fit_no {m : List Pr} {c : Ch} (h : ¬ (keyB c.1 = true ∧ valB c.2.2.1 = true ∧ hasB m c.1 = c.2.2.2.1 ∧ valOf m c.1 = c.2.1 ∧ (c.2.2.2.2 = true ∨ c.2.2.1 = ByteArray.empty))) : fitB m c = false := by
  cases e : fitB m c
  · rfl
  · exact absurd (fitB_iff.1 e) h
theorem fit_old {m : List Pr} {c : Ch} (h : c.2.2.2.1 = false) (h' : ¬ c.2.1 = ByteArray.empty) : fitB m c = false := fit_no fun x => h' (by rw [← x.2.2.2.1, valOf_no (by rw [x.2.2.1, h])])

end Go.Proofs.YtaofemdhgfejjaaGreatDoor
