/-
  How many changes lead from one right map to another one.
-/
import Derived.Test.YtaofemdhgfejjaaGreatDoorHDiffI
namespace Go.Proofs.YtaofemdhgfejjaaGreatDoor
open Go.RowKit
theorem diffL_len (a b : List Pr) : (diffL a b).length ≤ 80 := by
  cases h : diffB a b
  · rw [diffL_no h]; simp
  · rw [diffL_yes h]
    unfold diffB at h
    rw [Bool.and_eq_true] at h
    have h1 := (mapB_iff.1 h.1).1
    have h2 := (mapB_iff.1 h.2).1
    have := difM_len _ a b (Nat.le_refl _)
    omega
end Go.Proofs.YtaofemdhgfejjaaGreatDoor
