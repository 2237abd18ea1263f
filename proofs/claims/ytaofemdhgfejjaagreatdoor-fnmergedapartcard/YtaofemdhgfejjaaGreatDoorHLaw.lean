/-
  What the laws' own helpers on changes answer: szChange, toChange, eqChange, szChangeS, toChangeS, eqChangeS; an argument that is a list of changes, opened.
-/
import Derived.Test.YtaofemdhgfejjaaGreatDoorHMem
import Derived.Test.YtaofemdhgfejjaaGreatDoorLPair
import Derived.Test.YtaofemdhgfejjaaGreatDoorLPairS
import Derived.Test.YtaofemdhgfejjaaGreatDoorLOpen
import Derived.Deep.Slices
namespace Go.Proofs.YtaofemdhgfejjaaGreatDoor
open Go.RowKit

def eqC (p q : Ch) : Bool := decide (p = q)
theorem eqC_yes {p q : Ch} (h : p = q) : eqC p q = true := decide_eq_true h
theorem eqC_no {p q : Ch} (h : ¬ p = q) : eqC p q = false := decide_eq_false h
def eqCL (l l' : List Ch) : Bool := decide (l = l')
theorem eqCL_yes {p q : List Ch} (h : p = q) : eqCL p q = true := decide_eq_true h
theorem eqCL_no {p q : List Ch} (h : ¬ p = q) : eqCL p q = false := decide_eq_false h
theorem eqCL_self (p : List Ch) : eqCL p p = true := eqCL_yes rfl
theorem neB_yes {a b : Bool} (h : ¬ a = b) : (a != b) = true := by cases a <;> cases b <;> simp_all
theorem eqBf {a b : Bool} (h : ¬ a = b) : (a == b) = false := by cases a <;> cases b <;> simp_all

theorem made_changes (n : Nat) : (madeCells (arrC emC) (n * 5)).toList = ccells (List.replicate n emC) := by
  apply List.ext_getElem?
  intro j
  by_cases hj : j < n * 5
  · obtain ⟨p0, p1, p2, p3, p4⟩ := ccells_get (List.replicate n emC) (j / 5) (by simp; omega)
    have hj5 : j = j / 5 * 5 + j % 5 := by omega
    have hm : j % 5 < 5 := Nat.mod_lt _ (by omega)
    have hmm : (madeCells (arrC emC) (n * 5)).toList[j]? = some ((arrC emC).getD (j % 5) default) := by simp [madeCells, hj, arrC]
    rw [hmm]
    generalize j % 5 = r at hj5 hm
    match r, hm with
    | 0, _ => rw [show j / 5 * 5 = j by omega] at p0; rw [p0]; simp [arrC, emC]
    | 1, _ => rw [show j / 5 * 5 + 1 = j by omega] at p1; rw [p1]; simp [arrC, emC]
    | 2, _ => rw [show j / 5 * 5 + 2 = j by omega] at p2; rw [p2]; simp [arrC, emC]
    | 3, _ => rw [show j / 5 * 5 + 3 = j by omega] at p3; rw [p3]; simp [arrC, emC]
    | 4, _ => rw [show j / 5 * 5 + 4 = j by omega] at p4; rw [p4]; simp [arrC, emC]
  · rw [List.getElem?_eq_none (by simp [madeCells]; omega), List.getElem?_eq_none (by rw [ccells_length]; simp; omega)]
theorem set_stepC (l : List Ch) (n k : Nat) (hk : k < l.length) (hn : l.length = n) : (l.take k ++ List.replicate (n - k) emC).set k l[k] = l.take (k + 1) ++ List.replicate (n - (k + 1)) emC := by
  have hlen : (l.take k).length = k := by rw [List.length_take]; omega
  have h1 : (l.take k ++ List.replicate (n - k) emC).set k l[k] = l.take k ++ (List.replicate (n - k) emC).set 0 l[k] := by
    rw [List.set_append_right _ _ (by omega), hlen, Nat.sub_self]
  rw [h1, show n - k = n - (k + 1) + 1 by omega, List.replicate_succ, List.set_cons_zero, List.take_succ_eq_append_getElem hk, List.append_assoc]
  rfl
end Go.Proofs.YtaofemdhgfejjaaGreatDoor
