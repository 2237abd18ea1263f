/-
  Files and ops on them, as plain mathematics (as the reference has them).
-/
import Derived.Test.YtblggbihnglipaaDMem
import Derived.Test.YtblggbihnglipaaQAlg
namespace Go.Proofs.Ytblggbihnglipaa
open Go.RowKit

def nameP (s : ByteArray) : Prop := 1 ≤ s.size ∧ s.size ≤ 100
/-- how many bytes of data there are in all -/
def sumF (l : List Pr) : Nat := (l.map fun p => p.2.size).sum
theorem sumF_nil : sumF [] = 0 := rfl
theorem sumF_cons (p : Pr) (l : List Pr) : sumF (p :: l) = p.2.size + sumF l := rfl
theorem sumF_app (a b : List Pr) : sumF (a ++ b) = sumF a + sumF b := by unfold sumF; simp
theorem sumF_take_next {l : List Pr} {k : Nat} (h : k < l.length) : sumF (l.take (k + 1)) = sumF (l.take k) + l[k].2.size := by
  rw [List.take_succ_eq_append_getElem h, sumF_app]
  simp [sumF]
theorem sumF_take_le (l : List Pr) (k : Nat) : sumF (l.take k) ≤ sumF l := by
  conv => rhs; rw [← List.take_append_drop k l]
  rw [sumF_app]
  omega
/-- files that are so -/
def filesP (l : List Pr) : Prop := l.length ≤ 60 ∧ (∀ p ∈ l, nameP p.1) ∧ risesTo l l.length ∧ sumF l ≤ 200000
open Classical in
noncomputable def filesB (l : List Pr) : Bool := decide (filesP l)
open Classical in
theorem filesB_yes {l : List Pr} (h : filesP l) : filesB l = true := decide_eq_true h
open Classical in
theorem filesB_no {l : List Pr} (h : ¬ filesP l) : filesB l = false := decide_eq_false h
open Classical in
theorem filesB_iff {l : List Pr} : filesB l = true ↔ filesP l := by unfold filesB; exact decide_eq_true_iff
/-- an op of its form -/
def formP (o : Dp) : Prop := 1 ≤ o.1 ∧ o.1 ≤ 3 ∧ nameP o.2.1 ∧ (o.1 = 2 → nameP o.2.2.1 ∧ o.2.2.2 = ByteArray.empty) ∧ (o.1 ≠ 2 → o.2.2.1 = ByteArray.empty ∧ (o.1 = 1 ∨ o.2.2.2 = ByteArray.empty))
open Classical in
noncomputable def formB (o : Dp) : Bool := decide (formP o)
open Classical in
theorem formB_yes {o : Dp} (h : formP o) : formB o = true := decide_eq_true h
open Classical in
theorem formB_no {o : Dp} (h : ¬ formP o) : formB o = false := decide_eq_false h
/-- files without one -/
def cutF1 (l : List Pr) (k : ByteArray) : List Pr := l.filter fun p => !(p.1.toList == k.toList)
end Go.Proofs.Ytblggbihnglipaa
