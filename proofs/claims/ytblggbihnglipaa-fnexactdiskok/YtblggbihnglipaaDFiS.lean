/-
  What spec.l11Name, spec.l11Files, spec.l11At answer.
-/
import Derived.Test.YtblggbihnglipaaDMath
import Derived.Test.YtblggbihnglipaaQRow
import Derived.BigQuiet
namespace Go.Proofs.Ytblggbihnglipaa
open Go.RowKit

open Classical in
noncomputable def nameB (s : ByteArray) : Bool := decide (nameP s)
open Classical in
theorem nameB_yes {s : ByteArray} (h : nameP s) : nameB s = true := decide_eq_true h
open Classical in
theorem nameB_no {s : ByteArray} (h : ¬ nameP s) : nameB s = false := decide_eq_false h
theorem l11Name_any (s : ByteArray) (w : World) (hs : s.size ≤ maxLen) :
    Calls Try.prog 76 #[.string s] w fun e w' => e = .returned (.bool (nameB s)) ∧ w = w' := by
  unfold maxLen at hs
  by_cases h1 : 1 ≤ s.size
  · have d1 : decide ((1 : Int) ≤ (s.size : Int)) = true := decide_eq_true (by omega)
    have d1' : decide (1 ≤ s.size) = true := decide_eq_true h1
    by_cases h2 : s.size ≤ 100
    · have E := hide (nameB_yes (s := s) ⟨h1, h2⟩)
      have d2 : decide ((s.size : Int) ≤ 100) = true := decide_eq_true (by omega)
      go_enter Try.func76, Try.ntmps76
      go_wp2
      go_ret
      exact ⟨ret_bool E.out.symm, rfl⟩
    · have E := hide (nameB_no (s := s) (fun h => h2 h.2))
      have d2 : decide ((s.size : Int) ≤ 100) = false := decide_eq_false (by omega)
      go_enter Try.func76, Try.ntmps76
      go_wp2
      go_ret
      exact ⟨ret_bool E.out.symm, rfl⟩
  · have E := hide (nameB_no (s := s) (fun h => h1 h.1))
    have d1 : decide ((1 : Int) ≤ (s.size : Int)) = false := decide_eq_false (by omega)
    have d1' : decide (1 ≤ s.size) = false := decide_eq_false h1
    go_enter Try.func76, Try.ntmps76
    go_wp2
    go_ret
    exact ⟨ret_bool E.out.symm, rfl⟩
/-- the place of a file, -1 where there is none, in files that rise -/
def atI (l : List Pr) (k : ByteArray) : Int := if hasB l k = true then (atN l k : Int) else -1
end Go.Proofs.Ytblggbihnglipaa
