/-
  slices.Clone of pairs.
-/
import Derived.Test.YtaofemdhgfejjaaGreatDoorPDrop
namespace Go.Proofs.YtaofemdhgfejjaaGreatDoor
open Go.RowKit

theorem nil_yes (n cap : Nat) (w : World) : (binOp BinOp.eql 62 (.slice none n cap) (.slice none 0 0)).run Tryz.prog w = .ok (.bool true) w := by kernel_rfl
theorem nil_no (a : Addr) (n cap : Nat) (w : World) : (binOp BinOp.eql 62 (.slice (some a) n cap) (.slice none 0 0)).run Tryz.prog w = .ok (.bool false) w := by kernel_rfl
set_option maxRecDepth 100000 in
set_option maxHeartbeats 2000000 in
theorem clone_any (A : Option Addr) (l : List Pr) (cap : Nat) (w : World) (hl : l.length ≤ 1200000) (hin : PIn w w.heap.size A l) :
    Calls Tryz.prog 41 #[.slice A l.length cap] w (RetOwn w.heap.size l w) := by
  cases A with
  | none =>
    have h0 : l = [] := by
      rcases Nat.eq_zero_or_pos l.length with e | e
      · exact List.eq_nil_of_length_eq_zero e
      · obtain ⟨_, _, x, _⟩ := hin.2 e
        cases x
    subst h0
    clear hin
    have hnil := nil_yes
    go_enter Tryz.func41, Tryz.ntmps41
    go_wp2
    go_ret
    exact ⟨none, 0, by simp, rfl, Own.nil _ _, Below.refl _ _⟩
  | some a =>
    have IN := hide hin
    have E0 : Hid ([] ++ l = l) := hide (by simp)
    clear hin
    generalize hnn : l.length = n at *
    have HNN := hide hnn
    clear hnn
    have hnil := nil_no
    go_enter Tryz.func41, Tryz.ntmps41
    go_wp2_with (at_builtin; refine wpList_app 62 Tryz.underlying62 rfl (.tmp 5) (.tmp 6) rfl rfl rfl rfl HNN.out.symm (Own.built w w.heap.size (Nat.le_refl _)) (IN.out.below ((Below.refl _ _).alloc (Nat.le_refl _) _)) (by simp) (by rw [HNN.out]; simp; omega) ?_; intro A3 cap3 w3 own3 g3 r3; have b3 := hide (((Below.refl _ w).alloc (Nat.le_refl _) _).trans ((Own.built w w.heap.size (Nat.le_refl _)).grownBelow (by rw [rowOf_own]; exact g3) (by simp))); have O3 := hide own3; clear own3 g3)
    go_ret
    have O4 := O3.out
    rw [E0.out] at O4
    have hc := O4.cap_le
    rw [HNN.out] at hc
    exact ⟨A3, cap3, by rw [HNN.out]; exact hc, by simp [HNN.out], O4, b3.out⟩
end Go.Proofs.YtaofemdhgfejjaaGreatDoor
