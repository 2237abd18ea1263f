/-
  What spec.l1Split does: what stands between blanks, in a row of the call's own.
-/
import Derived.Test.YtnjdlcpgpgmeaaaDoorCSplit
import Derived.Test.YtnjdlcpgpgmeaaaDoorCRow
import Derived.BigQuiet
namespace Go.Proofs.YtnjdlcpgpgmeaaaDoor
open Go.RowKit

def more (sv bv : Value) : Nat := match sv, bv with
  | .string r, .bool true => r.size + 1
  | _, _ => 0
theorem more_t (r : ByteArray) : more (.string r) (.bool true) = r.size + 1 := rfl
theorem more_f (r : ByteArray) : more (.string r) (.bool false) = 0 := rfl

set_option maxRecDepth 100000 in
set_option maxHeartbeats 1000000 in
theorem l1Split_any (s : ByteArray) (w : World) (hs : s.size ≤ 1048576) :
    Calls Tryd.prog 27 #[.string s] w fun e w' => ∃ A cap, e = .returned (.slice A (splitF (s.size + 1) s).length cap) ∧ ZOwn w' w.heap.size A cap (splitF (s.size + 1) s) ∧ Below w.heap.size w w' ∧ (splitF (s.size + 1) s).length ≤ s.size + 1 := by
  have O0 := hide (ZOwn.built w w.heap.size (Nat.le_refl _))
  have B0 := hide ((Below.refl w.heap.size w).alloc (Nat.le_refl _) (.cells #[] 9))
  have E0 : Hid (splitF (s.size + 1) s = [] ++ splitF (s.size + 1) s) := hide (by simp)
  go_enter Tryd.func27, Tryd.ntmps27
  go_wp2
  go_loopw [0, 3, 4] (fun sv ov bv wr => ∃ (r : ByteArray) (d : List ByteArray) (A : Option Addr) (cap k : Nat) (b : Bool), sv = .string r ∧ ov = .slice A d.length cap ∧ bv = .bool b ∧ d.length + k ≤ s.size + 1 ∧ (b = true → r.size + 1 ≤ k) ∧ Hid (splitF (s.size + 1) s = if b then d ++ splitF k r else d) ∧ Hid (ZOwn wr w.heap.size A cap d) ∧ Hid (Below w.heap.size w wr)) (fun sv _ bv _ => more sv bv)
  case atStart => exact ⟨s, [], _, 0, s.size + 1, true, rfl, rfl, rfl, by simp, fun _ => Nat.le_refl _, E0, O0, B0⟩
  case round =>
    clear O0 B0 E0
    obtain ⟨r, d, A, cap, k, b, rfl, rfl, rfl, hd, hk, E, O, Q⟩ := hrel
    cases b
    · have Z : Hid (splitF (s.size + 1) s = d) := hide E.out
      clear E hk
      go_wp2
      go_ret
      exact ⟨A, cap, by rw [Z.out]; rfl, by rw [Z.out]; exact O.out, Q.out, by rw [Z.out]; omega⟩
    · obtain ⟨k, rfl⟩ : ∃ j, k = j + 1 := ⟨k - 1, by have := hk rfl; omega⟩
      have hk' : r.size ≤ k := by have := hk rfl; omega
      have hE : splitF (s.size + 1) s = d ++ splitF (k + 1) r := E.out
      have HE := hide hE
      clear E hk hE
      go_wp2_with fail
      refine (l1Cut_any r 32 32 wr (by unfold maxLen; omega) rfl).mono ?_
      rintro e w1 ⟨rfl, q1⟩
      have O1 := hide (O.out.below (q1.below _))
      have Q1 := hide (Q.out.trans (q1.below _))
      have hq1 := Q1.out.size
      clear q1 O Q
      cases hc : (cutS r 32).2.2
      · have Z : Hid (splitF (s.size + 1) s = d ++ [(cutS r 32).1]) := hide (by rw [HE.out, splitF_last hc])
        generalize (cutS r 32).1 = x at *
        generalize (cutS r 32).2.1 = y at *
        have hl1 : (d ++ [x]).length = d.length + 1 := by simp
        go_wp2_with (at_builtin; refine wpList_appZ (l := d) (l' := [x]) 24 Tryd.underlying24 rfl (.tmp 14) (.tmp 16) rfl rfl rfl rfl rfl (O1.out.alloc _) (ZIn.one x _ rfl) (Nat.le_trans hq1 (by simp)) (by simp; omega) ?_; intro A3 cap3 w3 own3 g3 r3; have B3 := hide (Q1.out.trans (((Below.refl _ w1).alloc hq1 (.cells #[Value.string x] 9)).trans ((O1.out.alloc (.cells #[Value.string x] 9)).grownBelow g3 (Nat.le_trans hq1 (by simp))))); have O3 := hide own3; clear own3 g3 r3)
        go_roundw
        case rel => exact ⟨y, d ++ [x], A3, cap3, 0, false, rfl, by rw [hl1], rfl, by rw [hl1]; omega, fun h => (Bool.noConfusion h), Z, O3, B3⟩
        case measure => simp only [more_t, more_f]; omega
      · have Z : Hid (splitF (s.size + 1) s = (d ++ [(cutS r 32).1]) ++ splitF k (cutS r 32).2.1) := hide (by rw [HE.out, splitF_more hc]; simp)
        have hrr := cutA_rest hc
        generalize (cutS r 32).1 = x at *
        generalize (cutS r 32).2.1 = y at *
        have hl1 : (d ++ [x]).length = d.length + 1 := by simp
        go_wp2_with (at_builtin; refine wpList_appZ (l := d) (l' := [x]) 24 Tryd.underlying24 rfl (.tmp 14) (.tmp 16) rfl rfl rfl rfl rfl (O1.out.alloc _) (ZIn.one x _ rfl) (Nat.le_trans hq1 (by simp)) (by simp; omega) ?_; intro A3 cap3 w3 own3 g3 r3; have B3 := hide (Q1.out.trans (((Below.refl _ w1).alloc hq1 (.cells #[Value.string x] 9)).trans ((O1.out.alloc (.cells #[Value.string x] 9)).grownBelow g3 (Nat.le_trans hq1 (by simp))))); have O3 := hide own3; clear own3 g3 r3)
        go_roundw
        case rel => exact ⟨y, d ++ [x], A3, cap3, k, true, rfl, by rw [hl1], rfl, by rw [hl1]; omega, fun _ => by omega, Z, O3, B3⟩
        case measure => simp only [more_t]; omega
end Go.Proofs.YtnjdlcpgpgmeaaaDoor
