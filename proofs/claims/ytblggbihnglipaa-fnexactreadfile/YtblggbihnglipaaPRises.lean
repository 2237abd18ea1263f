/-
  What impl's sorted list answers when asked whether it rises.
-/
import Derived.Test.YtblggbihnglipaaPMem
import Derived.Test.YtblggbihnglipaaPStr0
import Derived.BigQuiet
import Derived.IntWalk
import Derived.Deep.RegionHeld3
namespace Go.Proofs.Ytblggbihnglipaa
open Go.RowKit

theorem sortKey_any (a b : ByteArray) (w : World) :
    Calls Try.prog 137 #[.agg #[.string a, .string b]] w fun e w' => e = .returned (.string a) ∧ w.alloc (.cells #[.string a, .string b] 86) = w' := by
  go_enter Try.func137, Try.ntmps137
  go_wp2
  go_ret
  exact ⟨rfl, rfl⟩

theorem method_sortKey (x y : Value) (w : World) : (method 275 86 (.agg #[x, y]) "loop.example/g00652/impl.sortKey").run Try.prog w = .ok (137, .agg #[x, y]) w := by kernel_rfl

set_option maxRecDepth 100000 in
set_option maxHeartbeats 1000000 in
theorem rises_any (A : Option Addr) (l : List Pr) (cap : Nat) (w : World) (hl : l.length ≤ maxLen) (hin : PIn w w.heap.size A l) :
    Calls Try.prog 81 #[.slice A l.length cap] w fun e w' => e = .returned (.bool (risesB l)) ∧ Below w.heap.size w w' := by
  unfold maxLen at hl
  generalize hn : l.length = n at *
  have HN := hide hn
  clear hn
  have hme := method_sortKey
  go_enter Try.func81, Try.ntmps81
  go_wp2
  go_loopw [3] (fun i wr => ∃ k : Nat, (k ≤ n ∨ k = 1) ∧ 1 ≤ k ∧ i = .int .i64 k ∧ Hid (risesTo l k) ∧ Hid (Below w.heap.size w wr)) (fun i _ => n - (intOf i).toNat)
  case atStart => exact ⟨1, .inr rfl, by omega, rfl, risesTo_one l, Below.refl _ w⟩
  case round =>
    obtain ⟨k, hk, h1, rfl, H, Q⟩ := hrel
    by_cases hlt : k < n
    · have hin2 := hin.below Q.out
      obtain ⟨b, off, rfl, hbB, hc⟩ := hin2.2 (by rw [HN.out]; omega)
      have hkl : k < l.length := by rw [HN.out]; omega
      obtain ⟨c1, c2⟩ := hc k hkl
      obtain ⟨c3, c4⟩ := hc (k - 1) (by omega)
      cases hrise : ltB (l[k - 1]'(by omega)).1 (l[k]'hkl).1
      · have Z := hide (risesB_no (l := l) (k := k - 1) (by omega) (by simpa [show k - 1 + 1 = k by omega] using hrise))
        have hrise2 : Op.bytesLess (l[k - 1]'(by omega)).1.toList (l[k]'hkl).1.toList = false := hrise
        generalize (l[k]'hkl).1 = s at *
        generalize (l[k]'hkl).2 = v at *
        generalize (l[k - 1]'(by omega)).1 = s0 at *
        generalize (l[k - 1]'(by omega)).2 = v0 at *
        have q1 : IntKind.i64.wrap ((k : Int) - 1) = (k : Int) - 1 := IntWalk.i64_in _ (by omega)
        have q2 : (0 : Int) ≤ (k : Int) - 1 := by omega
        have q3 : (1 : Int) ≤ (k : Int) := by omega
        have q4 : ((k : Int) - 1).toNat = k - 1 := by omega
        have q5 : (k : Int) - 1 < (n : Int) := by omega
        clear hin hin2 hc hrise hkl
        go_wp2
        go_region_held3 (fun w' => w'.cell? ⟨b, off + k * 2, none⟩ = some (.string s) ∧ w'.cell? ⟨b, off + k * 2 + 1, none⟩ = some (.string v) ∧ w'.cell? ⟨b, off + (k - 1) * 2, none⟩ = some (.string s0) ∧ w'.cell? ⟨b, off + (k - 1) * 2 + 1, none⟩ = some (.string v0)) (go_keep)
          (first | (go_at_call 137; refine (sortKey_any _ _ _).mono ?_; rintro e w' ⟨rfl, rfl⟩))
        clear q1 q4
        go_wp2
        go_ret
        exact ⟨ret_bool Z.out.symm, Q.out.trans ((((Below.refl _ _).drew).alloc Q.out.size _).alloc (by have := Q.out.size; simp; omega) _)⟩
      · have Z := hide (risesTo_succ (l := l) (k := k - 1) (by omega) (by simpa [show k - 1 + 1 = k by omega] using H.out) (by simpa [show k - 1 + 1 = k by omega] using hrise))
        have hrise2 : Op.bytesLess (l[k - 1]'(by omega)).1.toList (l[k]'hkl).1.toList = true := hrise
        generalize (l[k]'hkl).1 = s at *
        generalize (l[k]'hkl).2 = v at *
        generalize (l[k - 1]'(by omega)).1 = s0 at *
        generalize (l[k - 1]'(by omega)).2 = v0 at *
        have q1 : IntKind.i64.wrap ((k : Int) - 1) = (k : Int) - 1 := IntWalk.i64_in _ (by omega)
        have q2 : (0 : Int) ≤ (k : Int) - 1 := by omega
        have q3 : (1 : Int) ≤ (k : Int) := by omega
        have q4 : ((k : Int) - 1).toNat = k - 1 := by omega
        have q5 : (k : Int) - 1 < (n : Int) := by omega
        clear hin hin2 hc hrise hkl
        go_wp2
        go_region_held3 (fun w' => w'.cell? ⟨b, off + k * 2, none⟩ = some (.string s) ∧ w'.cell? ⟨b, off + k * 2 + 1, none⟩ = some (.string v) ∧ w'.cell? ⟨b, off + (k - 1) * 2, none⟩ = some (.string s0) ∧ w'.cell? ⟨b, off + (k - 1) * 2 + 1, none⟩ = some (.string v0)) (go_keep)
          (first | (go_at_call 137; refine (sortKey_any _ _ _).mono ?_; rintro e w' ⟨rfl, rfl⟩))
        clear q1 q4
        go_wp2
        go_roundw
        case rel => exact ⟨k + 1, by omega, by omega, by go_num, by rw [show k + 1 = k - 1 + 2 by omega]; exact Z, Q.out.trans ((((Below.refl _ _).drew).alloc Q.out.size _).alloc (by have := Q.out.size; simp; omega) _)⟩
        case measure => simp [intOf]; omega
    · have Z : Hid (risesB l = true) := hide (risesB_yes (by
        intro i hi hik
        exact H.out i hi (by rw [HN.out] at hi; omega)))
      go_wp2
      go_ret
      exact ⟨ret_bool Z.out.symm, Q.out⟩
end Go.Proofs.Ytblggbihnglipaa
