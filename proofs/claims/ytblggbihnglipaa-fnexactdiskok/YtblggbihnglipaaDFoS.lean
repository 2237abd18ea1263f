/-
  What spec.l1In, spec.l11At and spec.l11Form answer.
-/
import Derived.Test.YtblggbihnglipaaDFiL
namespace Go.Proofs.Ytblggbihnglipaa
open Go.RowKit

theorem l1In_any (n a b : Int) (w : World) : Calls Try.prog 65 #[.int .i64 n, .int .i64 a, .int .i64 b] w fun e w' => e = .returned (.bool (decide (a ≤ n) && decide (n ≤ b))) ∧ w = w' := by
  by_cases h : a ≤ n
  · have d : decide (a ≤ n) = true := decide_eq_true h
    go_enter Try.func65, Try.ntmps65
    go_wp2
    go_ret
    exact ⟨ret_bool (by rw [d]; simp), rfl⟩
  · have d : decide (a ≤ n) = false := decide_eq_false h
    go_enter Try.func65, Try.ntmps65
    go_wp2
    go_ret
    exact ⟨ret_bool (by simp), rfl⟩
/-- the first place of a name -/
def atF : List Pr → ByteArray → Nat → Int
  | [], _, _ => -1
  | p :: r, k, i => if p.1.toList == k.toList then (i : Int) else atF r k (i + 1)
theorem atF_drop {l : List Pr} {k : Nat} (h : k < l.length) (key : ByteArray) : atF (l.drop k) key k = if l[k].1.toList == key.toList then (k : Int) else atF (l.drop (k + 1)) key (k + 1) := by
  rw [List.drop_eq_getElem_cons h, atF]
set_option maxRecDepth 100000 in
theorem l11At_any (A : Option Addr) (l : List Pr) (cap : Nat) (key : ByteArray) (w : World) (B : Nat) (hl : l.length ≤ maxLen) (hin : PIn w B A l) :
    Calls Try.prog 55 #[.slice A l.length cap, .string key] w fun e w' => e = .returned (.int .i64 (atF l key 0)) ∧ w = w' := by
  unfold maxLen at hl
  generalize hn : l.length = n at *
  have HN := hide hn
  clear hn
  go_enter Try.func55, Try.ntmps55
  go_wp2
  go_loop [5] (fun i => ∃ k : Nat, k ≤ n ∧ i = .int .i64 k ∧ Hid (atF l key 0 = atF (l.drop k) key k)) (fun i => n - (intOf i).toNat)
  case atStart => exact ⟨0, Nat.zero_le _, rfl, hide rfl⟩
  case round =>
    obtain ⟨k, hk, rfl, H⟩ := hrel
    by_cases hlt : k < n
    · have hkl : k < l.length := by rw [HN.out]; omega
      obtain ⟨b, off, rfl, hbB, hc⟩ := hin.2 (by omega)
      obtain ⟨c1, _⟩ := hc k hkl
      have ST := hide (H.out.trans (atF_drop hkl key))
      cases hs : ((l[k]'hkl).1.toList == key.toList)
      · have Z : Hid (atF l key 0 = atF (l.drop (k + 1)) key (k + 1)) := hide (by rw [ST.out, hs]; rfl)
        generalize (l[k]'hkl).1 = s at *
        clear hin hc ST H
        go_wp2
        go_round
        case rel => exact ⟨k + 1, by omega, by go_num, Z⟩
        case measure => simp [intOf]; omega
      · have Z : Hid (atF l key 0 = (k : Int)) := hide (by rw [ST.out, hs]; rfl)
        generalize (l[k]'hkl).1 = s at *
        clear hin hc ST H
        go_wp2
        go_ret
        exact ⟨ret_int (by rw [Z.out]), rfl⟩
    · have Z : Hid (atF l key 0 = -1) := hide (by rw [H.out, List.drop_of_length_le (by rw [HN.out]; omega)]; rfl)
      go_wp2
      go_ret
      exact ⟨ret_int (by rw [Z.out]), rfl⟩
end Go.Proofs.Ytblggbihnglipaa
