/-
  What laws.sameTexts, laws.eqStringS, laws.has and laws.rises answer.
-/
import Derived.Test.YtpnbolekhgcacaaDoorCRow
import Derived.Test.YtpnbolekhgcacaaDoorMPut
import Derived.BigQuiet
import Derived.IntWalk
namespace Go.Proofs.YtpnbolekhgcacaaDoor
open Go.RowKit

theorem ZIn.quiet {w w' : World} {B : Nat} {A : Option Addr} {bs : List ByteArray} (h : ZIn w B A bs) (q : Quiet w w') : ZIn w' B A bs := h.below (q.below B)
set_option maxRecDepth 100000 in
set_option maxHeartbeats 1000000 in
theorem sameTexts_same (A A' : Option Addr) (l : List ByteArray) (cap cap' : Nat) (w : World) (B B' : Nat) (hl : l.length ≤ maxLen) (hin : ZIn w B A l) (hin' : ZIn w B' A' l) :
    Calls Tryd.prog 15 #[.slice A l.length cap, .slice A' l.length cap'] w fun e w' => e = .returned (.bool true) ∧ Quiet w w' := by
  unfold maxLen at hl
  have IN := hide hin
  have IN' := hide hin'
  clear hin hin'
  generalize hn : l.length = n at *
  have HN := hide hn
  clear hn
  have e0 : ((n : Int) != (n : Int)) = false := by simp
  go_enter Tryd.func15, Tryd.ntmps15
  go_wp2
  go_loopw [5] (fun iv wr => ∃ k : Nat, k ≤ n ∧ iv = .int .i64 k ∧ Hid (Quiet w wr)) (fun i _ => n - (intOf i).toNat)
  case atStart => exact ⟨0, Nat.zero_le _, rfl, Quiet.refl w⟩
  case round =>
    obtain ⟨k, hk, rfl, Q⟩ := hrel
    by_cases hlt : k < n
    · have hkl : k < l.length := by rw [HN.out]; omega
      obtain ⟨b, off, rfl, _, hc⟩ := IN.out (by omega)
      obtain ⟨b', off', rfl, _, hc'⟩ := IN'.out (by omega)
      have c1 := (Q.out.cell _).trans (hc k hkl)
      have c2 := (Q.out.cell _).trans (hc' k hkl)
      have e1 : (l[k].toList == l[k].toList) = true := by simp
      generalize l[k] = s at *
      clear hc hc'
      go_wp2
      go_quiet (fail)
      go_wp2
      exact ⟨⟨k + 1, by omega, by go_num, Q.out.drewN _⟩, by simp [intOf]; omega⟩
    · have hgt : ¬ ((k : Int) < (n : Int)) := by omega
      clear hlt
      go_wp2
      go_ret
      exact ⟨rfl, Q.out⟩
set_option maxRecDepth 100000 in
set_option maxHeartbeats 1000000 in
theorem eqStringZ_same (A A' : Option Addr) (l : List ByteArray) (cap cap' : Nat) (w : World) (B B' : Nat) (hl : l.length ≤ maxLen) (hin : ZIn w B A l) (hin' : ZIn w B' A' l) :
    Calls Tryd.prog 10 #[.slice A l.length cap, .slice A' l.length cap'] w fun e w' => e = .returned (.bool true) ∧ Quiet w w' := by
  unfold maxLen at hl
  have IN := hide hin
  have IN' := hide hin'
  clear hin hin'
  generalize hn : l.length = n at *
  have HN := hide hn
  clear hn
  have e0 : ((n : Int) != (n : Int)) = false := by simp
  go_enter Tryd.func10, Tryd.ntmps10
  go_wp2
  go_loopw [5] (fun iv wr => ∃ k : Nat, k ≤ n ∧ iv = .int .i64 k ∧ Hid (Quiet w wr)) (fun i _ => n - (intOf i).toNat)
  case atStart => exact ⟨0, Nat.zero_le _, rfl, Quiet.refl w⟩
  case round =>
    obtain ⟨k, hk, rfl, Q⟩ := hrel
    by_cases hlt : k < n
    · have hkl : k < l.length := by rw [HN.out]; omega
      obtain ⟨b, off, rfl, _, hc⟩ := IN.out (by omega)
      obtain ⟨b', off', rfl, _, hc'⟩ := IN'.out (by omega)
      have c1 := (Q.out.cell _).trans (hc k hkl)
      have c2 := (Q.out.cell _).trans (hc' k hkl)
      have e1 : (l[k].toList == l[k].toList) = true := by simp
      generalize l[k] = s at *
      clear hc hc'
      go_wp2
      go_quiet (fail)
      go_wp2
      exact ⟨⟨k + 1, by omega, by go_num, Q.out.drewN _⟩, by simp [intOf]; omega⟩
    · have hgt : ¬ ((k : Int) < (n : Int)) := by omega
      clear hlt
      go_wp2
      go_ret
      exact ⟨rfl, Q.out⟩
end Go.Proofs.YtpnbolekhgcacaaDoor
