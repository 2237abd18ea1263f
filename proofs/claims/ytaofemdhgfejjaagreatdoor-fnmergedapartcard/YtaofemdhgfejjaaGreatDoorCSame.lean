/-
  What laws.sameTexts, laws.eqStringS, laws.has and laws.rises answer.
-/
import Derived.Test.YtaofemdhgfejjaaGreatDoorCRow
import Derived.Test.YtaofemdhgfejjaaGreatDoorMPut
import Derived.BigQuiet
import Derived.IntWalk
namespace Go.Proofs.YtaofemdhgfejjaaGreatDoor
open Go.RowKit

theorem ZIn.quiet {w w' : World} {B : Nat} {A : Option Addr} {bs : List ByteArray} (h : ZIn w B A bs) (q : Quiet w w') : ZIn w' B A bs := h.below (q.below B)
set_option maxRecDepth 100000 in
set_option maxHeartbeats 1000000 in
theorem sameTexts_same (A A' : Option Addr) (l : List ByteArray) (cap cap' : Nat) (w : World) (B B' : Nat) (hl : l.length ≤ maxLen) (hin : ZIn w B A l) (hin' : ZIn w B' A' l) :
    Calls Tryz.prog 12 #[.slice A l.length cap, .slice A' l.length cap'] w fun e w' => e = .returned (.bool true) ∧ Quiet w w' := by
  unfold maxLen at hl
  have IN := hide hin
  have IN' := hide hin'
  clear hin hin'
  generalize hn : l.length = n at *
  have HN := hide hn
  clear hn
  have e0 : ((n : Int) != (n : Int)) = false := by simp
  go_enter Tryz.func12, Tryz.ntmps12
  go_wp2
  go_loopw [5] (fun iv wr => ∃ k : Nat, k ≤ n ∧ iv = .int .i64 k ∧ Hid (Quiet w wr)) (fun i _ => n - (intOf i).toNat)
  case atStart => exact ⟨0, Nat.zero_le _, rfl, Quiet.refl w⟩
  case round =>
    obtain ⟨k, hk, rfl, Q⟩ := hrel
    by_cases hlt : k < n
    · have hkl : k < l.length := by rw [HN.out]; omega
      obtain ⟨b, off, rfl, _, hc⟩ := IN.out (by omega)
      obtain ⟨b', off', rfl, _, hc'⟩ := IN'.out (by omega)
      have c1 := (Q.out.cell _).trans (hc k hkl)
      have c2 := (Q.out.cell _).trans (hc' k hkl)
      have e1 : (l[k].toList == l[k].toList) = true := by simp
      generalize l[k] = s at *
      clear hc hc'
      go_wp2
      go_quiet (fail)
      go_wp2
      exact ⟨⟨k + 1, by omega, by go_num, Q.out.drewN _⟩, by simp [intOf]; omega⟩
    · have hgt : ¬ ((k : Int) < (n : Int)) := by omega
      clear hlt
      go_wp2
      go_ret
      exact ⟨rfl, Q.out⟩
open Classical in
/-- is the text one of these? -/
noncomputable def hasK (l : List ByteArray) (s : ByteArray) : Bool := decide (s ∈ l)
open Classical in
theorem hasK_yes {l : List ByteArray} {s : ByteArray} (h : s ∈ l) : hasK l s = true := by unfold hasK; exact decide_eq_true h
open Classical in
theorem hasK_no {l : List ByteArray} {s : ByteArray} (h : ¬ s ∈ l) : hasK l s = false := by unfold hasK; exact decide_eq_false h
set_option maxRecDepth 100000 in
set_option maxHeartbeats 1000000 in
theorem lawsHas_any (A : Option Addr) (l : List ByteArray) (cap : Nat) (s : ByteArray) (w : World) (B : Nat) (hl : l.length ≤ maxLen) (hin : ZIn w B A l) :
    Calls Tryz.prog 20 #[.slice A l.length cap, .string s] w fun e w' => e = .returned (.bool (hasK l s)) ∧ w = w' := by
  unfold maxLen at hl
  have IN := hide hin
  clear hin
  generalize hn : l.length = n at *
  have HN := hide hn
  clear hn
  go_enter Tryz.func20, Tryz.ntmps20
  go_wp2
  go_loop [5] (fun iv => ∃ k : Nat, k ≤ n ∧ iv = .int .i64 k ∧ Hid (∀ i (h : i < l.length), i < k → ¬ l[i] = s)) (fun i => n - (intOf i).toNat)
  case atStart => exact ⟨0, Nat.zero_le _, rfl, hide (fun _ _ h => absurd h (by omega))⟩
  case round =>
    obtain ⟨k, hk, rfl, H⟩ := hrel
    by_cases hlt : k < n
    · have hkl : k < l.length := by rw [HN.out]; omega
      obtain ⟨b, off, rfl, _, hc⟩ := IN.out (by omega)
      have c1 := hc k hkl
      by_cases he : l[k]'hkl = s
      · have Z : Hid (hasK l s = true) := hide (hasK_yes (he ▸ List.getElem_mem hkl))
        have d1 := eqS_yes he
        generalize l[k]'hkl = x at *
        clear hc he H
        go_wp2
        go_ret
        exact ⟨ret_bool Z.out.symm, rfl⟩
      · have d1 := eqS_no he
        have H2 : Hid (∀ i (h : i < l.length), i < k + 1 → ¬ l[i] = s) := hide (fun i hi hik => by
          rcases Nat.lt_or_ge i k with g | g
          · exact H.out i hi g
          · obtain rfl : i = k := by omega
            exact he)
        generalize l[k]'hkl = x at *
        clear hc he H
        go_wp2
        go_round
        case rel => exact ⟨k + 1, by omega, by go_num, H2⟩
        case measure => simp [intOf]; omega
    · have Z : Hid (hasK l s = false) := hide (hasK_no (fun hm => by
        obtain ⟨i, hi, hx⟩ := List.mem_iff_getElem.1 hm
        exact absurd hx (H.out i hi (by rw [HN.out] at hi; omega))))
      go_wp2
      go_ret
      exact ⟨ret_bool Z.out.symm, rfl⟩
set_option maxRecDepth 100000 in
set_option maxHeartbeats 1000000 in
theorem lawsRises_yes (A : Option Addr) (l : List ByteArray) (cap : Nat) (w : World) (B : Nat) (hl : l.length ≤ maxLen) (hr : RisK l) (hin : ZIn w B A l) :
    Calls Tryz.prog 15 #[.slice A l.length cap] w fun e w' => e = .returned (.bool true) ∧ Quiet w w' := by
  unfold maxLen at hl
  have IN := hide hin
  have HR := hide hr
  clear hin hr
  generalize hn : l.length = n at *
  have HN := hide hn
  clear hn
  go_enter Tryz.func15, Tryz.ntmps15
  go_wp2
  go_loopw [3] (fun iv wr => ∃ k : Nat, 1 ≤ k ∧ iv = .int .i64 k ∧ Hid (Quiet w wr)) (fun i _ => n - (intOf i).toNat)
  case atStart => exact ⟨1, Nat.le_refl _, rfl, Quiet.refl w⟩
  case round =>
    obtain ⟨k, hk, rfl, Q⟩ := hrel
    by_cases hlt : k < n
    · have hkl : k < l.length := by rw [HN.out]; omega
      have hkl1 : k - 1 < l.length := by omega
      obtain ⟨b, off, rfl, _, hc⟩ := IN.out (by omega)
      have c1 := (Q.out.cell _).trans (hc k hkl)
      have c2 := (Q.out.cell _).trans (hc (k - 1) hkl1)
      have hlt2 : ltB (l[k - 1]'hkl1) (l[k]'hkl) = true := List.pairwise_iff_getElem.1 HR.out (k - 1) k hkl1 hkl (by omega)
      have h3 : ltB (l[k]'hkl) (l[k - 1]'hkl1) = false := ltB_asymm hlt2
      have h4 : ¬ (l[k - 1]'hkl1) = l[k]'hkl := fun e => by rw [e, ltB_irrefl] at hlt2; cases hlt2
      have h5 := eqS_no h4
      have h6 := eqS_no (fun e => h4 e.symm)
      unfold ltB at hlt2 h3
      generalize l[k]'hkl = s at *
      generalize l[k - 1]'hkl1 = t at *
      have e3 : ((k : Int) - 1) = ((k - 1 : Nat) : Int) := by omega
      have e4 : ((k : Int) - 1).toNat = k - 1 := by omega
      clear hc h4
      go_wp2
      go_quiet (fail)
      go_wp2
      exact ⟨⟨k + 1, by omega, by go_num, Q.out.drewN _⟩, by simp [intOf]; omega⟩
    · have hgt : ¬ ((k : Int) < (n : Int)) := by omega
      clear hlt
      go_wp2
      go_ret
      exact ⟨rfl, Q.out⟩
end Go.Proofs.YtaofemdhgfejjaaGreatDoor
