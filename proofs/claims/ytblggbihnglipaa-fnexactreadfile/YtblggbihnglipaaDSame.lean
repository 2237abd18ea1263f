/-
  What spec.l11Same answers.
-/
import Derived.Test.YtblggbihnglipaaDDo
namespace Go.Proofs.Ytblggbihnglipaa
open Go.RowKit

set_option maxRecDepth 100000 in
set_option maxHeartbeats 1000000 in
theorem l11Same_any (A A' : Option Addr) (l l' : List Pr) (cap cap' : Nat) (w : World) (B B' : Nat) (hl : l.length ≤ maxLen) (hl' : l'.length ≤ maxLen) (hin : PIn w B A l) (hin' : PIn w B' A' l') :
    Calls Try.prog 44 #[.slice A l.length cap, .slice A' l'.length cap'] w fun e w' => e = .returned (.bool (eqL l l')) ∧ Quiet w w' := by
  unfold maxLen at hl hl'
  by_cases he : l.length = l'.length
  · rw [← he]
    rw [← he] at hl'
    generalize hn : l.length = n at *
    have HN := hide hn
    have HN' := hide he
    clear hn he hl'
    go_enter Try.func44, Try.ntmps44
    go_wp2
    go_loopw [5] (fun i wr => ∃ k : Nat, k ≤ n ∧ i = .int .i64 k ∧ Hid (l.take k = l'.take k) ∧ Hid (Quiet w wr)) (fun i _ => n - (intOf i).toNat)
    case atStart => exact ⟨0, Nat.zero_le _, rfl, rfl, Quiet.refl w⟩
    case round =>
      obtain ⟨k, hk, rfl, H, Q⟩ := hrel
      by_cases hlt : k < n
      · have hin2 := hin.quiet Q.out
        have hin2' := hin'.quiet Q.out
        have hkl : k < l.length := by rw [HN.out]; omega
        have hkl' : k < l'.length := by rw [← HN'.out]; omega
        obtain ⟨b, off, rfl, hbB, hc⟩ := hin2.2 (by omega)
        obtain ⟨b', off', rfl, hbB', hc'⟩ := hin2'.2 (by omega)
        obtain ⟨c1, c2⟩ := hc k hkl
        obtain ⟨c3, c4⟩ := hc' k hkl'
        by_cases hp : l[k]'hkl = l'[k]'hkl'
        · have Z : Hid (l.take (k + 1) = l'.take (k + 1)) := hide (by rw [List.take_succ_eq_append_getElem hkl, List.take_succ_eq_append_getElem hkl', H.out, hp])
          rw [← hp] at c3 c4
          generalize (l[k]'hkl).1 = s at *
          generalize (l[k]'hkl).2 = v at *
          clear hin hin2 hc hin' hin2' hc' hp
          go_wp2
          go_quiet (fail)
          go_wp2
          go_roundw
          case rel => exact ⟨k + 1, by omega, by go_num, Z, Q.out.drewN _⟩
          case measure => simp [intOf]; omega
        · have Z : Hid (eqL l l' = false) := hide (eqL_no (by rintro rfl; exact hp rfl))
          have hp2 : ¬ ((l[k]'hkl).1 = (l'[k]'hkl').1 ∧ (l[k]'hkl).2 = (l'[k]'hkl').2) := fun h => hp (Prod.ext h.1 h.2)
          generalize (l[k]'hkl).1 = s at *
          generalize (l[k]'hkl).2 = v at *
          generalize (l'[k]'hkl').1 = s' at *
          generalize (l'[k]'hkl').2 = v' at *
          clear hin hin2 hc hin' hin2' hc' hp
          by_cases h1 : s = s'
          · have h2 : ¬ v = v' := fun h => hp2 ⟨h1, h⟩
            subst h1
            have d2 := eqS_no h2
            clear hp2 h2
            go_wp2
            go_quiet (fail)
            go_wp2
            go_ret
            exact ⟨ret_bool Z.out.symm, Q.out.drewN _⟩
          · have d1 := eqS_no h1
            clear hp2 h1
            go_wp2
            go_quiet (fail)
            go_wp2
            go_ret
            exact ⟨ret_bool Z.out.symm, Q.out.drewN _⟩
      · obtain rfl : k = n := by omega
        have Z : Hid (eqL l l' = true) := hide (eqL_yes (by
          have h := H.out
          rw [List.take_of_length_le (by rw [HN.out]; exact Nat.le_refl _), List.take_of_length_le (by rw [← HN'.out]; exact Nat.le_refl _)] at h
          exact h))
        go_wp2
        go_ret
        exact ⟨ret_bool Z.out.symm, Q.out⟩
  · have Z : Hid (eqL l l' = false) := hide (eqL_no (by rintro rfl; exact he rfl))
    have d : ((l.length : Int) != (l'.length : Int)) = true := by simp; omega
    clear he
    go_enter Try.func44, Try.ntmps44
    go_wp2
    go_ret
    exact ⟨ret_bool Z.out.symm, Quiet.refl _⟩
end Go.Proofs.Ytblggbihnglipaa
