/-
  What laws.sameChanges answers.
-/
import Derived.Test.YtcpalnkcjcgaeaaHLaw
import Derived.Test.YtcpalnkcjcgaeaaPQuiet
import Derived.BigQuiet
import Derived.IntWalk
namespace Go.Proofs.Ytcpalnkcjcgaeaa
open Go.RowKit

set_option maxRecDepth 100000 in
set_option maxHeartbeats 4000000 in
theorem sameChanges_any (A A' : Option Addr) (l l' : List Ch) (cap cap' : Nat) (w : World) (B B' : Nat) (hl : l.length ≤ maxLen) (hl' : l'.length ≤ maxLen) (hin : HIn w B A l) (hin' : HIn w B' A' l') :
    Calls Try.prog 17 #[.slice A l.length cap, .slice A' l'.length cap'] w fun e w' => e = .returned (.bool (eqCL l l')) ∧ Quiet w w' := by
  unfold maxLen at hl hl'
  by_cases he : l.length = l'.length
  · rw [← he]
    rw [← he] at hl'
    generalize hn : l.length = nn at *
    have HN := hide hn
    have HN' := hide he
    clear hn he hl'
    go_enter Try.func17, Try.ntmps17
    go_wp2
    go_loopw [5] (fun i wr => ∃ k : Nat, k ≤ nn ∧ i = .int .i64 k ∧ Hid (l.take k = l'.take k) ∧ Hid (Quiet w wr)) (fun i _ => nn - (intOf i).toNat)
    case atStart => exact ⟨0, Nat.zero_le _, rfl, rfl, Quiet.refl w⟩
    case round =>
      obtain ⟨k, hk, rfl, H, Q⟩ := hrel
      by_cases hlt : k < nn
      · have hin2 := hin.quiet Q.out
        have hin2' := hin'.quiet Q.out
        have hkl : k < l.length := by rw [HN.out]; omega
        have hkl' : k < l'.length := by rw [← HN'.out]; omega
        obtain ⟨b, off, rfl, hbB, hc⟩ := hin2.2 (by omega)
        obtain ⟨b', off', rfl, hbB', hc'⟩ := hin2'.2 (by omega)
        obtain ⟨c1, c2, c3, c4, c5⟩ := hc k hkl
        obtain ⟨g1, g2, g3, g4, g5⟩ := hc' k hkl'
        by_cases hp : l[k]'hkl = l'[k]'hkl'
        · have Z : Hid (l.take (k + 1) = l'.take (k + 1)) := hide (by rw [List.take_succ_eq_append_getElem hkl, List.take_succ_eq_append_getElem hkl', H.out, hp])
          rw [← hp] at g1 g2 g3 g4 g5
          clear hin hin2 hc hin' hin2' hc' hp
          generalize l[k]'hkl = c at *
          obtain ⟨x, o, n, p, q⟩ := c
          simp only at c1 c2 c3 c4 c5 g1 g2 g3 g4 g5
          go_wp2
          go_quiet (fail)
          go_wp2
          go_roundw
          case rel => exact ⟨k + 1, by omega, by go_num, Z, Q.out.drewN _⟩
          case measure => simp [intOf]; omega
        · have Z : Hid (eqCL l l' = false) := hide (decide_eq_false (by rintro rfl; exact hp rfl))
          clear hin hin2 hc hin' hin2' hc'
          generalize l[k]'hkl = c at *
          generalize l'[k]'hkl' = c' at *
          obtain ⟨x, o, n, p, q⟩ := c
          obtain ⟨x', o', n', p', q'⟩ := c'
          simp only at c1 c2 c3 c4 c5 g1 g2 g3 g4 g5
          have hp2 := hp
          clear hp
          by_cases h1 : x = x'
          · subst h1
            by_cases h2 : o = o'
            · subst h2
              by_cases h3 : n = n'
              · subst h3
                by_cases h4 : p = p'
                · subst h4
                  have h5 : ¬ q = q' := fun h => hp2 (by rw [h])
                  have d5 : (q == q') = false := by rw [beq_eq_false_iff_ne]; exact h5
                  clear hp2 h5
                  go_wp2
                  go_quiet (fail)
                  go_wp2
                  go_ret
                  exact ⟨ret_bool Z.out.symm, Q.out.drewN _⟩
                · have d4 : (p == p') = false := by rw [beq_eq_false_iff_ne]; exact h4
                  clear hp2 h4
                  go_wp2
                  go_quiet (fail)
                  go_wp2
                  go_ret
                  exact ⟨ret_bool Z.out.symm, Q.out.drewN _⟩
              · have d3 := eqS_no h3
                clear hp2 h3
                go_wp2
                go_quiet (fail)
                go_wp2
                go_ret
                exact ⟨ret_bool Z.out.symm, Q.out.drewN _⟩
            · have d2 := eqS_no h2
              clear hp2 h2
              go_wp2
              go_quiet (fail)
              go_wp2
              go_ret
              exact ⟨ret_bool Z.out.symm, Q.out.drewN _⟩
          · have d1 := eqS_no h1
            clear hp2 h1
            go_wp2
            go_quiet (fail)
            go_wp2
            go_ret
            exact ⟨ret_bool Z.out.symm, Q.out.drewN _⟩
      · obtain rfl : k = nn := by omega
        have Z : Hid (eqCL l l' = true) := hide (eqCL_yes (by
          have h := H.out
          rw [List.take_of_length_le (by rw [HN.out]; exact Nat.le_refl _), List.take_of_length_le (by rw [← HN'.out]; exact Nat.le_refl _)] at h
          exact h))
        go_wp2
        go_ret
        exact ⟨ret_bool Z.out.symm, Q.out⟩
  · have Z : Hid (eqCL l l' = false) := hide (decide_eq_false (by rintro rfl; exact he rfl))
    have d : ((l.length : Int) != (l'.length : Int)) = true := by simp; omega
    go_enter Try.func17, Try.ntmps17
    go_wp2
    go_ret
    exact ⟨ret_bool Z.out.symm, Quiet.refl w⟩
end Go.Proofs.Ytcpalnkcjcgaeaa
