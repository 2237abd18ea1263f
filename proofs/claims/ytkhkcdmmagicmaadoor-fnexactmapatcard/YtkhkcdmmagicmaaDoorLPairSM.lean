/-
  What the laws' own helpers on lists of pairs answer: toPairS, eqPairS.
-/
import Derived.Test.YtkhkcdmmagicmaaDoorLPairS
import Derived.Test.YtkhkcdmmagicmaaDoorLPairM
namespace Go.Proofs.YtkhkcdmmagicmaaDoor.M
open Go.RowKit

theorem infoPair : (Tryd.prog.info? 55).map (fun i => (i.zero, i.size, i.bytes)) = some (some (.agg #[.string ByteArray.empty, .string ByteArray.empty]), 2, 32) := by kernel_rfl

set_option maxRecDepth 100000 in
set_option maxHeartbeats 1000000 in
theorem eqPairS_any (A A' : Option Addr) (l l' : List Pr) (cap cap' : Nat) (w : World) (hl : l.length ≤ maxLen) (hl' : l'.length ≤ maxLen) (hin : PIn w w.heap.size A l) (hin' : PIn w w.heap.size A' l') :
    Calls Tryd.prog 11 #[.slice A l.length cap, .slice A' l'.length cap'] w fun e w' => e = .returned (.bool (eqL l l')) ∧ Below w.heap.size w w' := by
  unfold maxLen at hl hl'
  by_cases he : l.length = l'.length
  · rw [← he]
    rw [← he] at hl'
    generalize hn : l.length = n at *
    have HN := hide hn
    have HN' := hide he
    clear hn he hl'
    go_enter Tryd.func11, Tryd.ntmps11
    go_wp2
    go_loopw [5] (fun i wr => ∃ k : Nat, k ≤ n ∧ i = .int .i64 k ∧ Hid (l.take k = l'.take k) ∧ Hid (Below w.heap.size w wr)) (fun i _ => n - (intOf i).toNat)
    case atStart => exact ⟨0, Nat.zero_le _, rfl, rfl, Below.refl _ w⟩
    case round =>
      obtain ⟨k, hk, rfl, H, Q⟩ := hrel
      by_cases hlt : k < n
      · have hin2 := hin.below Q.out
        have hin2' := hin'.below Q.out
        have hkl : k < l.length := by rw [HN.out]; omega
        have hkl' : k < l'.length := by rw [← HN'.out]; omega
        obtain ⟨b, off, rfl, hbB, hc⟩ := hin2.2 (by omega)
        obtain ⟨b', off', rfl, hbB', hc'⟩ := hin2'.2 (by omega)
        obtain ⟨c1, c2⟩ := hc k hkl
        obtain ⟨c3, c4⟩ := hc' k hkl'
        by_cases hp : l[k]'hkl = l'[k]'hkl'
        · have Z : Hid (l.take (k + 1) = l'.take (k + 1)) := hide (by rw [List.take_succ_eq_append_getElem hkl, List.take_succ_eq_append_getElem hkl', H.out, hp])
          have d : eqPr ((l[k]'hkl).1, (l[k]'hkl).2) ((l'[k]'hkl').1, (l'[k]'hkl').2) = true := eqPr_yes hp
          generalize (l[k]'hkl).1 = s at *
          generalize (l[k]'hkl).2 = v at *
          generalize (l'[k]'hkl').1 = s' at *
          generalize (l'[k]'hkl').2 = v' at *
          clear hin hin2 hc hin' hin2' hc' hp
          go_wp2
          go_region_held3 (fun w' => w'.cell? ⟨b, off + k * 2, none⟩ = some (.string s) ∧ w'.cell? ⟨b, off + k * 2 + 1, none⟩ = some (.string v) ∧ w'.cell? ⟨b', off' + k * 2, none⟩ = some (.string s') ∧ w'.cell? ⟨b', off' + k * 2 + 1, none⟩ = some (.string v')) (go_keep)
            (first | (go_at_call 31; refine (eqPair_any s v s' v' _).mono ?_; rintro e w' ⟨rfl, rfl⟩))
          all_goals
            clear d
            go_wp2
            go_roundw
            case rel => exact ⟨k + 1, by omega, by go_num, Z, Q.out.trans ((((Below.refl _ _).drew).alloc Q.out.size _).alloc (by have := Q.out.size; simp; omega) _)⟩
            case measure => simp [intOf]; omega
        · have Z : Hid (eqL l l' = false) := hide (eqL_no (by rintro rfl; exact hp rfl))
          have d : eqPr ((l[k]'hkl).1, (l[k]'hkl).2) ((l'[k]'hkl').1, (l'[k]'hkl').2) = false := eqPr_no hp
          generalize (l[k]'hkl).1 = s at *
          generalize (l[k]'hkl).2 = v at *
          generalize (l'[k]'hkl').1 = s' at *
          generalize (l'[k]'hkl').2 = v' at *
          clear hin hin2 hc hin' hin2' hc' hp
          go_wp2
          go_region_held3 (fun w' => w'.cell? ⟨b, off + k * 2, none⟩ = some (.string s) ∧ w'.cell? ⟨b, off + k * 2 + 1, none⟩ = some (.string v) ∧ w'.cell? ⟨b', off' + k * 2, none⟩ = some (.string s') ∧ w'.cell? ⟨b', off' + k * 2 + 1, none⟩ = some (.string v')) (go_keep)
            (first | (go_at_call 31; refine (eqPair_any s v s' v' _).mono ?_; rintro e w' ⟨rfl, rfl⟩))
          all_goals
            clear d
            go_wp2
            go_ret
            exact ⟨ret_bool Z.out.symm, Q.out.trans ((((Below.refl _ _).drew).alloc Q.out.size _).alloc (by have := Q.out.size; simp; omega) _)⟩
      · obtain rfl : k = n := by omega
        have Z : Hid (eqL l l' = true) := hide (eqL_yes (by
          have h := H.out
          rw [List.take_of_length_le (by rw [HN.out]; exact Nat.le_refl _), List.take_of_length_le (by rw [← HN'.out]; exact Nat.le_refl _)] at h
          exact h))
        go_wp2
        go_ret
        exact ⟨ret_bool Z.out.symm, Q.out⟩
  · have Z : Hid (eqL l l' = false) := hide (eqL_no (by rintro rfl; exact he rfl))
    have d : ((l.length : Int) != (l'.length : Int)) = true := by simp; omega
    clear he
    go_enter Tryd.func11, Tryd.ntmps11
    go_wp2
    go_ret
    exact ⟨ret_bool Z.out.symm, Below.refl _ _⟩
end Go.Proofs.YtkhkcdmmagicmaaDoor.M
