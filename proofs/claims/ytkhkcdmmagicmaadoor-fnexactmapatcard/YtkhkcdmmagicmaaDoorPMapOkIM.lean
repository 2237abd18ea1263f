/-
  What impl.MapOk answers.
-/
import Derived.Test.YtkhkcdmmagicmaaDoorPRisesM
import Derived.Test.YtkhkcdmmagicmaaDoorPStr
namespace Go.Proofs.YtkhkcdmmagicmaaDoor.M
open Go.RowKit

set_option maxRecDepth 100000 in
set_option maxHeartbeats 1000000 in
theorem implMapOk_any (A : Option Addr) (l : List Pr) (cap : Nat) (w : World) (hl : l.length ≤ maxLen) (hin : PIn w w.heap.size A l) :
    Calls Tryd.prog 71 #[.slice A l.length cap] w fun e w' => e = .returned (.bool (mapB l)) ∧ Below w.heap.size w w' := by
  by_cases h40 : l.length ≤ 40
  · generalize hn : l.length = n at *
    have HN := hide hn
    clear hn
    go_enter Tryd.func71, Tryd.ntmps71
    go_wp2
    go_loopw [10] (fun i wr => ∃ k : Nat, k ≤ n ∧ i = .int .i64 k ∧ Hid (pairsTo l k) ∧ Hid (Below w.heap.size w wr)) (fun i _ => n - (intOf i).toNat)
    case atStart => exact ⟨0, Nat.zero_le _, rfl, pairsTo_zero l, Below.refl _ w⟩
    case round =>
      obtain ⟨k, hk, rfl, H, Q⟩ := hrel
      by_cases hlt : k < n
      · have hin2 := hin.below Q.out
        obtain ⟨b, off, rfl, hbB, hc⟩ := hin2.2 (by rw [HN.out]; omega)
        have hkl : k < l.length := by rw [HN.out]; omega
        obtain ⟨c1, c2⟩ := hc k hkl
        obtain ⟨s1, s2⟩ := hin2.1 k hkl
        cases hkey : keyB (l[k]'hkl).1
        · have Z := hide (mapB_key hkl hkey)
          generalize (l[k]'hkl).1 = s at *
          generalize (l[k]'hkl).2 = v at *
          clear hin hin2 hc
          go_wp2_with (go_at_call 93; refine (keyOk_any s _ s1).mono ?_; rintro e w' ⟨rfl, rfl⟩)
          go_ret
          exact ⟨ret_bool Z.out.symm, Q.out.alloc Q.out.size _⟩
        · cases hval : valB (l[k]'hkl).2
          · have Z := hide (mapB_val hkl hval)
            generalize (l[k]'hkl).1 = s at *
            generalize (l[k]'hkl).2 = v at *
            clear hin hin2 hc
            go_wp2_with (first | (go_at_call 93; refine (keyOk_any s _ s1).mono ?_; rintro e w' ⟨rfl, rfl⟩) | (go_at_call 94; refine (valOk_any v _ s2).mono ?_; rintro e w' ⟨rfl, rfl⟩))
            go_ret
            exact ⟨ret_bool Z.out.symm, Q.out.alloc Q.out.size _⟩
          · have Z := hide (pairsTo_succ hkl H.out hkey hval)
            generalize (l[k]'hkl).1 = s at *
            generalize (l[k]'hkl).2 = v at *
            clear hin hin2 hc
            go_wp2_with (first | (go_at_call 93; refine (keyOk_any s _ s1).mono ?_; rintro e w' ⟨rfl, rfl⟩) | (go_at_call 94; refine (valOk_any v _ s2).mono ?_; rintro e w' ⟨rfl, rfl⟩))
            go_roundw
            case rel => exact ⟨k + 1, by omega, by go_num, Z, Q.out.alloc Q.out.size _⟩
            case measure => simp [intOf]; omega
      · obtain rfl : k = n := by omega
        have Z : Hid (mapB l = risesB l) := hide (mapB_of (by rw [HN.out]; exact h40) (by rw [HN.out]; exact H.out))
        have hin2 := (hin.below Q.out).more Q.out.size
        have R := hide (rises_any A l cap wr (by rw [HN.out]; exact hl) hin2)
        rw [HN.out] at R
        clear hin hin2
        go_wp2_with (go_at_call 95; refine R.out.mono ?_; rintro e w' ⟨rfl, hb⟩)
        go_ret
        exact ⟨ret_bool Z.out.symm, Q.out.trans (hb.mono Q.out.size)⟩
  · have Z : Hid (mapB l = false) := hide (mapB_len (by omega))
    unfold maxLen at hl
    have h41 : (40 : Int) < (l.length : Int) := by omega
    go_enter Tryd.func71, Tryd.ntmps71
    go_wp2
    go_ret
    exact ⟨ret_bool Z.out.symm, Below.refl _ _⟩
end Go.Proofs.YtkhkcdmmagicmaaDoor.M
