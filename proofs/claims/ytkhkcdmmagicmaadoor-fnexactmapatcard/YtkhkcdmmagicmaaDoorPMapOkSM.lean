/-
  What spec.MapOk answers.
-/
import Derived.Test.YtkhkcdmmagicmaaDoorPMemM
import Derived.Test.YtkhkcdmmagicmaaDoorPStr
import Derived.BigQuiet
import Derived.Deep.QuietTactic
import Derived.IntWalk
namespace Go.Proofs.YtkhkcdmmagicmaaDoor.M
open Go.RowKit

set_option maxRecDepth 100000 in
set_option maxHeartbeats 1000000 in
theorem specMapOk_any (A : Option Addr) (l : List Pr) (cap : Nat) (w : World) (B : Nat) (hl : l.length ≤ maxLen) (hin : PIn w B A l) :
    Calls Tryd.prog 66 #[.slice A l.length cap] w fun e w' => e = .returned (.bool (mapB l)) ∧ Quiet w w' := by
  unfold maxLen at hl
  generalize hn : l.length = n at *
  have HN := hide hn
  clear hn
  go_enter Tryd.func66, Tryd.ntmps66
  go_wp2
  go_loopw [3] (fun i wr => ∃ k : Nat, k ≤ n ∧ i = .int .i64 k ∧ Hid (mapTo l k) ∧ Hid (Quiet w wr)) (fun i _ => n - (intOf i).toNat)
  case atStart => exact ⟨0, Nat.zero_le _, rfl, mapTo_zero l, Quiet.refl w⟩
  case round =>
    obtain ⟨k, hk, rfl, H, Q⟩ := hrel
    by_cases hlt : k < n
    · have hin2 := hin.quiet Q.out
      obtain ⟨b, off, rfl, hbB, hc⟩ := hin2.2 (by rw [HN.out]; omega)
      have hkl : k < l.length := by rw [HN.out]; omega
      obtain ⟨c1, c2⟩ := hc k hkl
      obtain ⟨s1, s2⟩ := hin2.1 k hkl
      cases hkey : keyB (l[k]'hkl).1
      · have Z := hide (mapB_key hkl hkey)
        generalize (l[k]'hkl).1 = s at *
        generalize (l[k]'hkl).2 = v at *
        clear hin hin2 hc
        go_wp2
        go_quiet ((go_at_call 85; exact quiet_same (l1Key_any s _ s1)))
        go_wp2
        go_ret
        exact ⟨ret_bool Z.out.symm, Q.out.drewN _⟩
      · cases hval : valB (l[k]'hkl).2
        · have Z := hide (mapB_val hkl hval)
          generalize (l[k]'hkl).1 = s at *
          generalize (l[k]'hkl).2 = v at *
          have hval2 : plainB v 12 = false := hval
          clear hin hin2 hc hval
          go_wp2
          go_quiet ((first | (go_at_call 85; exact quiet_same (l1Key_any s _ s1)) | (go_at_call 86; exact quiet_same (l1Plain_any v 12 _ s2))))
          go_wp2
          go_ret
          exact ⟨ret_bool Z.out.symm, Q.out.drewN _⟩
        · by_cases h0 : 0 < k
          · obtain ⟨c3, _⟩ := hc (k - 1) (by omega)
            have e1 : ((k - 1 : Nat) : Int) = (k : Int) - 1 := by omega
            cases hrise : ltB (l[k - 1]'(by omega)).1 (l[k]'hkl).1
            · have Z := hide (mapB_rise (l := l) (k := k - 1) (by omega) (by simpa [show k - 1 + 1 = k by omega] using hrise))
              generalize (l[k]'hkl).1 = s at *
              generalize (l[k]'hkl).2 = v at *
              generalize (l[k - 1]'(by omega)).1 = s0 at *
              have hval2 : plainB v 12 = true := hval
              have hrise2 : Op.bytesLess s0.toList s.toList = false := hrise
              clear hin hin2 hc hval hrise
              have q1 : IntKind.i64.wrap ((k : Int) - 1) = (k : Int) - 1 := IntWalk.i64_in _ (by omega)
              have q2 : (0 : Int) ≤ (k : Int) - 1 := by omega
              have q3 : (1 : Int) ≤ (k : Int) := by omega
              have q4 : ((k : Int) - 1).toNat = k - 1 := by omega
              have q5 : (k : Int) - 1 < (n : Int) := by omega
              have q6 : decide (0 < k) = true := decide_eq_true h0
              clear e1
              go_wp2
              go_quiet ((first | (go_at_call 85; exact quiet_same (l1Key_any s _ s1)) | (go_at_call 86; exact quiet_same (l1Plain_any v 12 _ s2))))
              clear q1 q4
              go_wp2
              go_ret
              exact ⟨ret_bool Z.out.symm, Q.out.drewN _⟩
            · have Z := hide (mapTo_succ hkl H.out hkey hval (fun _ => hrise))
              generalize (l[k]'hkl).1 = s at *
              generalize (l[k]'hkl).2 = v at *
              generalize (l[k - 1]'(by omega)).1 = s0 at *
              have hval2 : plainB v 12 = true := hval
              have hrise2 : Op.bytesLess s0.toList s.toList = true := hrise
              clear hin hin2 hc hval hrise
              have q1 : IntKind.i64.wrap ((k : Int) - 1) = (k : Int) - 1 := IntWalk.i64_in _ (by omega)
              have q2 : (0 : Int) ≤ (k : Int) - 1 := by omega
              have q3 : (1 : Int) ≤ (k : Int) := by omega
              have q4 : ((k : Int) - 1).toNat = k - 1 := by omega
              have q5 : (k : Int) - 1 < (n : Int) := by omega
              have q6 : decide (0 < k) = true := decide_eq_true h0
              clear e1
              go_wp2
              go_quiet ((first | (go_at_call 85; exact quiet_same (l1Key_any s _ s1)) | (go_at_call 86; exact quiet_same (l1Plain_any v 12 _ s2))))
              clear q1 q4
              go_wp2
              go_roundw
              case rel => exact ⟨k + 1, by omega, by go_num, Z, Q.out.drewN _⟩
              case measure => simp [intOf]; omega
          · obtain rfl : k = 0 := by omega
            have Z := hide (mapTo_succ hkl H.out hkey hval (fun h => absurd h (by omega)))
            generalize (l[0]'hkl).1 = s at *
            generalize (l[0]'hkl).2 = v at *
            have hval2 : plainB v 12 = true := hval
            have c1' : wr.cell? ⟨b, off, none⟩ = some (.string s) := by simpa using c1
            have c2' : wr.cell? ⟨b, off + 1, none⟩ = some (.string v) := by simpa using c2
            have n0 : 0 < n := hlt
            clear hin hin2 hc hval c1 c2 hlt hk
            go_wp2
            go_quiet ((first | (go_at_call 85; exact quiet_same (l1Key_any s _ s1)) | (go_at_call 86; exact quiet_same (l1Plain_any v 12 _ s2))))
            go_wp2
            go_roundw
            case rel => exact ⟨0 + 1, by omega, rfl, Z, Q.out.drewN _⟩
            case measure => simp [intOf]; omega
    · obtain rfl : k = n := by omega
      by_cases h40 : k ≤ 40
      · have Z : Hid (mapB l = true) := hide (mapB_yes (by rw [HN.out]; omega) (by rw [HN.out]; exact H.out))
        have d : decide ((k : Int) ≤ 40) = true := decide_eq_true (by omega)
        go_wp2
        go_ret
        exact ⟨ret_bool Z.out.symm, Q.out⟩
      · have Z : Hid (mapB l = false) := hide (mapB_len (by rw [HN.out]; omega))
        have d : decide ((k : Int) ≤ 40) = false := decide_eq_false (by omega)
        go_wp2
        go_ret
        exact ⟨ret_bool Z.out.symm, Q.out⟩
end Go.Proofs.YtkhkcdmmagicmaaDoor.M
