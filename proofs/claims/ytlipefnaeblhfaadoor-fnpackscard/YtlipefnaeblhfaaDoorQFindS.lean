/-
  Where an id stands among objects: spec.l3At, spec.l3Find.
-/
import Derived.Test.YtlipefnaeblhfaaDoorQObjs
import Derived.Test.YtlipefnaeblhfaaDoorPOrd
import Derived.Test.YtlipefnaeblhfaaDoorPStr0
namespace Go.Proofs.YtlipefnaeblhfaaDoor
open Go.RowKit

set_option maxRecDepth 100000 in
set_option maxHeartbeats 1000000 in
theorem l3At_any (A : Option Addr) (l : List Pr) (cap : Nat) (key : ByteArray) (w : World) (B : Nat) (hl : l.length ≤ maxLen) (hin : PIn w B A l) :
    Calls Tryd.prog 71 #[.slice A l.length cap, .string key] w fun e w' => e = .returned (.int .i64 (atN l key : Nat)) ∧ w = w' := by
  unfold maxLen at hl
  generalize hn : l.length = n at *
  have HN := hide hn
  clear hn
  go_enter Tryd.func71, Tryd.ntmps71
  go_wp2
  go_loop [5] (fun i => ∃ k : Nat, k ≤ n ∧ i = .int .i64 k ∧ Hid (∀ t (h : t < l.length), t < k → ltB l[t].1 key = true)) (fun i => n - (intOf i).toNat)
  case atStart => exact ⟨0, Nat.zero_le _, rfl, hide fun t _ h => absurd h (by omega)⟩
  case round =>
    obtain ⟨k, hk, rfl, H⟩ := hrel
    by_cases hlt : k < n
    · have hkl : k < l.length := by rw [HN.out]; omega
      obtain ⟨b, off, rfl, hbB, hc⟩ := hin.2 (by omega)
      obtain ⟨c1, _⟩ := hc k hkl
      cases hs : ltB (l[k]'hkl).1 key
      · have E : Hid (atN l key = k) := hide (atN_eq (by omega) H.out (fun _ => hs))
        have hs2 : Op.bytesLess (l[k]'hkl).1.toList key.toList = false := hs
        generalize (l[k]'hkl).1 = s at *
        clear hin hc hs
        go_wp2
        go_ret
        exact ⟨ret_int (by rw [E.out]), rfl⟩
      · have Z : Hid (∀ t (h : t < l.length), t < k + 1 → ltB l[t].1 key = true) := hide (fun t h h' => by
          rcases Nat.lt_or_ge t k with g | g
          · exact H.out t h g
          · obtain rfl : t = k := by omega
            exact hs)
        have hs2 : Op.bytesLess (l[k]'hkl).1.toList key.toList = true := hs
        generalize (l[k]'hkl).1 = s at *
        clear hin hc hs
        go_wp2
        go_round
        case rel => exact ⟨k + 1, by omega, by go_num, Z⟩
        case measure => simp [intOf]; omega
    · obtain rfl : k = n := by omega
      have E : Hid (atN l key = k) := hide (atN_eq (by rw [HN.out]; exact Nat.le_refl _) H.out (fun h => absurd h (by rw [HN.out]; omega)))
      have hk2 : ¬ (k : Int) < (k : Int) := by omega
      clear hlt
      go_wp2
      go_ret
      exact ⟨ret_int (by rw [E.out]), rfl⟩

set_option maxRecDepth 100000 in
set_option maxHeartbeats 1000000 in
theorem l3Find_any (A : Option Addr) (l : List Pr) (cap : Nat) (key : ByteArray) (w : World) (B : Nat) (hl : l.length ≤ maxLen) (hin : PIn w B A l) :
    Calls Tryd.prog 70 #[.slice A l.length cap, .string key] w fun e w' => e = .returned (.tuple #[.string (valOf l key), .bool (hasB l key)]) ∧ w = w' := by
  have R := hide (l3At_any A l cap key w B hl hin)
  have hle := atN_le l key
  unfold maxLen at hl
  by_cases hlt : atN l key < l.length
  · obtain ⟨b, off, rfl, hbB, hc⟩ := hin.2 (by omega)
    obtain ⟨c1, c2⟩ := hc (atN l key) hlt
    have ne : ((atN l key : Int) == (l.length : Int)) = false := by rw [beq_eq_false_iff_ne]; omega
    by_cases he : (l[atN l key]'hlt).1 = key
    · have Z := hide (ret_sb (valOf_yes hlt he) (hasB_yes hlt he))
      have d1 := eqS_yes he
      generalize (l[atN l key]'hlt).1 = s at *
      generalize (l[atN l key]'hlt).2 = v at *
      generalize atN l key = m at *
      clear hin hc he
      generalize l.length = n at *
      go_enter Tryd.func70, Tryd.ntmps70
      go_wp2_with (go_at_call 71; refine R.out.mono ?_; rintro e w' ⟨rfl, rfl⟩)
      go_ret2
      exact ⟨Z.out.symm, rfl⟩
    · have Z := hide (ret_sb (valOf_no (hasB_no hlt he)) (hasB_no hlt he))
      have d1 := eqS_no he
      generalize (l[atN l key]'hlt).1 = s at *
      generalize (l[atN l key]'hlt).2 = v at *
      generalize atN l key = m at *
      clear hin hc he
      generalize l.length = n at *
      go_enter Tryd.func70, Tryd.ntmps70
      go_wp2_with (go_at_call 71; refine R.out.mono ?_; rintro e w' ⟨rfl, rfl⟩)
      go_ret2
      exact ⟨Z.out.symm, rfl⟩
  · have Z := hide (ret_sb (valOf_no (hasB_end hlt)) (hasB_end hlt))
    have ne : ((atN l key : Int) == (l.length : Int)) = true := by rw [beq_iff_eq]; omega
    generalize atN l key = m at *
    clear hin
    generalize l.length = n at *
    go_enter Tryd.func70, Tryd.ntmps70
    go_wp2_with (go_at_call 71; refine R.out.mono ?_; rintro e w' ⟨rfl, rfl⟩)
    go_ret2
    exact ⟨Z.out.symm, rfl⟩

end Go.Proofs.YtlipefnaeblhfaaDoor
