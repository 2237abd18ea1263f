/-
  Where a name stands, and lists without it, in the reference.
-/
import Derived.Test.YtmmeabfeehnajaaRRefsS
import Derived.Test.YtmmeabfeehnajaaQRow
import Derived.Deep.RegionLaw
import Derived.RegionTactic
namespace Go.Proofs.Ytmmeabfeehnajaa
open Go.RowKit

set_option maxRecDepth 100000 in
set_option maxHeartbeats 1000000 in
theorem l1At_any (A : Option Addr) (l : List Pr) (cap : Nat) (key : ByteArray) (w : World) (B : Nat) (hl : l.length ≤ maxLen) (hin : PIn w B A l) :
    Calls Try.prog 41 #[.slice A l.length cap, .string key] w fun e w' => e = .returned (.int .i64 (atN l key : Nat)) ∧ w = w' := by
  unfold maxLen at hl
  generalize hn : l.length = n at *
  have HN := hide hn
  clear hn
  go_enter Try.func41, Try.ntmps41
  go_wp2
  go_loop [5] (fun i => ∃ k : Nat, k ≤ n ∧ i = .int .i64 k ∧ Hid (∀ t (h : t < l.length), t < k → ltB l[t].1 key = true)) (fun i => n - (intOf i).toNat)
  case atStart => exact ⟨0, Nat.zero_le _, rfl, hide fun t _ h => absurd h (by omega)⟩
  case round =>
    obtain ⟨k, hk, rfl, H⟩ := hrel
    by_cases hlt : k < n
    · have hkl : k < l.length := by rw [HN.out]; omega
      obtain ⟨b, off, rfl, hbB, hc⟩ := hin.2 (by omega)
      obtain ⟨c1, _⟩ := hc k hkl
      cases hs : ltB (l[k]'hkl).1 key
      · have E : Hid (atN l key = k) := hide (atN_eq (by omega) H.out (fun _ => hs))
        have hs2 : Op.bytesLess (l[k]'hkl).1.toList key.toList = false := hs
        generalize (l[k]'hkl).1 = s at *
        clear hin hc hs
        go_wp2
        go_ret
        exact ⟨ret_int (by rw [E.out]), rfl⟩
      · have Z : Hid (∀ t (h : t < l.length), t < k + 1 → ltB l[t].1 key = true) := hide (fun t h h' => by
          rcases Nat.lt_or_ge t k with g | g
          · exact H.out t h g
          · obtain rfl : t = k := by omega
            exact hs)
        have hs2 : Op.bytesLess (l[k]'hkl).1.toList key.toList = true := hs
        generalize (l[k]'hkl).1 = s at *
        clear hin hc hs
        go_wp2
        go_round
        case rel => exact ⟨k + 1, by omega, by go_num, Z⟩
        case measure => simp [intOf]; omega
    · obtain rfl : k = n := by omega
      have E : Hid (atN l key = k) := hide (atN_eq (by rw [HN.out]; exact Nat.le_refl _) H.out (fun h => absurd h (by rw [HN.out]; omega)))
      have hk2 : ¬ (k : Int) < (k : Int) := by omega
      clear hlt
      go_wp2
      go_ret
      exact ⟨ret_int (by rw [E.out]), rfl⟩
set_option maxRecDepth 100000 in
set_option maxHeartbeats 1000000 in
theorem l1Drop_any (A : Option Addr) (l : List Pr) (cap : Nat) (k : ByteArray) (w : World) (hl : l.length ≤ 1200000) (hc : l.length ≤ cap) (hin : PIn w w.heap.size A l) :
    Calls Try.prog 40 #[.slice A l.length cap, .string k] w (RetOwn w.heap.size (delL l k) w) := by
  have R := hide (l1At_any A l cap k w w.heap.size (by unfold maxLen; omega) hin)
  have hle := atN_le l k
  cases hh : hasB l k
  · have HD : Hid ([] ++ l = delL l k) := hide (by unfold delL; rw [hh]; simp)
    by_cases hlt : atN l k < l.length
    · obtain ⟨b, off, rfl, hbB, hcc⟩ := hin.2 (by omega)
      obtain ⟨c1, c2⟩ := hcc (atN l k) hlt
      have ne : ((atN l k : Int) == (l.length : Int)) = false := by rw [beq_eq_false_iff_ne]; omega
      have he : ¬ (l[atN l k]'hlt).1 = k := fun e => by rw [hasB_yes hlt e] at hh; cases hh
      have d1 := eqS_no he
      generalize (l[atN l k]'hlt).1 = s at *
      generalize (l[atN l k]'hlt).2 = v at *
      generalize atN l k = m at *
      have IN := hide hin
      clear hcc he hin
      generalize hnn : l.length = n at *
      have HNN := hide hnn
      clear hnn
      go_enter Try.func40, Try.ntmps40
      go_wp2_with (first
        | (go_at_call 41; refine R.out.mono ?_; rintro e w' ⟨rfl, rfl⟩)
        | (at_builtin; refine wpList_app 24 Try.underlying24 rfl (.tmp 22) (.tmp 23) rfl rfl rfl rfl HNN.out.symm (Own.built w w.heap.size (Nat.le_refl _)) (IN.out.below ((Below.refl _ _).alloc (Nat.le_refl _) _)) (by simp) (by rw [HNN.out]; simp; omega) ?_; intro A3 cap3 w3 own3 g3 r3; have b3 := hide (((Below.refl _ w).alloc (Nat.le_refl _) _).trans ((Own.built w w.heap.size (Nat.le_refl _)).grownBelow (by rw [rowOf_own]; exact g3) (by simp))); have O3 := hide own3; clear own3 g3))
      go_ret
      have O4 := O3.out
      rw [HD.out] at O4
      exact ⟨A3, cap3, O4.cap_le, by rw [← HD.out]; simp, O4, b3.out⟩
    · have ne : ((atN l k : Int) == (l.length : Int)) = true := by rw [beq_iff_eq]; omega
      generalize atN l k = m at *
      have IN := hide hin
      clear hin
      generalize hnn : l.length = n at *
      have HNN := hide hnn
      clear hnn
      go_enter Try.func40, Try.ntmps40
      go_wp2_with (first
        | (go_at_call 41; refine R.out.mono ?_; rintro e w' ⟨rfl, rfl⟩)
        | (at_builtin; refine wpList_app 24 Try.underlying24 rfl (.tmp 22) (.tmp 23) rfl rfl rfl rfl HNN.out.symm (Own.built w w.heap.size (Nat.le_refl _)) (IN.out.below ((Below.refl _ _).alloc (Nat.le_refl _) _)) (by simp) (by rw [HNN.out]; simp; omega) ?_; intro A3 cap3 w3 own3 g3 r3; have b3 := hide (((Below.refl _ w).alloc (Nat.le_refl _) _).trans ((Own.built w w.heap.size (Nat.le_refl _)).grownBelow (by rw [rowOf_own]; exact g3) (by simp))); have O3 := hide own3; clear own3 g3))
      go_ret
      have O4 := O3.out
      rw [HD.out] at O4
      exact ⟨A3, cap3, O4.cap_le, by rw [← HD.out]; simp, O4, b3.out⟩
  · obtain ⟨hlt, he⟩ := hasB_iff.1 hh
    have HD : Hid (([] ++ l.take (atN l k)) ++ l.drop (atN l k + 1) = delL l k) := hide (by unfold delL; rw [if_pos hh]; exact erase_eq l _)
    obtain ⟨b, off, rfl, hbB, hcc⟩ := hin.2 (by omega)
    obtain ⟨c1, c2⟩ := hcc (atN l k) hlt
    have ne : ((atN l k : Int) == (l.length : Int)) = false := by rw [beq_eq_false_iff_ne]; omega
    have d1 := eqS_yes he
    have K1 := run_cut_h 24 Try.underlying24 (some ⟨b, off, none⟩) l.length cap (atN l k) (by omega)
    have K2 := run_cut_l 24 Try.underlying24 (some ⟨b, off, none⟩) l.length cap (atN l k + 1) (by omega)
    rw [show ((atN l k + 1 : Nat) : Int) = (atN l k : Int) + 1 by omega] at K2
    have IN1 := hide (hin.take cap (atN l k))
    have IN2 := hide (hin.drop hc (atN l k + 1))
    have E1 := hide (show (l.take (atN l k)).length = atN l k by rw [List.length_take]; omega)
    have E2 := hide (show (l.drop (atN l k + 1)).length = l.length - (atN l k + 1) by rw [List.length_drop])
    generalize (l[atN l k]'hlt).1 = s at *
    generalize (l[atN l k]'hlt).2 = v at *
    clear hcc he hin
    generalize l.take (atN l k) = la at *
    generalize l.drop (atN l k + 1) = lb at *
    generalize atN l k = m at *
    generalize hnn : l.length = n at *
    have HNN := hide hnn
    clear hnn
    have q1 : IntKind.i64.wrap ((m : Int) + 1) = (m : Int) + 1 := IntWalk.i64_in _ (by omega)
    go_enter Try.func40, Try.ntmps40
    go_wp2_with (go_at_call 41; refine R.out.mono ?_; rintro e w' ⟨rfl, rfl⟩)
    have O1 := hide (Own.built w w.heap.size (Nat.le_refl _)).drew
    have B1 := hide (((Below.refl w.heap.size w).alloc (Nat.le_refl _) (.cells #[] 37)).drew)
    have IN1b := hide (IN1.out.below B1.out)
    go_region_law (first
      | (refine step_app (n := 0) (m := m) (A := some ⟨w.heap.size, 0, none⟩) (cap := 0) (A' := cutA (some ⟨b, off, none⟩) cap 0) (c := cap) 24 Try.underlying24 rfl (.tmp 25) (.tmp 28) rfl (by simp [Act.eval]) (by simp [Act.eval]) rfl E1.out.symm O1.out IN1b.out B1.out.size (by rw [E1.out]; simp; omega) ?_; intro A3 cap3 w3 own3 g3 r3; have B3 := hide (B1.out.trans (O1.out.grownBelow (by rw [rowOf_own]; exact g3) B1.out.size)); have O3 := hide own3; clear own3 g3)
      | (refine step_app (n := la.length) (m := n - (m + 1)) (A := A3) (cap := cap3) (A' := cutA (some ⟨b, off, none⟩) cap (m + 1)) (c := cap - (m + 1)) 24 Try.underlying24 rfl (.tmp 29) (.tmp 33) rfl (by simp [Act.eval]) (by simp [Act.eval]) (by simp) E2.out.symm O3.out (IN2.out.below B3.out) B3.out.size (by rw [List.length_append, E1.out, E2.out]; simp; omega) ?_; intro A4 cap4 w4 own4 g4 r4; have B4 := hide (B3.out.trans (O3.out.grownBelow (by rw [rowOf_own]; exact g4) B3.out.size)); have O4 := hide own4; clear own4 g4))
    all_goals
      go_wp2
      go_ret
      have O5 := O4.out
      rw [HD.out] at O5
      have hlen : (delL l k).length = la.length + lb.length := by rw [← HD.out]; simp
      exact ⟨A4, cap4, O5.cap_le, by rw [hlen]; rfl, O5, B4.out⟩

end Go.Proofs.Ytmmeabfeehnajaa
