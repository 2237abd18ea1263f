/-
  What spec.l1Put answers exactly: the rising list with one more; the row is the call's own or the argument's.
-/
import Derived.Test.YtaofemdhgfejjaaGreatDoorCRow
import Derived.Test.YtaofemdhgfejjaaGreatDoorMPut
import Derived.BigQuiet
import Derived.IntWalk
namespace Go.Proofs.YtaofemdhgfejjaaGreatDoor
open Go.RowKit

def PutXRet (B : Nat) (l : List ByteArray) (w : World) (e : Ending) (w' : World) : Prop := ∃ A cap, e = .returned (.slice A l.length cap) ∧ ZOwn w' B A cap l ∧ Below w.heap.size w w'
set_option maxRecDepth 100000 in
set_option maxHeartbeats 2000000 in
theorem l1PutX_any (A : Option Addr) (l : List ByteArray) (cap : Nat) (s : ByteArray) (w : World) (B : Nat) (hl : l.length ≤ 1000) (hown : ZOwn w B A cap l) (hB : B ≤ w.heap.size) :
    Calls Tryz.prog 79 #[.slice A l.length cap, .string s] w (PutXRet B (putK l s) w) := by
  have O := hide hown
  have IN := hide hown.zin
  have hcap := hown.cap_le
  clear hown
  generalize hn : l.length = n at *
  have HN := hide hn
  clear hn
  go_enter Tryz.func79, Tryz.ntmps79
  go_wp2
  go_loop [5] (fun i => ∃ k : Nat, k ≤ n ∧ i = .int .i64 k ∧ Hid (∀ i (hi : i < l.length), i < k → ltB l[i] s = true)) (fun i => n - (intOf i).toNat)
  case atStart => exact ⟨0, Nat.zero_le _, rfl, hide (fun _ _ h => absurd h (by omega))⟩
  case round =>
    obtain ⟨k, hk, rfl, H⟩ := hrel
    have LAST : ∀ (A' : Option Addr), A = A' → True := fun _ _ => trivial
    by_cases hlt : k < n
    · have hkl : k < l.length := by rw [HN.out]; omega
      obtain ⟨b, off, rfl, hbB, hc⟩ := IN.out (by omega)
      have c1 := hc k hkl
      have hki : (k : Int) < (n : Int) := by omega
      have MM : Hid (l[k]'hkl ∈ l) := hide (List.getElem_mem hkl)
      have K1 := run_cutZ_h 27 Tryz.underlying27 (some ⟨b, off, none⟩) n cap k (by omega)
      have K2 := run_cutZ_l 27 Tryz.underlying27 (some ⟨b, off, none⟩) n cap k (by omega)
      have IN1 := hide (IN.out.take cap k)
      have IN2 := hide (IN.out.drop (cap := cap) (by rw [HN.out]; exact hcap) k)
      have E1 := hide (show (l.take k).length = k by rw [List.length_take]; omega)
      have E2 := hide (show (l.drop k).length = n - k by rw [List.length_drop, HN.out])
      have E3 : Hid ((([] ++ l.take k) ++ [s]) ++ l.drop k = l.take k ++ s :: l.drop k) := hide (by simp)
      have PT := hide (fun h => putK_there l s k hkl H.out h)
      have PN := hide (fun h => putK_new l s k (by omega) H.out h)
      have NX : Hid (ltB (l[k]'hkl) s = true → ∀ i (hi : i < l.length), i < k + 1 → ltB l[i] s = true) := hide (fun h i hi hik => by
        rcases Nat.lt_or_ge i k with g | g
        · exact H.out i hi g
        · obtain rfl : i = k := by omega
          exact h)
      have PN2 : Hid (ltB (l[k]'hkl) s = false → ¬ l[k]'hkl = s → putK l s = l.take k ++ s :: l.drop k) := hide (fun h1 h2 => PN.out (fun _ => ⟨h1, h2⟩))
      clear hc LAST PN H
      generalize l[k]'hkl = x at *
      cases hs : Op.bytesLess x.toList s.toList
      · by_cases he : x = s
        · have e1 := eqS_yes he
          have PE := hide (PT.out he)
          clear he
          go_wp2
          go_ret
          rw [PE.out]
          exact ⟨_, cap, by rw [HN.out]; rfl, O.out, Below.refl _ _⟩
        · have e1 := eqS_no he
          have PE := hide (PN2.out hs he)
          have O1 := hide (ZOwn.built w w.heap.size (Nat.le_refl _))
          have B2 := hide ((Below.refl w.heap.size w).alloc (Nat.le_refl _) (.cells #[] 9))
          clear he
          go_wp2_with (first
            | (at_builtin; refine wpList_appZ 27 Tryz.underlying27 rfl (.tmp 34) (.tmp 37) rfl rfl rfl rfl E1.out.symm O1.out (IN1.out.below B2.out) B2.out.size (by rw [E1.out]; simp; omega) ?_; intro A3 cap3 w3 own3 g3 r3; have B3 := hide (B2.out.trans (O1.out.grownBelow g3 B2.out.size)); have O3 := hide own3; clear own3 g3 r3)
            | (at_builtin; refine wpList_appZ (l' := [s]) 27 Tryz.underlying27 rfl (.tmp 39) (.tmp 41) rfl rfl rfl (by simp) rfl (O3.out.alloc _) (ZIn.one s _ rfl) (Nat.le_trans B3.out.size (by simp)) (by rw [List.length_append, E1.out]; simp; omega) ?_; intro A4 cap4 w4 own4 g4 r4; have b4 := (O3.out.alloc (.cells #[Value.string s] 9)).grownBelow g4 (Nat.le_trans B3.out.size (by simp)); have b4' := ((Below.refl w.heap.size w3).alloc B3.out.size (.cells #[Value.string s] 9)).trans b4; have B4 := hide (B3.out.trans b4'); have O4 := hide own4; clear own4 g4 r4 b4 b4')
            | (at_builtin; refine wpList_appZ 27 Tryz.underlying27 rfl (.tmp 43) (.tmp 46) rfl rfl rfl (by simp) E2.out.symm O4.out (IN2.out.below B4.out) B4.out.size (by rw [List.length_append, List.length_append, E1.out, E2.out]; simp; omega) ?_; intro A5 cap5 w5 own5 g5 r5; have b5 := O4.out.grownBelow g5 B4.out.size; have B5 := hide (B4.out.trans b5); have O5 := hide own5; clear own5 g5 r5 b5))
          go_ret
          have O6 := O5.out
          rw [E3.out] at O6
          rw [PE.out]
          exact ⟨A5, cap5, by rw [← E3.out]; simp, O6.more hB, B5.out⟩
      · have NX2 := hide (NX.out hs)
        clear IN1 IN2 K1 K2
        go_wp2
        go_round
        case rel => exact ⟨k + 1, by omega, by go_num, NX2⟩
        case measure => simp [intOf]; omega
    · obtain rfl : k = n := by omega
      have hkk : ¬ (k : Int) < (k : Int) := by omega
      have PE := hide (putK_new l s k (by rw [HN.out]; exact Nat.le_refl _) H.out (fun h => absurd h (by rw [HN.out]; omega)))
      have K1 := run_cutZ_h 27 Tryz.underlying27 A k cap k (by omega)
      have K2 := run_cutZ_l 27 Tryz.underlying27 A k cap k (by omega)
      have IN1 := hide (IN.out.take cap k)
      have IN2 := hide (IN.out.drop (cap := cap) (by rw [HN.out]; exact hcap) k)
      have E1 := hide (show (l.take k).length = k by rw [List.length_take]; rw [HN.out]; omega)
      have E2 := hide (show (l.drop k).length = k - k by rw [List.length_drop, HN.out])
      have E3 : Hid ((([] ++ l.take k) ++ [s]) ++ l.drop k = l.take k ++ s :: l.drop k) := hide (by simp)
      have O1 := hide (ZOwn.built w w.heap.size (Nat.le_refl _))
      have B2 := hide ((Below.refl w.heap.size w).alloc (Nat.le_refl _) (.cells #[] 9))
      clear hlt LAST
      go_wp2_with (first
        | (at_builtin; refine wpList_appZ 27 Tryz.underlying27 rfl (.tmp 34) (.tmp 37) rfl rfl rfl rfl E1.out.symm O1.out (IN1.out.below B2.out) B2.out.size (by rw [E1.out]; simp; omega) ?_; intro A3 cap3 w3 own3 g3 r3; have B3 := hide (B2.out.trans (O1.out.grownBelow g3 B2.out.size)); have O3 := hide own3; clear own3 g3 r3)
        | (at_builtin; refine wpList_appZ (l' := [s]) 27 Tryz.underlying27 rfl (.tmp 39) (.tmp 41) rfl rfl rfl (by simp) rfl (O3.out.alloc _) (ZIn.one s _ rfl) (Nat.le_trans B3.out.size (by simp)) (by rw [List.length_append, E1.out]; simp; omega) ?_; intro A4 cap4 w4 own4 g4 r4; have b4 := (O3.out.alloc (.cells #[Value.string s] 9)).grownBelow g4 (Nat.le_trans B3.out.size (by simp)); have b4' := ((Below.refl w.heap.size w3).alloc B3.out.size (.cells #[Value.string s] 9)).trans b4; have B4 := hide (B3.out.trans b4'); have O4 := hide own4; clear own4 g4 r4 b4 b4')
        | (at_builtin; refine wpList_appZ 27 Tryz.underlying27 rfl (.tmp 43) (.tmp 46) rfl rfl rfl (by simp) (by rw [E2.out]; simp) O4.out (IN2.out.below B4.out) B4.out.size (by rw [List.length_append, List.length_append, E1.out, E2.out]; simp; omega) ?_; intro A5 cap5 w5 own5 g5 r5; have b5 := O4.out.grownBelow g5 B4.out.size; have B5 := hide (B4.out.trans b5); have O5 := hide own5; clear own5 g5 r5 b5))
      go_ret
      have O6 := O5.out
      rw [E3.out] at O6
      rw [PE.out]
      exact ⟨A5, cap5, by rw [← E3.out]; simp, O6.more hB, B5.out⟩
end Go.Proofs.YtaofemdhgfejjaaGreatDoor
