/-
  Lists of pairs made out of others, in the reference: l1Drop, l1Set.
-/
import Derived.Test.YtaofemdhgfejjaaGreatDoorPRow
import Derived.RegionTactic
import Derived.Deep.RegionLaw
namespace Go.Proofs.YtaofemdhgfejjaaGreatDoor
open Go.RowKit

/-- without the key -/
def delL (l : List Pr) (k : ByteArray) : List Pr := if hasB l k = true then l.eraseIdx (atN l k) else l
theorem Own.built (w : World) (B : Nat) (hB : B ≤ w.heap.size) : Own (w.alloc (.cells #[] 60)) B (some ⟨w.heap.size, 0, none⟩) 0 [] :=
  ⟨lens_nil, World.ownsRow_made w #[] 0 hB (by simp [maxLen]) rfl⟩

theorem Own.drew {w : World} {B : Nat} {A : Option Addr} {cap : Nat} {l : List Pr} (h : Own w B A cap l) : Own w.drew B A cap l := h
theorem PIn.drew {w : World} {B : Nat} {A : Option Addr} {l : List Pr} (h : PIn w B A l) : PIn w.drew B A l := h

set_option maxRecDepth 100000 in
set_option maxHeartbeats 1000000 in
theorem l1Drop_any (A : Option Addr) (l : List Pr) (cap : Nat) (k : ByteArray) (w : World) (hl : l.length ≤ 1200000) (hc : l.length ≤ cap) (hin : PIn w w.heap.size A l) :
    Calls Tryz.prog 72 #[.slice A l.length cap, .string k] w (RetOwn w.heap.size (delL l k) w) := by
  have R := hide (l1At_any A l cap k w w.heap.size (by unfold maxLen; omega) hin)
  have hle := atN_le l k
  cases hh : hasB l k
  · have HD : Hid ([] ++ l = delL l k) := hide (by unfold delL; rw [hh]; simp)
    by_cases hlt : atN l k < l.length
    · obtain ⟨b, off, rfl, hbB, hcc⟩ := hin.2 (by omega)
      obtain ⟨c1, c2⟩ := hcc (atN l k) hlt
      have ne : ((atN l k : Int) == (l.length : Int)) = false := by rw [beq_eq_false_iff_ne]; omega
      have he : ¬ (l[atN l k]'hlt).1 = k := fun e => by rw [hasB_yes hlt e] at hh; cases hh
      have d1 := eqS_no he
      generalize (l[atN l k]'hlt).1 = s at *
      generalize (l[atN l k]'hlt).2 = v at *
      generalize atN l k = m at *
      have IN := hide hin
      clear hcc he hin
      generalize hnn : l.length = n at *
      have HNN := hide hnn
      clear hnn
      go_enter Tryz.func72, Tryz.ntmps72
      go_wp2_with (first
        | (go_at_call 80; refine R.out.mono ?_; rintro e w' ⟨rfl, rfl⟩)
        | (at_builtin; refine wpList_app 24 Tryz.underlying24 rfl (.tmp 22) (.tmp 23) rfl rfl rfl rfl HNN.out.symm (Own.built w w.heap.size (Nat.le_refl _)) (IN.out.below ((Below.refl _ _).alloc (Nat.le_refl _) _)) (by simp) (by rw [HNN.out]; simp; omega) ?_; intro A3 cap3 w3 own3 g3 r3; have b3 := hide (((Below.refl _ w).alloc (Nat.le_refl _) _).trans ((Own.built w w.heap.size (Nat.le_refl _)).grownBelow (by rw [rowOf_own]; exact g3) (by simp))); have O3 := hide own3; clear own3 g3))
      go_ret
      have O4 := O3.out
      rw [HD.out] at O4
      exact ⟨A3, cap3, O4.cap_le, by rw [← HD.out]; simp, O4, b3.out⟩
    · have ne : ((atN l k : Int) == (l.length : Int)) = true := by rw [beq_iff_eq]; omega
      generalize atN l k = m at *
      have IN := hide hin
      clear hin
      generalize hnn : l.length = n at *
      have HNN := hide hnn
      clear hnn
      go_enter Tryz.func72, Tryz.ntmps72
      go_wp2_with (first
        | (go_at_call 80; refine R.out.mono ?_; rintro e w' ⟨rfl, rfl⟩)
        | (at_builtin; refine wpList_app 24 Tryz.underlying24 rfl (.tmp 22) (.tmp 23) rfl rfl rfl rfl HNN.out.symm (Own.built w w.heap.size (Nat.le_refl _)) (IN.out.below ((Below.refl _ _).alloc (Nat.le_refl _) _)) (by simp) (by rw [HNN.out]; simp; omega) ?_; intro A3 cap3 w3 own3 g3 r3; have b3 := hide (((Below.refl _ w).alloc (Nat.le_refl _) _).trans ((Own.built w w.heap.size (Nat.le_refl _)).grownBelow (by rw [rowOf_own]; exact g3) (by simp))); have O3 := hide own3; clear own3 g3))
      go_ret
      have O4 := O3.out
      rw [HD.out] at O4
      exact ⟨A3, cap3, O4.cap_le, by rw [← HD.out]; simp, O4, b3.out⟩
  · obtain ⟨hlt, he⟩ := hasB_iff.1 hh
    have HD : Hid (([] ++ l.take (atN l k)) ++ l.drop (atN l k + 1) = delL l k) := hide (by unfold delL; rw [if_pos hh]; exact erase_eq l _)
    obtain ⟨b, off, rfl, hbB, hcc⟩ := hin.2 (by omega)
    obtain ⟨c1, c2⟩ := hcc (atN l k) hlt
    have ne : ((atN l k : Int) == (l.length : Int)) = false := by rw [beq_eq_false_iff_ne]; omega
    have d1 := eqS_yes he
    have K1 := run_cut_h 24 Tryz.underlying24 (some ⟨b, off, none⟩) l.length cap (atN l k) (by omega)
    have K2 := run_cut_l 24 Tryz.underlying24 (some ⟨b, off, none⟩) l.length cap (atN l k + 1) (by omega)
    rw [show ((atN l k + 1 : Nat) : Int) = (atN l k : Int) + 1 by omega] at K2
    have IN1 := hide (hin.take cap (atN l k))
    have IN2 := hide (hin.drop hc (atN l k + 1))
    have E1 := hide (show (l.take (atN l k)).length = atN l k by rw [List.length_take]; omega)
    have E2 := hide (show (l.drop (atN l k + 1)).length = l.length - (atN l k + 1) by rw [List.length_drop])
    generalize (l[atN l k]'hlt).1 = s at *
    generalize (l[atN l k]'hlt).2 = v at *
    clear hcc he hin
    generalize l.take (atN l k) = la at *
    generalize l.drop (atN l k + 1) = lb at *
    generalize atN l k = m at *
    generalize hnn : l.length = n at *
    have HNN := hide hnn
    clear hnn
    have q1 : IntKind.i64.wrap ((m : Int) + 1) = (m : Int) + 1 := IntWalk.i64_in _ (by omega)
    go_enter Tryz.func72, Tryz.ntmps72
    go_wp2_with (go_at_call 80; refine R.out.mono ?_; rintro e w' ⟨rfl, rfl⟩)
    have O1 := hide (Own.built w w.heap.size (Nat.le_refl _)).drew
    have B1 := hide (((Below.refl w.heap.size w).alloc (Nat.le_refl _) (.cells #[] 60)).drew)
    have IN1b := hide (IN1.out.below B1.out)
    go_region_law (first
      | (refine step_app (n := 0) (m := m) (A := some ⟨w.heap.size, 0, none⟩) (cap := 0) (A' := cutA (some ⟨b, off, none⟩) cap 0) (c := cap) 24 Tryz.underlying24 rfl (.tmp 25) (.tmp 28) rfl (by simp [Act.eval]) (by simp [Act.eval]) rfl E1.out.symm O1.out IN1b.out B1.out.size (by rw [E1.out]; simp; omega) ?_; intro A3 cap3 w3 own3 g3 r3; have B3 := hide (B1.out.trans (O1.out.grownBelow (by rw [rowOf_own]; exact g3) B1.out.size)); have O3 := hide own3; clear own3 g3)
      | (refine step_app (n := la.length) (m := n - (m + 1)) (A := A3) (cap := cap3) (A' := cutA (some ⟨b, off, none⟩) cap (m + 1)) (c := cap - (m + 1)) 24 Tryz.underlying24 rfl (.tmp 29) (.tmp 33) rfl (by simp [Act.eval]) (by simp [Act.eval]) (by simp) E2.out.symm O3.out (IN2.out.below B3.out) B3.out.size (by rw [List.length_append, E1.out, E2.out]; simp; omega) ?_; intro A4 cap4 w4 own4 g4 r4; have B4 := hide (B3.out.trans (O3.out.grownBelow (by rw [rowOf_own]; exact g4) B3.out.size)); have O4 := hide own4; clear own4 g4))
    all_goals
      go_wp2
      go_ret
      have O5 := O4.out
      rw [HD.out] at O5
      have hlen : (delL l k).length = la.length + lb.length := by rw [← HD.out]; simp
      exact ⟨A4, cap4, O5.cap_le, by rw [hlen]; rfl, O5, B4.out⟩

/-- what l1Set makes -/
def setS (l : List Pr) (k v : ByteArray) : List Pr := (delL l k).take (atN (delL l k) k) ++ (k, v) :: (delL l k).drop (atN (delL l k) k)
theorem setS_eq (l : List Pr) (k v : ByteArray) : (([] ++ (delL l k).take (atN (delL l k) k)) ++ [(k, v)]) ++ (delL l k).drop (atN (delL l k) k) = setS l k v := by unfold setS; simp
theorem delL_len (l : List Pr) (k : ByteArray) : (delL l k).length ≤ l.length := by
  unfold delL
  split
  · rw [List.length_eraseIdx]; split <;> omega
  · exact Nat.le_refl _

set_option maxRecDepth 100000 in
set_option maxHeartbeats 1000000 in
theorem l1Set_any (A : Option Addr) (l : List Pr) (cap : Nat) (k v : ByteArray) (w : World) (hl : l.length ≤ 1200000) (hc : l.length ≤ cap) (hin : PIn w w.heap.size A l) (hks : k.size ≤ maxLen) (hvs : v.size ≤ maxLen) :
    Calls Tryz.prog 70 #[.slice A l.length cap, .string k, .string v] w (RetOwn w.heap.size (setS l k v) w) := by
  have HM := hide (setS_eq l k v)
  have hdl := delL_len l k
  go_enter Tryz.func70, Tryz.ntmps70
  go_wp2_with fail
  refine (l1Drop_any A l cap k w hl hc hin).mono ?_
  rintro e w1 ⟨A1, cap1, hc1, rfl, own1, b1⟩
  have B1 := hide b1
  have in1 := own1.pin
  clear b1 own1 hin
  generalize delL l k = d at *
  go_wp2_with fail
  refine (l1At_any A1 d cap1 k w1 w1.heap.size (by unfold maxLen; omega) in1).mono ?_
  rintro e w1' ⟨rfl, rfl⟩
  have hle := atN_le d k
  have K1 := run_cut_h 24 Tryz.underlying24 A1 d.length cap1 (atN d k) (by omega)
  have K2 := run_cut_l 24 Tryz.underlying24 A1 d.length cap1 (atN d k) (by omega)
  have IN1 := hide (in1.take cap1 (atN d k))
  have IN2 := hide (in1.drop hc1 (atN d k))
  have E1 := hide (show (d.take (atN d k)).length = atN d k by rw [List.length_take]; omega)
  have E2 := hide (show (d.drop (atN d k)).length = d.length - atN d k by rw [List.length_drop])
  have O1 := hide (Own.built w1 w1.heap.size (Nat.le_refl _))
  have B2 := hide ((Below.refl w1.heap.size w1).alloc (Nat.le_refl _) (.cells #[] 60))
  have IN1b := hide (IN1.out.below B2.out)
  clear in1
  generalize d.take (atN d k) = la at *
  generalize d.drop (atN d k) = lb at *
  generalize atN d k = m at *
  generalize hnn : d.length = n at *
  have HNN := hide hnn
  clear hnn
  go_wp2_with (first
    | (at_builtin; refine wpList_app 24 Tryz.underlying24 rfl (.tmp 16) (.tmp 19) rfl rfl rfl rfl E1.out.symm O1.out IN1b.out B2.out.size (by rw [E1.out]; simp; omega) ?_; intro A3 cap3 w3 own3 g3 r3; have b3 := O1.out.grownBelow (by rw [rowOf_own]; exact g3) B2.out.size; have B3 := hide (B2.out.trans b3); have O3 := hide own3; have IN3 := hide (IN2.out.below B3.out); clear own3 g3 b3)
    | (at_builtin; refine wpList_app 24 Tryz.underlying24 rfl (.tmp 21) (.tmp 25) rfl rfl rfl (by simp) rfl (O3.out.alloc _) (PIn.one w3 k v hks hvs _) (Nat.le_trans B3.out.size (by simp)) (by rw [List.length_append, E1.out]; simp; omega) ?_; intro A4 cap4 w4 own4 g4 r4; have b4 := (O3.out.alloc (.cells #[.string k, .string v] 60)).grownBelow (by rw [rowOf_own]; exact g4) (Nat.le_trans B3.out.size (by simp)); have b4' := ((Below.refl w1.heap.size w3).alloc B3.out.size (.cells #[.string k, .string v] 60)).trans b4; have B4 := hide (B3.out.trans b4'); have O4 := hide own4; have IN4 := hide (IN3.out.below b4'); clear own4 g4 b4 b4')
    | (at_builtin; refine wpList_app 24 Tryz.underlying24 rfl (.tmp 27) (.tmp 30) rfl rfl rfl (by simp) E2.out.symm O4.out IN4.out B4.out.size (by rw [List.length_append, List.length_append, E1.out, E2.out]; simp; omega) ?_; intro A5 cap5 w5 own5 g5 r5; have b5 := O4.out.grownBelow (by rw [rowOf_own]; exact g5) B4.out.size; have B5 := hide (B4.out.trans b5); have O5 := hide own5; clear own5 g5 b5))
  go_ret
  have O6 := O5.out
  rw [HM.out] at O6
  exact ⟨A5, cap5, O6.cap_le, by rw [← HM.out]; simp, O6.more B1.out.size, B1.out.trans (B5.out.mono B1.out.size)⟩
end Go.Proofs.YtaofemdhgfejjaaGreatDoor
