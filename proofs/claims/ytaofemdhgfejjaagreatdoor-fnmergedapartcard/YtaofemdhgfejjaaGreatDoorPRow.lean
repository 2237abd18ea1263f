/-
  Lists of pairs made out of others: impl's with and without.
-/
import Derived.Test.YtaofemdhgfejjaaGreatDoorPApp
import Derived.Test.YtaofemdhgfejjaaGreatDoorPFind
import Derived.Deep.DeepMust
namespace Go.Proofs.YtaofemdhgfejjaaGreatDoor
open Go.RowKit

/-- a row of the call's own comes back -/
def RetOwn (B : Nat) (l : List Pr) (w : World) (e : Ending) (w' : World) : Prop := ∃ A cap, l.length ≤ cap ∧ e = .returned (.slice A l.length cap) ∧ Own w' B A cap l ∧ Below B w w'
theorem Own.cap_le {w : World} {B : Nat} {A : Option Addr} {cap : Nat} {l : List Pr} (h : Own w B A cap l) : l.length ≤ cap := by
  rcases h.2.2 with ⟨e, e'⟩ | ⟨g, c, cur, e, _, _, hnc, _⟩
  · injection e with e1 e2 e3; omega
  · injection e with e1 e2 e3; omega
theorem Own.made {w : World} {B n cap : Nat} (h : w.ownsRow B 60 2 (.slice (some ⟨n, 0, none⟩) 0 cap) 0 []) : Own w B (some ⟨n, 0, none⟩) cap [] := ⟨lens_nil, h⟩
theorem erase_eq (l : List Pr) (k : Nat) : ([] ++ l.take k) ++ l.drop (k + 1) = l.eraseIdx k := by rw [List.nil_append, List.eraseIdx_eq_take_drop_succ]

set_option maxRecDepth 100000 in
set_option maxHeartbeats 1000000 in
theorem without_any (A : Option Addr) (l : List Pr) (cap k : Nat) (w : World) (hl : l.length ≤ 65536) (hc : l.length ≤ cap) (hk : k < l.length) (hin : PIn w w.heap.size A l) :
    Calls Tryz.prog 68 #[.slice A l.length cap, .int .i64 k] w (RetOwn w.heap.size (l.eraseIdx k) w) := by
  obtain ⟨i0, hi, hz0, hz1, hz2⟩ := info_parts infoP
  have K1 := hide (run_cut_h 62 Tryz.underlying62 A l.length cap k (by omega))
  have K2 := hide (run_cut_l 62 Tryz.underlying62 A l.length cap (k + 1) (by omega))
  have IN1 := hide (hin.take cap k)
  have IN2 := hide (hin.drop hc (k + 1))
  have e1 : (l.take k).length = k := by rw [List.length_take]; omega
  have e2 : (l.drop (k + 1)).length = l.length - (k + 1) := by rw [List.length_drop]
  have E1 := hide e1
  have E2 := hide e2
  have E3 := hide (erase_eq l k)
  have HC := hide (show l.length - (k + 1) + k ≤ 65536 by omega)
  clear hin e1 e2
  generalize l.take k = la at *
  generalize l.drop (k + 1) = lb at *
  generalize l.length = n at *
  go_enter Tryz.func68, Tryz.ntmps68
  go_wp2_with (at_make; refine wpList_make_own _ rfl _ _ 62 rfl w.heap.size 60 i0 _ 2 Tryz.underlying62 hi hz0 hz1 _ _ _ n rfl rfl (by omega) (by rw [hz2]; omega) (by unfold maxLen; omega) (Nat.le_refl _) ?_)
  intro w1 own1 g1
  have O1 := hide (Own.made own1)
  have B1 := hide ((Below.refl w.heap.size w).grown g1 (Nat.le_refl _) (by simp))
  have h1 := K1.out
  have h2 := K2.out
  have q1 : ((k + 1 : Nat) : Int) = (k : Int) + 1 := by omega
  rw [q1] at h2
  clear own1 g1 q1
  go_wp2_with (first
    | (at_builtin; refine wpList_app 62 Tryz.underlying62 rfl (.tmp 9) (.tmp 12) rfl rfl rfl rfl E1.out.symm O1.out (IN1.out.below B1.out) B1.out.size (by rw [E1.out]; simp; omega) ?_; intro A2 cap2 w2 own2 g2 r2; have B2 := hide (B1.out.trans (O1.out.grownBelow (by rw [rowOf_own]; exact g2) B1.out.size)); have O2 := hide own2; clear own2 g2)
    | (at_builtin; refine wpList_app 62 Tryz.underlying62 rfl (.tmp 14) (.tmp 18) rfl rfl rfl (by simp) E2.out.symm O2.out (IN2.out.below B2.out) B2.out.size (by rw [List.length_append, E1.out, E2.out]; simp; omega) ?_; intro A3 cap3 w3 own3 g3 r3; have B3 := hide (B2.out.trans (O2.out.grownBelow (by rw [rowOf_own]; exact g3) B2.out.size)); have O3 := hide own3; clear own3 g3))
  go_ret
  have O4 := O3.out
  rw [E3.out] at O4
  exact ⟨A3, cap3, O4.cap_le, by rw [← E3.out]; simp, O4, B3.out⟩

/-- with the pair, in place of one of its key -/
def setL (l : List Pr) (k v : ByteArray) : List Pr := l.take (atN l k) ++ (k, v) :: l.drop (if hasB l k = true then atN l k + 1 else atN l k)
theorem setL_eq (l : List Pr) (k v : ByteArray) (m : Nat) (h : m = if hasB l k = true then atN l k + 1 else atN l k) : (([] ++ l.take (atN l k)) ++ [(k, v)]) ++ l.drop m = setL l k v := by subst h; unfold setL; simp
theorem PIn.one (w : World) (k v : ByteArray) (hk : k.size ≤ maxLen) (hv : v.size ≤ maxLen) (t : TypeId) : PIn (w.alloc (.cells #[.string k, .string v] t)) (w.heap.size + 1) (some ⟨w.heap.size, 0, none⟩) [(k, v)] := by
  refine ⟨fun i hi => ?_, fun _ => ⟨w.heap.size, 0, rfl, by omega, fun i hi => ?_⟩⟩
  · obtain rfl : i = 0 := by simpa using hi
    exact ⟨hk, hv⟩
  · obtain rfl : i = 0 := by simpa using hi
    have h := heap_alloc_new w (.cells #[.string k, .string v] t)
    exact ⟨cell_of_row _ w.heap.size 0 #[.string k, .string v] t (0, 0) h, cell_of_row _ w.heap.size 1 #[.string k, .string v] t (0, 0) h⟩
theorem Own.alloc {w : World} {B : Nat} {A : Option Addr} {cap : Nat} {l : List Pr} (h : Own w B A cap l) (o : Obj) : Own (w.alloc o) B A cap l := h.below ((Below.refl _ _).alloc (Nat.le_refl _) o)

set_option maxRecDepth 100000 in
set_option maxHeartbeats 1000000 in
theorem with_any (A : Option Addr) (l : List Pr) (cap : Nat) (k v : ByteArray) (w : World) (hl : l.length ≤ 65536) (hc : l.length ≤ cap) (hin : PIn w w.heap.size A l) (hr : risesTo l l.length) (hks : k.size ≤ maxLen) (hvs : v.size ≤ maxLen) :
    Calls Tryz.prog 69 #[.slice A l.length cap, .agg #[.string k, .string v]] w (RetOwn w.heap.size (setL l k v) w) := by
  have hme := method_sortKey
  have hle := atN_le l k
  obtain ⟨i0, hi, hz0, hz1, hz2⟩ := info_parts infoP
  have HR := hide hr
  cases hh : hasB l k
  · have HM := hide (setL_eq l k v (atN l k) (by rw [hh]; rfl))
    clear hr
    go_enter Tryz.func69, Tryz.ntmps69
    go_wp2_with fail
    refine (sortKey_any k v _).mono ?_
    rintro e w0 ⟨rfl, hw0⟩
    have b0 : Below w.heap.size w w0 := by rw [← hw0]; exact ((Below.refl _ _).alloc (Nat.le_refl _) _).alloc (by simp) _
    have z0 : w.heap.size + 1 < w0.heap.size := by rw [← hw0]; simp
    have c0 : w0.cell? ⟨w.heap.size, 0, none⟩ = some (.string k) ∧ w0.cell? ⟨w.heap.size, 1, none⟩ = some (.string v) := by rw [← hw0]; constructor <;> simp [go_sem]
    clear hw0
    have in0 := (hin.below b0).more b0.size
    go_wp2_with fail
    refine (place_any A l cap k _ hl in0 HR.out).mono ?_
    rintro e w1 ⟨rfl, b1⟩
    have c1 : w1.cell? ⟨w.heap.size, 0, none⟩ = some (.string k) := cellB b1 (by omega) c0.1
    have c2 : w1.cell? ⟨w.heap.size, 1, none⟩ = some (.string v) := cellB b1 (by omega) c0.2
    have B1 := hide (b0.trans (b1.mono b0.size))
    have z1 : w.heap.size + 1 < w1.heap.size := by have := b1.size; omega
    have in1 := (in0.below b1).more b1.size
    clear b0 b1 in0 c0 hin
    go_wp2_with (at_make; refine wpList_make_own _ rfl _ _ 62 rfl w1.heap.size 60 i0 _ 2 Tryz.underlying62 hi hz0 hz1 _ _ _ (l.length + 1) rfl rfl (by omega) (by rw [hz2]; omega) (by unfold maxLen; omega) (Nat.le_refl _) ?_)
    intro w2 own2 g2
    have O2 := hide (Own.made own2)
    have b2 := (Below.refl w1.heap.size w1).grown g2 (Nat.le_refl _) (by simp)
    have c3 : w2.cell? ⟨w.heap.size, 0, none⟩ = some (.string k) := cellB b2 (by omega) c1
    have c4 : w2.cell? ⟨w.heap.size, 1, none⟩ = some (.string v) := cellB b2 (by omega) c2
    have in2 := in1.below b2
    have B2 := hide b2
    have K1 := run_cut_h 62 Tryz.underlying62 A l.length cap (atN l k) (by omega)
    have K2 := run_cut_l 62 Tryz.underlying62 A l.length cap (atN l k) (by omega)
    have IN1 := hide (in2.take cap (atN l k))
    have IN2 := hide (in2.drop hc (atN l k))
    have E1 := hide (show (l.take (atN l k)).length = atN l k by rw [List.length_take]; omega)
    have E2 := hide (show (l.drop (atN l k)).length = l.length - (atN l k) by rw [List.length_drop])
    clear b2 own2 g2 c1 c2 in1 in2
    generalize l.take (atN l k) = la at *
    generalize l.drop (atN l k) = lb at *
    generalize atN l k = m at *
    generalize hnn : l.length = n at *
    have HNN := hide hnn
    clear hnn
    go_wp2_with (first
      | (at_builtin; refine wpList_app 62 Tryz.underlying62 rfl (.tmp 25) (.tmp 28) rfl rfl rfl rfl E1.out.symm O2.out IN1.out B2.out.size (by rw [E1.out]; simp; omega) ?_; intro A3 cap3 w3 own3 g3 r3; have b3 := O2.out.grownBelow (by rw [rowOf_own]; exact g3) B2.out.size; have B3 := hide (B2.out.trans b3); have c5 : w3.cell? ⟨w.heap.size, 0, none⟩ = some (.string k) := cellB b3 (by omega) c3; have c6 : w3.cell? ⟨w.heap.size, 1, none⟩ = some (.string v) := cellB b3 (by omega) c4; have O3 := hide own3; have IN3 := hide (IN2.out.below b3); clear own3 g3 b3 c3 c4)
      | (at_builtin; refine wpList_app 62 Tryz.underlying62 rfl (.tmp 30) (.tmp 32) rfl rfl rfl (by simp) rfl (O3.out.alloc _) (PIn.one w3 k v hks hvs _) (Nat.le_trans B3.out.size (by simp)) (by rw [List.length_append, E1.out]; simp; omega) ?_; intro A4 cap4 w4 own4 g4 r4; have b4 := (O3.out.alloc (.cells #[.string k, .string v] 60)).grownBelow (by rw [rowOf_own]; exact g4) (Nat.le_trans B3.out.size (by simp)); have b4' := ((Below.refl w1.heap.size w3).alloc B3.out.size (.cells #[.string k, .string v] 60)).trans b4; have B4 := hide (B3.out.trans b4'); have O4 := hide own4; have IN4 := hide (IN3.out.below b4'); clear own4 g4 b4 b4' c5 c6)
      | (at_builtin; refine wpList_app 62 Tryz.underlying62 rfl (.tmp 34) (.tmp 37) rfl rfl rfl (by simp) E2.out.symm O4.out IN4.out B4.out.size (by rw [List.length_append, List.length_append, E1.out, E2.out]; simp; omega) ?_; intro A5 cap5 w5 own5 g5 r5; have b5 := O4.out.grownBelow (by rw [rowOf_own]; exact g5) B4.out.size; have B5 := hide (B4.out.trans b5); have O5 := hide own5; clear own5 g5 b5))
    go_ret
    have O6 := O5.out
    rw [HM.out] at O6
    exact ⟨A5, cap5, O6.cap_le, by rw [← HM.out]; simp, O6.more B1.out.size, B1.out.trans (B5.out.mono B1.out.size)⟩
  · obtain ⟨hlt, he⟩ := hasB_iff.1 hh
    have HM := hide (setL_eq l k v (atN l k + 1) (by rw [hh]; rfl))
    clear he hr
    go_enter Tryz.func69, Tryz.ntmps69
    go_wp2_with fail
    refine (sortKey_any k v _).mono ?_
    rintro e w0 ⟨rfl, hw0⟩
    have b0 : Below w.heap.size w w0 := by rw [← hw0]; exact ((Below.refl _ _).alloc (Nat.le_refl _) _).alloc (by simp) _
    have z0 : w.heap.size + 1 < w0.heap.size := by rw [← hw0]; simp
    have c0 : w0.cell? ⟨w.heap.size, 0, none⟩ = some (.string k) ∧ w0.cell? ⟨w.heap.size, 1, none⟩ = some (.string v) := by rw [← hw0]; constructor <;> simp [go_sem]
    clear hw0
    have in0 := (hin.below b0).more b0.size
    go_wp2_with fail
    refine (place_any A l cap k _ hl in0 HR.out).mono ?_
    rintro e w1 ⟨rfl, b1⟩
    have c1 : w1.cell? ⟨w.heap.size, 0, none⟩ = some (.string k) := cellB b1 (by omega) c0.1
    have c2 : w1.cell? ⟨w.heap.size, 1, none⟩ = some (.string v) := cellB b1 (by omega) c0.2
    have B1 := hide (b0.trans (b1.mono b0.size))
    have z1 : w.heap.size + 1 < w1.heap.size := by have := b1.size; omega
    have in1 := (in0.below b1).more b1.size
    clear b0 b1 in0 c0 hin
    go_wp2_with (at_make; refine wpList_make_own _ rfl _ _ 62 rfl w1.heap.size 60 i0 _ 2 Tryz.underlying62 hi hz0 hz1 _ _ _ (l.length + 1) rfl rfl (by omega) (by rw [hz2]; omega) (by unfold maxLen; omega) (Nat.le_refl _) ?_)
    intro w2 own2 g2
    have O2 := hide (Own.made own2)
    have b2 := (Below.refl w1.heap.size w1).grown g2 (Nat.le_refl _) (by simp)
    have c3 : w2.cell? ⟨w.heap.size, 0, none⟩ = some (.string k) := cellB b2 (by omega) c1
    have c4 : w2.cell? ⟨w.heap.size, 1, none⟩ = some (.string v) := cellB b2 (by omega) c2
    have in2 := in1.below b2
    have B2 := hide b2
    have K1 := run_cut_h 62 Tryz.underlying62 A l.length cap (atN l k) (by omega)
    have K2 := run_cut_l 62 Tryz.underlying62 A l.length cap (atN l k + 1) (by omega)
    rw [show ((atN l k + 1 : Nat) : Int) = (atN l k : Int) + 1 by omega] at K2
    have IN1 := hide (in2.take cap (atN l k))
    have IN2 := hide (in2.drop hc (atN l k + 1))
    have E1 := hide (show (l.take (atN l k)).length = atN l k by rw [List.length_take]; omega)
    have E2 := hide (show (l.drop (atN l k + 1)).length = l.length - (atN l k + 1) by rw [List.length_drop])
    clear b2 own2 g2 c1 c2 in1 in2
    generalize l.take (atN l k) = la at *
    generalize l.drop (atN l k + 1) = lb at *
    generalize atN l k = m at *
    generalize hnn : l.length = n at *
    have HNN := hide hnn
    clear hnn
    go_wp2_with (first
      | (at_builtin; refine wpList_app 62 Tryz.underlying62 rfl (.tmp 25) (.tmp 28) rfl rfl rfl rfl E1.out.symm O2.out IN1.out B2.out.size (by rw [E1.out]; simp; omega) ?_; intro A3 cap3 w3 own3 g3 r3; have b3 := O2.out.grownBelow (by rw [rowOf_own]; exact g3) B2.out.size; have B3 := hide (B2.out.trans b3); have c5 : w3.cell? ⟨w.heap.size, 0, none⟩ = some (.string k) := cellB b3 (by omega) c3; have c6 : w3.cell? ⟨w.heap.size, 1, none⟩ = some (.string v) := cellB b3 (by omega) c4; have O3 := hide own3; have IN3 := hide (IN2.out.below b3); clear own3 g3 b3 c3 c4)
      | (at_builtin; refine wpList_app 62 Tryz.underlying62 rfl (.tmp 30) (.tmp 32) rfl rfl rfl (by simp) rfl (O3.out.alloc _) (PIn.one w3 k v hks hvs _) (Nat.le_trans B3.out.size (by simp)) (by rw [List.length_append, E1.out]; simp; omega) ?_; intro A4 cap4 w4 own4 g4 r4; have b4 := (O3.out.alloc (.cells #[.string k, .string v] 60)).grownBelow (by rw [rowOf_own]; exact g4) (Nat.le_trans B3.out.size (by simp)); have b4' := ((Below.refl w1.heap.size w3).alloc B3.out.size (.cells #[.string k, .string v] 60)).trans b4; have B4 := hide (B3.out.trans b4'); have O4 := hide own4; have IN4 := hide (IN3.out.below b4'); clear own4 g4 b4 b4' c5 c6)
      | (at_builtin; refine wpList_app 62 Tryz.underlying62 rfl (.tmp 34) (.tmp 37) rfl rfl rfl (by simp) E2.out.symm O4.out IN4.out B4.out.size (by rw [List.length_append, List.length_append, E1.out, E2.out]; simp; omega) ?_; intro A5 cap5 w5 own5 g5 r5; have b5 := O4.out.grownBelow (by rw [rowOf_own]; exact g5) B4.out.size; have B5 := hide (B4.out.trans b5); have O5 := hide own5; clear own5 g5 b5))
    go_ret
    have O6 := O5.out
    rw [HM.out] at O6
    exact ⟨A5, cap5, O6.cap_le, by rw [← HM.out]; simp, O6.more B1.out.size, B1.out.trans (B5.out.mono B1.out.size)⟩
end Go.Proofs.YtaofemdhgfejjaaGreatDoor
