/-
  What is drawn for the laws on mergers with a side: right maps, and some number.
-/
import Derived.Test.YtaofemdhgfejjaaGreatDoorMDraw
namespace Go.Proofs.YtaofemdhgfejjaaGreatDoor
open Go.RowKit

/-- some number of that kind -/
def RdN (k : IntKind) (rb : Nat) (w : World) (e : Ending) (w' : World) : Prop := ∃ x : Int, e = .returned (.int k x) ∧ Rd w' rb ∧ w.grownBy w' (some rb)
set_option maxRecDepth 100000 in
set_option maxHeartbeats 1000000 in
theorem word_any (rb : Nat) (w : World) (h : Rd w rb) : Calls Tryz.prog 82 #[.pointer (some ⟨rb, 0, none⟩)] w (RdN .u64 rb w) := by
  have R0 := hide h
  clear h
  go_enter Tryz.func82, Tryz.ntmps82
  go_wp2
  go_loopw [3, 4] (fun x i wr => ∃ (k : Nat) (y : Int), k ≤ 8 ∧ i = .int .i64 k ∧ x = .int .u64 y ∧ Hid (Rd wr rb) ∧ Hid (w.grownBy wr (some rb))) (fun _ i _ => 8 - (intOf i).toNat)
  case atStart => exact ⟨0, 0, by omega, rfl, rfl, R0, World.grownBy.refl _ _⟩
  case round =>
    clear R0
    obtain ⟨k, y, hk, rfl, rfl, R, G⟩ := hrel
    by_cases hlt : k < 8
    · have hki : (k : Int) < 8 := by omega
      go_wp2_with fail
      refine (next_any rb wr R.out).mono ?_
      rintro e w1 ⟨x, hx0, hx1, rfl, r1, g1⟩
      have R1 := hide r1
      have G1 := hide (World.grownBy.trans G.out g1)
      clear r1 g1 R G
      go_wp2
      go_roundw
      case rel => exact ⟨k + 1, _, by omega, by go_num, rfl, R1, G1⟩
      case measure => simp [intOf]; omega
    · have hki : ¬ (k : Int) < 8 := by omega
      go_wp2
      go_ret
      exact ⟨y, rfl, R.out, G.out⟩

set_option maxRecDepth 100000 in
set_option maxHeartbeats 1000000 in
theorem near12_any (rb : Nat) (w : World) (h : Rd w rb) : Calls Tryz.prog 66 #[.pointer (some ⟨rb, 0, none⟩), .int .i64 1, .int .i64 2] w (RdN .i64 rb w) := by
  go_enter Tryz.func66, Tryz.ntmps66
  go_wp2_with fail
  refine (below_any rb 8 w h (by omega) (by omega)).mono ?_
  rintro e w1 ⟨x, hx0, hx1, rfl, r1, g1⟩
  have R1 := hide r1
  have G1 := hide g1
  clear r1 g1 h
  by_cases e0 : x = 0
  · subst e0
    go_wp2
    go_ret
    exact ⟨_, rfl, R1.out, G1.out⟩
  · have d0 : (x == 0) = false := by simp [e0]
    by_cases e1 : x = 1
    · subst e1
      go_wp2
      go_ret
      exact ⟨_, rfl, R1.out, G1.out⟩
    · have d1 : (x == 1) = false := by simp [e1]
      clear e0 e1
      go_wp2_with fail
      refine (word_any rb w1 R1.out).mono ?_
      rintro e w2 ⟨y, rfl, r2, g2⟩
      have R2 := hide r2
      have G2 := hide (World.grownBy.trans G1.out g2)
      clear r2 g2 R1 G1
      go_wp2
      go_ret
      exact ⟨_, rfl, R2.out, G2.out⟩

set_option maxRecDepth 100000 in
set_option maxHeartbeats 1000000 in
theorem off12_any (rb : Nat) (w : World) (h : Rd w rb) : Calls Tryz.prog 35 #[.pointer (some ⟨rb, 0, none⟩), .int .i64 1, .int .i64 2] w (RdN .i64 rb w) := by
  go_enter Tryz.func35, Tryz.ntmps35
  go_wp2_with fail
  refine (once_any rb 24 w h (by omega) (by omega)).mono ?_
  rintro e w1 ⟨x, rfl, r1, g1⟩
  have G1 := hide g1
  have hlt := r1.lt
  cases x
  · have R1 := hide r1
    clear r1 g1 h
    go_wp2_with fail
    refine (near12_any rb w1 R1.out).mono ?_
    rintro e w2 ⟨y, rfl, r2, g2⟩
    have R2 := hide r2
    have G2 := hide (World.grownBy.trans G1.out g2)
    clear r2 g2 R1 G1
    go_wp2
    go_ret
    exact ⟨_, rfl, R2.out, G2.out⟩
  · have RA := hide (r1.below ((Below.refl _ w1).alloc (Nat.le_refl _) (.cells #[.int .i64 0, .int .i64 3, .int .i64 (-9223372036854775808), .int .i64 9223372036854775807] 2)))
    have GA := hide (World.grownBy.trans G1.out (World.grownBy_alloc w1 (.cells #[.int .i64 0, .int .i64 3, .int .i64 (-9223372036854775808), .int .i64 9223372036854775807] 2) (some rb)))
    have CA : Hid (∀ (w2 : World), (w1.alloc (.cells #[.int .i64 0, .int .i64 3, .int .i64 (-9223372036854775808), .int .i64 9223372036854775807] 2)).grownBy w2 (some rb) → ∀ j, j < 4 → ∃ z : Int, w2.cell? ⟨w1.heap.size, j, none⟩ = some (.int .i64 z)) := hide (fun w2 g j hj => by
      have hb := g.block w1.heap.size (by simp) (by simp; omega)
      rw [heap_alloc_new] at hb
      rw [cell_of_row w2 w1.heap.size j _ _ _ hb]
      match j, hj with
      | 0, _ => exact ⟨_, rfl⟩
      | 1, _ => exact ⟨_, rfl⟩
      | 2, _ => exact ⟨_, rfl⟩
      | 3, _ => exact ⟨_, rfl⟩)
    clear r1 g1 h
    go_wp2_with fail
    refine (below_any rb 4 _ RA.out (by omega) (by omega)).mono ?_
    rintro e w2 ⟨y, hy0, hy1, rfl, r2, g2⟩
    obtain ⟨j, rfl⟩ := Int.eq_ofNat_of_zero_le hy0
    obtain ⟨z, hz⟩ := CA.out w2 g2 j (by omega)
    have R2 := hide r2
    have G2 := hide (World.grownBy.trans GA.out g2)
    have hj : j < 4 := by omega
    clear r2 g2 RA GA CA
    go_wp2
    go_ret
    exact ⟨_, rfl, R2.out, G2.out⟩

set_option maxRecDepth 100000 in
set_option maxHeartbeats 1000000 in
theorem drawResolved_any (A : Option Addr) (n cap : Nat) (w : World) (hn : n ≤ 1048576) (hin : CIn w w.heap.size A n) :
    Calls Tryz.prog 16 #[.slice A n cap] w fun e w' => ∃ A0 c0 l0 A1 c1 l1 A2 c2 l2 side, e = .returned (.tuple #[.slice A0 l0.length c0, .slice A1 l1.length c1, .slice A2 l2.length c2, .int .i64 side]) ∧ Drawn3 w A0 c0 l0 A1 c1 l1 A2 c2 l2 w' := by
  have IN := hide hin
  clear hin
  go_enter Tryz.func16, Tryz.ntmps16
  go_wp2_with fail
  refine (l1Open_any A n cap w hn IN.out).mono ?_
  rintro e w1 ⟨rfl, r1, b1⟩
  have B1 := hide b1
  have IN1 := hide ((IN.out.keep b1).more b1.size)
  have hrb := r1.lt
  clear b1 IN
  go_wp2_with fail
  refine (drawMerged_any A n cap w1 hn IN1.out).mono ?_
  rintro e w2 ⟨A0, c0, l0, A1, c1, l1, A2, c2, l2, rfl, hc0, hc1, hc2, m0, m1, m2, o0, o1, o2, b2⟩
  have R2 := hide (r1.below b2)
  have B2 := hide (B1.out.trans (b2.mono B1.out.size))
  have O0 := hide (o0.more (B' := w.heap.size + 1) hrb)
  have O1 := hide (o1.more (B' := w.heap.size + 1) hrb)
  have O2 := hide (o2.more (B' := w.heap.size + 1) hrb)
  have M0 := hide m0
  have M1 := hide m1
  have M2 := hide m2
  have FIN : Hid (∀ (w3 : World) (s : Int), w2.grownBy w3 (some w.heap.size) → ∃ A0' c0' l0' A1' c1' l1' A2' c2' l2' side, Ending.returned (.tuple #[.slice A0 l0.length c0, .slice A1 l1.length c1, .slice A2 l2.length c2, .int .i64 s]) = .returned (.tuple #[.slice A0' l0'.length c0', .slice A1' l1'.length c1', .slice A2' l2'.length c2', .int .i64 side]) ∧ Drawn3 w A0' c0' l0' A1' c1' l1' A2' c2' l2' w3) := hide (fun w3 s g =>
    ⟨A0, c0, l0, A1, c1, l1, A2, c2, l2, s, rfl, hc0, hc1, hc2, M0.out, M1.out, M2.out, (O0.out.rd g).more (by omega), (O1.out.rd g).more (by omega), (O2.out.rd g).more (by omega), B2.out.trans (grown_below g B2.out.size)⟩)
  clear o0 o1 o2 b2 m0 m1 m2 r1 B1 B2 O0 O1 O2 M0 M1 M2 IN1 hrb
  generalize l0.length = n0 at *
  generalize l1.length = n1 at *
  generalize l2.length = n2 at *
  go_wp2_with fail
  refine (once_any w.heap.size 8 w2 R2.out (by omega) (by omega)).mono ?_
  rintro e w3 ⟨x, rfl, r3, g3⟩
  have R3 := hide r3
  have G3 := hide g3
  clear r3 g3 R2
  cases x
  · go_wp2_with fail
    refine (below_any w.heap.size 2 w3 R3.out (by omega) (by omega)).mono ?_
    rintro e w4 ⟨y, hy0, hy1, rfl, r4, g4⟩
    have F := hide (FIN.out w4 (1 + y) (World.grownBy.trans G3.out g4))
    clear r4 g4 R3 G3 FIN
    go_wp2
    refine bodyPost_ret (v := .tuple #[.slice A0 n0 c0, .slice A1 n1 c1, .slice A2 n2 c2, .int .i64 (1 + y)]) (by simp [results, Tryz.results16, go_sem]) rfl ?_
    exact F.out
  · go_wp2_with fail
    refine (off12_any w.heap.size w3 R3.out).mono ?_
    rintro e w4 ⟨y, rfl, r4, g4⟩
    have F := hide (FIN.out w4 y (World.grownBy.trans G3.out g4))
    clear r4 g4 R3 G3 FIN
    go_wp2
    refine bodyPost_ret (v := .tuple #[.slice A0 n0 c0, .slice A1 n1 c1, .slice A2 n2 c2, .int .i64 y]) (by simp [results, Tryz.results16, go_sem]) rfl ?_
    exact F.out
end Go.Proofs.YtaofemdhgfejjaaGreatDoor
