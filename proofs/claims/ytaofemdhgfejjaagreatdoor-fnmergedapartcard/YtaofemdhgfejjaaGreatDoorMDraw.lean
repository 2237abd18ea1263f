/-
  What is drawn for the laws on mergers: right maps.
-/
import Derived.Test.YtaofemdhgfejjaaGreatDoorPDraw
import Derived.Test.YtaofemdhgfejjaaGreatDoorPAlg
namespace Go.Proofs.YtaofemdhgfejjaaGreatDoor
open Go.RowKit

/-- a drawn map, which is right -/
def RdM (rb : Nat) (w : World) (e : Ending) (w' : World) : Prop := ∃ A cap l, l.length ≤ cap ∧ l.length ≤ 40 ∧ mapB l = true ∧ e = .returned (.slice A l.length cap) ∧ Own w' (rb + 1) A cap l ∧ Rd w' rb ∧ w.grownBy w' (some rb)
theorem mapB_nil : mapB [] = true := mapB_yes (by simp) ⟨fun _ h => absurd h (by simp), fun _ h => absurd h (by simp)⟩
theorem putB_map {l : List Pr} {k v : ByteArray} (h : putB l k v = true) : mapB (putL l k v) = true := by
  rw [putL_yes h]
  unfold putB at h
  rw [Bool.and_eq_true] at h
  exact h.2
theorem getB_map {l : List Pr} {k : ByteArray} (h : getB l k = true) : mapB (dropL l k) = true := by
  rw [dropL_yes h]
  refine mapB_erase ?_ _
  cases e : mapB l
  · rw [getB_no e] at h; cases h
  · rfl
set_option maxRecDepth 100000 in
set_option maxHeartbeats 1000000 in
theorem pairsM_any (rb : Nat) (most : Int) (w : World) (h : Rd w rb) (h0 : 0 ≤ most) (h1 : most ≤ 100) :
    Calls Tryz.prog 23 #[.pointer (some ⟨rb, 0, none⟩), .int .i64 most] w (RdM rb w) := by
  have hlt := h.lt
  have O0 := hide (Own.built w (rb + 1) hlt)
  have r0 := h.below ((Below.refl _ w).alloc (Nat.le_refl _) (.cells #[] 60))
  clear h
  go_enter Tryz.func23, Tryz.ntmps23
  go_wp2_with fail
  refine (below_any rb (most + 1) _ r0 (by omega) (by omega)).mono ?_
  rintro e w1 ⟨x, hx0, hx1, rfl, r1, g1⟩
  obtain ⟨k0, rfl⟩ := Int.eq_ofNat_of_zero_le hx0
  have O1 := hide (O0.out.rd g1)
  have R1 := hide r1
  have G1 := hide (World.grownBy.trans (World.grownBy_alloc w _ _) g1)
  clear r0 r1 g1 O0
  go_wp2
  go_loopw [5, 6] (fun m i wr => ∃ (k : Nat) (A : Option Addr) (cap : Nat) (l : List Pr), k ≤ k0 ∧ i = .int .i64 k ∧ m = .slice A l.length cap ∧ l.length ≤ 40 ∧ Hid (mapB l = true) ∧ Hid (Own wr (rb + 1) A cap l) ∧ Hid (Rd wr rb) ∧ Hid (w.grownBy wr (some rb))) (fun _ i _ => (intOf i).toNat)
  case atStart => exact ⟨k0, _, 0, [], Nat.le_refl _, rfl, rfl, by simp, hide mapB_nil, O1, R1, G1⟩
  case round =>
    clear O1 R1 G1
    obtain ⟨k, A, cap, l, hk, rfl, rfl, hl, MB, O, R, G⟩ := hrel
    by_cases hk0 : 0 < k
    · have hrl := R.out.lt
      go_wp2_with fail
      refine (key_any rb wr R.out).mono ?_
      rintro e w2 ⟨s, hs, _, rfl, r2, g2⟩
      have O2 := hide (O.out.rd g2)
      have G2 := hide (World.grownBy.trans G.out g2)
      clear g2 O R G
      go_wp2_with fail
      refine (val_any rb w2 r2).mono ?_
      rintro e w3 ⟨v, hv, _, rfl, r3, g3⟩
      have O3 := hide (O2.out.rd g3)
      have R3 := hide r3
      have G3 := hide (World.grownBy.trans G2.out g3)
      clear g3 O2 G2 r2 r3
      go_wp2_with fail
      refine (specPut_any A l cap s v w3 (by unfold maxLen; omega) O3.out.cap_le O3.out.pin (by unfold maxLen; omega) (by unfold maxLen; omega)).mono ?_
      rintro e w4 ⟨A4, cap4, hc4, rfl, own4, b4⟩
      have O4 := hide (own4.more (B' := rb + 1) R3.out.lt)
      have O4' := hide (O3.out.below b4)
      have R4 := hide (R3.out.below b4)
      have G4 := hide (World.grownBy.trans G3.out (grown_of_below b4))
      have hpl := putL_len l s v
      clear own4 b4 O3 R3 G3
      cases hb : putB l s v
      · go_wp2
        go_roundw
        case rel => exact ⟨k - 1, A, cap, l, by omega, by go_num, rfl, hl, MB, O4', R4, G4⟩
        case measure => simp [intOf]; omega
      · go_wp2
        go_roundw
        case rel => exact ⟨k - 1, A4, cap4, putL l s v, by omega, by go_num, rfl, hpl, hide (putB_map hb), O4, R4, G4⟩
        case measure => simp [intOf]; omega
    · go_wp2
      go_ret
      exact ⟨A, cap, l, O.out.cap_le, hl, MB.out, rfl, O.out, R.out, G.out⟩

set_option maxRecDepth 100000 in
set_option maxHeartbeats 2000000 in
theorem turned_any (rb : Nat) (A : Option Addr) (l : List Pr) (cap : Nat) (w : World) (h : Rd w rb) (hl : l.length ≤ 40) (hmb : mapB l = true) (hown : Own w (rb + 1) A cap l) :
    Calls Tryz.prog 24 #[.pointer (some ⟨rb, 0, none⟩), .slice A l.length cap] w (RdM rb w) := by
  have O0 := hide hown
  have M0 := hide hmb
  clear hown hmb
  go_enter Tryz.func24, Tryz.ntmps24
  go_wp2_with fail
  refine (below_any rb 3 _ h (by omega) (by omega)).mono ?_
  rintro e w1 ⟨x, hx0, hx1, rfl, r1, g1⟩
  obtain ⟨k0, rfl⟩ := Int.eq_ofNat_of_zero_le hx0
  have O1 := hide (O0.out.rd g1)
  have R1 := hide r1
  have G1 := hide g1
  clear h r1 g1 O0
  go_wp2
  go_loopw [1, 5] (fun m i wr => ∃ (k : Nat) (A : Option Addr) (cap : Nat) (l : List Pr), k ≤ k0 ∧ i = .int .i64 k ∧ m = .slice A l.length cap ∧ l.length ≤ 40 ∧ Hid (mapB l = true) ∧ Hid (Own wr (rb + 1) A cap l) ∧ Hid (Rd wr rb) ∧ Hid (w.grownBy wr (some rb))) (fun _ i _ => (intOf i).toNat)
  case atStart => exact ⟨k0, A, cap, l, Nat.le_refl _, rfl, rfl, hl, M0, O1, R1, G1⟩
  case round =>
    clear O1 R1 G1 hl M0
    obtain ⟨k, A, cap, l, hk, rfl, rfl, hl, MB, O, R, G⟩ := hrel
    by_cases hk0 : 0 < k
    · have hrl := R.out.lt
      go_wp2_with fail
      refine (key_any rb wr R.out).mono ?_
      rintro e w2 ⟨s, hs, _, rfl, r2, g2⟩
      have O2 := hide (O.out.rd g2)
      have G2 := hide (World.grownBy.trans G.out g2)
      clear g2 O R G
      go_wp2_with fail
      refine (val_any rb w2 r2).mono ?_
      rintro e w3 ⟨v, hv, _, rfl, r3, g3⟩
      have O3 := hide (O2.out.rd g3)
      have R3 := hide r3
      have G3 := hide (World.grownBy.trans G2.out g3)
      clear g3 O2 G2 r2 r3
      go_wp2_with fail
      refine (specPut_any A l cap s v w3 (by unfold maxLen; omega) O3.out.cap_le O3.out.pin (by unfold maxLen; omega) (by unfold maxLen; omega)).mono ?_
      rintro e w4 ⟨A4, cap4, hc4, rfl, own4, b4⟩
      have O4 := hide (own4.more (B' := rb + 1) R3.out.lt)
      have O4' := hide (O3.out.below b4)
      have R4 := hide (R3.out.below b4)
      have G4 := hide (World.grownBy.trans G3.out (grown_of_below b4))
      have hpl := putL_len l s v
      clear own4 b4 O3 R3 G3
      go_wp2_with fail
      refine (once_any rb 3 w4 R4.out (by omega) (by omega)).mono ?_
      rintro e w5 ⟨x, rfl, r5, g5⟩
      have O5 := hide (O4.out.rd g5)
      have O5' := hide (O4'.out.rd g5)
      have R5 := hide r5
      have G5 := hide (World.grownBy.trans G4.out g5)
      clear g5 r5 O4 O4' R4 G4
      cases x
      · cases hb : putB l s v
        · go_wp2
          exact ⟨⟨k - 1, A, cap, l, by omega, by go_num, rfl, hl, MB, O5', R5, G5⟩, by simp [intOf]; omega⟩
        · go_wp2
          exact ⟨⟨k - 1, A4, cap4, putL l s v, by omega, by go_num, rfl, hpl, hide (putB_map hb), O5, R5, G5⟩, by simp [intOf]; omega⟩
      · go_wp2_with fail
        refine (key_any rb w5 R5.out).mono ?_
        rintro e w6 ⟨s', hs', _, rfl, r6, g6⟩
        have O6 := hide (O5'.out.rd g6)
        have R6 := hide r6
        have G6 := hide (World.grownBy.trans G5.out g6)
        clear g6 O5 O5' R5 G5 r6
        go_wp2_with fail
        refine (specDrop_any A l cap s' w6 (by unfold maxLen; omega) O6.out.cap_le O6.out.pin).mono ?_
        rintro e w7 ⟨A7, cap7, hc7, rfl, own7, b7⟩
        have O7 := hide (own7.more (B' := rb + 1) R6.out.lt)
        have O7' := hide (O6.out.below b7)
        have R7 := hide (R6.out.below b7)
        have G7 := hide (World.grownBy.trans G6.out (grown_of_below b7))
        have hdl := dropL_len l s'
        clear own7 b7 O6 R6 G6
        cases hb : getB l s'
        · go_wp2
          exact ⟨⟨k - 1, A, cap, l, by omega, by go_num, rfl, hl, MB, O7', R7, G7⟩, by simp [intOf]; omega⟩
        · go_wp2
          exact ⟨⟨k - 1, A7, cap7, dropL l s', by omega, by go_num, rfl, hdl, hide (getB_map hb), O7, R7, G7⟩, by simp [intOf]; omega⟩
    · go_wp2
      go_ret
      exact ⟨A, cap, l, O.out.cap_le, hl, MB.out, rfl, O.out, R.out, G.out⟩

/-- three drawn maps, all right, in rows of the call's own -/
def Drawn3 (w : World) (A0 : Option Addr) (c0 : Nat) (l0 : List Pr) (A1 : Option Addr) (c1 : Nat) (l1 : List Pr) (A2 : Option Addr) (c2 : Nat) (l2 : List Pr) (w' : World) : Prop :=
  l0.length ≤ c0 ∧ l1.length ≤ c1 ∧ l2.length ≤ c2 ∧ mapB l0 = true ∧ mapB l1 = true ∧ mapB l2 = true ∧ Own w' w.heap.size A0 c0 l0 ∧ Own w' w.heap.size A1 c1 l1 ∧ Own w' w.heap.size A2 c2 l2 ∧ Below w.heap.size w w'

set_option maxRecDepth 100000 in
set_option maxHeartbeats 1000000 in
theorem drawMerged_any (A : Option Addr) (n cap : Nat) (w : World) (hn : n ≤ 1048576) (hin : CIn w w.heap.size A n) :
    Calls Tryz.prog 8 #[.slice A n cap] w fun e w' => ∃ A0 c0 l0 A1 c1 l1 A2 c2 l2, e = .returned (.tuple #[.slice A0 l0.length c0, .slice A1 l1.length c1, .slice A2 l2.length c2]) ∧ Drawn3 w A0 c0 l0 A1 c1 l1 A2 c2 l2 w' := by
  go_enter Tryz.func8, Tryz.ntmps8
  go_wp2_with fail
  refine (l1Open_any A n cap w hn hin).mono ?_
  rintro e w1 ⟨rfl, r1, b1⟩
  have B1 := hide b1
  clear b1 hin
  go_wp2_with fail
  refine (pairsM_any w.heap.size 6 w1 r1 (by omega) (by omega)).mono ?_
  rintro e w2 ⟨A0, c0, l0, hc0, hl0, mb0, rfl, own0, r2, g2⟩
  have M0 := hide mb0
  have B2 := hide (B1.out.trans (grown_below g2 B1.out.size))
  have O2 := hide own0
  clear own0 g2 r1 B1 mb0
  go_wp2_with fail
  refine (turned_any w.heap.size A0 l0 c0 w2 r2 hl0 M0.out O2.out).mono ?_
  rintro e w3 ⟨A3, c3, l3, hc3, hl3, mb3, rfl, own3, r3, g3⟩
  have M3 := hide mb3
  have B3 := hide (B2.out.trans (grown_below g3 B2.out.size))
  have O3 := hide (O2.out.rd g3)
  have P3 := hide own3
  clear own3 g3 r2 B2 O2 mb3
  go_wp2_with fail
  refine (turned_any w.heap.size A3 l3 c3 w3 r3 hl3 M3.out P3.out).mono ?_
  rintro e w4 ⟨A1, c1, l1, hc1, hl1, mb1, rfl, own1, r4, g4⟩
  have M1 := hide mb1
  have B4 := hide (B3.out.trans (grown_below g4 B3.out.size))
  have O4 := hide (O3.out.rd g4)
  have P4 := hide own1
  clear own1 g4 r3 B3 O3 mb1 P3 M3
  go_wp2_with fail
  refine (turned_any w.heap.size A0 l0 c0 w4 r4 hl0 M0.out O4.out).mono ?_
  rintro e w5 ⟨A5, c5, l5, hc5, hl5, mb5, rfl, own5, r5, g5⟩
  have M5 := hide mb5
  have B5 := hide (B4.out.trans (grown_below g5 B4.out.size))
  have O5 := hide (O4.out.rd g5)
  have P5 := hide (P4.out.rd g5)
  have S5 := hide own5
  clear own5 g5 r4 B4 O4 P4 mb5
  go_wp2_with fail
  refine (turned_any w.heap.size A5 l5 c5 w5 r5 hl5 M5.out S5.out).mono ?_
  rintro e w6 ⟨A2, c2, l2, hc2, hl2, mb2, rfl, own2, r6, g6⟩
  have M2 := hide mb2
  have B6 := hide (B5.out.trans (grown_below g6 B5.out.size))
  have O6 := hide (O5.out.rd g6)
  have P6 := hide (P5.out.rd g6)
  have S6 := hide own2
  clear own2 g6 r5 B5 O5 P5 mb2 S5 M5 r6
  go_wp2
  go_ret3
  exact ⟨A0, c0, l0, A1, c1, l1, A2, c2, l2, rfl, hc0, hc1, hc2, M0.out, M1.out, M2.out, O6.out.more (by omega), P6.out.more (by omega), S6.out.more (by omega), B6.out⟩
end Go.Proofs.YtaofemdhgfejjaaGreatDoor
