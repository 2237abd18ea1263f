/-
  What is drawn for the laws over changes (loosely: that it is such); laws.sameChanges.
-/
import Derived.Test.YtcpalnkcjcgaeaaPDraw
import Derived.Test.YtcpalnkcjcgaeaaHDiffS
import Derived.Test.YtcpalnkcjcgaeaaHLaw
import Derived.Test.YtcpalnkcjcgaeaaHDifA
namespace Go.Proofs.Ytcpalnkcjcgaeaa
open Go.RowKit

theorem HOwn.rd {w w' : World} {rb : Nat} {A : Option Addr} {cap : Nat} {l : List Ch} (h : HOwn w (rb + 1) A cap l) (hg : w.grownBy w' (some rb)) : HOwn w' (rb + 1) A cap l := by
  refine ⟨h.1, h.2.kept hg ?_⟩
  rw [rowOf_own]
  cases e : rowOf A with
  | none => exact .inl rfl
  | some g => exact .inr (fun x => by injection x with x; have := (h.row g e).1; omega)

/-- a drawn map, which is right -/
def RdM (rb : Nat) (w : World) (e : Ending) (w' : World) : Prop := ∃ A cap l, l.length ≤ cap ∧ l.length ≤ 40 ∧ mapB l = true ∧ e = .returned (.slice A l.length cap) ∧ Own w' (rb + 1) A cap l ∧ Rd w' rb ∧ w.grownBy w' (some rb)
theorem mapB_nil : mapB [] = true := mapB_yes (by simp) ⟨fun _ h => absurd h (by simp), fun _ h => absurd h (by simp)⟩
theorem putB_map {l : List Pr} {k v : ByteArray} (h : putB l k v = true) : mapB (putL l k v) = true := by
  rw [putL_yes h]
  unfold putB at h
  rw [Bool.and_eq_true] at h
  exact h.2
theorem getB_map {l : List Pr} {k : ByteArray} (h : getB l k = true) : mapB (dropL l k) = true := by
  rw [dropL_yes h]
  refine mapB_erase ?_ _
  cases e : mapB l
  · rw [getB_no e] at h; cases h
  · rfl
set_option maxRecDepth 100000 in
set_option maxHeartbeats 1000000 in
theorem pairsM_any (rb : Nat) (most : Int) (w : World) (h : Rd w rb) (h0 : 0 ≤ most) (h1 : most ≤ 100) :
    Calls Try.prog 42 #[.pointer (some ⟨rb, 0, none⟩), .int .i64 most] w (RdM rb w) := by
  have hlt := h.lt
  have O0 := hide (Own.built w (rb + 1) hlt)
  have r0 := h.below ((Below.refl _ w).alloc (Nat.le_refl _) (.cells #[] 73))
  clear h
  go_enter Try.func42, Try.ntmps42
  go_wp2_with fail
  refine (below_any rb (most + 1) _ r0 (by omega) (by omega)).mono ?_
  rintro e w1 ⟨x, hx0, hx1, rfl, r1, g1⟩
  obtain ⟨k0, rfl⟩ := Int.eq_ofNat_of_zero_le hx0
  have O1 := hide (O0.out.rd g1)
  have R1 := hide r1
  have G1 := hide (World.grownBy.trans (World.grownBy_alloc w _ _) g1)
  clear r0 r1 g1 O0
  go_wp2
  go_loopw [5, 6] (fun m i wr => ∃ (k : Nat) (A : Option Addr) (cap : Nat) (l : List Pr), k ≤ k0 ∧ i = .int .i64 k ∧ m = .slice A l.length cap ∧ l.length ≤ 40 ∧ Hid (mapB l = true) ∧ Hid (Own wr (rb + 1) A cap l) ∧ Hid (Rd wr rb) ∧ Hid (w.grownBy wr (some rb))) (fun _ i _ => (intOf i).toNat)
  case atStart => exact ⟨k0, _, 0, [], Nat.le_refl _, rfl, rfl, by simp, hide mapB_nil, O1, R1, G1⟩
  case round =>
    clear O1 R1 G1
    obtain ⟨k, A, cap, l, hk, rfl, rfl, hl, MB, O, R, G⟩ := hrel
    by_cases hk0 : 0 < k
    · have hrl := R.out.lt
      go_wp2_with fail
      refine (key_any rb wr R.out).mono ?_
      rintro e w2 ⟨s, hs, _, rfl, r2, g2⟩
      have O2 := hide (O.out.rd g2)
      have G2 := hide (World.grownBy.trans G.out g2)
      clear g2 O R G
      go_wp2_with fail
      refine (val_any rb w2 r2).mono ?_
      rintro e w3 ⟨v, hv, _, rfl, r3, g3⟩
      have O3 := hide (O2.out.rd g3)
      have R3 := hide r3
      have G3 := hide (World.grownBy.trans G2.out g3)
      clear g3 O2 G2 r2 r3
      go_wp2_with fail
      refine (specPut_any A l cap s v w3 (by unfold maxLen; omega) O3.out.cap_le O3.out.pin (by unfold maxLen; omega) (by unfold maxLen; omega)).mono ?_
      rintro e w4 ⟨A4, cap4, hc4, rfl, own4, b4⟩
      have O4 := hide (own4.more (B' := rb + 1) R3.out.lt)
      have O4' := hide (O3.out.below b4)
      have R4 := hide (R3.out.below b4)
      have G4 := hide (World.grownBy.trans G3.out (grown_of_below b4))
      have hpl := putL_len l s v
      clear own4 b4 O3 R3 G3
      cases hb : putB l s v
      · go_wp2
        go_roundw
        case rel => exact ⟨k - 1, A, cap, l, by omega, by go_num, rfl, hl, MB, O4', R4, G4⟩
        case measure => simp [intOf]; omega
      · go_wp2
        go_roundw
        case rel => exact ⟨k - 1, A4, cap4, putL l s v, by omega, by go_num, rfl, hpl, hide (putB_map hb), O4, R4, G4⟩
        case measure => simp [intOf]; omega
    · go_wp2
      go_ret
      exact ⟨A, cap, l, O.out.cap_le, hl, MB.out, rfl, O.out, R.out, G.out⟩

set_option maxRecDepth 100000 in
set_option maxHeartbeats 2000000 in
theorem turned_any (rb : Nat) (A : Option Addr) (l : List Pr) (cap : Nat) (w : World) (h : Rd w rb) (hl : l.length ≤ 40) (hmb : mapB l = true) (hown : Own w (rb + 1) A cap l) :
    Calls Try.prog 44 #[.pointer (some ⟨rb, 0, none⟩), .slice A l.length cap] w (RdM rb w) := by
  have O0 := hide hown
  have M0 := hide hmb
  clear hown hmb
  go_enter Try.func44, Try.ntmps44
  go_wp2_with fail
  refine (below_any rb 3 _ h (by omega) (by omega)).mono ?_
  rintro e w1 ⟨x, hx0, hx1, rfl, r1, g1⟩
  obtain ⟨k0, rfl⟩ := Int.eq_ofNat_of_zero_le hx0
  have O1 := hide (O0.out.rd g1)
  have R1 := hide r1
  have G1 := hide g1
  clear h r1 g1 O0
  go_wp2
  go_loopw [1, 5] (fun m i wr => ∃ (k : Nat) (A : Option Addr) (cap : Nat) (l : List Pr), k ≤ k0 ∧ i = .int .i64 k ∧ m = .slice A l.length cap ∧ l.length ≤ 40 ∧ Hid (mapB l = true) ∧ Hid (Own wr (rb + 1) A cap l) ∧ Hid (Rd wr rb) ∧ Hid (w.grownBy wr (some rb))) (fun _ i _ => (intOf i).toNat)
  case atStart => exact ⟨k0, A, cap, l, Nat.le_refl _, rfl, rfl, hl, M0, O1, R1, G1⟩
  case round =>
    clear O1 R1 G1 hl M0
    obtain ⟨k, A, cap, l, hk, rfl, rfl, hl, MB, O, R, G⟩ := hrel
    by_cases hk0 : 0 < k
    · have hrl := R.out.lt
      go_wp2_with fail
      refine (key_any rb wr R.out).mono ?_
      rintro e w2 ⟨s, hs, _, rfl, r2, g2⟩
      have O2 := hide (O.out.rd g2)
      have G2 := hide (World.grownBy.trans G.out g2)
      clear g2 O R G
      go_wp2_with fail
      refine (val_any rb w2 r2).mono ?_
      rintro e w3 ⟨v, hv, _, rfl, r3, g3⟩
      have O3 := hide (O2.out.rd g3)
      have R3 := hide r3
      have G3 := hide (World.grownBy.trans G2.out g3)
      clear g3 O2 G2 r2 r3
      go_wp2_with fail
      refine (specPut_any A l cap s v w3 (by unfold maxLen; omega) O3.out.cap_le O3.out.pin (by unfold maxLen; omega) (by unfold maxLen; omega)).mono ?_
      rintro e w4 ⟨A4, cap4, hc4, rfl, own4, b4⟩
      have O4 := hide (own4.more (B' := rb + 1) R3.out.lt)
      have O4' := hide (O3.out.below b4)
      have R4 := hide (R3.out.below b4)
      have G4 := hide (World.grownBy.trans G3.out (grown_of_below b4))
      have hpl := putL_len l s v
      clear own4 b4 O3 R3 G3
      go_wp2_with fail
      refine (once_any rb 3 w4 R4.out (by omega) (by omega)).mono ?_
      rintro e w5 ⟨x, rfl, r5, g5⟩
      have O5 := hide (O4.out.rd g5)
      have O5' := hide (O4'.out.rd g5)
      have R5 := hide r5
      have G5 := hide (World.grownBy.trans G4.out g5)
      clear g5 r5 O4 O4' R4 G4
      cases x
      · cases hb : putB l s v
        · go_wp2
          exact ⟨⟨k - 1, A, cap, l, by omega, by go_num, rfl, hl, MB, O5', R5, G5⟩, by simp [intOf]; omega⟩
        · go_wp2
          exact ⟨⟨k - 1, A4, cap4, putL l s v, by omega, by go_num, rfl, hpl, hide (putB_map hb), O5, R5, G5⟩, by simp [intOf]; omega⟩
      · go_wp2_with fail
        refine (key_any rb w5 R5.out).mono ?_
        rintro e w6 ⟨s', hs', _, rfl, r6, g6⟩
        have O6 := hide (O5'.out.rd g6)
        have R6 := hide r6
        have G6 := hide (World.grownBy.trans G5.out g6)
        clear g6 O5 O5' R5 G5 r6
        go_wp2_with fail
        refine (specDrop_any A l cap s' w6 (by unfold maxLen; omega) O6.out.cap_le O6.out.pin).mono ?_
        rintro e w7 ⟨A7, cap7, hc7, rfl, own7, b7⟩
        have O7 := hide (own7.more (B' := rb + 1) R6.out.lt)
        have O7' := hide (O6.out.below b7)
        have R7 := hide (R6.out.below b7)
        have G7 := hide (World.grownBy.trans G6.out (grown_of_below b7))
        have hdl := dropL_len l s'
        clear own7 b7 O6 R6 G6
        cases hb : getB l s'
        · go_wp2
          exact ⟨⟨k - 1, A, cap, l, by omega, by go_num, rfl, hl, MB, O7', R7, G7⟩, by simp [intOf]; omega⟩
        · go_wp2
          exact ⟨⟨k - 1, A7, cap7, dropL l s', by omega, by go_num, rfl, hdl, hide (getB_map hb), O7, R7, G7⟩, by simp [intOf]; omega⟩
    · go_wp2
      go_ret
      exact ⟨A, cap, l, O.out.cap_le, hl, MB.out, rfl, O.out, R.out, G.out⟩

/-- changes of short texts -/
def smallD (d : List Ch) : Prop := ∀ c ∈ d, c.1.size ≤ 12 ∧ c.2.1.size ≤ 12 ∧ c.2.2.1.size ≤ 12
theorem key12 {s : ByteArray} (h : keyB s = true) : s.size ≤ 12 := by have := (okB_iff.1 h).2.1; omega
theorem val12 {s : ByteArray} (h : valB s = true) : s.size ≤ 12 := by have := (okB_iff.1 h).2.1; omega
theorem small_dif {a b : List Pr} (ha : mapB a = true) (hb : mapB b = true) : smallD (difM a b) := by
  intro c hc
  obtain ⟨f1, f2, _, f4, _⟩ := fitB_iff.1 (dif_fit ha hb c hc)
  exact ⟨key12 f1, by rw [← f4]; exact val12 (lk_val_ok ha _), val12 f2⟩
theorem small_set {d : List Ch} {v : ByteArray} (h : smallD d) (h0 : 0 < d.length) (hv : v.size ≤ 12) : smallD (d.set 0 ((d[0]'h0).1, v, (d[0]'h0).2.2)) := by
  intro c hc
  rcases List.mem_or_eq_of_mem_set hc with g | g
  · exact h c g
  · rw [g]
    have := h _ (List.getElem_mem h0)
    exact ⟨this.1, hv, this.2.2⟩
/-- two drawn maps -/
def DrawnD (w : World) (e : Ending) (w' : World) : Prop := ∃ A cap l A' cap' l', l.length ≤ cap ∧ l.length ≤ 40 ∧ mapB l = true ∧ l'.length ≤ cap' ∧ l'.length ≤ 40 ∧ mapB l' = true ∧ e = .returned (.tuple #[.slice A l.length cap, .slice A' l'.length cap']) ∧ Own w' w.heap.size A cap l ∧ Own w' w.heap.size A' cap' l' ∧ Below w.heap.size w w'
/-- a drawn map and drawn changes -/
def DrawnA (w : World) (e : Ending) (w' : World) : Prop := ∃ A cap l A' cap' d, l.length ≤ cap ∧ l.length ≤ 40 ∧ mapB l = true ∧ d.length ≤ cap' ∧ d.length ≤ 80 ∧ smallD d ∧ e = .returned (.tuple #[.slice A l.length cap, .slice A' d.length cap']) ∧ Own w' w.heap.size A cap l ∧ HOwn w' w.heap.size A' cap' d ∧ Below w.heap.size w w'
/-- drawn changes -/
def DrawnC (w : World) (e : Ending) (w' : World) : Prop := ∃ A' cap' d, d.length ≤ cap' ∧ d.length ≤ 80 ∧ smallD d ∧ e = .returned (.slice A' d.length cap') ∧ HOwn w' w.heap.size A' cap' d ∧ Below w.heap.size w w'

set_option maxRecDepth 100000 in
set_option maxHeartbeats 1000000 in
theorem drawDiffOf_any (A : Option Addr) (n cap : Nat) (w : World) (hn : n ≤ 1048576) (hin : CIn w w.heap.size A n) :
    Calls Try.prog 13 #[.slice A n cap] w (DrawnD w) := by
  go_enter Try.func13, Try.ntmps13
  go_wp2_with fail
  refine (l1Open_any A n cap w hn hin).mono ?_
  rintro e w1 ⟨rfl, r1, b1⟩
  have B1 := hide b1
  clear b1 hin
  go_wp2_with fail
  refine (pairsM_any w.heap.size 6 w1 r1 (by omega) (by omega)).mono ?_
  rintro e w2 ⟨A2, cap2, l, hc2, hl, mb2, rfl, own2, r2, g2⟩
  have MB2 := hide mb2
  clear mb2
  have B2 := hide (B1.out.trans (grown_below g2 B1.out.size))
  have O2 := hide own2
  clear own2 g2 r1 B1
  go_wp2_with fail
  refine (once_any w.heap.size 3 w2 r2 (by omega) (by omega)).mono ?_
  rintro e w3 ⟨x, rfl, r3, g3⟩
  have B3 := hide (B2.out.trans (grown_below g3 B2.out.size))
  have O3 := hide (O2.out.rd g3)
  clear g3 r2 B2 O2
  cases x
  · go_wp2_with fail
    refine (turned_any w.heap.size A2 l cap2 w3 r3 hl MB2.out O3.out).mono ?_
    rintro e w4 ⟨A4, cap4, l4, hc4, hl4, mb4, rfl, own4, r4, g4⟩
    have MB4 := hide mb4
    clear mb4
    have B4 := hide (B3.out.trans (grown_below g4 B3.out.size))
    have O4 := hide (O3.out.rd g4)
    have P4 := hide own4
    clear g4 r3 r4 B3 O3 own4
    go_wp2
    go_ret2
    exact ⟨A2, cap2, l, A4, cap4, l4, hc2, hl, MB2.out, hc4, hl4, MB4.out, rfl, O4.out.more (by omega), P4.out.more (by omega), B4.out⟩
  · go_wp2_with fail
    refine (pairsM_any w.heap.size 6 w3 r3 (by omega) (by omega)).mono ?_
    rintro e w4 ⟨A4, cap4, l4, hc4, hl4, mb4, rfl, own4, r4, g4⟩
    have MB4 := hide mb4
    clear mb4
    have B4 := hide (B3.out.trans (grown_below g4 B3.out.size))
    have O4 := hide (O3.out.rd g4)
    have P4 := hide own4
    clear g4 r3 r4 B3 O3 own4
    go_wp2
    go_ret2
    exact ⟨A2, cap2, l, A4, cap4, l4, hc2, hl, MB2.out, hc4, hl4, MB4.out, rfl, O4.out.more (by omega), P4.out.more (by omega), B4.out⟩

theorem ccells_old (d : List Ch) (v : ByteArray) (h0 : 0 < d.length) : (ccells d).set 1 (.string v) = ccells (d.set 0 ((d[0]'h0).1, v, (d[0]'h0).2.2)) := by
  cases d with
  | nil => simp at h0
  | cons c r => rfl

set_option maxRecDepth 100000 in
set_option maxHeartbeats 2000000 in
theorem drawApplied_any (A : Option Addr) (n cap : Nat) (w : World) (hn : n ≤ 1048576) (hin : CIn w w.heap.size A n) :
    Calls Try.prog 23 #[.slice A n cap] w (DrawnA w) := by
  go_enter Try.func23, Try.ntmps23
  go_wp2_with fail
  refine (l1Open_any A n cap w hn hin).mono ?_
  rintro e w1 ⟨rfl, r1, b1⟩
  have B1 := hide b1
  clear b1 hin
  go_wp2_with fail
  refine (pairsM_any w.heap.size 6 w1 r1 (by omega) (by omega)).mono ?_
  rintro e w2 ⟨A2, cap2, l, hc2, hl, mb2, rfl, own2, r2, g2⟩
  have MB2 := hide mb2
  clear mb2
  have B2 := hide (B1.out.trans (grown_below g2 B1.out.size))
  have O2 := hide own2
  clear own2 g2 r1 B1
  go_wp2_with fail
  refine (turned_any w.heap.size A2 l cap2 w2 r2 hl MB2.out O2.out).mono ?_
  rintro e w3 ⟨A3, cap3, l3, hc3, hl3, mb3, rfl, own3, r3, g3⟩
  have SD := hide (small_dif MB2.out mb3)
  clear mb3
  have B3 := hide (B2.out.trans (grown_below g3 B2.out.size))
  have O3 := hide (O2.out.rd g3)
  have R3 := hide r3
  have hz3 := r3.lt
  clear g3 r2 r3 B2 O2
  go_wp2_with fail
  refine (l6Diff_any A2 l cap2 A3 l3 cap3 w3 (by omega) (by omega) O3.out.pin own3.pin).mono ?_
  rintro e w4 ⟨A4, cap4, hc4, rfl, own4, b4⟩
  have hdl := difM_len _ l l3 (Nat.le_refl _)
  have B4 := hide (B3.out.trans (b4.mono B3.out.size))
  have O4 := hide (O3.out.below b4)
  have D4 := hide (own4.more (B' := w.heap.size + 1) hz3)
  have R4 := hide (R3.out.below b4)
  have hd80 : (difM l l3).length ≤ 80 := by omega
  have NE : Hid (∀ g, rowOf A2 = some g → rowOf A4 ≠ some g) := hide (fun g hg x => by have h1 := (O3.out.row g hg).2; have h2 := (own4.row g x).1; omega)
  clear b4 own3 own4 O3 B3 R3 hdl
  generalize difM l l3 = d at *
  go_wp2_with fail
  refine (once_any w.heap.size 4 w4 R4.out (by omega) (by omega)).mono ?_
  rintro e w5 ⟨x, rfl, r5, g5⟩
  have B5 := hide (B4.out.trans (grown_below g5 B4.out.size))
  have O5 := hide (O4.out.rd g5)
  have D5 := hide (D4.out.rd g5)
  have R5 := hide r5
  clear g5 r5 B4 O4 D4 R4
  by_cases hx : x = true ∧ 0 < d.length
  · obtain ⟨rfl, h0⟩ := hx
    obtain ⟨g, rfl, hg1, hg2⟩ : ∃ g, A4 = some ⟨g, 0, none⟩ ∧ w.heap.size + 1 ≤ g ∧ g < w5.heap.size := by
      rcases D5.out.form with ⟨_, _, e⟩ | h
      · rw [e] at h0; simp at h0
      · exact h
    have hd0 : decide ((0 : Int) < (d.length : Int)) = true := decide_eq_true (by omega)
    go_wp2_with fail
    refine (val_any w.heap.size w5 R5.out).mono ?_
    rintro e w6 ⟨v, hv, _, rfl, r6, g6⟩
    have B6 := hide (B5.out.trans (grown_below g6 B5.out.size))
    have O6 := hide (O5.out.rd g6)
    have own6 := D5.out.rd g6
    have c1 : ∃ x, w6.cell? ⟨g, 1, none⟩ = some x := by rw [own6.2.cellAt 1 (by omega)]; exact ⟨_, List.getElem?_eq_getElem (by rw [ccells_length]; omega)⟩
    obtain ⟨x1, c1⟩ := c1
    have f1 := own6.2.frozenAt 1
    have S6 := own6.2.stored 1 (.string v)
    have S7 := S6.1
    rw [ccells_old d v h0] at S7
    have D7 : Hid (HOwn (w6.setCell ⟨g, 1, none⟩ (.string v)) (w.heap.size + 1) (some ⟨g, 0, none⟩) cap4 (d.set 0 ((d[0]'h0).1, v, (d[0]'h0).2.2))) := hide ⟨by
      intro i hi
      rw [List.length_set] at hi
      rw [List.getElem_set]
      split
      · exact ⟨(own6.1 0 h0).1, by unfold maxLen; show v.size ≤ _; omega, (own6.1 0 h0).2.2⟩
      · exact own6.1 i hi, by rw [List.length_set]; exact S7⟩
    have O7 := hide (O6.out.apart (A' := some ⟨g, 0, none⟩) S6.2 (fun h hh x => NE.out h hh x))
    have bx := (Below.refl (w.heap.size + 1) w6).setCell (p := ⟨g, 1, none⟩) (by exact hg1) (.string v)
    have R7 := hide (r6.keep bx)
    have B7 := hide (B6.out.setCell (p := ⟨g, 1, none⟩) (by show w.heap.size ≤ g; omega) (.string v))
    have SM := hide (small_set SD.out h0 hv)
    clear own6 S6 S7 g6 r6 bx B5 O5 D5 R5 B6 O6
    go_wp2_with fail
    refine (once_any w.heap.size 6 _ R7.out (by omega) (by omega)).mono ?_
    rintro e w8 ⟨z, rfl, r8, g8⟩
    have B8 := hide (B7.out.trans (grown_below g8 B7.out.size))
    have O8 := hide (O7.out.rd g8)
    have D8 := hide (D7.out.rd g8)
    have hdc := D7.out.cap_le
    clear g8 B7 O7 D7 R7
    cases z
    · go_wp2
      go_ret2
      exact ⟨A2, cap2, l, some ⟨g, 0, none⟩, cap4, d.set 0 ((d[0]'h0).1, v, (d[0]'h0).2.2), hc2, hl, MB2.out, hdc, by simpa using hd80, SM.out, (by simp <;> omega), O8.out.more (by omega), D8.out.more (by omega), B8.out⟩
    · go_wp2_with fail
      refine (pairsM_any w.heap.size 5 w8 r8 (by omega) (by omega)).mono ?_
      rintro e w9 ⟨A9, cap9, l9, hc9, hl9, mb9, rfl, own9, r9, g9⟩; have MB9 := hide mb9; clear mb9
      have B9 := hide (B8.out.trans (grown_below g9 B8.out.size))
      have D9 := hide (D8.out.rd g9)
      have O9 := hide own9
      clear g9 r8 r9 B8 O8 D8 own9
      go_wp2
      go_ret2
      exact ⟨A9, cap9, l9, some ⟨g, 0, none⟩, cap4, d.set 0 ((d[0]'h0).1, v, (d[0]'h0).2.2), hc9, hl9, MB9.out, hdc, by simpa using hd80, SM.out, (by simp <;> omega), O9.out.more (by omega), D9.out.more (by omega), B9.out⟩
  · cases x
    · clear hx
      go_wp2_with fail
      refine (once_any w.heap.size 6 _ R5.out (by omega) (by omega)).mono ?_
      rintro e w8 ⟨z, rfl, r8, g8⟩
      have B8 := hide (B5.out.trans (grown_below g8 B5.out.size))
      have O8 := hide (O5.out.rd g8)
      have D8 := hide (D5.out.rd g8)
      have hdc := D5.out.cap_le
      clear g8 B5 O5 D5 R5
      cases z
      · go_wp2
        go_ret2
        exact ⟨A2, cap2, l, A4, cap4, d, hc2, hl, MB2.out, hdc, by simpa using hd80, SD.out, (by simp <;> omega), O8.out.more (by omega), D8.out.more (by omega), B8.out⟩
      · go_wp2_with fail
        refine (pairsM_any w.heap.size 5 w8 r8 (by omega) (by omega)).mono ?_
        rintro e w9 ⟨A9, cap9, l9, hc9, hl9, mb9, rfl, own9, r9, g9⟩; have MB9 := hide mb9; clear mb9
        have B9 := hide (B8.out.trans (grown_below g9 B8.out.size))
        have D9 := hide (D8.out.rd g9)
        have O9 := hide own9
        clear g9 r8 r9 B8 O8 D8 own9
        go_wp2
        go_ret2
        exact ⟨A9, cap9, l9, A4, cap4, d, hc9, hl9, MB9.out, hdc, by simpa using hd80, SD.out, (by simp <;> omega), O9.out.more (by omega), D9.out.more (by omega), B9.out⟩
    · have h0 : d.length = 0 := by
        rcases Nat.eq_zero_or_pos d.length with e | e
        · exact e
        · exact absurd ⟨rfl, e⟩ hx
      have hd0 : decide ((0 : Int) < (d.length : Int)) = false := decide_eq_false (by omega)
      clear hx
      go_wp2_with fail
      refine (once_any w.heap.size 6 _ R5.out (by omega) (by omega)).mono ?_
      rintro e w8 ⟨z, rfl, r8, g8⟩
      have B8 := hide (B5.out.trans (grown_below g8 B5.out.size))
      have O8 := hide (O5.out.rd g8)
      have D8 := hide (D5.out.rd g8)
      have hdc := D5.out.cap_le
      clear g8 B5 O5 D5 R5
      cases z
      · go_wp2
        go_ret2
        exact ⟨A2, cap2, l, A4, cap4, d, hc2, hl, MB2.out, hdc, by simpa using hd80, SD.out, (by simp <;> omega), O8.out.more (by omega), D8.out.more (by omega), B8.out⟩
      · go_wp2_with fail
        refine (pairsM_any w.heap.size 5 w8 r8 (by omega) (by omega)).mono ?_
        rintro e w9 ⟨A9, cap9, l9, hc9, hl9, mb9, rfl, own9, r9, g9⟩; have MB9 := hide mb9; clear mb9
        have B9 := hide (B8.out.trans (grown_below g9 B8.out.size))
        have D9 := hide (D8.out.rd g9)
        have O9 := hide own9
        clear g9 r8 r9 B8 O8 D8 own9
        go_wp2
        go_ret2
        exact ⟨A9, cap9, l9, A4, cap4, d, hc9, hl9, MB9.out, hdc, by simpa using hd80, SD.out, (by simp <;> omega), O9.out.more (by omega), D9.out.more (by omega), B9.out⟩

theorem drawInverse_any (A : Option Addr) (n cap : Nat) (w : World) (hn : n ≤ 1048576) (hin : CIn w w.heap.size A n) :
    Calls Try.prog 25 #[.slice A n cap] w (DrawnC w) := by
  go_enter Try.func25, Try.ntmps25
  go_wp2_with fail
  refine (drawApplied_any A n cap w hn hin).mono ?_
  rintro e w1 ⟨A1, cap1, l, A2, cap2, d, hc, hl, _, hd, hdl, sm, rfl, o1, o2, b1⟩
  have SM := hide sm
  clear sm
  have O2 := hide o2
  have B1 := hide b1
  clear o1 o2 b1
  go_wp2
  go_ret
  exact ⟨A2, cap2, d, hd, hdl, SM.out, rfl, O2.out, B1.out⟩
theorem drawDiffText_any (A : Option Addr) (n cap : Nat) (w : World) (hn : n ≤ 1048576) (hin : CIn w w.heap.size A n) :
    Calls Try.prog 16 #[.slice A n cap] w (DrawnC w) := by
  go_enter Try.func16, Try.ntmps16
  go_wp2_with fail
  refine (drawInverse_any A n cap w hn hin).mono ?_
  rintro e w1 ⟨A2, cap2, d, hd, hdl, sm, rfl, o2, b1⟩
  have SM := hide sm
  clear sm
  have O2 := hide o2
  have B1 := hide b1
  clear o2 b1
  go_wp2
  go_ret
  exact ⟨A2, cap2, d, hd, hdl, SM.out, rfl, O2.out, B1.out⟩
end Go.Proofs.Ytcpalnkcjcgaeaa
