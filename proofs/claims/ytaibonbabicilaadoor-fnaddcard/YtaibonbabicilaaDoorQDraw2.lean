/-
  What is drawn: objects and an id.
-/
import Derived.Test.YtaibonbabicilaaDoorQDraw
import Derived.Test.YtaibonbabicilaaDoorQIdS
namespace Go.Proofs.YtaibonbabicilaaDoor
open Go.RowKit

theorem idT_small (t : ByteArray) : (idT t).size ≤ 16 := by
  unfold idT
  split
  · rw [idL_size]; exact Nat.le_refl _
  · simp

def DrawnOI (w : World) (e : Ending) (w' : World) : Prop := ∃ A cap l t, l.length ≤ cap ∧ l.length ≤ 60 ∧ t.size ≤ maxLen ∧ e = .returned (.tuple #[.slice A l.length cap, .string t]) ∧ Own w' w.heap.size A cap l ∧ Below w.heap.size w w'

set_option maxRecDepth 100000 in
set_option maxHeartbeats 2000000 in
theorem drawFind_any (A : Option Addr) (n cap : Nat) (w : World) (hn : n ≤ 1048576) (hin : CIn w w.heap.size A n) :
    Calls Tryd.prog 22 #[.slice A n cap] w (DrawnOI w) := by
  go_enter Tryd.func22, Tryd.ntmps22
  go_wp2_with fail
  refine (l1Open_any A n cap w hn hin).mono ?_
  rintro e w1 ⟨rfl, r1, b1⟩
  have B1 := hide b1
  have hlt1 := r1.lt
  clear b1 hin
  go_wp2_with fail
  refine (objsR_any w.heap.size 5 w1 r1 (by omega) (by omega)).mono ?_
  rintro e w2 ⟨A2, cap2, l, hc2, hl, rfl, own2, r2, g2⟩
  have B2 := hide (B1.out.trans (grown_below g2 B1.out.size))
  have O2 := hide own2
  have R2 := hide r2
  have hlt2 := r2.lt
  clear own2 g2 r1 r2 B1
  have last : ∀ (W : World), Own W w1.heap.size A2 cap2 l → Rd W w.heap.size → Below w.heap.size w W → Calls Tryd.prog 50 #[.pointer (some ⟨w.heap.size, 0, none⟩)] W fun e w' => ∃ t : ByteArray, t.size ≤ 12 ∧ e = .returned (.string t) ∧ Own w' w1.heap.size A2 cap2 l ∧ Below w.heap.size w w' := fun W h1 h2 h3 =>
    (text_any w.heap.size W h2).mono fun e w' ⟨t, ht, he, _, hg⟩ => ⟨t, ht, he, h1.rd hlt1 hg, h3.trans (grown_below hg h3.size)⟩
  have LAST := hide last
  clear last
  by_cases h0 : 0 < l.length
  · have d0 : decide ((0 : Int) < (l.length : Int)) = true := decide_eq_true (by omega)
    go_wp2_with fail
    refine (once_any w.heap.size 3 w2 R2.out (by omega) (by omega)).mono ?_
    rintro e w3 ⟨x, rfl, r3, g3⟩
    have B3 := hide (B2.out.trans (grown_below g3 B2.out.size))
    have O3 := hide (O2.out.rd hlt1 g3)
    have R3 := hide r3
    clear g3 r3 B2 O2 R2
    cases x
    · obtain ⟨g, rfl, hg1, hg2⟩ : ∃ g, A2 = some ⟨g, 0, none⟩ ∧ w1.heap.size ≤ g ∧ g < w3.heap.size := by
        rcases O3.out.form with ⟨_, _, e⟩ | h
        · rw [e] at h0; simp at h0
        · exact h
      go_wp2
      have A4 : Hid (Calls Tryd.prog 47 #[.pointer (some ⟨w.heap.size, 0, none⟩), .int .i64 (l.length : Nat)] w3.drew fun e w' => ∃ (k2 : Nat) (s : ByteArray), k2 < l.length ∧ s.size ≤ maxLen ∧ e = .returned (.int .i64 k2) ∧ w'.cell? ⟨g, k2 * 2, none⟩ = some (.string s) ∧ Hid (Own w' w1.heap.size (some ⟨g, 0, none⟩) cap2 l) ∧ Hid (Below w.heap.size w w')) := hide ((below_any w.heap.size (l.length : Nat) w3.drew R3.out (by omega) (by omega)).mono (by
        rintro e w4 ⟨y, hy0, hy1, rfl, r4, g4⟩
        obtain ⟨k2, rfl⟩ := Int.eq_ofNat_of_zero_le hy0
        have hk2 : k2 < l.length := by omega
        have g4' : w3.grownBy w4 (some w.heap.size) := World.grownBy.trans (grown_of_below ((Below.refl _ w3).drew)) g4
        have o4 := O3.out.rd hlt1 g4'
        have hc := (o4.2.cellAt (k2 * 2) (by omega)).trans (pcells_get l k2 hk2).1
        exact ⟨k2, (l[k2]'hk2).1, hk2, (o4.1 k2 hk2).1, rfl, hc, o4, B3.out.trans (grown_below g4' B3.out.size)⟩))
      clear R3 O3 B3
      generalize hnn : l.length = m at *
      have HNN := hide hnn
      clear hnn
      go_region_with (go_at_call 47; refine A4.out.mono ?_; rintro e w4 ⟨k2, s, hk2, hs, rfl, hc, O4, B4⟩)
      all_goals
        go_wp2
        go_ret2
        exact ⟨_, cap2, l, s, by rw [HNN.out]; exact hc2, by rw [HNN.out]; exact hl, hs, by rw [HNN.out]; rfl, O4.out.more (by omega), B4.out⟩
    · go_wp2_with fail
      refine (LAST.out w3 O3.out R3.out B3.out).mono ?_
      rintro e w4 ⟨t, ht, rfl, o4, b4⟩
      have O4 := hide o4
      have B4 := hide b4
      clear o4 b4 LAST O3 R3 B3
      go_wp2_with fail
      refine (specId t w4 (by unfold maxLen; omega)).mono ?_
      rintro e w5 ⟨rfl, b5⟩
      have O5 := hide ((O4.out.below b5).more (B' := w.heap.size) (by omega))
      have B5 := hide (B4.out.trans (b5.mono B4.out.size))
      have hi := idT_small t
      clear b5 O4 B4
      go_wp2
      go_ret2
      exact ⟨A2, cap2, l, idT t, hc2, hl, by unfold maxLen; omega, rfl, O5.out, B5.out⟩
  · have d0 : decide ((0 : Int) < (l.length : Int)) = false := decide_eq_false (by omega)
    go_wp2_with fail
    refine (LAST.out w2 O2.out R2.out B2.out).mono ?_
    rintro e w4 ⟨t, ht, rfl, o4, b4⟩
    have O4 := hide o4
    have B4 := hide b4
    clear o4 b4 LAST O2 R2 B2
    go_wp2_with fail
    refine (specId t w4 (by unfold maxLen; omega)).mono ?_
    rintro e w5 ⟨rfl, b5⟩
    have O5 := hide ((O4.out.below b5).more (B' := w.heap.size) (by omega))
    have B5 := hide (B4.out.trans (b5.mono B4.out.size))
    have hi := idT_small t
    clear b5 O4 B4
    go_wp2
    go_ret2
    exact ⟨A2, cap2, l, idT t, hc2, hl, by unfold maxLen; omega, rfl, O5.out, B5.out⟩
end Go.Proofs.YtaibonbabicilaaDoor
