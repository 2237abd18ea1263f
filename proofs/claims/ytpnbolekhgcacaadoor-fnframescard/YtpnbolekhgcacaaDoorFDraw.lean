/-
  What is drawn for frames: texts and bytes (loosely: that they are such).
-/
import Derived.Test.YtpnbolekhgcacaaDoorRdHurt
import Derived.Test.YtpnbolekhgcacaaDoorRdCode
import Derived.Test.YtpnbolekhgcacaaDoorFOwn
import Derived.Test.YtpnbolekhgcacaaDoorFFrS
namespace Go.Proofs.YtpnbolekhgcacaaDoor
open Go.RowKit

theorem grown_on {w w2 w3 : World} {rb : Nat} (h : w.grownBy w2 (some rb)) (hb : Below w.heap.size w2 w3) : w.grownBy w3 (some rb) :=
  ⟨hb.os.trans h.os, hb.tape.trans h.tape, hb.output.trans h.output, Nat.le_trans h.size hb.size, fun i hi hn => (hb.block i hi).trans (h.block i hi hn)⟩

set_option maxRecDepth 100000 in
set_option maxHeartbeats 1000000 in
theorem text_any (rb : Nat) (w : World) (h : Rd w rb) :
    Calls Tryd.prog 23 #[.pointer (some ⟨rb, 0, none⟩)] w (RdT rb 12 w) := by
  have r1b := fun o => h.below ((Below.refl _ w).alloc (Nat.le_refl _) o)
  have hlt := h.lt
  have RB := hide r1b
  clear r1b h
  go_enter Tryd.func23, Tryd.ntmps23
  go_wp2_with fail
  refine (below_any rb 5 _ (RB.out _) (by omega) (by omega)).mono ?_
  rintro e w2 ⟨y, hy0, hy1, rfl, r2, g2⟩
  have R2 := hide r2
  have hb2 := (g2.block w.heap.size (by simp) (by simp; omega)).trans (heap_alloc_new w _)
  have G2 := hide (World.grownBy.trans (World.grownBy_alloc w _ _) g2)
  obtain ⟨k, rfl⟩ := Int.eq_ofNat_of_zero_le hy0
  have hk : k < 5 := by omega
  obtain ⟨s, hs, hc⟩ : ∃ s : ByteArray, s.size ≤ 12 ∧ w2.cell? ⟨w.heap.size, k, none⟩ = some (.string s) := by
    rw [cell_of_row w2 w.heap.size k _ _ _ hb2]
    match k, hk with
    | 0, _ => exact ⟨_, by decide, rfl⟩
    | 1, _ => exact ⟨_, by decide, rfl⟩
    | 2, _ => exact ⟨_, by decide, rfl⟩
    | 3, _ => exact ⟨_, by decide, rfl⟩
    | 4, _ => exact ⟨_, by decide, rfl⟩
  clear r2 g2 hb2 RB
  go_wp2
  go_ret
  exact ⟨s, hs, rfl, R2.out, G2.out⟩

theorem grown_then_below {w w2 w3 : World} {rb : Nat} (h : w.grownBy w2 (some rb)) (hb : Below w.heap.size w2 w3) : w.grownBy w3 (some rb) :=
  ⟨hb.os.trans h.os, hb.tape.trans h.tape, hb.output.trans h.output, Nat.le_trans h.size hb.size, fun i hi hne => (hb.block i hi).trans (h.block i hi hne)⟩
/-- bytes of one's own as a string -/
theorem own_string {w : World} {B : Nat} {g cap : Nat} {l : List Int} (h : IOwn .u8 5 w B (some ⟨g, 0, none⟩) cap l) :
    (convert 29 9 (.slice (some ⟨g, 0, none⟩) l.length cap)).run Tryd.prog w = .ok (.string (strOfNums l)) w := by
  by_cases hl : 0 < l.length
  · obtain ⟨g', e, _, _, hc⟩ := h.cell hl
    injection e with e
    injection e with e
    subst e
    exact run_convert_bytes_arg w 29 5 (by kernel_rfl) (by kernel_rfl) g 0 l.length cap l rfl (fun j hj => by rw [Nat.zero_add, hc j hj]) 9 (by kernel_rfl)
  · exact run_convert_bytes_arg w 29 5 (by kernel_rfl) (by kernel_rfl) g 0 l.length cap l rfl (fun j hj => absurd hj (by omega)) 9 (by kernel_rfl)

set_option maxRecDepth 100000 in
set_option maxHeartbeats 2000000 in
theorem bytes_any (rb : Nat) (most : Int) (w : World) (h : Rd w rb) (h1 : 0 ≤ most) (h2 : most ≤ 200) :
    Calls Tryd.prog 25 #[.pointer (some ⟨rb, 0, none⟩), .int .i64 most] w (RdT rb 200 w) := by
  have hlt := h.lt
  have RA := hide (h.below ((Below.refl _ w).alloc (Nat.le_refl _) (.cells #[] 5)))
  clear h
  go_enter Tryd.func25, Tryd.ntmps25
  go_wp2_with fail
  refine (below_any rb (most + 1) _ RA.out (by omega) (by omega)).mono ?_
  rintro e w1 ⟨x, hx0, hx1, rfl, r1, g1⟩
  have R1 := hide r1
  have G1 := hide (World.grownBy.trans (World.grownBy_alloc w (.cells #[] 5) (some rb)) g1)
  have O1 : Hid (IOwn .u8 5 w1 w.heap.size (some ⟨w.heap.size, 0, none⟩) 0 []) := hide (by
    have o := IOwn.built .u8 5 w w.heap.size (Nat.le_refl _)
    refine o.kept g1 ?_
    right
    intro e
    injection e with e
    have e' : w.heap.size = rb := e
    omega)
  clear r1 g1 RA
  obtain ⟨n0, rfl⟩ := Int.eq_ofNat_of_zero_le hx0
  have hn0 : n0 ≤ 200 := by omega
  go_wp2_with fail
  go_loopw [5, 6] (fun bv iv wr => ∃ (i k g cap : Nat) (l : List Int), k + i ≤ 200 ∧ l.length = k ∧ bv = .slice (some ⟨g, 0, none⟩) k cap ∧ iv = .int .i64 (i : Int) ∧ Hid (IOwn .u8 5 wr w.heap.size (some ⟨g, 0, none⟩) cap l) ∧ Hid (Rd wr rb) ∧ Hid (w.grownBy wr (some rb))) (fun _ i _ => (intOf i).toNat)
  case atStart => exact ⟨n0, 0, _, _, [], by omega, rfl, rfl, rfl, O1, R1, G1⟩
  case round =>
    clear O1 R1 G1
    obtain ⟨i, k, g, cap, l, hki, hl, rfl, rfl, O, R, G⟩ := hrel
    have HL := hide hl
    clear hl
    by_cases hi : 0 < i
    · have hi0 : (0 : Int) < (i : Int) := by omega
      go_wp2_with fail
      refine (below_any rb 256 _ R.out (by omega) (by omega)).mono ?_
      rintro e w2 ⟨y, hy0, hy1, rfl, r2, g2⟩
      have hsz : w.heap.size ≤ wr.heap.size := G.out.size
      have R2 := hide r2
      have G2 := hide (World.grownBy.trans G.out g2)
      have O2 : Hid (IOwn .u8 5 w2 w.heap.size (some ⟨g, 0, none⟩) cap l) := hide (by
        refine O.out.kept g2 ?_
        right
        have := O.out.lt g rfl
        intro e
        injection e with e
        have e' : g = rb := e
        omega)
      have hsz2 : w.heap.size ≤ w2.heap.size := G2.out.size
      clear r2 g2 O R G
      have hyb : y ≤ 255 := by omega
      go_wp2_with (at_builtin; refine wpList_iapp (k := .u8) (e := 5) (z := .int .u8 0) (nb := 1) (B := w.heap.size) (A := some ⟨g, 0, none⟩) (cap := cap) (l := l) (news := [y]) (g := w2.heap.size) (m := 1) (c := 1) rfl (.tmp 16) (.tmp 20) rfl Tryd.underlying29 infoB rfl (by omega) (by rw [HL.out]; rfl) rfl (by exact O2.out.alloc _) rfl (by exact cell_one_at w2 _ _ _ _ rfl) (by simp; omega) (by rw [HL.out]; omega) ?_; intro A2 cap2 w3 o3 g3 _; rw [HL.out])
      have B3 : Below w.heap.size w2 w3 := ((Below.refl _ w2).alloc hsz2 _).trans (IOwn.grownBelow (k := .u8) (e := 5) (A := some ⟨g, 0, none⟩) (cap := cap) (l := l) (by exact O2.out.alloc _) g3 (by simp; omega))
      obtain ⟨gg, rfl, _, _, _⟩ := o3.cell (by simp)
      have BB3 := hide B3
      have O3 := hide o3
      clear B3 g3 o3
      go_wp2
      exact ⟨⟨i - 1, k + 1, gg, cap2, l ++ [y], by omega, by rw [List.length_append, HL.out]; rfl, rfl, by go_num, O3, hide (R2.out.keep (BB3.out.mono (by omega))), hide (grown_then_below G2.out BB3.out)⟩, by simp [intOf]; omega⟩
    · have hi0 : ¬ ((0 : Int) < (i : Int)) := by omega
      have HC := own_string O.out
      rw [HL.out] at HC
      have hz : (strOfNums l).size ≤ 200 := by rw [strOfNums_size, HL.out]; omega
      generalize strOfNums l = t at *
      go_wp2
      go_ret
      exact ⟨t, hz, rfl, R.out, G.out⟩

/-- a text comes out, and nothing old has turned -/
def DrawnT (most : Nat) (w : World) (e : Ending) (w' : World) : Prop := ∃ t : ByteArray, t.size ≤ most ∧ e = .returned (.string t) ∧ Below w.heap.size w w'


set_option maxRecDepth 100000 in
set_option maxHeartbeats 1000000 in
theorem drawFrameOf_any (A : Option Addr) (n cap : Nat) (w : World) (hn : n ≤ 1048576) (hin : CIn w w.heap.size A n) :
    Calls Tryd.prog 16 #[.slice A n cap] w fun e w' => ∃ s : ByteArray, s.size ≤ 300 ∧ e = .returned (.string s) ∧ Below w.heap.size w w' := by
  have O := hide (l1Open_any A n cap w hn hin)
  clear hin
  go_enter Tryd.func16, Tryd.ntmps16
  go_wp2_with fail
  refine O.out.mono ?_
  rintro e w1 ⟨rfl, r1, b1⟩
  have B1 := hide b1
  clear b1 O
  go_wp2_with fail
  refine (text_any w.heap.size w1 r1).mono ?_
  rintro e w2 ⟨x, hx, rfl, r2, g2⟩
  have B2 := hide (B1.out.trans (grown_below g2 B1.out.size))
  clear r1 g2 B1
  go_wp2_with fail
  refine (bytes_any w.heap.size 5 w2 r2 (by omega) (by omega)).mono ?_
  rintro e w3 ⟨y, hy, rfl, r3, g3⟩
  have B3 := hide (B2.out.trans (grown_below g3 B2.out.size))
  clear r2 r3 g3 B2
  have hz : (x ++ y).size ≤ 300 := by rw [ByteArray.size_append]; omega
  go_wp2
  go_ret
  exact ⟨x ++ y, hz, rfl, B3.out⟩

theorem frameT_small {x : ByteArray} (h : x.size ≤ 12) : (frameT x).size ≤ 20 := by
  unfold frameT
  rw [if_pos (by omega), frameL_size]
  omega
set_option maxRecDepth 100000 in
set_option maxHeartbeats 1000000 in
theorem drawTakeFrames_any (A : Option Addr) (n cap : Nat) (w : World) (hn : n ≤ 1048576) (hin : CIn w w.heap.size A n) :
    Calls Tryd.prog 14 #[.slice A n cap] w fun e w' => ∃ s : ByteArray, s.size ≤ 1001 ∧ e = .returned (.string s) ∧ Below w.heap.size w w' := by
  have O := hide (l1Open_any A n cap w hn hin)
  clear hin
  go_enter Tryd.func14, Tryd.ntmps14
  go_wp2_with fail
  refine O.out.mono ?_
  rintro e w1 ⟨rfl, r1, b1⟩
  have B1 := hide b1
  clear b1 O
  go_wp2_with fail
  refine (below_any w.heap.size 4 w1 r1 (by omega) (by omega)).mono ?_
  rintro e w2 ⟨y, hy0, hy1, rfl, r2, g2⟩
  have B2 := hide (B1.out.trans (grown_below g2 B1.out.size))
  have R2 := hide r2
  clear r1 r2 g2 B1
  obtain ⟨k, rfl⟩ := Int.eq_ofNat_of_zero_le hy0
  go_wp2_with fail
  go_loopw [4, 5] (fun sv iv wr => ∃ (s : ByteArray) (i : Nat), s.size + 20 * i ≤ 60 ∧ sv = .string s ∧ iv = .int .i64 (i : Int) ∧ Hid (Rd wr w.heap.size) ∧ Hid (Below w.heap.size w wr)) (fun _ i _ => (intOf i).toNat)
  case atStart => exact ⟨ByteArray.empty, k, by simp; omega, rfl, rfl, R2, B2⟩
  case round =>
    clear R2 B2
    obtain ⟨s, i, hi, rfl, rfl, R, Q⟩ := hrel
    by_cases h0 : 0 < i
    · have h1 : (0 : Int) < (i : Int) := by omega
      go_wp2_with fail
      refine (text_any w.heap.size wr R.out).mono ?_
      rintro e w3 ⟨x, hx, rfl, r3, g3⟩
      have B3 := hide (Q.out.trans (grown_below g3 Q.out.size))
      have R3 := hide r3
      clear r3 g3 R Q
      go_wp2_with fail
      refine (specFrameOf_any x w3 (by unfold maxLen; omega)).mono ?_
      rintro e w4 ⟨rfl, b4⟩
      have B4 := hide (B3.out.trans (b4.mono B3.out.size))
      have R4 := hide (R3.out.below b4)
      clear b4 B3 R3
      have hf := frameT_small hx
      generalize frameT x = f at *
      have hz : (s ++ f).size = s.size + f.size := ByteArray.size_append
      have hz2 : (s ++ f).size ≤ 1000 := by omega
      have HZ := hide hz
      clear hz
      go_wp2
      go_roundw
      case rel => exact ⟨s ++ f, i - 1, by rw [HZ.out]; omega, rfl, by go_num, R4, B4⟩
      case measure => simp [intOf]; omega
    · have h1 : ¬ ((0 : Int) < (i : Int)) := by omega
      go_wp2_with fail
      refine (hurt_any w.heap.size s wr R.out (by omega)).mono ?_
      rintro e w3 ⟨x, hx, rfl, r3, g3⟩
      have B3 := hide (Q.out.trans (grown_below g3 Q.out.size))
      clear r3 g3 R Q
      go_wp2
      go_ret
      exact ⟨x, hx, rfl, B3.out⟩
end Go.Proofs.YtpnbolekhgcacaaDoor
