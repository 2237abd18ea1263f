/-
  What is drawn for the digests: bytes, DrawSha256, DrawIdOf, DrawIdOk (loosely: that these are texts, and how long they are at most).
-/
import Derived.Test.YtklcjeelccblaaaDoorRdHurt
import Derived.Test.YtklcjeelccblaaaDoorQIdS
namespace Go.Proofs.YtklcjeelccblaaaDoor
open Go.RowKit

theorem grown_then_below {w w2 w3 : World} {rb : Nat} (h : w.grownBy w2 (some rb)) (hb : Below w.heap.size w2 w3) : w.grownBy w3 (some rb) :=
  ⟨hb.os.trans h.os, hb.tape.trans h.tape, hb.output.trans h.output, Nat.le_trans h.size hb.size, fun i hi hne => (hb.block i hi).trans (h.block i hi hne)⟩
/-- bytes of one's own as a string -/
theorem own_string {w : World} {B : Nat} {g cap : Nat} {l : List Int} (h : IOwn .u8 5 w B (some ⟨g, 0, none⟩) cap l) :
    (convert 22 9 (.slice (some ⟨g, 0, none⟩) l.length cap)).run Tryd.prog w = .ok (.string (strOfNums l)) w := by
  by_cases hl : 0 < l.length
  · obtain ⟨g', e, _, _, hc⟩ := h.cell hl
    injection e with e
    injection e with e
    subst e
    exact run_convert_bytes_arg w 22 5 (by kernel_rfl) (by kernel_rfl) g 0 l.length cap l rfl (fun j hj => by rw [Nat.zero_add, hc j hj]) 9 (by kernel_rfl)
  · exact run_convert_bytes_arg w 22 5 (by kernel_rfl) (by kernel_rfl) g 0 l.length cap l rfl (fun j hj => absurd hj (by omega)) 9 (by kernel_rfl)

set_option maxRecDepth 100000 in
set_option maxHeartbeats 2000000 in
theorem bytes_any (rb : Nat) (most : Int) (w : World) (h : Rd w rb) (h1 : 0 ≤ most) (h2 : most ≤ 200) :
    Calls Tryd.prog 20 #[.pointer (some ⟨rb, 0, none⟩), .int .i64 most] w (RdT rb 200 w) := by
  have hlt := h.lt
  have RA := hide (h.below ((Below.refl _ w).alloc (Nat.le_refl _) (.cells #[] 5)))
  clear h
  go_enter Tryd.func20, Tryd.ntmps20
  go_wp2_with fail
  refine (below_any rb (most + 1) _ RA.out (by omega) (by omega)).mono ?_
  rintro e w1 ⟨x, hx0, hx1, rfl, r1, g1⟩
  have R1 := hide r1
  have G1 := hide (World.grownBy.trans (World.grownBy_alloc w (.cells #[] 5) (some rb)) g1)
  have O1 : Hid (IOwn .u8 5 w1 w.heap.size (some ⟨w.heap.size, 0, none⟩) 0 []) := hide (by
    have o := IOwn.built .u8 5 w w.heap.size (Nat.le_refl _)
    refine o.kept g1 ?_
    right
    intro e
    injection e with e
    have e' : w.heap.size = rb := e
    omega)
  clear r1 g1 RA
  obtain ⟨n0, rfl⟩ := Int.eq_ofNat_of_zero_le hx0
  have hn0 : n0 ≤ 200 := by omega
  go_wp2_with fail
  go_loopw [5, 6] (fun bv iv wr => ∃ (i k g cap : Nat) (l : List Int), k + i ≤ 200 ∧ l.length = k ∧ bv = .slice (some ⟨g, 0, none⟩) k cap ∧ iv = .int .i64 (i : Int) ∧ Hid (IOwn .u8 5 wr w.heap.size (some ⟨g, 0, none⟩) cap l) ∧ Hid (Rd wr rb) ∧ Hid (w.grownBy wr (some rb))) (fun _ i _ => (intOf i).toNat)
  case atStart => exact ⟨n0, 0, _, _, [], by omega, rfl, rfl, rfl, O1, R1, G1⟩
  case round =>
    clear O1 R1 G1
    obtain ⟨i, k, g, cap, l, hki, hl, rfl, rfl, O, R, G⟩ := hrel
    have HL := hide hl
    clear hl
    by_cases hi : 0 < i
    · have hi0 : (0 : Int) < (i : Int) := by omega
      go_wp2_with fail
      refine (below_any rb 256 _ R.out (by omega) (by omega)).mono ?_
      rintro e w2 ⟨y, hy0, hy1, rfl, r2, g2⟩
      have hsz : w.heap.size ≤ wr.heap.size := G.out.size
      have R2 := hide r2
      have G2 := hide (World.grownBy.trans G.out g2)
      have O2 : Hid (IOwn .u8 5 w2 w.heap.size (some ⟨g, 0, none⟩) cap l) := hide (by
        refine O.out.kept g2 ?_
        right
        have := O.out.lt g rfl
        intro e
        injection e with e
        have e' : g = rb := e
        omega)
      have hsz2 : w.heap.size ≤ w2.heap.size := G2.out.size
      clear r2 g2 O R G
      have hyb : y ≤ 255 := by omega
      go_wp2_with (at_builtin; refine wpList_iapp (k := .u8) (e := 5) (z := .int .u8 0) (nb := 1) (B := w.heap.size) (A := some ⟨g, 0, none⟩) (cap := cap) (l := l) (news := [y]) (g := w2.heap.size) (m := 1) (c := 1) rfl (.tmp 16) (.tmp 20) rfl Tryd.underlying22 infoB rfl (by omega) (by rw [HL.out]; rfl) rfl (by exact O2.out.alloc _) rfl (by exact cell_one_at w2 _ _ _ _ rfl) (by simp; omega) (by rw [HL.out]; omega) ?_; intro A2 cap2 w3 o3 g3 _; rw [HL.out])
      have B3 : Below w.heap.size w2 w3 := ((Below.refl _ w2).alloc hsz2 _).trans (IOwn.grownBelow (k := .u8) (e := 5) (A := some ⟨g, 0, none⟩) (cap := cap) (l := l) (by exact O2.out.alloc _) g3 (by simp; omega))
      obtain ⟨gg, rfl, _, _, _⟩ := o3.cell (by simp)
      have BB3 := hide B3
      have O3 := hide o3
      clear B3 g3 o3
      go_wp2
      exact ⟨⟨i - 1, k + 1, gg, cap2, l ++ [y], by omega, by rw [List.length_append, HL.out]; rfl, rfl, by go_num, O3, hide (R2.out.keep (BB3.out.mono (by omega))), hide (grown_then_below G2.out BB3.out)⟩, by simp [intOf]; omega⟩
    · have hi0 : ¬ ((0 : Int) < (i : Int)) := by omega
      have HC := own_string O.out
      rw [HL.out] at HC
      have hz : (strOfNums l).size ≤ 200 := by rw [strOfNums_size, HL.out]; omega
      generalize strOfNums l = t at *
      go_wp2
      go_ret
      exact ⟨t, hz, rfl, R.out, G.out⟩

/-- a text comes out, and nothing old has turned -/
def DrawnT (most : Nat) (w : World) (e : Ending) (w' : World) : Prop := ∃ t : ByteArray, t.size ≤ most ∧ e = .returned (.string t) ∧ Below w.heap.size w w'

set_option maxRecDepth 100000 in
set_option maxHeartbeats 2000000 in
theorem drawSha_any (A : Option Addr) (n cap : Nat) (w : World) (hn : n ≤ 1048576) (hin : CIn w w.heap.size A n) :
    Calls Tryd.prog 8 #[.slice A n cap] w (DrawnT 200 w) := by
  go_enter Tryd.func8, Tryd.ntmps8
  go_wp2_with fail
  refine (l1Open_any A n cap w hn hin).mono ?_
  rintro e w1 ⟨rfl, r1, b1⟩
  have B1 := hide b1
  clear b1 hin
  go_wp2_with fail
  refine (once_any w.heap.size 3 w1 r1 (by omega) (by omega)).mono ?_
  rintro e w2 ⟨x, rfl, r2, g2⟩
  have B2 := hide (B1.out.trans (grown_below g2 B1.out.size))
  clear g2 r1 B1
  cases x
  · go_wp2_with fail
    refine (bytes_any w.heap.size 130 w2 r2 (by omega) (by omega)).mono ?_
    rintro e w3 ⟨t, ht, rfl, r3, g3⟩
    have B3 := hide (B2.out.trans (grown_below g3 B2.out.size))
    clear g3 r2 r3 B2
    go_wp2
    go_ret
    exact ⟨t, ht, rfl, B3.out⟩
  · go_wp2_with fail
    refine (below_any w.heap.size 13 w2 r2 (by omega) (by omega)).mono ?_
    rintro e w3 ⟨y, hy0, hy1, rfl, r3, g3⟩
    have B3 := hide (B2.out.trans (grown_below g3 B2.out.size))
    clear g3 r2 r3 B2
    obtain ⟨k, rfl⟩ := Int.eq_ofNat_of_zero_le hy0
    have hk : k ≤ 12 := by omega
    have hmk : (Instr.makeSlice 22 (.int .i64 (53 + (k : Int))) (.int .i64 (53 + (k : Int)))).run Tryd.prog w3 = .ok (.slice (some ⟨w3.heap.size, 0, none⟩) (53 + k) (53 + k)) (w3.alloc (.cells (bytesA (fun _ => 0) (53 + k)) 5)) := by
      have h := run_mkb w3 (53 + k) (by omega)
      rw [show ((53 + k : Nat) : Int) = 53 + (k : Int) by omega] at h
      exact h
    have HC := run_convert_bytes_arg (P := Tryd.prog) (w3.alloc (.cells (bytesA (fun _ => 0) (53 + k)) 5)) 22 5 (by kernel_rfl) (by kernel_rfl) w3.heap.size 0 (53 + k) (53 + k) (List.replicate (53 + k) 0) (by simp) (fun i hi => by
      rw [Nat.zero_add, cell_of_row _ _ i _ _ _ (heap_alloc_new w3 _), bytesA_get _ hi]
      simp [hi]) 9 (by kernel_rfl)
    have hz : (strOfNums (List.replicate (53 + k) 0)).size ≤ 200 := by rw [strOfNums_size]; simp; omega
    generalize strOfNums (List.replicate (53 + k) 0) = t at *
    go_wp2
    go_ret
    exact ⟨t, hz, rfl, B3.out.alloc B3.out.size _⟩

theorem drawIdOf_any (A : Option Addr) (n cap : Nat) (w : World) (hn : n ≤ 1048576) (hin : CIn w w.heap.size A n) :
    Calls Tryd.prog 10 #[.slice A n cap] w (DrawnT 200 w) := by
  go_enter Tryd.func10, Tryd.ntmps10
  go_wp2_with fail
  refine (drawSha_any A n cap w hn hin).mono ?_
  rintro e w1 ⟨t, ht, rfl, b1⟩
  have B1 := hide b1
  clear b1 hin
  go_wp2
  go_ret
  exact ⟨t, ht, rfl, B1.out⟩

set_option maxRecDepth 100000 in
set_option maxHeartbeats 2000000 in
theorem drawIdOk_any (A : Option Addr) (n cap : Nat) (w : World) (hn : n ≤ 1048576) (hin : CIn w w.heap.size A n) :
    Calls Tryd.prog 12 #[.slice A n cap] w (DrawnT 1001 w) := by
  go_enter Tryd.func12, Tryd.ntmps12
  go_wp2_with fail
  refine (l1Open_any A n cap w hn hin).mono ?_
  rintro e w1 ⟨rfl, r1, b1⟩
  have B1 := hide b1
  clear b1 hin
  go_wp2_with fail
  refine (bytes_any w.heap.size 3 w1 r1 (by omega) (by omega)).mono ?_
  rintro e w2 ⟨t, ht, rfl, r2, g2⟩
  have B2 := hide (B1.out.trans (grown_below g2 B1.out.size))
  clear g2 r1 B1
  go_wp2_with fail
  refine (specId t w2 (by unfold maxLen; omega)).mono ?_
  rintro e w3 ⟨rfl, b3⟩
  have B3 := hide (B2.out.trans (b3.mono B2.out.size))
  have R3 := hide (r2.below b3)
  have hz : (idT t).size ≤ 1000 := by rw [idT_in (by omega), idL_size]; omega
  clear r2 b3 B2
  generalize idT t = s at *
  go_wp2_with fail
  refine (once_any w.heap.size 2 w3 R3.out (by omega) (by omega)).mono ?_
  rintro e w4 ⟨x, rfl, r4, g4⟩
  have B4 := hide (B3.out.trans (grown_below g4 B3.out.size))
  clear g4 B3 R3
  cases x
  · go_wp2_with fail
    refine (hurt_any w.heap.size s w4 r4 hz).mono ?_
    rintro e w5 ⟨u, hu, rfl, r5, g5⟩
    have B5 := hide (B4.out.trans (grown_below g5 B4.out.size))
    clear g5 r4 r5 B4
    go_wp2
    go_ret
    exact ⟨u, hu, rfl, B5.out⟩
  · clear r4
    go_wp2
    go_ret
    exact ⟨s, by omega, rfl, B4.out⟩
end Go.Proofs.YtklcjeelccblaaaDoor
