/-
  What impl.Sha256 gives.
-/
import Derived.Test.YtdahpnjamlfakaaGreatDoorQPad
import Derived.Test.YtdahpnjamlfakaaGreatDoorQMix
import Derived.Test.YtdahpnjamlfakaaGreatDoorQBytes
import Derived.Deep.RegionWith
import Derived.Deep.MidRow
namespace Go.Proofs.YtdahpnjamlfakaaGreatDoor
open Go.RowKit

/-- eight words as a string -/
def digB (v : Nat → Int) : ByteArray := strOfNums ([v 0, v 1, v 2, v 3, v 4, v 5, v 6, v 7].flatMap bytesI)
/-- the digest of a text, without the bound -/
def shaL (s : ByteArray) : ByteArray := digB (stTo (padY s) (padN s.size / 64))
/-- the digest of a text; nothing for more than 2000 bytes -/
def shaB (s : ByteArray) : ByteArray := if s.size ≤ 2000 then shaL s else ByteArray.empty
/-- what the package-level tables hold -/
def Tabs (w : World) : Prop := 2 < w.heap.size ∧ At w 1 8 (fun j => fTab.getD j 0) ∧ At w 2 64 ksI
theorem Tabs.below {w w' : World} {B : Nat} (h : Tabs w) (q : Below B w w') (hB : 2 < B) : Tabs w' := ⟨by have := q.size; have := h.1; omega, h.2.1.below q (by omega), h.2.2.below q hB⟩

theorem row8 {w : World} {g : Nat} {t : TypeId} {v : Nat → Int} (u : Nat → Int) (h : w.heap[g]? = some (.cells (wordsA v 8) t (0, 0))) :
    ((((((((w.setCell ⟨g, 0, none⟩ (.int .u32 (u 0))).setCell ⟨g, 1, none⟩ (.int .u32 (u 1))).setCell ⟨g, 2, none⟩ (.int .u32 (u 2))).setCell ⟨g, 3, none⟩ (.int .u32 (u 3))).setCell ⟨g, 4, none⟩ (.int .u32 (u 4))).setCell ⟨g, 5, none⟩ (.int .u32 (u 5))).setCell ⟨g, 6, none⟩ (.int .u32 (u 6))).setCell ⟨g, 7, none⟩ (.int .u32 (u 7))).heap[g]? = some (.cells (wordsA u 8) t (0, 0)) := by
  have h0 := heap_setCell_same w g 0 _ t (.int .u32 (u 0)) h
  have h1 := heap_setCell_same _ g 1 _ t (.int .u32 (u 1)) h0
  have h2 := heap_setCell_same _ g 2 _ t (.int .u32 (u 2)) h1
  have h3 := heap_setCell_same _ g 3 _ t (.int .u32 (u 3)) h2
  have h4 := heap_setCell_same _ g 4 _ t (.int .u32 (u 4)) h3
  have h5 := heap_setCell_same _ g 5 _ t (.int .u32 (u 5)) h4
  have h6 := heap_setCell_same _ g 6 _ t (.int .u32 (u 6)) h5
  have h7 := heap_setCell_same _ g 7 _ t (.int .u32 (u 7)) h6
  rw [h7]
  simp only [wordsA_set]
  rw [wordsA_congr (f' := u) (fun j hj => by
    rcases (show j = 0 ∨ j = 1 ∨ j = 2 ∨ j = 3 ∨ j = 4 ∨ j = 5 ∨ j = 6 ∨ j = 7 by omega) with e | e | e | e | e | e | e | e <;> subst e <;> simp)]
theorem below8 {B : Nat} {a w : World} (h : Below B a w) {g : Nat} (hg : B ≤ g) (c0 c1 c2 c3 c4 c5 c6 c7 : Value) :
    Below B a ((((((((w.setCell ⟨g, 0, none⟩ c0).setCell ⟨g, 1, none⟩ c1).setCell ⟨g, 2, none⟩ c2).setCell ⟨g, 3, none⟩ c3).setCell ⟨g, 4, none⟩ c4).setCell ⟨g, 5, none⟩ c5).setCell ⟨g, 6, none⟩ c6).setCell ⟨g, 7, none⟩ c7) :=
  (((((((h.setCell (p := ⟨g, 0, none⟩) hg _).setCell (p := ⟨g, 1, none⟩) hg _).setCell (p := ⟨g, 2, none⟩) hg _).setCell (p := ⟨g, 3, none⟩) hg _).setCell (p := ⟨g, 4, none⟩) hg _).setCell (p := ⟨g, 5, none⟩) hg _).setCell (p := ⟨g, 6, none⟩) hg _).setCell (p := ⟨g, 7, none⟩) hg _

/-- shaMixed_any, the state written out -/
theorem shaMixed_lit (v x : Nat → Int) (w : World) (hv : ∀ j, j < 8 → isW (v j)) (hx : ∀ j, j < 64 → isW (x j)) (hg : 2 < w.heap.size) (hG : At w 2 64 ksI) :
    Calls Tryz.prog 129 #[.agg #[.int .u32 (v 0), .int .u32 (v 1), .int .u32 (v 2), .int .u32 (v 3), .int .u32 (v 4), .int .u32 (v 5), .int .u32 (v 6), .int .u32 (v 7)], .agg (wordsA x 64)] w fun e w' => e = .returned (.agg #[.int .u32 (mixI v x 0), .int .u32 (mixI v x 1), .int .u32 (mixI v x 2), .int .u32 (mixI v x 3), .int .u32 (mixI v x 4), .int .u32 (mixI v x 5), .int .u32 (mixI v x 6), .int .u32 (mixI v x 7)]) ∧ Below w.heap.size w w' := by
  rw [wordsA8 v, wordsA8 (mixI v x)]
  exact shaMixed_any v x w hv hx hg hG

set_option maxRecDepth 100000 in
set_option maxHeartbeats 2000000 in
theorem shaI_any (s : ByteArray) (w : World) (hs : s.size ≤ 2000) (hT : Tabs w) :
    Calls Tryz.prog 87 #[.string s] w fun e w' => e = .returned (.string (shaL s)) ∧ Below w.heap.size w w' := by
  have HT := hide hT
  clear hT
  go_enter Tryz.func87, Tryz.ntmps87
  go_wp2_with fail
  refine (shaPadded_any s _ hs).mono ?_
  rintro e w1 ⟨rfl, hb1, hr1⟩
  have B1 := hide hb1
  have R1 := hide hr1
  clear hb1 hr1
  have T1 := hide (HT.out.below B1.out HT.out.1)
  obtain ⟨hg1, f0, _⟩ := T1.out
  have g0 := f0 0 (by omega)
  have g1 := f0 1 (by omega)
  have g2 := f0 2 (by omega)
  have g3 := f0 3 (by omega)
  have g4 := f0 4 (by omega)
  have g5 := f0 5 (by omega)
  have g6 := f0 6 (by omega)
  have g7 := f0 7 (by omega)
  clear f0
  go_wp2
  have M0 : Hid ((w1.alloc (.cells #[.int .u32 (fTab[0]?.getD 0), .int .u32 (fTab[1]?.getD 0), .int .u32 (fTab[2]?.getD 0), .int .u32 (fTab[3]?.getD 0), .int .u32 (fTab[4]?.getD 0), .int .u32 (fTab[5]?.getD 0), .int .u32 (fTab[6]?.getD 0), .int .u32 (fTab[7]?.getD 0)] 150)).heap[w1.heap.size]? = some (.cells (wordsA (stTo (padY s) 0) 8) 150 (0, 0))) := hide (by
    rw [heap_alloc_new, ← wordsA8]
    simp [stTo])
  have L0 : Hid (Below w1.heap.size w1 (w1.alloc (.cells #[.int .u32 (fTab[0]?.getD 0), .int .u32 (fTab[1]?.getD 0), .int .u32 (fTab[2]?.getD 0), .int .u32 (fTab[3]?.getD 0), .int .u32 (fTab[4]?.getD 0), .int .u32 (fTab[5]?.getD 0), .int .u32 (fTab[6]?.getD 0), .int .u32 (fTab[7]?.getD 0)] 150))) := hide ((Below.refl _ _).alloc (Nat.le_refl _) _)
  clear g0 g1 g2 g3 g4 g5 g6 g7
  generalize w1.alloc (.cells #[.int .u32 (fTab[0]?.getD 0), .int .u32 (fTab[1]?.getD 0), .int .u32 (fTab[2]?.getD 0), .int .u32 (fTab[3]?.getD 0), .int .u32 (fTab[4]?.getD 0), .int .u32 (fTab[5]?.getD 0), .int .u32 (fTab[6]?.getD 0), .int .u32 (fTab[7]?.getD 0)] 150) = w2 at M0 L0 ⊢
  have hw01 : w.heap.size < w1.heap.size := (Array.getElem?_eq_some_iff.1 R1.out).1
  have hN : Hid (padN s.size = 64 * (padN s.size / 64)) := hide (by unfold padN; omega)
  have hN2 : padN s.size ≤ 2072 := by have := padN_le s.size; omega
  have Y := hide (padY_byte s)
  have FIN : Hid (shaL s = digB (stTo (padY s) (padN s.size / 64))) := hide rfl
  generalize padN s.size / 64 = M at *
  generalize padN s.size = N at *
  generalize padY s = y at *
  have hN3 : N ≤ 64 * M := by have := hN.out; omega
  have hN4 : 64 * M ≤ N := by have := hN.out; omega
  clear hN
  go_loopw [5] (fun iv wr => ∃ n q : Nat, n ≤ M ∧ q ≤ 64 * n ∧ 64 * n ≤ q ∧ iv = .int .i64 (q : Int) ∧ Hid (wr.heap[w1.heap.size]? = some (.cells (wordsA (stTo y n) 8) 150 (0, 0))) ∧ Hid (Below w1.heap.size w1 wr)) (fun i _ => N - (intOf i).toNat)
  case atStart => exact ⟨0, 0, by omega, by omega, by omega, rfl, M0, L0⟩
  case round =>
    clear M0 L0
    obtain ⟨n, q, hn, hq1, hq2, rfl, R, Q⟩ := hrel
    have V := hide (stTo_word y n)
    have cc := fun j (hj : j < 8) => (cell_of_row wr w1.heap.size j _ _ _ R.out).trans (wordsA_get (stTo y n) hj)
    have d0 := cc 0 (by omega)
    have d1 := cc 1 (by omega)
    have d2 := cc 2 (by omega)
    have d3 := cc 3 (by omega)
    have d4 := cc 4 (by omega)
    have d5 := cc 5 (by omega)
    have d6 := cc 6 (by omega)
    have d7 := cc 7 (by omega)
    clear cc
    by_cases hlt : q < N
    · have X := hide (wAt_word (m := mOf fun i => y (64 * n + i)) fun j _ => or_word _ _)
      have ST : Hid (stTo y (n + 1) = mixI (stTo y n) (wAt (mOf fun i => y (64 * n + i)))) := hide rfl
      have pad : Hid (∀ i, i < 64 → wr.cell? ⟨w.heap.size, q + i, none⟩ = some (.int .u8 (y (64 * n + i)))) := hide fun i hi => by
        rw [Q.out.cell (p := ⟨w.heap.size, q + i, none⟩) hw01, cell_of_row w1 w.heap.size _ _ _ _ R1.out, bytesA_get _ (by omega), show q + i = 64 * n + i by omega]
      have TT := hide (T1.out.below Q.out hg1)
      have hgr : w1.heap.size < wr.heap.size := (Array.getElem?_eq_some_iff.1 R.out).1
      have SCH : Hid (Calls Tryz.prog 130 #[.slice (some ⟨w.heap.size, q, none⟩) 64 (N - q)] wr.drew fun e w' => e = .returned (.agg (wordsA (wAt (mOf fun i => y (64 * n + i))) 64)) ∧ Below wr.heap.size wr w') := hide ((shaSchedule_any w.heap.size q (N - q) (fun i => y (64 * n + i)) wr.drew (by show w.heap.size < wr.heap.size; omega) (fun i _ => Y.out _) (fun i hi => pad.out i hi)).mono fun e w' h => ⟨h.1, ((Below.refl _ wr).drew).trans h.2⟩)
      generalize hv : stTo y n = v at *
      generalize (wAt (mOf fun i => y (64 * n + i))) = x at *
      have w64 : IntKind.i64.wrap ((q : Int) + 64) = (q : Int) + 64 := by rw [IntKind.wrap_i64]; omega
      have HV := hide hv
      clear hv
      have p0 : (0 : Int) ≤ (q : Int) := by omega
      have p1 : (q : Int) ≤ (q : Int) + 64 := by omega
      have p2 : (q : Int) + 64 ≤ (N : Int) := by omega
      have p3 : ((q : Int) + 64).toNat = q + 64 := by omega
      have p4 : ¬ N = q := by omega
      have p5 : q + 64 - q = 64 := by omega
      go_wp2
      go_region_with (first
        | (go_at_call 130; refine SCH.out.mono ?_; rintro e w3 ⟨rfl, hb3⟩; have H3 := hide hb3; clear hb3; have e0 := (H3.out.cell (p := ⟨w1.heap.size, 0, none⟩) (by exact hgr)).trans d0; have e1 := (H3.out.cell (p := ⟨w1.heap.size, 1, none⟩) (by exact hgr)).trans d1; have e2 := (H3.out.cell (p := ⟨w1.heap.size, 2, none⟩) (by exact hgr)).trans d2; have e3 := (H3.out.cell (p := ⟨w1.heap.size, 3, none⟩) (by exact hgr)).trans d3; have e4 := (H3.out.cell (p := ⟨w1.heap.size, 4, none⟩) (by exact hgr)).trans d4; have e5 := (H3.out.cell (p := ⟨w1.heap.size, 5, none⟩) (by exact hgr)).trans d5; have e6 := (H3.out.cell (p := ⟨w1.heap.size, 6, none⟩) (by exact hgr)).trans d6; have e7 := (H3.out.cell (p := ⟨w1.heap.size, 7, none⟩) (by exact hgr)).trans d7)
        | (go_at_call 129; refine (shaMixed_lit v x _ V.out (fun j _ => X.out j) (TT.out.below H3.out (by omega)).1 (TT.out.below H3.out (by omega)).2.2).mono ?_; rintro e w4 ⟨rfl, hb4⟩; have H4 := hide hb4; clear hb4; have hs3 := H3.out.size; have R4 := hide ((H4.out.block w1.heap.size (by omega)).trans ((H3.out.block w1.heap.size hgr).trans R.out)); have i0 := (cell_of_row w4 w1.heap.size 0 _ _ _ R4.out).trans (wordsA_get v (show 0 < 8 by omega)); have f0 := frozen_of_row w4 w1.heap.size 0 _ _ R4.out; have i1 := (cell_of_row w4 w1.heap.size 1 _ _ _ R4.out).trans (wordsA_get v (show 1 < 8 by omega)); have f1 := frozen_of_row w4 w1.heap.size 1 _ _ R4.out; have i2 := (cell_of_row w4 w1.heap.size 2 _ _ _ R4.out).trans (wordsA_get v (show 2 < 8 by omega)); have f2 := frozen_of_row w4 w1.heap.size 2 _ _ R4.out; have i3 := (cell_of_row w4 w1.heap.size 3 _ _ _ R4.out).trans (wordsA_get v (show 3 < 8 by omega)); have f3 := frozen_of_row w4 w1.heap.size 3 _ _ R4.out; have i4 := (cell_of_row w4 w1.heap.size 4 _ _ _ R4.out).trans (wordsA_get v (show 4 < 8 by omega)); have f4 := frozen_of_row w4 w1.heap.size 4 _ _ R4.out; have i5 := (cell_of_row w4 w1.heap.size 5 _ _ _ R4.out).trans (wordsA_get v (show 5 < 8 by omega)); have f5 := frozen_of_row w4 w1.heap.size 5 _ _ R4.out; have i6 := (cell_of_row w4 w1.heap.size 6 _ _ _ R4.out).trans (wordsA_get v (show 6 < 8 by omega)); have f6 := frozen_of_row w4 w1.heap.size 6 _ _ R4.out; have i7 := (cell_of_row w4 w1.heap.size 7 _ _ _ R4.out).trans (wordsA_get v (show 7 < 8 by omega)); have f7 := frozen_of_row w4 w1.heap.size 7 _ _ R4.out))
      all_goals
        clear d0 d1 d2 d3 d4 d5 d6 d7 e0 e1 e2 e3 e4 e5 e6 e7 i0 i1 i2 i3 i4 i5 i6 i7 f0 f1 f2 f3 f4 f5 f6 f7
        go_wp2
        refine ⟨⟨n + 1, q + 64, by omega, by omega, by omega, by go_num, hide ?_, hide ?_⟩, by simp [intOf]; omega⟩
        · rw [ST.out]; exact row8 (mixI v x) R4.out
        · exact below8 (Q.out.trans ((H3.out.mono (by omega)).trans (H4.out.mono (by omega)))) (Nat.le_refl _) _ _ _ _ _ _ _ _
    · have hgt : ¬ ((q : Int) < (N : Int)) := by omega
      have en : Hid (n = M) := hide (by omega)
      clear hlt
      go_wp2_with fail
      refine (shaBytes_any (stTo y n 0) (stTo y n 1) (stTo y n 2) (stTo y n 3) (stTo y n 4) (stTo y n 5) (stTo y n 6) (stTo y n 7) _ (V.out 0 (by omega)) (V.out 1 (by omega)) (V.out 2 (by omega)) (V.out 3 (by omega)) (V.out 4 (by omega)) (V.out 5 (by omega)) (V.out 6 (by omega)) (V.out 7 (by omega))).mono ?_
      rintro e w3 ⟨rfl, hb3⟩
      have H3 := hide hb3
      clear hb3
      go_wp2
      go_ret
      have hq := Q.out.size
      refine ⟨ret_str ?_, B1.out.trans ((Q.out.mono (by omega)).trans (H3.out.mono (by omega)))⟩
      rw [FIN.out, ← en.out]
      rfl
end Go.Proofs.YtdahpnjamlfakaaGreatDoor
