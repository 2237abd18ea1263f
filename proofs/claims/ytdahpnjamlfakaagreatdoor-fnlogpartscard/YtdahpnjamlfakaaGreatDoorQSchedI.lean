/-
  What impl.shaSchedule makes of a block's bytes.
-/
import Derived.Test.YtdahpnjamlfakaaGreatDoorQSched
import Derived.StillTailTactics
import Derived.Laws.Rows
import Derived.Laws.Tables
namespace Go.Proofs.YtdahpnjamlfakaaGreatDoor
open Go.RowKit

/-- n words as cells -/
def wordsA (f : Nat → Int) (n : Nat) : Array Value := ((List.range n).map fun j => Value.int .u32 (f j)).toArray
theorem wordsA_size (f : Nat → Int) (n : Nat) : (wordsA f n).size = n := by simp [wordsA]
theorem wordsA_get (f : Nat → Int) {n j : Nat} (h : j < n) : (wordsA f n)[j]? = some (.int .u32 (f j)) := by simp [wordsA, h]
theorem wordsA_one (f : Nat → Int) (n : Nat) : (wordsA f n).all (·.oneCell') = true := by
  refine Array.all_eq_true_iff_forall_mem.2 fun v hv => ?_
  simp [wordsA] at hv
  obtain ⟨a, _, rfl⟩ := hv
  rfl
theorem wordsA_eq {f : Nat → Int} {n : Nat} {cs : Array Value} (hs : cs.size = n) (h : ∀ j, j < n → cs[j]? = some (.int .u32 (f j))) : cs = wordsA f n := by
  apply Array.ext_getElem?
  intro j
  by_cases hj : j < n
  · rw [h j hj, wordsA_get f hj]
  · rw [Array.getElem?_eq_none (by omega), Array.getElem?_eq_none (by rw [wordsA_size]; omega)]
theorem Arr.full {w : World} {g : Nat} {t : TypeId} {f : Nat → Int} (h : Arr w g t f 64) : w.heap[g]? = some (.cells (wordsA f 64) t (0, 0)) := by
  obtain ⟨cs, hh, hs, hc⟩ := h
  rw [hh, wordsA_eq hs hc]
theorem Arr.other {w : World} {g k : Nat} {t : TypeId} {f : Nat → Int} (h : Arr w g t f k) (p : Addr) (v : Value) (hp : g ≠ p.block) : Arr (w.setCell p v) g t f k := by
  obtain ⟨cs, hh, hs, hc⟩ := h
  exact ⟨cs, by rw [heap_setCell_other w p g v hp]; exact hh, hs, hc⟩
theorem Below.setRow {B : Nat} {a w : World} (h : Below B a w) {g : Nat} (hg : B ≤ g) (cs : Array Value) : Below B a (w.setRow g cs) :=
  h.trans ⟨rfl, rfl, rfl, by simp, fun k hk => setRow_other w g k cs (by omega)⟩

set_option maxRecDepth 100000 in
set_option maxHeartbeats 1000000 in
theorem shaSchedule_any (b off cap : Nat) (y : Nat → Int) (w : World) (hb : b < w.heap.size) (hy : ∀ i, i < 64 → 0 ≤ y i ∧ y i < 256) (hc : ∀ i, i < 64 → w.cell? ⟨b, off + i, none⟩ = some (.int .u8 (y i))) :
    Calls Tryz.prog 130 #[.slice (some ⟨b, off, none⟩) 64 cap] w fun e w' => e = .returned (.agg (wordsA (wAt (mOf y)) 64)) ∧ Below w.heap.size w w' := by
  have HY := hide hy
  have HC := hide hc
  clear hy hc
  go_enter Tryz.func130, Tryz.ntmps130
  go_wp2
  have A0 : Hid (Arr (w.alloc (.cells (Array.replicate 64 (.int .u32 0)) 153) |>.alloc (.cells (Array.replicate 64 (.int .u32 0)) 153)) (w.heap.size + 1) 153 (wAt (mOf y)) 0) := hide (Arr.zero _ (by
    have h := heap_alloc_new (w.alloc (.cells (Array.replicate 64 (.int .u32 0)) 153)) (.cells (Array.replicate 64 (.int .u32 0)) 153)
    have e : (w.alloc (.cells (Array.replicate 64 (.int .u32 0)) 153)).heap.size = w.heap.size + 1 := by simp
    rw [e] at h
    exact h) (by simp))
  have B0 : Hid (Below w.heap.size w (w.alloc (.cells (Array.replicate 64 (.int .u32 0)) 153) |>.alloc (.cells (Array.replicate 64 (.int .u32 0)) 153))) := hide (((Below.refl w.heap.size w).alloc (Nat.le_refl _) _).alloc (by simp) _)
  have R0 : Hid (Arr (w.alloc (.cells (Array.replicate 64 (.int .u32 0)) 153) |>.alloc (.cells (Array.replicate 64 (.int .u32 0)) 153)) w.heap.size 153 (wAt (mOf y)) 0) := hide (Arr.zero _ (heap_alloc2_old w _ _) (by simp))
  go_loopw [10] (fun iv wr => ∃ k : Nat, k ≤ 16 ∧ iv = .int .i64 k ∧ Hid (Arr wr (w.heap.size + 1) 153 (wAt (mOf y)) k) ∧ Hid (Below w.heap.size w wr) ∧ Hid (Arr wr w.heap.size 153 (wAt (mOf y)) 0)) (fun i _ => 16 - (intOf i).toNat)
  case atStart => exact ⟨0, by omega, rfl, A0, B0, R0⟩
  case round =>
    clear A0 B0 R0
    obtain ⟨k, hk, rfl, A, Q, R⟩ := hrel
    by_cases hlt : k < 16
    · have cc : ∀ j, j < 64 → wr.cell? ⟨b, off + j, none⟩ = some (.int .u8 (y j)) := fun j hj => (Q.out.cell (p := ⟨b, off + j, none⟩) hb).trans (HC.out j hj)
      have c0 := cc (4 * k) (by omega)
      have c1 := cc (4 * k + 1) (by omega)
      have c2 := cc (4 * k + 2) (by omega)
      have c3 := cc (4 * k + 3) (by omega)
      obtain ⟨p0, q0⟩ := HY.out (4 * k) (by omega)
      obtain ⟨p1, q1⟩ := HY.out (4 * k + 1) (by omega)
      obtain ⟨p2, q2⟩ := HY.out (4 * k + 2) (by omega)
      obtain ⟨p3, q3⟩ := HY.out (4 * k + 3) (by omega)
      have Z := hide (A.out.store (k := k) (by omega))
      obtain ⟨v0, cv⟩ := A.out.has (j := k) (by omega)
      have hfr : wr.frozen? ⟨w.heap.size + 1, k, none⟩ = false := by
        obtain ⟨cs, hh, _, _⟩ := A.out
        exact frozen_of_row wr _ k cs _ hh
      have em : Hid (wAt (mOf y) k = beI (y (4 * k)) (y (4 * k + 1)) (y (4 * k + 2)) (y (4 * k + 3))) := hide (by rw [wAt_low _ hlt]; rfl)
      clear cc
      generalize y (4 * k) = y0 at *
      generalize y (4 * k + 1) = y1 at *
      generalize y (4 * k + 2) = y2 at *
      generalize y (4 * k + 3) = y3 at *
      go_wp2
      go_region
      go_wp2
      go_roundw
      case rel => exact ⟨k + 1, by omega, by go_num, by have h := Z.out; rw [em.out] at h; exact h, hide ((Q.out.setCell (p := ⟨w.heap.size + 1, k, none⟩) (by show w.heap.size ≤ w.heap.size + 1; omega) _).drew), hide (R.out.other ⟨w.heap.size + 1, k, none⟩ _ (by show w.heap.size ≠ w.heap.size + 1; omega)).drew⟩
      case measure => simp [intOf]; omega
    · have e16 : k = 16 := by omega
      have A16 : Hid (Arr wr (w.heap.size + 1) 153 (wAt (mOf y)) 16) := hide (by rw [← e16]; exact A.out)
      clear e16 A
      have WD : Hid (∀ j, isW (wAt (mOf y) j)) := hide (wAt_word fun j _ => or_word _ _)
      clear HC HY
      go_wp2
      go_loopw [5] (fun iv wr => ∃ k : Nat, 16 ≤ k ∧ k ≤ 64 ∧ iv = .int .i64 k ∧ Hid (Arr wr (w.heap.size + 1) 153 (wAt (mOf y)) k) ∧ Hid (Below w.heap.size w wr) ∧ Hid (Arr wr w.heap.size 153 (wAt (mOf y)) 0)) (fun i _ => 64 - (intOf i).toNat)
      case atStart => exact ⟨16, by omega, by omega, rfl, A16, Q, R⟩
      case round =>
        clear A16 Q R
        obtain ⟨k, hk16, hk2, rfl, A, Q, R⟩ := hrel
        by_cases hlt2 : k < 64
        · have Z := hide (A.out.store (k := k) (by omega))
          have em := hide (wAt_high (mOf y) (i := k) (by omega))
          have c16 := A.out.cell (j := k - 16) (by omega)
          have c15 := A.out.cell (j := k - 15) (by omega)
          have c7 := A.out.cell (j := k - 7) (by omega)
          have c2 := A.out.cell (j := k - 2) (by omega)
          have w15 := hide (WD.out (k - 15))
          have w2 := hide (WD.out (k - 2))
          obtain ⟨v0, cv⟩ := A.out.has (j := k) (by omega)
          have hfr : wr.frozen? ⟨w.heap.size + 1, k, none⟩ = false := by
            obtain ⟨cs, hh, _, _⟩ := A.out
            exact frozen_of_row wr _ k cs _ hh
          have t16 : ((k : Int) - 16).toNat = k - 16 := by omega
          have t15 : ((k : Int) - 15).toNat = k - 15 := by omega
          have t7 : ((k : Int) - 7).toNat = k - 7 := by omega
          have t2 : ((k : Int) - 2).toNat = k - 2 := by omega
          generalize wAt (mOf y) (k - 16) = a16 at *
          generalize wAt (mOf y) (k - 15) = a15 at *
          generalize wAt (mOf y) (k - 7) = a7 at *
          generalize wAt (mOf y) (k - 2) = a2 at *
          go_wp2
          go_region
          go_wp2_with fail
          refine (rotl_any a15 25 (-7) _ w15.out (by omega) (by omega) (by omega)).mono ?_
          rintro e w' ⟨rfl, rfl⟩
          go_wp2_with fail
          refine (rotl_any a15 14 (-18) _ w15.out (by omega) (by omega) (by omega)).mono ?_
          rintro e w' ⟨rfl, rfl⟩
          go_wp2_with fail
          refine (rotl_any a2 15 (-17) _ w2.out (by omega) (by omega) (by omega)).mono ?_
          rintro e w' ⟨rfl, rfl⟩
          go_wp2_with fail
          refine (rotl_any a2 13 (-19) _ w2.out (by omega) (by omega) (by omega)).mono ?_
          rintro e w' ⟨rfl, rfl⟩
          go_wp2
          go_region
          go_wp2
          go_roundw
          case rel => exact ⟨k + 1, by omega, by omega, by go_num, by have h := Z.out; rw [em.out, addI4] at h; exact h, hide ((Q.out.drew.setCell (p := ⟨w.heap.size + 1, k, none⟩) (by show w.heap.size ≤ w.heap.size + 1; omega) _).drew), hide (R.out.other ⟨w.heap.size + 1, k, none⟩ _ (by show w.heap.size ≠ w.heap.size + 1; omega)).drew⟩
          case measure => simp [intOf]; omega
        · have e64 : k = 64 := by omega
          have A64 : Hid (Arr wr (w.heap.size + 1) 153 (wAt (mOf y)) 64) := hide (by rw [← e64]; exact A.out)
          clear e64 A
          have h1 := hide A64.out.full
          obtain ⟨old, h2, h3, _⟩ := R.out
          have H2 := hide h2
          have H3 := hide h3
          clear h2 h3 R
          go_wp2_with (first
            | (refine wpList_load_row rfl 153 _ rfl (w.heap.size + 1) rfl _ _ _ _ h1.out Tryz.underlying153 rfl (by rw [wordsA_size]; kernel_rfl) ?_)
            | (refine wpList_store_row rfl 153 _ _ rfl w.heap.size (wordsA (wAt (mOf y)) 64) rfl rfl _ old H2.out (by rw [wordsA_size]; kernel_rfl) (by rw [wordsA_size]; exact H3.out) (wordsA_one _ _) ?_))
          refine bodyPost_ret (results_cell_row rfl _ _ w.heap.size _ (wordsA (wAt (mOf y)) 64) (0, 0) _ rfl (setRow_heap wr w.heap.size _ _ _ _ H2.out) Tryz.underlying153 rfl (by rw [wordsA_size]; kernel_rfl)) rfl ?_
          exact ⟨rfl, Below.setRow Q.out (Nat.le_refl _) _⟩
end Go.Proofs.YtdahpnjamlfakaaGreatDoor
