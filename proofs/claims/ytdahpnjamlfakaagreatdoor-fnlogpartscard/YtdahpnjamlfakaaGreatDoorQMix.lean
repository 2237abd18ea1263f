/-
  What impl.shaMixed makes of a state and a block's words.
-/
import Derived.Test.YtdahpnjamlfakaaGreatDoorQModel
import Derived.Test.YtdahpnjamlfakaaGreatDoorPQuiet
namespace Go.Proofs.YtdahpnjamlfakaaGreatDoor
open Go.RowKit

/-- n words lie at the head of a block -/
def At (w : World) (g n : Nat) (f : Nat → Int) : Prop := ∀ j, j < n → w.cell? ⟨g, j, none⟩ = some (.int .u32 (f j))
theorem At.quiet {w w' : World} {g n : Nat} {f : Nat → Int} (h : At w g n f) (q : Quiet w w') : At w' g n f := fun j hj => (q.cell _).trans (h j hj)
theorem At.below {w w' : World} {g n B : Nat} {f : Nat → Int} (h : At w g n f) (q : Below B w w') (hg : g < B) : At w' g n f := fun j hj => (q.cell (p := ⟨g, j, none⟩) hg).trans (h j hj)
theorem At.of {w : World} {g n : Nat} {f : Nat → Int} {t : TypeId} {fr : Nat × Nat} (h : w.heap[g]? = some (.cells (wordsA f n) t fr)) : At w g n f := fun j hj => by
  rw [cell_of_row w g j _ t fr h, wordsA_get f hj]

theorem wordsA_congr {f f' : Nat → Int} {n : Nat} (h : ∀ j, j < n → f j = f' j) : wordsA f n = wordsA f' n := by
  refine wordsA_eq (wordsA_size f n) fun j hj => ?_
  rw [wordsA_get f hj, h j hj]
theorem wordsA_set (f : Nat → Int) (n k : Nat) (c : Int) : (wordsA f n).setIfInBounds k (.int .u32 c) = wordsA (fun j => if j = k then c else f j) n := by
  refine wordsA_eq (by simp [wordsA_size]) fun j hj => ?_
  by_cases e : j = k
  · subst e
    rw [Array.getElem?_setIfInBounds_self_of_lt (by rw [wordsA_size]; exact hj), if_pos rfl]
  · rw [Array.getElem?_setIfInBounds_ne (by omega), if_neg e, wordsA_get f hj]
theorem wordsA8 (f : Nat → Int) : #[Value.int .u32 (f 0), .int .u32 (f 1), .int .u32 (f 2), .int .u32 (f 3), .int .u32 (f 4), .int .u32 (f 5), .int .u32 (f 6), .int .u32 (f 7)] = wordsA f 8 := by
  simp [wordsA, List.range, List.range.loop]
/-- the state while the first i words are added -/
def midI (v x : Nat → Int) (k i : Nat) : Nat → Int := fun j => if j < i then mixI v x j else rndTo v x k j

set_option maxRecDepth 100000 in
set_option maxHeartbeats 2000000 in
theorem shaMixed_any (v x : Nat → Int) (w : World) (hv : ∀ j, j < 8 → isW (v j)) (hx : ∀ j, j < 64 → isW (x j)) (hg : 2 < w.heap.size) (hG : At w 2 64 ksI) :
    Calls Tryz.prog 129 #[.agg (wordsA v 8), .agg (wordsA x 64)] w fun e w' => e = .returned (.agg (wordsA (mixI v x) 8)) ∧ Below w.heap.size w w' := by
  have HV := hide hv
  have HX := hide hx
  have HG := hide hG
  clear hv hx hG
  go_enter Tryz.func129, Tryz.ntmps129
  go_wp2
  have SZ : Hid ((((w.alloc (.cells (wordsA v 8) 150)).alloc (.cells (wordsA x 64) 153)).alloc (.cells #[.int .u32 0, .int .u32 0, .int .u32 0, .int .u32 0, .int .u32 0, .int .u32 0, .int .u32 0, .int .u32 0] 150)).heap.size = w.heap.size + 3) := hide (by simp)
  have C8 : Hid (At (((w.alloc (.cells (wordsA v 8) 150)).alloc (.cells (wordsA x 64) 153)).alloc (.cells #[.int .u32 0, .int .u32 0, .int .u32 0, .int .u32 0, .int .u32 0, .int .u32 0, .int .u32 0, .int .u32 0] 150)) w.heap.size 8 v) := hide (At.of (t := 150) (fr := (0, 0)) (by
    rw [heap_alloc_old _ _ (by simp; omega), heap_alloc_old _ _ (by simp), heap_alloc_new]))
  have C64 : Hid (At (((w.alloc (.cells (wordsA v 8) 150)).alloc (.cells (wordsA x 64) 153)).alloc (.cells #[.int .u32 0, .int .u32 0, .int .u32 0, .int .u32 0, .int .u32 0, .int .u32 0, .int .u32 0, .int .u32 0] 150)) (w.heap.size + 1) 64 x) := hide (At.of (t := 153) (fr := (0, 0)) (by
    rw [heap_alloc_old _ _ (by simp), heap_alloc2_new]))
  have R8 : Hid ((((w.alloc (.cells (wordsA v 8) 150)).alloc (.cells (wordsA x 64) 153)).alloc (.cells #[.int .u32 0, .int .u32 0, .int .u32 0, .int .u32 0, .int .u32 0, .int .u32 0, .int .u32 0, .int .u32 0] 150)).heap[w.heap.size + 1 + 1]? = some (.cells #[.int .u32 0, .int .u32 0, .int .u32 0, .int .u32 0, .int .u32 0, .int .u32 0, .int .u32 0, .int .u32 0] 150 (0, 0))) := hide (by
    have h := heap_alloc_new ((w.alloc (.cells (wordsA v 8) 150)).alloc (.cells (wordsA x 64) 153)) (.cells #[.int .u32 0, .int .u32 0, .int .u32 0, .int .u32 0, .int .u32 0, .int .u32 0, .int .u32 0, .int .u32 0] 150)
    rw [show ((w.alloc (.cells (wordsA v 8) 150)).alloc (.cells (wordsA x 64) 153)).heap.size = w.heap.size + 1 + 1 by simp] at h
    exact h)
  have BL : Hid (Below w.heap.size w (((w.alloc (.cells (wordsA v 8) 150)).alloc (.cells (wordsA x 64) 153)).alloc (.cells #[.int .u32 0, .int .u32 0, .int .u32 0, .int .u32 0, .int .u32 0, .int .u32 0, .int .u32 0, .int .u32 0] 150))) := hide ((((Below.refl w.heap.size w).alloc (Nat.le_refl _) _).alloc (by simp) _).alloc (by simp; omega) _)
  generalize (((w.alloc (.cells (wordsA v 8) 150)).alloc (.cells (wordsA x 64) 153)).alloc (.cells #[.int .u32 0, .int .u32 0, .int .u32 0, .int .u32 0, .int .u32 0, .int .u32 0, .int .u32 0, .int .u32 0] 150)) = w1 at SZ C8 C64 R8 BL ⊢
  have G1 := hide (HG.out.below BL.out hg)
  have d0 := C8.out 0 (by omega)
  have d1 := C8.out 1 (by omega)
  have d2 := C8.out 2 (by omega)
  have d3 := C8.out 3 (by omega)
  have d4 := C8.out 4 (by omega)
  have d5 := C8.out 5 (by omega)
  have d6 := C8.out 6 (by omega)
  have d7 := C8.out 7 (by omega)
  go_region
  go_wp2
  go_region
  go_wp2
  clear d0 d1 d2 d3 d4 d5 d6 d7
  go_loopw [5, 6, 7, 8, 9, 10, 11, 12, 37] (fun a b c d e f g h iv wr => ∃ k : Nat, k ≤ 64 ∧ a = .int .u32 (rndTo v x k 0) ∧ b = .int .u32 (rndTo v x k 1) ∧ c = .int .u32 (rndTo v x k 2) ∧ d = .int .u32 (rndTo v x k 3) ∧ e = .int .u32 (rndTo v x k 4) ∧ f = .int .u32 (rndTo v x k 5) ∧ g = .int .u32 (rndTo v x k 6) ∧ h = .int .u32 (rndTo v x k 7) ∧ iv = .int .i64 k ∧ Hid (Quiet w1 wr)) (fun _ _ _ _ _ _ _ _ i _ => 64 - (intOf i).toNat)
  case atStart => exact ⟨0, by omega, rfl, rfl, rfl, rfl, rfl, rfl, rfl, rfl, rfl, hide ⟨2, rfl⟩⟩
  case round =>
    obtain ⟨k, hk, rfl, rfl, rfl, rfl, rfl, rfl, rfl, rfl, rfl, Q⟩ := hrel
    by_cases hlt : k < 64
    · have cx := (Q.out.cell _).trans (C64.out k hlt)
      have ck := (Q.out.cell _).trans (G1.out k hlt)
      have W := rndTo_word (x := x) HV.out k
      have h0 := hide (W 0 (by omega))
      have h4 := hide (W 4 (by omega))
      clear W
      have e0 := hide (rnd0 (rndTo v x k) (ksI k) (x k))
      have e4 := hide (rnd4 (rndTo v x k) (ksI k) (x k))
      have Z : Hid (∀ j, rndTo v x (k + 1) j = rnd (rndTo v x k) (ksI k) (x k) j) := hide fun _ => rfl
      have T : Hid (t1I (rndTo v x k) (ksI k) (x k) = (rndTo v x k 7 + bs1 (rndTo v x k 4) + chI (rndTo v x k 4) (rndTo v x k 5) (rndTo v x k 6) + ksI k + x k) % 4294967296) := hide rfl
      go_wp2_with fail
      refine (rotl_any (rndTo v x k 4) 26 (-6) _ h4.out (by omega) (by omega) (by omega)).mono ?_
      rintro e w' ⟨rfl, rfl⟩
      go_wp2_with fail
      refine (rotl_any (rndTo v x k 4) 21 (-11) _ h4.out (by omega) (by omega) (by omega)).mono ?_
      rintro e w' ⟨rfl, rfl⟩
      go_wp2_with fail
      refine (rotl_any (rndTo v x k 4) 7 (-25) _ h4.out (by omega) (by omega) (by omega)).mono ?_
      rintro e w' ⟨rfl, rfl⟩
      go_wp2
      go_region
      go_wp2_with fail
      refine (rotl_any (rndTo v x k 0) 30 (-2) _ h0.out (by omega) (by omega) (by omega)).mono ?_
      rintro e w' ⟨rfl, rfl⟩
      go_wp2_with fail
      refine (rotl_any (rndTo v x k 0) 19 (-13) _ h0.out (by omega) (by omega) (by omega)).mono ?_
      rintro e w' ⟨rfl, rfl⟩
      go_wp2_with fail
      refine (rotl_any (rndTo v x k 0) 10 (-22) _ h0.out (by omega) (by omega) (by omega)).mono ?_
      rintro e w' ⟨rfl, rfl⟩
      go_wp2
      go_roundw
      case rel =>
        refine ⟨k + 1, by omega, ?_, ?_, ?_, ?_, ?_, ?_, ?_, ?_, by go_num, hide Q.out.drew⟩
        · rw [Z.out, e0.out, T.out]
          unfold bs1 bs0 chI maI xorI andI notI
          refine congrArg (Value.int IntKind.u32) ?_
          omega
        · exact congrArg _ (rnd1 (rndTo v x k) (ksI k) (x k)).symm
        · exact congrArg _ (rnd2 (rndTo v x k) (ksI k) (x k)).symm
        · exact congrArg _ (rnd3 (rndTo v x k) (ksI k) (x k)).symm
        · rw [Z.out, e4.out, T.out]
          unfold bs1 chI xorI andI notI
          refine congrArg (Value.int IntKind.u32) ?_
          omega
        · exact congrArg _ (rnd5 (rndTo v x k) (ksI k) (x k)).symm
        · exact congrArg _ (rnd6 (rndTo v x k) (ksI k) (x k)).symm
        · exact congrArg _ (rnd7 (rndTo v x k) (ksI k) (x k)).symm
      case measure => simp [intOf]; omega
    · obtain ⟨wo, rfl⟩ : ∃ y : World, y = wr := ⟨wr, rfl⟩
      have e64 : Hid (k = 64) := hide (by omega)
      clear hlt
      have hgt : ¬ ((k : Int) < 64) := by have := e64.out; omega
      have U8 := hide (C8.out.quiet Q.out)
      have SZ2 := hide ((congrArg Array.size Q.out.heap).trans SZ.out)
      have RR : Hid (wo.heap[w.heap.size + 1 + 1]? = some (.cells #[.int .u32 0, .int .u32 0, .int .u32 0, .int .u32 0, .int .u32 0, .int .u32 0, .int .u32 0, .int .u32 0] 150 (0, 0))) := hide (by rw [Q.out.heap]; exact R8.out)
      have BB := hide (BL.out.trans (Q.out.below w.heap.size))
      clear Q C8 C64 R8 BL G1 SZ HG
      go_wp2
      have M0 : Hid ((wo.alloc (.cells #[.int .u32 (rndTo v x k 0), .int .u32 (rndTo v x k 1), .int .u32 (rndTo v x k 2), .int .u32 (rndTo v x k 3), .int .u32 (rndTo v x k 4), .int .u32 (rndTo v x k 5), .int .u32 (rndTo v x k 6), .int .u32 (rndTo v x k 7)] 150)).heap[wo.heap.size]? = some (.cells (wordsA (midI v x k 0) 8) 150 (0, 0))) := hide (by
        rw [heap_alloc_new, wordsA8 (rndTo v x k), wordsA_congr (f := midI v x k 0) (f' := rndTo v x k) (fun j _ => if_neg (by omega))])
      have L0 : Hid (Below wo.heap.size wo (wo.alloc (.cells #[.int .u32 (rndTo v x k 0), .int .u32 (rndTo v x k 1), .int .u32 (rndTo v x k 2), .int .u32 (rndTo v x k 3), .int .u32 (rndTo v x k 4), .int .u32 (rndTo v x k 5), .int .u32 (rndTo v x k 6), .int .u32 (rndTo v x k 7)] 150))) := hide ((Below.refl _ _).alloc (Nat.le_refl _) _)
      have S0 : Hid ((wo.alloc (.cells #[.int .u32 (rndTo v x k 0), .int .u32 (rndTo v x k 1), .int .u32 (rndTo v x k 2), .int .u32 (rndTo v x k 3), .int .u32 (rndTo v x k 4), .int .u32 (rndTo v x k 5), .int .u32 (rndTo v x k 6), .int .u32 (rndTo v x k 7)] 150)).heap.size = wo.heap.size + 1) := hide (by simp)
      generalize wo.alloc (.cells #[.int .u32 (rndTo v x k 0), .int .u32 (rndTo v x k 1), .int .u32 (rndTo v x k 2), .int .u32 (rndTo v x k 3), .int .u32 (rndTo v x k 4), .int .u32 (rndTo v x k 5), .int .u32 (rndTo v x k 6), .int .u32 (rndTo v x k 7)] 150) = w2 at M0 L0 S0 ⊢
      go_loopw [112] (fun iv wr => ∃ i : Nat, i ≤ 8 ∧ iv = .int .i64 i ∧ Hid (wr.heap[wo.heap.size]? = some (.cells (wordsA (midI v x k i) 8) 150 (0, 0))) ∧ Hid (Below wo.heap.size wo wr)) (fun i _ => 8 - (intOf i).toNat)
      case atStart => exact ⟨0, by omega, rfl, M0, L0⟩
      case round =>
        clear M0 L0 S0
        obtain ⟨i, hi, rfl, M, L⟩ := hrel
        by_cases hlt : i < 8
        · have ca : wr.cell? ⟨wo.heap.size, i, none⟩ = some (.int .u32 (rndTo v x k i)) := by
            rw [cell_of_row wr _ i _ _ _ M.out, wordsA_get _ hlt]
            unfold midI
            rw [if_neg (by omega)]
          have cb : wr.cell? ⟨w.heap.size, i, none⟩ = some (.int .u32 (v i)) := (L.out.cell (p := ⟨w.heap.size, i, none⟩) (by show w.heap.size < wo.heap.size; have := SZ2.out; omega)).trans (U8.out i hlt)
          have fz : wr.frozen? ⟨wo.heap.size, i, none⟩ = false := frozen_of_row wr _ i _ _ M.out
          have ms : Hid (wordsA (midI v x k (i + 1)) 8 = (wordsA (midI v x k i) 8).setIfInBounds i (.int .u32 ((rndTo v x k i + v i) % 4294967296))) := hide (by
            rw [wordsA_set]
            refine wordsA_congr fun j hj => ?_
            unfold midI
            by_cases e : j = i
            · subst e
              rw [if_pos (by omega), if_pos rfl, e64.out]
              rfl
            · rw [if_neg e]
              by_cases h' : j < i
              · rw [if_pos (by omega), if_pos h']
              · rw [if_neg (by omega), if_neg h'])
          go_wp2
          go_region
          go_wp2
          go_roundw
          case rel => exact ⟨i + 1, by omega, by go_num, hide (by rw [ms.out]; exact heap_setCell_same wr wo.heap.size i _ _ _ M.out), hide ((L.out.setCell (p := ⟨wo.heap.size, i, none⟩) (Nat.le_refl _) _).drew)⟩
          case measure => simp [intOf]; omega
        · have h8 : Hid (i = 8) := hide (by omega)
          have hgt8 : ¬ ((i : Int) < 8) := by omega
          clear hlt
          have h1 : Hid (wr.heap[wo.heap.size]? = some (.cells (wordsA (mixI v x) 8) 150 (0, 0))) := hide (by
            rw [M.out, wordsA_congr (f := midI v x k i) (f' := mixI v x) (fun j hj => if_pos (by have := h8.out; omega))])
          have h2 : Hid (wr.heap[w.heap.size + 1 + 1]? = some (.cells #[.int .u32 0, .int .u32 0, .int .u32 0, .int .u32 0, .int .u32 0, .int .u32 0, .int .u32 0, .int .u32 0] 150 (0, 0))) := hide ((L.out.block _ (by have := SZ2.out; omega)).trans RR.out)
          clear M
          go_wp2_with (first
            | (refine wpList_load_row rfl 150 _ rfl wo.heap.size rfl _ _ _ _ h1.out Tryz.underlying150 rfl (by rw [wordsA_size]; kernel_rfl) ?_)
            | (refine wpList_store_row rfl 150 _ _ rfl (w.heap.size + 1 + 1) (wordsA (mixI v x) 8) rfl rfl _ _ h2.out (by rw [wordsA_size]; kernel_rfl) (by rw [wordsA_size]; rfl) (wordsA_one _ _) ?_))
          refine bodyPost_ret (results_cell_row rfl _ _ (w.heap.size + 1 + 1) _ (wordsA (mixI v x) 8) (0, 0) _ rfl (setRow_heap wr (w.heap.size + 1 + 1) _ _ _ _ h2.out) Tryz.underlying150 rfl (by rw [wordsA_size]; kernel_rfl)) rfl ?_
          exact ⟨rfl, Below.setRow (BB.out.trans (L.out.mono (by have := SZ2.out; omega))) (by omega) _⟩
end Go.Proofs.YtdahpnjamlfakaaGreatDoor
