/-
  What spec.l2Step makes of a state and a block.
-/
import Derived.Test.YtdahpnjamlfakaaGreatDoorQPlain
import Derived.Test.YtdahpnjamlfakaaGreatDoorQK
namespace Go.Proofs.YtdahpnjamlfakaaGreatDoor
open Go.RowKit

theorem built64 : Tryz.prog.built 152 [] = some (wordsA (fun _ => 0) 64) := by kernel_rfl
theorem built8 : Tryz.prog.built 149 [] = some (wordsA (fun _ => 0) 8) := by kernel_rfl

theorem wpList_zeros {t : TypeId} {n : Nat} (hb : Tryz.prog.built t [] = some (wordsA (fun _ => 0) n)) {ops : Array Oper} {rest : List Oper} {o : Oper} {a : Act} {w : World} {Q : Exit → Act → World → Prop} (hg : o.guard = none) (ho : o.op = .build t #[])
    (h : wpList Tryz.prog ops Q rest (a.put o.dst (.agg (wordsA (fun _ => 0) n))) w) : wpList Tryz.prog ops Q (o :: rest) a w := by
  refine wpList_build hg t #[] ho ?_ ?_
  · simp [hb]
  · simpa [hb] using h
/-- a whole array stored into the block that was made last; what is left of the world is a letter -/
theorem wpList_store_abs {P : Program} {ops : Array Oper} {rest : List Oper} {o : Oper} {a : Act} {w2 : World} {Q : Exit → Act → World → Prop} (hgd : o.guard = none) (ty : TypeId) (x y : Operand) (ho : o.op = .store ty x y)
    (cells : Array Value) {t : TypeId} {old : Array Value} (hx : a.eval x = .pointer (some ⟨w2.heap.size, 0, none⟩)) (hy : a.eval y = .agg cells) (hi : (P.info? ty).map (·.size) = some cells.size)
    (hold : old.size = cells.size) (h1 : cells.all (·.oneCell') = true)
    (h : ∀ w3 : World, w3.heap[w2.heap.size]? = some (.cells cells t (0, 0)) → Below w2.heap.size w2 w3 → wpList P ops Q rest (a.put o.dst undef) w3) : wpList P ops Q (o :: rest) a (w2.alloc (.cells old t)) :=
  wpList_store_row hgd ty x y ho w2.heap.size cells hx hy t old (heap_alloc_new w2 _) hi hold h1 (h _ (setRow_heap _ _ _ _ _ _ (heap_alloc_new w2 _)) (Below.setRow ((Below.refl _ w2).alloc (Nat.le_refl _) _) (Nat.le_refl _) _))

theorem cell_four_at (w : World) (x : Int) (t : TypeId) : ∀ j, j < 4 → (w.alloc (.cells #[.int .u8 (x / 16777216), .int .u8 (x / 65536 % 256), .int .u8 (x / 256 % 256), .int .u8 (x % 256)] t)).cell? ⟨w.heap.size, j, none⟩ = some (.int .u8 ((bytesI x).getD j 0)) := by
  intro j hj
  rw [cell_of_row _ _ j _ _ _ (heap_alloc_new w _)]
  rcases (show j = 0 ∨ j = 1 ∨ j = 2 ∨ j = 3 by omega) with e | e | e | e <;> subst e <;> rfl
theorem set2_eq {t : TypeId} {fr : Nat × Nat} (A : Array Value) {a a' b b' : Int} (h : a = a') (h' : b = b') :
    some (Obj.cells ((A.setIfInBounds 4 (.int .u32 a)).setIfInBounds 0 (.int .u32 b)) t fr) = some (Obj.cells ((A.setIfInBounds 4 (.int .u32 a')).setIfInBounds 0 (.int .u32 b')) t fr) := by rw [h, h']

set_option maxRecDepth 100000 in
set_option maxHeartbeats 20000000 in
theorem l2Step_any (st bl : ByteArray) (w : World) (hs : st.size = 32) (hb : bl.size = 64) :
    Calls Tryz.prog 137 #[.string st, .string bl] w fun e w' => e = .returned (.string (digB (mixI (mOf (sB st)) (wAt (mOf (sB bl)))))) ∧ Below w.heap.size w w' := by
  have HS := hide hs
  have HB := hide hb
  clear hs hb
  go_enter Tryz.func137, Tryz.ntmps137
  go_wp2_with fail
  refine (l2Be_any st 8 _ HS.out (by omega)).mono ?_
  rintro e w1 ⟨⟨A1, cap1, rfl, o1⟩, b1⟩
  have B1 := hide b1
  obtain ⟨g1, rfl, hg1, hg1', k1⟩ := o1.cell (by rw [beL_length]; omega)
  rw [beL_length] at k1
  have K1 := hide k1
  clear b1 o1 k1
  go_wp2_with fail
  refine (l2Be_any bl 16 _ HB.out (by omega)).mono ?_
  rintro e w2 ⟨⟨A2, cap2, rfl, o2⟩, b2⟩
  have B2 := hide b2
  obtain ⟨g2, rfl, hg2, hg2', k2⟩ := o2.cell (by rw [beL_length]; omega)
  rw [beL_length] at k2
  have C2 : Hid (At w2 g2 16 (mOf (sB bl))) := hide fun j hj => by rw [k2 j hj, beL_get bl hj]
  have C1 : Hid (At w2 g1 8 (mOf (sB st))) := hide fun j hj => by rw [(B2.out.cell (p := ⟨g1, j, none⟩) hg1'), K1.out j hj, beL_get st hj]
  have sz2 := B2.out.size
  have BB : Hid (Below w.heap.size w w2) := hide (B1.out.trans (B2.out.mono (by have := B1.out.size; omega)))
  clear o2 k2 K1 b2 B1 B2
  have WD : Hid (∀ j, isW (wAt (mOf (sB bl)) j)) := hide (wAt_word fun j _ => or_word _ _)
  have WV : Hid (∀ j, isW (mOf (sB st) j)) := hide fun j => or_word _ _
  generalize hve : mOf (sB st) = v at *
  generalize hme : mOf (sB bl) = m at *
  have HVE := hide hve
  have HME := hide hme
  clear hve hme
  go_wp2_with (first
    | (refine wpList_zeros built64 rfl rfl ?_)
    | (refine wpList_store_abs rfl 152 _ _ rfl (wordsA (fun _ => 0) 64) rfl rfl (by rw [wordsA_size]; kernel_rfl) (by rw [wordsA_size]; kernel_rfl) (wordsA_one _ _) ?_; intro w3 r3 b3))
  have R3 := hide r3
  have B3 := hide b3
  clear r3 b3
  have H0 : Hid (Arr w3 w2.heap.size 152 (wAt m) 0) := hide (Arr.zero _ R3.out (wordsA_size _ _))
  go_loopw [8] (fun iv wr => ∃ k : Nat, k ≤ 64 ∧ iv = .int .i64 k ∧ Hid (Arr wr w2.heap.size 152 (wAt m) k) ∧ Hid (Below w2.heap.size w2 wr)) (fun i _ => 64 - (intOf i).toNat)
  case atStart => exact ⟨0, by omega, rfl, H0, B3⟩
  case round =>
    clear H0 B3 R3
    obtain ⟨k, hk, rfl, A, Q⟩ := hrel
    have hgw : w2.heap.size < wr.heap.size := by obtain ⟨cs, hh, _, _⟩ := A.out; exact (Array.getElem?_eq_some_iff.1 hh).1
    by_cases hlt : k < 64
    · have Z := hide (A.out.store (k := k) (by omega))
      obtain ⟨v0, cv⟩ := A.out.has (j := k) (by omega)
      have hfr : wr.frozen? ⟨w2.heap.size, k, none⟩ = false := by
        obtain ⟨cs, hh, _, _⟩ := A.out
        exact frozen_of_row wr _ k cs _ hh
      by_cases h16 : k < 16
      · have cm := (Q.out.cell (p := ⟨g2, k, none⟩) hg2').trans (C2.out k h16)
        have em := hide (wAt_low m h16)
        go_wp2
        refine ⟨⟨k + 1, by omega, by go_num, hide ?_, hide (Q.out.setCell (p := ⟨w2.heap.size, k, none⟩) (Nat.le_refl _) _)⟩, by simp [intOf]; omega⟩
        have h := Z.out
        rw [em.out] at h
        exact h
      · have em := hide (wAt_high m h16)
        have c16 := A.out.cell (j := k - 16) (by omega)
        have c15 := A.out.cell (j := k - 15) (by omega)
        have c7 := A.out.cell (j := k - 7) (by omega)
        have c2 := A.out.cell (j := k - 2) (by omega)
        have w15 := hide (WD.out (k - 15))
        have w2' := hide (WD.out (k - 2))
        have t16 : ((k : Int) - 16).toNat = k - 16 := by omega
        have t15 : ((k : Int) - 15).toNat = k - 15 := by omega
        have t7 : ((k : Int) - 7).toNat = k - 7 := by omega
        have t2 : ((k : Int) - 2).toNat = k - 2 := by omega
        generalize wAt m (k - 16) = a16 at *
        generalize wAt m (k - 15) = a15 at *
        generalize wAt m (k - 7) = a7 at *
        generalize wAt m (k - 2) = a2 at *
        go_wp2_with fail
        refine (l2Rot_any a15 25 25 _ w15.out (by omega) (by omega) (by omega)).mono ?_
        rintro e w' ⟨rfl, rfl⟩
        go_wp2_with fail
        refine (l2Rot_any a15 14 14 _ w15.out (by omega) (by omega) (by omega)).mono ?_
        rintro e w' ⟨rfl, rfl⟩
        go_wp2_with fail
        refine (l2Rot_any a2 15 15 _ w2'.out (by omega) (by omega) (by omega)).mono ?_
        rintro e w' ⟨rfl, rfl⟩
        go_wp2_with fail
        refine (l2Rot_any a2 13 13 _ w2'.out (by omega) (by omega) (by omega)).mono ?_
        rintro e w' ⟨rfl, rfl⟩
        go_wp2
        go_region
        go_wp2
        refine ⟨⟨k + 1, by omega, by go_num, hide ?_, hide ((Q.out.setCell (p := ⟨w2.heap.size, k, none⟩) (Nat.le_refl _) _).drew)⟩, by simp [intOf]; omega⟩
        have h := Z.out
        rw [em.out, addI4] at h
        exact h
    · obtain ⟨wa, rfl⟩ : ∃ z : World, z = wr := ⟨wr, rfl⟩
      have hgt : ¬ ((k : Int) < 64) := by omega
      have AX : Hid (At wa w2.heap.size 64 (wAt m)) := hide fun j hj => A.out.cell (by omega)
      have D1 : Hid (At wa g1 8 v) := hide (C1.out.below Q.out (by omega))
      have BA : Hid (Below w.heap.size w wa) := hide (BB.out.trans (Q.out.mono (by have := BB.out.size; omega)))
      have hwa : w.heap.size ≤ wa.heap.size := BA.out.size
      have hg1a : g1 < wa.heap.size := by omega
      clear hlt A Q C1 C2 BB
      generalize hxe : wAt m = x at *
      have HXE := hide hxe
      clear hxe
      go_wp2_with (first
        | (refine wpList_zeros built8 rfl rfl ?_)
        | (refine wpList_store_abs rfl 149 _ _ rfl (wordsA (fun _ => 0) 8) rfl rfl (by rw [wordsA_size]; kernel_rfl) (by rw [wordsA_size]; kernel_rfl) (wordsA_one _ _) ?_; intro w4 r4 b4))
      have R4 : Hid (w4.heap[wa.heap.size]? = some (.cells (wordsA (fun j => if j < 0 then v j else 0) 8) 149 (0, 0))) := hide (by rw [r4, wordsA_congr (f := fun j => if j < 0 then v j else 0) (f' := fun _ => 0) (fun j _ => if_neg (by omega))])
      have B4 := hide b4
      clear r4 b4
      go_loopw [14] (fun iv wr => ∃ i : Nat, i ≤ 8 ∧ iv = .int .i64 i ∧ Hid (wr.heap[wa.heap.size]? = some (.cells (wordsA (fun j => if j < i then v j else 0) 8) 149 (0, 0))) ∧ Hid (Below wa.heap.size wa wr)) (fun i _ => 8 - (intOf i).toNat)
      case atStart => exact ⟨0, by omega, rfl, R4, B4⟩
      case round =>
        clear R4 B4
        obtain ⟨i, hi, rfl, R, Q⟩ := hrel
        by_cases hlt : i < 8
        · have ch := (Q.out.cell (p := ⟨g1, i, none⟩) hg1a).trans (D1.out i hlt)
          have cv := (cell_of_row wr wa.heap.size i _ _ _ R.out).trans (wordsA_get _ hlt)
          have fz := frozen_of_row wr wa.heap.size i _ _ R.out
          have ms : Hid (wordsA (fun j => if j < i + 1 then v j else 0) 8 = (wordsA (fun j => if j < i then v j else 0) 8).setIfInBounds i (.int .u32 (v i))) := hide (by
            rw [wordsA_set]
            refine wordsA_congr fun j hj => ?_
            by_cases e : j = i
            · subst e; rw [if_pos (by omega), if_pos rfl]
            · rw [if_neg e]
              by_cases h' : j < i
              · rw [if_pos (by omega), if_pos h']
              · rw [if_neg (by omega), if_neg h'])
          have ci : wr.cell? ⟨wa.heap.size, i, none⟩ = some (.int .u32 0) := by rw [cv, if_neg (by omega)]
          clear cv
          go_wp2
          exact ⟨⟨i + 1, by omega, by go_num, hide (by rw [ms.out]; exact heap_setCell_same wr wa.heap.size i _ _ _ R.out), hide (Q.out.setCell (p := ⟨wa.heap.size, i, none⟩) (Nat.le_refl _) _)⟩, by simp [intOf]; omega⟩
        · obtain ⟨wb, rfl⟩ : ∃ z : World, z = wr := ⟨wr, rfl⟩
          have hgt8 : ¬ ((i : Int) < 8) := by omega
          have R0 : Hid (wb.heap[wa.heap.size]? = some (.cells (wordsA (rndTo v x 0) 8) 149 (0, 0))) := hide (by rw [R.out, wordsA_congr (f := fun j => if j < i then v j else 0) (f' := rndTo v x 0) (fun j hj => if_pos (by omega))])
          have Q0 := Q
          clear hlt R Q
          go_wp2
          go_loopw [15] (fun iv wr => ∃ k : Nat, k ≤ 64 ∧ iv = .int .i64 k ∧ Hid (wr.heap[wa.heap.size]? = some (.cells (wordsA (rndTo v x k) 8) 149 (0, 0))) ∧ Hid (Below wa.heap.size wa wr)) (fun i _ => 64 - (intOf i).toNat)
          case atStart => exact ⟨0, by omega, rfl, R0, Q0⟩
          case round =>
            clear R0 Q0
            obtain ⟨k, hk, rfl, R, Q⟩ := hrel
            by_cases hlt : k < 64
            · have cx := (Q.out.cell (p := ⟨w2.heap.size, k, none⟩) (by show w2.heap.size < wa.heap.size; omega)).trans (AX.out k hlt)
              have d0 := (cell_of_row wr wa.heap.size 0 _ _ _ R.out).trans (wordsA_get (rndTo v x k) (show 0 < 8 by omega))
              have d1 := (cell_of_row wr wa.heap.size 1 _ _ _ R.out).trans (wordsA_get (rndTo v x k) (show 1 < 8 by omega))
              have d2 := (cell_of_row wr wa.heap.size 2 _ _ _ R.out).trans (wordsA_get (rndTo v x k) (show 2 < 8 by omega))
              have d3 := (cell_of_row wr wa.heap.size 3 _ _ _ R.out).trans (wordsA_get (rndTo v x k) (show 3 < 8 by omega))
              have d4 := (cell_of_row wr wa.heap.size 4 _ _ _ R.out).trans (wordsA_get (rndTo v x k) (show 4 < 8 by omega))
              have d5 := (cell_of_row wr wa.heap.size 5 _ _ _ R.out).trans (wordsA_get (rndTo v x k) (show 5 < 8 by omega))
              have d6 := (cell_of_row wr wa.heap.size 6 _ _ _ R.out).trans (wordsA_get (rndTo v x k) (show 6 < 8 by omega))
              have d7 := (cell_of_row wr wa.heap.size 7 _ _ _ R.out).trans (wordsA_get (rndTo v x k) (show 7 < 8 by omega))
              have W := rndTo_word (v := v) (x := x) (fun j _ => WV.out j) k
              have h0 := hide (W 0 (by omega))
              have h4 := hide (W 4 (by omega))
              clear W
              have Z : Hid (rndTo v x (k + 1) = rnd (rndTo v x k) (ksI k) (x k)) := hide rfl
              have T : Hid (t1I (rndTo v x k) (ksI k) (x k) = (rndTo v x k 7 + bs1 (rndTo v x k 4) + chI (rndTo v x k 4) (rndTo v x k 5) (rndTo v x k 6) + ksI k + x k) % 4294967296) := hide rfl
              generalize rndTo v x k = V at *
              go_wp2_with fail
              refine (l2Rot_any (V 4) 26 26 _ h4.out (by omega) (by omega) (by omega)).mono ?_
              rintro e w' ⟨rfl, rfl⟩
              go_wp2_with fail
              refine (l2Rot_any (V 4) 21 21 _ h4.out (by omega) (by omega) (by omega)).mono ?_
              rintro e w' ⟨rfl, rfl⟩
              go_wp2_with fail
              refine (l2Rot_any (V 4) 7 7 _ h4.out (by omega) (by omega) (by omega)).mono ?_
              rintro e w' ⟨rfl, rfl⟩
              go_wp2_with fail
              go_quiet (first
                | (go_at_call 170; exact Calls.quiet_of (l2K_any k hlt _)))
              go_wp2_with fail
              refine (l2Rot_any (V 0) 30 30 _ h0.out (by omega) (by omega) (by omega)).mono ?_
              rintro e w' ⟨rfl, rfl⟩
              go_wp2_with fail
              refine (l2Rot_any (V 0) 19 19 _ h0.out (by omega) (by omega) (by omega)).mono ?_
              rintro e w' ⟨rfl, rfl⟩
              go_wp2_with fail
              refine (l2Rot_any (V 0) 10 10 _ h0.out (by omega) (by omega) (by omega)).mono ?_
              rintro e w' ⟨rfl, rfl⟩
              go_wp2
              obtain ⟨wd, hwd⟩ : ∃ z : World, z = wr.drewN nq := ⟨_, rfl⟩
              have RD : Hid (wd.heap[wa.heap.size]? = some (.cells (wordsA (shI V 7) 8) 149 (0, 0))) := hide (by rw [hwd, shI_last]; exact R.out)
              have QD : Hid (Below wa.heap.size wa wd) := hide (by rw [hwd]; exact ⟨Q.out.os, Q.out.tape, Q.out.output, Q.out.size, Q.out.block⟩)
              rw [← hwd]
              clear hwd R Q d0 d1 d2 d3 d4 d5 d6 d7 cx
              go_loopw [22] (fun iv wr => ∃ i : Nat, i ≤ 7 ∧ iv = .int .i64 i ∧ Hid (wr.heap[wa.heap.size]? = some (.cells (wordsA (shI V i) 8) 149 (0, 0))) ∧ Hid (Below wa.heap.size wa wr)) (fun i _ => (intOf i).toNat)
              case atStart => exact ⟨7, by omega, rfl, RD, QD⟩
              case round =>
                clear RD QD
                obtain ⟨i, hi, rfl, R, Q⟩ := hrel
                by_cases h0 : 0 < i
                · have t1 : ((i : Int) - 1).toNat = i - 1 := by omega
                  have ca : wr.cell? ⟨wa.heap.size, i - 1, none⟩ = some (.int .u32 (V (i - 1))) := by
                    rw [cell_of_row wr wa.heap.size (i - 1) _ _ _ R.out, wordsA_get _ (by omega)]
                    unfold shI
                    rw [if_neg (by omega)]
                  have cb := (cell_of_row wr wa.heap.size i _ _ _ R.out).trans (wordsA_get _ (show i < 8 by omega))
                  have fz := frozen_of_row wr wa.heap.size i _ _ R.out
                  have ms := hide (shI_step V i h0)
                  generalize shI V i i = old at cb
                  have hi0 : (0 : Int) < (i : Int) := by omega
                  go_wp2
                  exact ⟨⟨i - 1, by omega, by go_num, hide (by rw [ms.out]; exact heap_setCell_same wr wa.heap.size i _ _ _ R.out), hide (Q.out.setCell (p := ⟨wa.heap.size, i, none⟩) (Nat.le_refl _) _)⟩, by simp [intOf]; omega⟩
                · have e0 : Hid (i = 0) := hide (by omega)
                  have hi0 : ¬ ((0 : Int) < (i : Int)) := by omega
                  have R0 : Hid (wr.heap[wa.heap.size]? = some (.cells (wordsA (shI V 0) 8) 149 (0, 0))) := hide (by have h := R.out; rw [e0.out] at h; exact h)
                  have c4 : wr.cell? ⟨wa.heap.size, 4, none⟩ = some (.int .u32 (V 3)) := (cell_of_row wr wa.heap.size 4 _ _ _ R0.out).trans (wordsA_get _ (by omega))
                  have c0 : wr.cell? ⟨wa.heap.size, 0, none⟩ = some (.int .u32 (V 0)) := (cell_of_row wr wa.heap.size 0 _ _ _ R0.out).trans (wordsA_get _ (by omega))
                  have f4 := frozen_of_row wr wa.heap.size 4 _ _ R0.out
                  have f0 := frozen_of_row wr wa.heap.size 0 _ _ R0.out
                  clear h0 R
                  go_wp2
                  refine ⟨⟨k + 1, by omega, by go_num, hide ?_, hide ((Q.out.setCell (p := ⟨wa.heap.size, 4, none⟩) (Nat.le_refl _) _).setCell (p := ⟨wa.heap.size, 0, none⟩) (Nat.le_refl _) _)⟩, by simp [intOf]; omega⟩
                  refine (heap_setCell_same _ wa.heap.size 0 _ _ _ (heap_setCell_same wr wa.heap.size 4 _ _ _ R0.out)).trans ?_
                  rw [Z.out, rnd_row]
                  refine set2_eq _ ?_ ?_
                  · rw [rnd4, T.out]
                    unfold bs1 chI xorI andI notI
                    omega
                  · rw [rnd0, T.out]
                    unfold bs1 bs0 chI maI xorI andI notI
                    omega
            · obtain ⟨wc, rfl⟩ : ∃ z : World, z = wr := ⟨wr, rfl⟩
              have hgt64 : ¬ ((k : Int) < 64) := by omega
              have e64 : Hid (k = 64) := hide (by omega)
              have DV : Hid (At wc wa.heap.size 8 (rndTo v x k)) := hide (At.of R.out)
              have DH : Hid (At wc g1 8 v) := hide (D1.out.below Q.out hg1a)
              have BC : Hid (Below w.heap.size w wc) := hide (BA.out.trans (Q.out.mono hwa))
              have hgv : wa.heap.size < wc.heap.size := (Array.getElem?_eq_some_iff.1 R.out).1
              have UM : Hid (∀ j, (v j + rndTo v x k j) % 4294967296 = mixI v x j) := hide fun j => by rw [e64.out]; unfold mixI; rw [Int.add_comm]
              clear hlt R Q AX D1 BA
              go_wp2
              have O0 := hide (IOwn.built .u8 5 wc wc.heap.size (Nat.le_refl _))
              have L0 : Hid (Below wc.heap.size wc (wc.alloc (.cells #[] 5))) := hide ((Below.refl _ _).alloc (Nat.le_refl _) _)
              go_loopw [23, 24] (fun bv iv wr => ∃ (i : Nat) (A : Option Addr) (cap : Nat), i ≤ 8 ∧ bv = .slice A (4 * i) cap ∧ iv = .int .i64 i ∧ Hid (IOwn .u8 5 wr wc.heap.size A cap (bytesTo (mixI v x) i)) ∧ Hid (Below wc.heap.size wc wr)) (fun _ i _ => 8 - (intOf i).toNat)
              case atStart => exact ⟨0, _, _, by omega, rfl, rfl, O0, L0⟩
              case round =>
                clear O0 L0
                obtain ⟨i, A, cap, hi, rfl, rfl, O, Q⟩ := hrel
                have hwc := Q.out.size
                by_cases hlt : i < 8
                · have ch := (Q.out.cell (p := ⟨g1, i, none⟩) (by show g1 < wc.heap.size; omega)).trans (DH.out i hlt)
                  have cv := (Q.out.cell (p := ⟨wa.heap.size, i, none⟩) hgv).trans (DV.out i hlt)
                  have MW := hide (mixI_word v x i)
                  have um := hide (UM.out i)
                  go_wp2
                  go_region
                  rw [um.out]
                  obtain ⟨m0, m1⟩ := MW.out
                  have bl4 : Hid ((bytesTo (mixI v x) i).length = 4 * i) := hide (bytesTo_length _ _)
                  have bs4 := hide (bytesTo_succ (mixI v x) i)
                  generalize mixI v x i = nn at *
                  go_wp2_with (at_builtin; refine wpList_iapp (k := .u8) (e := 5) (z := .int .u8 0) (nb := 1) (B := wc.heap.size) (A := A) (cap := cap) (l := bytesTo (mixI v x) i) (news := bytesI nn) (g := wr.heap.size) (m := 4) (c := 4) rfl (.tmp 188) (.tmp 200) rfl Tryz.underlying22 infoB rfl (by omega) (by rw [bl4.out]; rfl) rfl (by exact O.out.alloc _) rfl (by exact cell_four_at wr nn _) (by simp; omega) (by rw [bl4.out]; omega) ?_; intro A2 cap2 w5 o5 g5 _; rw [bl4.out])
                  refine ⟨⟨i + 1, A2, cap2, by omega, by rw [show 4 * (i + 1) = 4 * i + 4 by omega], by go_num, hide ?_, hide ?_⟩, by simp [intOf]; omega⟩
                  · rw [bs4.out]; exact o5
                  · exact ((Q.out.alloc hwc _).drew).trans (IOwn.grownBelow (k := .u8) (e := 5) (cap := cap) (l := bytesTo (mixI v x) i) (by exact O.out.alloc _) g5 (by simp; omega))
                · have hgt8' : ¬ ((i : Int) < 8) := by omega
                  have e8 : Hid (i = 8) := hide (by omega)
                  obtain ⟨g5, rfl, hg5, hg5', c5⟩ := O.out.cell (by rw [bytesTo_length]; omega)
                  have HC : (convert 22 9 (.slice (some ⟨g5, 0, none⟩) (4 * i) cap)).run Tryz.prog wr = .ok (.string (strOfNums (bytesTo (mixI v x) i))) wr :=
                    run_convert_bytes_arg wr 22 5 (by kernel_rfl) (by kernel_rfl) g5 0 (4 * i) cap (bytesTo (mixI v x) i) (bytesTo_length _ _) (fun j hj => by
                      rw [Nat.zero_add, c5 j (by rw [bytesTo_length]; exact hj)]) 9 (by kernel_rfl)
                  have FIN : Hid (strOfNums (bytesTo (mixI v x) i) = digB (mixI v x)) := hide (by rw [e8.out, bytesTo_8])
                  clear c5
                  go_wp2
                  go_ret
                  refine ⟨ret_str ?_, BC.out.trans (Q.out.mono (by have := BC.out.size; omega))⟩
                  rw [HVE.out, HME.out, HXE.out, FIN.out]
end Go.Proofs.YtdahpnjamlfakaaGreatDoor
