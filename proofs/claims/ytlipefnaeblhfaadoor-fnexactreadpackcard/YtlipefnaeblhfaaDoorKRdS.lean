/-
  What spec.ReadPack answers.
-/
import Derived.Test.YtlipefnaeblhfaaDoorKRdI
import Derived.Deep.RegionLaw
namespace Go.Proofs.YtlipefnaeblhfaaDoor
open Go.RowKit

/-- cut at the byte 10: a number stands ahead of it just when a piece's head is there -/
theorem cut_head {r : ByteArray} (h : (cutS r 10).2.2 = true) (hn : numP (cutS r 10).1) : headP r ∧ hdV r = numV (cutS r 10).1 ∧ hdE r = r.size - (cutS r 10).2.1.size ∧ (cutS r 10).2.1.size ≤ r.size ∧ ∀ a b, hdE r + b ≤ r.size → (cutS r 10).2.1.extract a b = r.extract (hdE r + a) (hdE r + b) := by
  have hp : posB r 10 < r.size := by
    by_cases g : posB r 10 < r.size
    · exact g
    · rw [cutS_no g] at h; cases h
  rw [cutS_yes hp] at hn ⊢
  have hh : headP r := ⟨hp, hn⟩
  obtain ⟨e1, e2⟩ := hd_yes hh
  have hz : (r.extract 0 (posB r 10)).size = posB r 10 := by rw [ByteArray.size_extract]; omega
  have hz2 : (r.extract (posB r 10 + 1) r.size).size = r.size - (posB r 10 + 1) := by rw [ByteArray.size_extract]; omega
  refine ⟨hh, ?_, ?_, ?_, ?_⟩
  · rw [e1, numV_yes hn, hz, numK_cut r _ (by omega) _ (Nat.le_refl _)]
  · rw [hz2, e2]; omega
  · rw [hz2]; omega
  · intro a b hb
    rw [e2] at hb ⊢
    apply Go.WideShapes.bytes_inj
    simp only [ByteArray.data_extract, Array.toList_extract, List.extract_eq_take_drop]
    rw [List.drop_take, List.drop_drop, List.take_take]
    congr 1
    omega
theorem cutA_oneK (s : ByteArray) (c : UInt8) : (cutS s c).1.size ≤ s.size ∧ (cutS s c).2.1.size ≤ s.size := by
  unfold cutS
  split
  · simp only [ByteArray.size_extract]; omega
  · simp
theorem cut_not {r : ByteArray} (h : ¬ ((cutS r 10).2.2 = true ∧ numP (cutS r 10).1)) : ¬ headP r := fun hh => h (by
  rw [cutS_yes hh.1]
  exact ⟨rfl, hh.2⟩)

set_option maxRecDepth 100000 in
set_option maxHeartbeats 2000000 in
theorem specReadPack_any (s : ByteArray) (w : World) (hs : s.size ≤ 1048576) :
    Calls Tryd.prog 12 #[.string s] w (RetPk s w) := by
  have O0 := hide (Own.built w w.heap.size (Nat.le_refl _))
  have B0 := hide ((Below.refl w.heap.size w).alloc (Nat.le_refl _) (.cells #[] 41))
  go_enter Tryd.func12, Tryd.ntmps12
  go_wp2
  go_loopw [4, 5] (fun ov sv wr => ∃ (r : ByteArray) (ts : List ByteArray) (A : Option Addr) (cap : Nat), sv = .string r ∧ ov = .slice A ts.length cap ∧ ts.length ≤ 1048576 ∧ r.size ≤ s.size ∧ Hid (StK s ts r) ∧ Hid (Own wr w.heap.size A cap (ts.map objK)) ∧ Hid (Below w.heap.size w wr)) (fun _ sv _ => match sv with | .string r => r.size | _ => 0)
  case atStart => exact ⟨s, [], _, 0, rfl, rfl, by simp, Nat.le_refl _, stK_start s, O0, B0⟩
  case round =>
    clear O0 B0
    obtain ⟨r, ts, A, cap, rfl, rfl, h60, hrs, F, O, Q⟩ := hrel
    have hqs := Q.out.size
    by_cases hr : r.size = 0
    · have hend := stK_end F.out hr
      obtain rfl := emK_eq hr
      have hle : (ts.map objK).length = ts.length := List.length_map ..
      have OK := hide (specObjsOk_any A (ts.map objK) cap wr (by rw [hle]; unfold maxLen; omega) O.out.pin)
      rw [hle] at OK
      cases hb : objsB (ts.map objK)
      · have N := hide (rp_not hend hb)
        rw [hb] at OK
        clear F O hrs hr hend
        go_wp2_with fail
        refine OK.out.mono ?_
        rintro e w1 ⟨rfl, b1⟩
        have B1 := hide (Q.out.trans (b1.mono hqs))
        clear b1 OK Q
        go_wp2
        go_ret2
        exact retPk_no N.out B1.out
      · have Y := hide (rp_yes hend hb)
        rw [hb] at OK
        clear F hrs hr hend
        go_wp2_with fail
        refine OK.out.mono ?_
        rintro e w1 ⟨rfl, b1⟩
        have B1 := hide (Q.out.trans (b1.mono hqs))
        have O1 := hide (O.out.below b1)
        clear b1 OK Q O
        go_wp2
        go_ret2
        exact ⟨A, cap, by rw [Y.out.1, Y.out.2, hle]; rfl, by rw [Y.out.2]; exact O1.out, B1.out⟩
    · obtain ⟨n1, n2, n3⟩ := emK_ne hr
      have CU : Hid (Calls Tryd.prog 30 #[.string r, .int .u8 10] wr fun e w' => e = .returned (.tuple #[.string (cutS r 10).1, .string (cutS r 10).2.1, .bool (cutS r 10).2.2]) ∧ Quiet wr w') := hide (l1Cut_any r 10 10 wr (by unfold maxLen; omega) rfl)
      have zc := cutA_oneK r 10
      have BAD := hide (fun h => stK_bad F.out hr h)
      have LONG := hide (fun h => stK_long F.out hr h)
      have CN := hide (fun h => cut_not (r := r) h)
      have CH := hide (fun h h' => cut_head (r := r) h h')
      have NXT := hide (fun h => stK_next F.out hr h)
      clear F
      generalize hy : (cutS r 10).2.1 = y at *
      generalize hx : (cutS r 10).1 = x at *
      generalize hi : (cutS r 10).2.2 = is at *
      clear hy hx hi
      go_wp2_with fail
      refine CU.out.mono ?_
      rintro e w1 ⟨rfl, q1⟩
      have Q1 := hide (Q.out.trans (q1.below _))
      have O1 := hide (O.out.below (q1.below _))
      have hq1 := Q1.out.size
      clear q1 CU Q O
      have NU := hide (l1Num_any x w1 (by unfold maxLen; omega))
      go_wp2_with fail
      refine NU.out.mono ?_
      rintro e w2 ⟨rfl, rfl⟩
      clear NU
      by_cases hok : is = true ∧ numP x
      · obtain ⟨rfl, hnp⟩ := hok
        obtain ⟨hh, hv, he, hys, hex⟩ := CH.out rfl hnp
        have nb := numB_yes hnp
        rw [nb, ← hv]
        clear CH CN nb hv
        by_cases hp : hdE r + hdV r ≤ r.size
        · by_cases h2 : 2000 < hdV r
          · have N := hide (LONG.out h2)
            generalize hdV r = n at *
            generalize hdE r = e at *
            have d1 : decide ((y.size : Int) < (n : Int)) = false := decide_eq_false (by omega)
            have d2 : decide (y.size < n) = false := decide_eq_false (by omega)
            have d3 : decide ((2000 : Int) < (n : Int)) = true := decide_eq_true (by omega)
            have d4 : decide (2000 < n) = true := decide_eq_true h2
            clear he hys zc hex
            go_wp2
            go_ret2
            exact retPk_no N.out Q1.out
          · have N := hide (NXT.out ⟨hh, hp⟩)
            have X1 := hex 0 (hdV r) hp
            have X2 := hex (hdV r) y.size (by omega)
            rw [Nat.add_zero] at X1
            rw [show hdE r + y.size = r.size by omega] at X2
            have zt : (r.extract (hdE r) (hdE r + hdV r)).size = hdV r := by rw [ByteArray.size_extract]; omega
            have zr : (r.extract (hdE r + hdV r) r.size).size = r.size - (hdE r + hdV r) := by rw [ByteArray.size_extract]; omega
            have ID := hide (fun W => l2Id_any (r.extract (hdE r) (hdE r + hdV r)) W (by omega))
            have hpos := (hd_pieces hh).1
            rw [← idT_in (by omega)] at ID
            have zi := idT_size (r.extract (hdE r) (hdE r + hdV r))
            have OJ : Hid (objK (r.extract (hdE r) (hdE r + hdV r)) = (idT (r.extract (hdE r) (hdE r + hdV r)), r.extract (hdE r) (hdE r + hdV r))) := hide rfl
            generalize r.extract (hdE r) (hdE r + hdV r) = t at *
            generalize r.extract (hdE r + hdV r) r.size = r2 at *
            generalize hdV r = n at *
            generalize hdE r = e at *
            generalize idT t = i at *
            have d1 : decide ((y.size : Int) < (n : Int)) = false := decide_eq_false (by omega)
            have d2 : decide (y.size < n) = false := decide_eq_false (by omega)
            have d3 : decide ((2000 : Int) < (n : Int)) = false := decide_eq_false (by omega)
            have d4 : decide (2000 < n) = false := decide_eq_false h2
            have ny : n ≤ y.size := by omega
            have hy : y.size ≤ 1048576 := by omega
            have hr2 : r2.size < r.size := by omega
            have HZ := hide zt
            have zt2 : t.size ≤ 2000 := by omega
            clear he hys zc hex zt zr hp
            have r1 : ∀ W : World, (Instr.slice 9 (.string y) none (some (.int .i64 (n : Int))) none).run Tryd.prog W = .ok (.string t) W := fun W => by
              rw [← X1]
              have h1 : (0 : Int) ≤ (n : Int) := by omega
              have h2 : (n : Int) ≤ (y.size : Int) := by omega
              simp [go_sem, Tryd.underlying9, h1, h2]
            have hl1 : (ts.map objK ++ [(i, t)]).length = ts.length + 1 := by simp
            have hN := N.out.1
            rw [List.length_append] at hN
            simp only [List.length_cons, List.length_nil] at hN
            have MP : Hid ((ts ++ [t]).map objK = ts.map objK ++ [(i, t)]) := hide (by rw [List.map_append, ← OJ.out]; rfl)
            go_wp2
            go_region_law (first
              | (refine step_app (n := ts.length) (m := 1) (A := A) (cap := cap) (A' := some ⟨w2.heap.size, 0, none⟩) (c := 1) (l := ts.map objK) (l' := [(i, t)]) 25 Tryd.underlying25 rfl (.tmp 42) (.tmp 51) rfl (by simp [Act.eval]) (by simp [Act.eval]) (by simp) rfl (O2.out.alloc _) (PIn.one w2 i t (by unfold maxLen; omega) (by unfold maxLen; omega) _) (Nat.le_trans hq2 (by simp)) (by simp; omega) ?_; intro A3 cap3 w3 own3 g3 r3; have B3 := hide (Q2.out.trans (((Below.refl _ w2).alloc hq2 (.cells #[.string i, .string t] 41)).trans ((O2.out.alloc (.cells #[.string i, .string t] 41)).grownBelow (by rw [rowOf_own]; exact g3) (Nat.le_trans hq2 (by simp))))); have O3 := hide own3; clear own3 g3 r3)
              | (go_simp; go_at_call 32; refine (ID.out _).mono ?_; rintro _ w2 ⟨rfl, b2⟩; have b2' : Below w1.heap.size w1 w2 := ⟨b2.os, b2.tape, b2.output, b2.size, b2.block⟩; have Q2 := hide (Q1.out.trans (b2'.mono hq1)); have O2 := hide (O1.out.below b2'); have hq2 := Q2.out.size; clear b2 b2'))
            all_goals
              go_wp2
              go_roundw
              case rel => exact ⟨r2, ts ++ [t], A3, cap3, rfl, by simp, by simp; omega, by omega, N, by rw [MP.out]; exact O3, B3⟩
              case measure => simp; omega
        · have N := hide (BAD.out (fun h => hp h.2))
          generalize hdV r = n at *
          generalize hdE r = e at *
          have d1 : decide ((y.size : Int) < (n : Int)) = true := decide_eq_true (by omega)
          have d2 : decide (y.size < n) = true := decide_eq_true (by omega)
          clear he hys zc hex hp
          go_wp2
          go_ret2
          exact retPk_no N.out Q1.out
      · have N := hide (BAD.out (fun h => CN.out hok h.1))
        by_cases hx : is = true
        · subst hx
          have nb := numB_no (s := x) (fun h => hok ⟨rfl, h⟩)
          rw [nb]
          clear CH CN
          generalize numV x = n at *
          go_wp2
          go_ret2
          exact retPk_no N.out Q1.out
        · obtain rfl : is = false := by simpa using hx
          clear CH CN
          generalize numV x = n at *
          generalize numB x = ok at *
          go_wp2
          go_ret2
          exact retPk_no N.out Q1.out
end Go.Proofs.YtlipefnaeblhfaaDoor
