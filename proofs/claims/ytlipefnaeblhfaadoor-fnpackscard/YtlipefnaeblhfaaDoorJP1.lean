/-
  For every code, laws.FnPacks returns true: drawn right objects come back from their pack; what is read of a drawn text, written again, has just its bytes. No conditions but that the two tables of the digest and the table of strconv.Itoa hold what the program's text lays (the card ties them).
-/
import Derived.Test.YtlipefnaeblhfaaDoorKPack
import Derived.Test.YtlipefnaeblhfaaDoorQRow
import Derived.Deep.RegionLaw
import Derived.Test.YtlipefnaeblhfaaDoorKLaid
import Derived.Test.YtlipefnaeblhfaaDoorRdCode
import Derived.Test.YtlipefnaeblhfaaDoorKDraw
import Derived.Test.YtlipefnaeblhfaaDoorKTrip
/-
  What impl.ReadPack answers.
-/
namespace Go.Proofs.YtlipefnaeblhfaaDoor
open Go.RowKit

/-- objects come back, in a row of the call's own, or none -/
def RetPk (s : ByteArray) (w : World) (e : Ending) (w' : World) : Prop :=
  ∃ A cap, e = .returned (.tuple #[.slice A (rpL s).length cap, .bool (rpB s)]) ∧ Own w' w.heap.size A cap (rpL s) ∧ Below w.heap.size w w'
theorem retPk_no {s : ByteArray} {w w' : World} (h : ¬ rpP s) (hb : Below w.heap.size w w') : RetPk s w (.returned (.tuple #[.slice none 0 0, .bool false])) w' := by
  obtain ⟨a, b⟩ := rp_no h
  exact ⟨none, 0, by rw [a, b]; rfl, by rw [b]; exact Own.nil _ _, hb⟩
theorem emK_ne {r : ByteArray} (h : ¬ r.size = 0) : (r.toList == []) = false ∧ (r.toList != []) = true ∧ r.toList.isEmpty = false := by
  have hl : r.toList.length = r.size := by rw [Go.ByteArray.toList_eq]; simp
  cases hx : r.toList with
  | nil => rw [hx] at hl; exact absurd hl.symm h
  | cons a b => exact ⟨rfl, rfl, rfl⟩
theorem emK_eq {r : ByteArray} (h : r.size = 0) : r = ByteArray.empty := by
  cases r with
  | mk d => cases d with
    | mk l => cases l with
      | nil => rfl
      | cons a b => simp [ByteArray.size] at h
theorem idT_size (t : ByteArray) : (idT t).size ≤ 16 := by
  by_cases h : t.size ≤ 2000
  · rw [idT_in h, idL_size]; exact Nat.le_refl _
  · rw [idT_out h]; simp

set_option maxRecDepth 100000 in
set_option maxHeartbeats 2000000 in
theorem implReadPack_any (s : ByteArray) (w : World) (hs : s.size ≤ 1048576) (hT : Tabs w) :
    Calls Tryd.prog 13 #[.string s] w (RetPk s w) := by
  have HT := hide hT
  have HB := hide hT.1
  clear hT
  go_enter Tryd.func13, Tryd.ntmps13
  go_wp2
  go_loopw [0, 4] (fun sv ov wr => ∃ (r : ByteArray) (ts : List ByteArray) (A : Option Addr) (cap : Nat), sv = .string r ∧ ov = .slice A ts.length cap ∧ ts.length ≤ 60 ∧ r.size ≤ s.size ∧ Hid (StK s ts r) ∧ Hid (Own wr w.heap.size A cap (ts.map objK)) ∧ Hid (Below w.heap.size w wr)) (fun sv _ _ => match sv with | .string r => r.size | _ => 0)
  case atStart => exact ⟨s, [], none, 0, rfl, rfl, by simp, Nat.le_refl _, stK_start s, Own.nil _ _, Below.refl _ _⟩
  case round =>
    obtain ⟨r, ts, A, cap, rfl, rfl, h60, hrs, F, O, Q⟩ := hrel
    have hqs := Q.out.size
    by_cases hr : r.size = 0
    · have hend := stK_end F.out hr
      obtain rfl := emK_eq hr
      have hle : (ts.map objK).length = ts.length := List.length_map ..
      have OK := hide (implObjsOk_any A (ts.map objK) cap wr (by rw [hle]; unfold maxLen; omega) O.out.pin (HT.out.below Q.out HB.out))
      rw [hle] at OK
      cases hb : objsB (ts.map objK)
      · have N := hide (rp_not hend hb)
        rw [hb] at OK
        clear F O hrs hr hend
        go_wp2_with fail
        refine OK.out.mono ?_
        rintro e w1 ⟨rfl, b1⟩
        have B1 := hide (Q.out.trans (b1.mono hqs))
        clear b1 OK Q
        go_wp2
        go_ret2
        exact retPk_no N.out B1.out
      · have Y := hide (rp_yes hend hb)
        rw [hb] at OK
        clear F hrs hr hend
        go_wp2_with fail
        refine OK.out.mono ?_
        rintro e w1 ⟨rfl, b1⟩
        have B1 := hide (Q.out.trans (b1.mono hqs))
        have O1 := hide (O.out.below b1)
        clear b1 OK Q O
        go_wp2
        go_ret2
        exact ⟨A, cap, by rw [Y.out.1, Y.out.2, hle]; rfl, by rw [Y.out.2]; exact O1.out, B1.out⟩
    · obtain ⟨n1, n2, n3⟩ := emK_ne hr
      have PH := hide (packHead_any r wr (by omega))
      have BAD := hide (fun h => stK_bad F.out hr h)
      by_cases hh : headP r
      · have hq := hd_pieces hh
        by_cases hp : hdE r + hdV r ≤ r.size
        · by_cases h6 : ts.length = 60
          · have N := hide (stK_many F.out hr (by omega))
            generalize hdE r = e at *
            generalize hdV r = n at *
            have d1 : ((e : Int) == 0) = false := beq_eq_false_iff_ne.2 (by omega)
            have d2 : decide ((r.size : Int) - (e : Int) < (n : Int)) = false := decide_eq_false (by omega)
            have d3 : ((ts.length : Int) == 60) = true := beq_iff_eq.2 (by omega)
            clear F O BAD hh
            go_wp2_with fail
            refine PH.out.mono ?_
            rintro _ w1 ⟨rfl, rfl⟩
            clear PH
            go_wp2
            go_ret2
            exact retPk_no N.out Q.out
          · have N := hide (stK_next F.out hr ⟨hh, hp⟩)
            have zt : (r.extract (hdE r) (hdE r + hdV r)).size = hdV r := by rw [ByteArray.size_extract]; omega
            have zr : (r.extract (hdE r + hdV r) r.size).size = r.size - (hdE r + hdV r) := by rw [ByteArray.size_extract]; omega
            have ID := hide (implId (r.extract (hdE r) (hdE r + hdV r)) wr (by unfold maxLen; omega) (HT.out.below Q.out HB.out))
            have zi := idT_size (r.extract (hdE r) (hdE r + hdV r))
            have OJ : Hid (objK (r.extract (hdE r) (hdE r + hdV r)) = (idT (r.extract (hdE r) (hdE r + hdV r)), r.extract (hdE r) (hdE r + hdV r))) := hide rfl
            generalize ht : r.extract (hdE r) (hdE r + hdV r) = t at *
            generalize hr2 : r.extract (hdE r + hdV r) r.size = r2 at *
            generalize hdE r = e at *
            generalize hdV r = n at *
            generalize idT t = i at *
            have d1 : ((e : Int) == 0) = false := beq_eq_false_iff_ne.2 (by omega)
            have d2 : decide ((r.size : Int) - (e : Int) < (n : Int)) = false := decide_eq_false (by omega)
            have d3 : ((ts.length : Int) == 60) = false := beq_eq_false_iff_ne.2 (by omega)
            have t1 : ((e : Int) + (n : Int)).toNat = e + n := by omega
            clear F BAD hh
            go_wp2_with fail
            refine PH.out.mono ?_
            rintro _ w1 ⟨rfl, rfl⟩
            clear PH
            go_wp2_with fail
            refine ID.out.mono ?_
            rintro _ w1 ⟨rfl, b1⟩
            have Q1 := hide (Q.out.trans (b1.mono hqs))
            have O1 := hide (O.out.below b1)
            have hq1 := Q1.out.size
            clear b1 ID Q O
            have hl1 : (ts.map objK ++ [(i, t)]).length = ts.length + 1 := by simp
            have MP : Hid ((ts ++ [t]).map objK = ts.map objK ++ [(i, t)]) := hide (by rw [List.map_append, ← OJ.out]; rfl)
            go_wp2_with (at_builtin; refine wpList_app (l := ts.map objK) (l' := [(i, t)]) 25 Tryd.underlying25 rfl (.tmp 36) (.tmp 41) rfl rfl rfl (by simp) rfl (O1.out.alloc _) (PIn.one w1 i t (by unfold maxLen; omega) (by unfold maxLen; omega) _) (Nat.le_trans hq1 (by simp)) (by simp; omega) ?_; intro A3 cap3 w3 own3 g3 r3; have B3 := hide (Q1.out.trans (((Below.refl _ w1).alloc hq1 (.cells #[.string i, .string t] 41)).trans ((O1.out.alloc (.cells #[.string i, .string t] 41)).grownBelow (by rw [rowOf_own]; exact g3) (Nat.le_trans hq1 (by simp))))); have O3 := hide own3; clear own3 g3 r3)
            go_roundw
            case rel => exact ⟨r2, ts ++ [t], A3, cap3, rfl, by simp, by simp; omega, by omega, N, by rw [MP.out]; exact O3, B3⟩
            case measure => simp; omega
        · have N := hide (BAD.out (fun h => hp h.2))
          generalize hdE r = e at *
          generalize hdV r = n at *
          have d1 : ((e : Int) == 0) = false := beq_eq_false_iff_ne.2 (by omega)
          have d2 : decide ((r.size : Int) - (e : Int) < (n : Int)) = true := decide_eq_true (by omega)
          clear F O BAD hh
          go_wp2_with fail
          refine PH.out.mono ?_
          rintro _ w1 ⟨rfl, rfl⟩
          clear PH
          go_wp2
          go_ret2
          exact retPk_no N.out Q.out
      · have N := hide (BAD.out (fun h => hh h.1))
        obtain ⟨v1, v2⟩ := hd_no hh
        rw [v1, v2] at PH
        clear F O BAD hh
        go_wp2_with fail
        refine PH.out.mono ?_
        rintro _ w1 ⟨rfl, rfl⟩
        clear PH
        go_wp2
        go_ret2
        exact retPk_no N.out Q.out
end Go.Proofs.YtlipefnaeblhfaaDoor
/-
  What spec.ReadPack answers.
-/
namespace Go.Proofs.YtlipefnaeblhfaaDoor
open Go.RowKit

/-- cut at the byte 10: a number stands ahead of it just when a piece's head is there -/
theorem cut_head {r : ByteArray} (h : (cutS r 10).2.2 = true) (hn : numP (cutS r 10).1) : headP r ∧ hdV r = numV (cutS r 10).1 ∧ hdE r = r.size - (cutS r 10).2.1.size ∧ (cutS r 10).2.1.size ≤ r.size ∧ ∀ a b, hdE r + b ≤ r.size → (cutS r 10).2.1.extract a b = r.extract (hdE r + a) (hdE r + b) := by
  have hp : posB r 10 < r.size := by
    by_cases g : posB r 10 < r.size
    · exact g
    · rw [cutS_no g] at h; cases h
  rw [cutS_yes hp] at hn ⊢
  have hh : headP r := ⟨hp, hn⟩
  obtain ⟨e1, e2⟩ := hd_yes hh
  have hz : (r.extract 0 (posB r 10)).size = posB r 10 := by rw [ByteArray.size_extract]; omega
  have hz2 : (r.extract (posB r 10 + 1) r.size).size = r.size - (posB r 10 + 1) := by rw [ByteArray.size_extract]; omega
  refine ⟨hh, ?_, ?_, ?_, ?_⟩
  · rw [e1, numV_yes hn, hz, numK_cut r _ (by omega) _ (Nat.le_refl _)]
  · rw [hz2, e2]; omega
  · rw [hz2]; omega
  · intro a b hb
    rw [e2] at hb ⊢
    apply Go.WideShapes.bytes_inj
    simp only [ByteArray.data_extract, Array.toList_extract, List.extract_eq_take_drop]
    rw [List.drop_take, List.drop_drop, List.take_take]
    congr 1
    omega
theorem cutA_oneK (s : ByteArray) (c : UInt8) : (cutS s c).1.size ≤ s.size ∧ (cutS s c).2.1.size ≤ s.size := by
  unfold cutS
  split
  · simp only [ByteArray.size_extract]; omega
  · simp
theorem cut_not {r : ByteArray} (h : ¬ ((cutS r 10).2.2 = true ∧ numP (cutS r 10).1)) : ¬ headP r := fun hh => h (by
  rw [cutS_yes hh.1]
  exact ⟨rfl, hh.2⟩)

set_option maxRecDepth 100000 in
set_option maxHeartbeats 2000000 in
theorem specReadPack_any (s : ByteArray) (w : World) (hs : s.size ≤ 1048576) :
    Calls Tryd.prog 12 #[.string s] w (RetPk s w) := by
  have O0 := hide (Own.built w w.heap.size (Nat.le_refl _))
  have B0 := hide ((Below.refl w.heap.size w).alloc (Nat.le_refl _) (.cells #[] 41))
  go_enter Tryd.func12, Tryd.ntmps12
  go_wp2
  go_loopw [4, 5] (fun ov sv wr => ∃ (r : ByteArray) (ts : List ByteArray) (A : Option Addr) (cap : Nat), sv = .string r ∧ ov = .slice A ts.length cap ∧ ts.length ≤ 1048576 ∧ r.size ≤ s.size ∧ Hid (StK s ts r) ∧ Hid (Own wr w.heap.size A cap (ts.map objK)) ∧ Hid (Below w.heap.size w wr)) (fun _ sv _ => match sv with | .string r => r.size | _ => 0)
  case atStart => exact ⟨s, [], _, 0, rfl, rfl, by simp, Nat.le_refl _, stK_start s, O0, B0⟩
  case round =>
    clear O0 B0
    obtain ⟨r, ts, A, cap, rfl, rfl, h60, hrs, F, O, Q⟩ := hrel
    have hqs := Q.out.size
    by_cases hr : r.size = 0
    · have hend := stK_end F.out hr
      obtain rfl := emK_eq hr
      have hle : (ts.map objK).length = ts.length := List.length_map ..
      have OK := hide (specObjsOk_any A (ts.map objK) cap wr (by rw [hle]; unfold maxLen; omega) O.out.pin)
      rw [hle] at OK
      cases hb : objsB (ts.map objK)
      · have N := hide (rp_not hend hb)
        rw [hb] at OK
        clear F O hrs hr hend
        go_wp2_with fail
        refine OK.out.mono ?_
        rintro e w1 ⟨rfl, b1⟩
        have B1 := hide (Q.out.trans (b1.mono hqs))
        clear b1 OK Q
        go_wp2
        go_ret2
        exact retPk_no N.out B1.out
      · have Y := hide (rp_yes hend hb)
        rw [hb] at OK
        clear F hrs hr hend
        go_wp2_with fail
        refine OK.out.mono ?_
        rintro e w1 ⟨rfl, b1⟩
        have B1 := hide (Q.out.trans (b1.mono hqs))
        have O1 := hide (O.out.below b1)
        clear b1 OK Q O
        go_wp2
        go_ret2
        exact ⟨A, cap, by rw [Y.out.1, Y.out.2, hle]; rfl, by rw [Y.out.2]; exact O1.out, B1.out⟩
    · obtain ⟨n1, n2, n3⟩ := emK_ne hr
      have CU : Hid (Calls Tryd.prog 30 #[.string r, .int .u8 10] wr fun e w' => e = .returned (.tuple #[.string (cutS r 10).1, .string (cutS r 10).2.1, .bool (cutS r 10).2.2]) ∧ Quiet wr w') := hide (l1Cut_any r 10 10 wr (by unfold maxLen; omega) rfl)
      have zc := cutA_oneK r 10
      have BAD := hide (fun h => stK_bad F.out hr h)
      have LONG := hide (fun h => stK_long F.out hr h)
      have CN := hide (fun h => cut_not (r := r) h)
      have CH := hide (fun h h' => cut_head (r := r) h h')
      have NXT := hide (fun h => stK_next F.out hr h)
      clear F
      generalize hy : (cutS r 10).2.1 = y at *
      generalize hx : (cutS r 10).1 = x at *
      generalize hi : (cutS r 10).2.2 = is at *
      clear hy hx hi
      go_wp2_with fail
      refine CU.out.mono ?_
      rintro e w1 ⟨rfl, q1⟩
      have Q1 := hide (Q.out.trans (q1.below _))
      have O1 := hide (O.out.below (q1.below _))
      have hq1 := Q1.out.size
      clear q1 CU Q O
      have NU := hide (l1Num_any x w1 (by unfold maxLen; omega))
      go_wp2_with fail
      refine NU.out.mono ?_
      rintro e w2 ⟨rfl, rfl⟩
      clear NU
      by_cases hok : is = true ∧ numP x
      · obtain ⟨rfl, hnp⟩ := hok
        obtain ⟨hh, hv, he, hys, hex⟩ := CH.out rfl hnp
        have nb := numB_yes hnp
        rw [nb, ← hv]
        clear CH CN nb hv
        by_cases hp : hdE r + hdV r ≤ r.size
        · by_cases h2 : 2000 < hdV r
          · have N := hide (LONG.out h2)
            generalize hdV r = n at *
            generalize hdE r = e at *
            have d1 : decide ((y.size : Int) < (n : Int)) = false := decide_eq_false (by omega)
            have d2 : decide (y.size < n) = false := decide_eq_false (by omega)
            have d3 : decide ((2000 : Int) < (n : Int)) = true := decide_eq_true (by omega)
            have d4 : decide (2000 < n) = true := decide_eq_true h2
            clear he hys zc hex
            go_wp2
            go_ret2
            exact retPk_no N.out Q1.out
          · have N := hide (NXT.out ⟨hh, hp⟩)
            have X1 := hex 0 (hdV r) hp
            have X2 := hex (hdV r) y.size (by omega)
            rw [Nat.add_zero] at X1
            rw [show hdE r + y.size = r.size by omega] at X2
            have zt : (r.extract (hdE r) (hdE r + hdV r)).size = hdV r := by rw [ByteArray.size_extract]; omega
            have zr : (r.extract (hdE r + hdV r) r.size).size = r.size - (hdE r + hdV r) := by rw [ByteArray.size_extract]; omega
            have ID := hide (fun W => l2Id_any (r.extract (hdE r) (hdE r + hdV r)) W (by omega))
            have hpos := (hd_pieces hh).1
            rw [← idT_in (by omega)] at ID
            have zi := idT_size (r.extract (hdE r) (hdE r + hdV r))
            have OJ : Hid (objK (r.extract (hdE r) (hdE r + hdV r)) = (idT (r.extract (hdE r) (hdE r + hdV r)), r.extract (hdE r) (hdE r + hdV r))) := hide rfl
            generalize r.extract (hdE r) (hdE r + hdV r) = t at *
            generalize r.extract (hdE r + hdV r) r.size = r2 at *
            generalize hdV r = n at *
            generalize hdE r = e at *
            generalize idT t = i at *
            have d1 : decide ((y.size : Int) < (n : Int)) = false := decide_eq_false (by omega)
            have d2 : decide (y.size < n) = false := decide_eq_false (by omega)
            have d3 : decide ((2000 : Int) < (n : Int)) = false := decide_eq_false (by omega)
            have d4 : decide (2000 < n) = false := decide_eq_false h2
            have ny : n ≤ y.size := by omega
            have hy : y.size ≤ 1048576 := by omega
            have hr2 : r2.size < r.size := by omega
            have HZ := hide zt
            have zt2 : t.size ≤ 2000 := by omega
            clear he hys zc hex zt zr hp
            have r1 : ∀ W : World, (Instr.slice 9 (.string y) none (some (.int .i64 (n : Int))) none).run Tryd.prog W = .ok (.string t) W := fun W => by
              rw [← X1]
              have h1 : (0 : Int) ≤ (n : Int) := by omega
              have h2 : (n : Int) ≤ (y.size : Int) := by omega
              simp [go_sem, Tryd.underlying9, h1, h2]
            have hl1 : (ts.map objK ++ [(i, t)]).length = ts.length + 1 := by simp
            have hN := N.out.1
            rw [List.length_append] at hN
            simp only [List.length_cons, List.length_nil] at hN
            have MP : Hid ((ts ++ [t]).map objK = ts.map objK ++ [(i, t)]) := hide (by rw [List.map_append, ← OJ.out]; rfl)
            go_wp2
            go_region_law (first
              | (refine step_app (n := ts.length) (m := 1) (A := A) (cap := cap) (A' := some ⟨w2.heap.size, 0, none⟩) (c := 1) (l := ts.map objK) (l' := [(i, t)]) 25 Tryd.underlying25 rfl (.tmp 42) (.tmp 51) rfl (by simp [Act.eval]) (by simp [Act.eval]) (by simp) rfl (O2.out.alloc _) (PIn.one w2 i t (by unfold maxLen; omega) (by unfold maxLen; omega) _) (Nat.le_trans hq2 (by simp)) (by simp; omega) ?_; intro A3 cap3 w3 own3 g3 r3; have B3 := hide (Q2.out.trans (((Below.refl _ w2).alloc hq2 (.cells #[.string i, .string t] 41)).trans ((O2.out.alloc (.cells #[.string i, .string t] 41)).grownBelow (by rw [rowOf_own]; exact g3) (Nat.le_trans hq2 (by simp))))); have O3 := hide own3; clear own3 g3 r3)
              | (go_simp; go_at_call 32; refine (ID.out _).mono ?_; rintro _ w2 ⟨rfl, b2⟩; have b2' : Below w1.heap.size w1 w2 := ⟨b2.os, b2.tape, b2.output, b2.size, b2.block⟩; have Q2 := hide (Q1.out.trans (b2'.mono hq1)); have O2 := hide (O1.out.below b2'); have hq2 := Q2.out.size; clear b2 b2'))
            all_goals
              go_wp2
              go_roundw
              case rel => exact ⟨r2, ts ++ [t], A3, cap3, rfl, by simp, by simp; omega, by omega, N, by rw [MP.out]; exact O3, B3⟩
              case measure => simp; omega
        · have N := hide (BAD.out (fun h => hp h.2))
          generalize hdV r = n at *
          generalize hdE r = e at *
          have d1 : decide ((y.size : Int) < (n : Int)) = true := decide_eq_true (by omega)
          have d2 : decide (y.size < n) = true := decide_eq_true (by omega)
          clear he hys zc hex hp
          go_wp2
          go_ret2
          exact retPk_no N.out Q1.out
      · have N := hide (BAD.out (fun h => CN.out hok h.1))
        by_cases hx : is = true
        · subst hx
          have nb := numB_no (s := x) (fun h => hok ⟨rfl, h⟩)
          rw [nb]
          clear CH CN
          generalize numV x = n at *
          go_wp2
          go_ret2
          exact retPk_no N.out Q1.out
        · obtain rfl : is = false := by simpa using hx
          clear CH CN
          generalize numV x = n at *
          generalize numB x = ok at *
          go_wp2
          go_ret2
          exact retPk_no N.out Q1.out
end Go.Proofs.YtlipefnaeblhfaaDoor
/-
  What laws.sameMap answers.
-/
namespace Go.Proofs.YtlipefnaeblhfaaDoor
open Go.RowKit

set_option maxRecDepth 100000 in
set_option maxHeartbeats 1000000 in
theorem sameMap_any (A A' : Option Addr) (l l' : List Pr) (cap cap' : Nat) (w : World) (B B' : Nat) (hl : l.length ≤ maxLen) (hl' : l'.length ≤ maxLen) (hin : PIn w B A l) (hin' : PIn w B' A' l') :
    Calls Tryd.prog 20 #[.slice A l.length cap, .slice A' l'.length cap'] w fun e w' => e = .returned (.bool (eqL l l')) ∧ Quiet w w' := by
  unfold maxLen at hl hl'
  by_cases he : l.length = l'.length
  · rw [← he]
    rw [← he] at hl'
    generalize hn : l.length = n at *
    have HN := hide hn
    have HN' := hide he
    clear hn he hl'
    go_enter Tryd.func20, Tryd.ntmps20
    go_wp2
    go_loopw [5] (fun i wr => ∃ k : Nat, k ≤ n ∧ i = .int .i64 k ∧ Hid (l.take k = l'.take k) ∧ Hid (Quiet w wr)) (fun i _ => n - (intOf i).toNat)
    case atStart => exact ⟨0, Nat.zero_le _, rfl, rfl, Quiet.refl w⟩
    case round =>
      obtain ⟨k, hk, rfl, H, Q⟩ := hrel
      by_cases hlt : k < n
      · have hin2 := hin.quiet Q.out
        have hin2' := hin'.quiet Q.out
        have hkl : k < l.length := by rw [HN.out]; omega
        have hkl' : k < l'.length := by rw [← HN'.out]; omega
        obtain ⟨b, off, rfl, hbB, hc⟩ := hin2.2 (by omega)
        obtain ⟨b', off', rfl, hbB', hc'⟩ := hin2'.2 (by omega)
        obtain ⟨c1, c2⟩ := hc k hkl
        obtain ⟨c3, c4⟩ := hc' k hkl'
        by_cases hp : l[k]'hkl = l'[k]'hkl'
        · have Z : Hid (l.take (k + 1) = l'.take (k + 1)) := hide (by rw [List.take_succ_eq_append_getElem hkl, List.take_succ_eq_append_getElem hkl', H.out, hp])
          rw [← hp] at c3 c4
          generalize (l[k]'hkl).1 = s at *
          generalize (l[k]'hkl).2 = v at *
          clear hin hin2 hc hin' hin2' hc' hp
          go_wp2
          go_quiet (fail)
          go_wp2
          go_roundw
          case rel => exact ⟨k + 1, by omega, by go_num, Z, Q.out.drewN _⟩
          case measure => simp [intOf]; omega
        · have Z : Hid (eqL l l' = false) := hide (eqL_no (by rintro rfl; exact hp rfl))
          have hp2 : ¬ ((l[k]'hkl).1 = (l'[k]'hkl').1 ∧ (l[k]'hkl).2 = (l'[k]'hkl').2) := fun h => hp (Prod.ext h.1 h.2)
          generalize (l[k]'hkl).1 = s at *
          generalize (l[k]'hkl).2 = v at *
          generalize (l'[k]'hkl').1 = s' at *
          generalize (l'[k]'hkl').2 = v' at *
          clear hin hin2 hc hin' hin2' hc' hp
          by_cases h1 : s = s'
          · have h2 : ¬ v = v' := fun h => hp2 ⟨h1, h⟩
            subst h1
            have d2 := eqS_no h2
            clear hp2 h2
            go_wp2
            go_quiet (fail)
            go_wp2
            go_ret
            exact ⟨ret_bool Z.out.symm, Q.out.drewN _⟩
          · have d1 := eqS_no h1
            clear hp2 h1
            go_wp2
            go_quiet (fail)
            go_wp2
            go_ret
            exact ⟨ret_bool Z.out.symm, Q.out.drewN _⟩
      · obtain rfl : k = n := by omega
        have Z : Hid (eqL l l' = true) := hide (eqL_yes (by
          have h := H.out
          rw [List.take_of_length_le (by rw [HN.out]; exact Nat.le_refl _), List.take_of_length_le (by rw [← HN'.out]; exact Nat.le_refl _)] at h
          exact h))
        go_wp2
        go_ret
        exact ⟨ret_bool Z.out.symm, Q.out⟩
  · have Z : Hid (eqL l l' = false) := hide (eqL_no (by rintro rfl; exact he rfl))
    have d : ((l.length : Int) != (l'.length : Int)) = true := by simp; omega
    clear he
    go_enter Tryd.func20, Tryd.ntmps20
    go_wp2
    go_ret
    exact ⟨ret_bool Z.out.symm, Quiet.refl _⟩
end Go.Proofs.YtlipefnaeblhfaaDoor
namespace Go.Proofs.YtlipefnaeblhfaaDoor.LPacks
open Go.RowKit Go.ChangeShapes Go.WideShapes Go.ChangeAt
open Go.ChangeMaps (open_string shut_string)

theorem drawPackText_any (A : Option Addr) (n cap : Nat) (w : World) (hn : n ≤ 1048576) (hin : CIn w w.heap.size A n) :
    Calls Tryd.prog 17 #[.slice A n cap] w (DrawnO w) := by
  have D := hide (drawObjsOk_any A n cap w hn hin)
  clear hin
  go_enter Tryd.func17, Tryd.ntmps17
  go_wp2_with fail
  refine D.out.mono ?_
  rintro e w1 ⟨A1, cap1, l, h1, h2, rfl, own1, b1⟩
  have O := hide own1
  have B := hide b1
  clear own1 b1
  go_wp2
  go_ret
  exact ⟨A1, cap1, l, h1, h2, rfl, O.out, B.out⟩
theorem rpL_len (s : ByteArray) : (rpL s).length ≤ 60 := by
  by_cases h : rpP s
  · obtain ⟨ts, h1, h2⟩ := h
    rw [(rp_yes h1 h2).2]
    exact (objsB_iff.1 h2).1
  · rw [(rp_no h).2]; simp
theorem packT_size (l : List Pr) : (packT l).size ≤ 300000 := by
  cases hb : objsB l
  · rw [packT_no hb]; simp
  · rw [packT_yes hb]
    have h1 := packL_size l (objs_texts hb)
    have h2 := (objsB_iff.1 hb).1
    omega
set_option maxRecDepth 100000 in
set_option maxHeartbeats 4000000 in
theorem walk (A : Option Addr) (n : Nat) (cap : Nat) (w : World) (hl : n ≤ maxLen) (hin : CIn w w.heap.size A n) (hT : Tabs w) (hP : Pow w) :
    Calls Tryd.prog 6 #[.slice A n cap] w fun e w' => e = .returned (.bool true) ∧ Below w.heap.size w w' := by
  by_cases hbig : 1048576 < n
  · have d : decide (1048576 < n) = true := decide_eq_true hbig
    go_enter Tryd.func6, Tryd.ntmps6
    go_wp2_with (go_at_call 16; refine (big_any A n cap _ hl).mono ?_; rintro e w' ⟨rfl, rfl⟩)
    go_ret
    exact ⟨rfl, Below.refl _ _⟩
  have hn : n ≤ 1048576 := by omega
  have d : decide (1048576 < n) = false := decide_eq_false hbig
  have IN := hide hin
  have HT := hide hT
  have HB := hide hT.1
  have HP := hide hP
  have HPB := hide (pow_lt hP)
  clear hin hT hP
  go_enter Tryd.func6, Tryd.ntmps6
  go_wp2_with fail
  refine (big_any A n cap w hl).mono ?_
  rintro e w' ⟨rfl, rfl⟩
  go_wp2_with fail
  refine (drawPackText_any A n cap w hn IN.out).mono ?_
  rintro e w1 ⟨AM, capM, l, hcM, hl61, rfl, own1, b1⟩
  have B1 := hide b1
  have O1 := hide own1
  clear b1 own1
  have hlm : l.length ≤ maxLen := by unfold maxLen; omega
  have PS := hide (fun W h => specPackText_any AM l capM W hlm h)
  have OS := hide (fun W h => specObjsOk_any AM l capM W hlm h)
  have e1 : ((packT l).toList != (packT l).toList) = false := by simp
  have sz := packT_size l
  go_wp2_with fail
  refine (implPackText_any AM l capM w1 hlm O1.out.pin (HT.out.below B1.out HB.out) (HP.out.below B1.out HPB.out)).mono ?_
  rintro e w2 ⟨rfl, b2⟩
  have B2 := hide (B1.out.trans (b2.mono B1.out.size))
  have O2 := hide (O1.out.below b2)
  clear b2 B1 O1
  go_wp2_with fail
  refine (drawReadPack_any A n cap w2 hn ((IN.out.keep B2.out).more B2.out.size)).mono ?_
  rintro e w3 ⟨t, ht, rfl, b3⟩
  have B3 := hide (B2.out.trans (b3.mono B2.out.size))
  have O3 := hide (O2.out.below b3)
  clear b3 B2 O2
  have lt60 := rpL_len t
  have RB := hide (fun h => rp_back (s := t) h)
  have IM := hide (fun W h => implReadPack_any t W (by omega) h)
  have SP := hide (fun W => specReadPack_any t W (by omega))
  have PY := hide (fun A' c' W h h1 h2 => implPackText_any A' (rpL t) c' W (by unfold maxLen; omega) h h1 h2)
  unfold RetPk at IM SP
  generalize rpL t = y at *
  generalize rpB t = is at *
  have es := eqL_self y
  have e2 : (is != is) = false := by simp
  go_wp2_with fail
  refine (IM.out w3 (HT.out.below B3.out HB.out)).mono ?_
  rintro e w4 ⟨AY, capY, rfl, own4, b4⟩
  have B4 := hide (B3.out.trans (b4.mono B3.out.size))
  have O4 := hide (O3.out.below b4)
  have Y4 := hide own4
  clear b4 own4 B3 O3 IM
  go_wp2_with fail
  refine (SP.out w4).mono ?_
  rintro e w5 ⟨AZ, capZ, rfl, own5, b5⟩
  have B5 := hide (B4.out.trans (b5.mono B4.out.size))
  have O5 := hide (O4.out.below b5)
  have Y5 := hide (Y4.out.below b5)
  have Z5 := hide own5
  clear b5 own5 B4 O4 Y4 SP
  go_wp2_with fail
  refine (PS.out w5 O5.out.pin).mono ?_
  rintro e w6 ⟨rfl, b6⟩
  have B6 := hide (B5.out.trans (b6.mono B5.out.size))
  have O6 := hide (O5.out.below b6)
  have Y6 := hide (Y5.out.below b6)
  have Z6 := hide (Z5.out.below b6)
  clear b6 B5 O5 Y5 Z5 PS
  go_wp2_with fail
  refine (sameMap_any AY AZ y y capY capZ w6 _ _ (by unfold maxLen; omega) (by unfold maxLen; omega) Y6.out.pin Z6.out.pin).mono ?_
  rintro e w7 ⟨rfl, q7⟩
  have b7 := q7.below w6.heap.size
  have B7 := hide (B6.out.trans (b7.mono B6.out.size))
  have O7 := hide (O6.out.below b7)
  have Y7 := hide (Y6.out.below b7)
  clear q7 b7 B6 O6 Y6 Z6
  rw [es]
  have END : Hid (∀ W : World, Own W w.heap.size AM capM l → Below w.heap.size w W → True) := hide (fun _ _ _ => trivial)
  clear END
  have FIN : Hid (objsB l = true → rpB (packT l) = true ∧ rpL (packT l) = l) := hide (fun h => by rw [packT_yes h]; exact rp_there h)
  have EMP : Hid (objsB l = false → packT l = ByteArray.empty) := hide (fun h => packT_no h)
  have IM2 := hide (fun W h => implReadPack_any (packT l) W (by omega) h)
  unfold RetPk at IM2
  have esl := eqL_self l
  cases is
  · cases hb : objsB l
    · have E := EMP.out hb
      rw [hb] at OS
      rw [E]
      clear IM2 FIN EMP PY RB
      go_wp2_with fail
      refine (OS.out w7 O7.out.pin).mono ?_
      rintro e w8 ⟨rfl, b8⟩
      have B8 := hide (B7.out.trans (b8.mono B7.out.size))
      clear b8 B7 O7 OS
      go_wp2
      go_ret
      exact ⟨rfl, B8.out⟩
    · obtain ⟨f1, f2⟩ := FIN.out hb
      rw [f1, f2] at IM2
      rw [hb] at OS
      generalize packT l = p at *
      clear FIN EMP PY RB f1 f2
      go_wp2_with fail
      refine (OS.out w7 O7.out.pin).mono ?_
      rintro e w8 ⟨rfl, b8⟩
      have B8 := hide (B7.out.trans (b8.mono B7.out.size))
      have O8 := hide (O7.out.below b8)
      clear b8 B7 O7 OS
      go_wp2_with fail
      refine (IM2.out w8 (HT.out.below B8.out HB.out)).mono ?_
      rintro e w9 ⟨AB, capB, rfl, own9, b9⟩
      have B9 := hide (B8.out.trans (b9.mono B8.out.size))
      have O9 := hide (O8.out.below b9)
      have X9 := hide own9
      clear b9 own9 B8 O8 IM2
      go_wp2_with fail
      refine (sameMap_any AB AM l l capB capM w9 _ _ hlm hlm X9.out.pin O9.out.pin).mono ?_
      rintro e w10 ⟨rfl, q10⟩
      have B10 := hide (B9.out.trans (q10.below w.heap.size))
      clear q10 B9
      rw [esl]
      go_wp2
      go_ret
      exact ⟨rfl, B10.out⟩
  · have R := RB.out rfl
    rw [R] at PY
    have e3 : (t.toList != t.toList) = false := by simp
    go_wp2_with fail
    refine (PY.out AY capY w7 Y7.out.pin (HT.out.below B7.out HB.out) (HP.out.below B7.out HPB.out)).mono ?_
    rintro e w7b ⟨rfl, b7b⟩
    have B7b := hide (B7.out.trans (b7b.mono B7.out.size))
    have O7b := hide (O7.out.below b7b)
    clear b7b B7 O7 Y7 PY RB R
    cases hb : objsB l
    · have E := EMP.out hb
      rw [hb] at OS
      rw [E]
      clear IM2 FIN EMP
      go_wp2_with fail
      refine (OS.out w7b O7b.out.pin).mono ?_
      rintro e w8 ⟨rfl, b8⟩
      have B8 := hide (B7b.out.trans (b8.mono B7b.out.size))
      clear b8 B7b O7b OS
      go_wp2
      go_ret
      exact ⟨rfl, B8.out⟩
    · obtain ⟨f1, f2⟩ := FIN.out hb
      rw [f1, f2] at IM2
      rw [hb] at OS
      generalize packT l = p at *
      clear FIN EMP f1 f2
      go_wp2_with fail
      refine (OS.out w7b O7b.out.pin).mono ?_
      rintro e w8 ⟨rfl, b8⟩
      have B8 := hide (B7b.out.trans (b8.mono B7b.out.size))
      have O8 := hide (O7b.out.below b8)
      clear b8 B7b O7b OS
      go_wp2_with fail
      refine (IM2.out w8 (HT.out.below B8.out HB.out)).mono ?_
      rintro e w9 ⟨AB, capB, rfl, own9, b9⟩
      have B9 := hide (B8.out.trans (b9.mono B8.out.size))
      have O9 := hide (O8.out.below b9)
      have X9 := hide own9
      clear b9 own9 B8 O8 IM2
      go_wp2_with fail
      refine (sameMap_any AB AM l l capB capM w9 _ _ hlm hlm X9.out.pin O9.out.pin).mono ?_
      rintro e w10 ⟨rfl, q10⟩
      have B10 := hide (B9.out.trans (q10.below w.heap.size))
      clear q10 B9
      rw [esl]
      go_wp2
      go_ret
      exact ⟨rfl, B10.out⟩

theorem plainVars : ∀ n ∈ Rows.fnPacksSpec.vars, ∀ g t, Tryd.prog.globalNamed n = some g → (Tryd.prog.globals[g]?).map (·.type) = some t → Tryd.prog.readableRec t = true ∧ t < Tryd.prog.types.size := by
  intro n hn g t h1 h2
  have hb : (Rows.fnPacksSpec.vars).all (fun n => ((Tryd.prog.globalNamed n).bind fun g => (Tryd.prog.globals[g]?).map fun x => Tryd.prog.readableRec x.type && decide (x.type < Tryd.prog.types.size)).getD false) = true := by kernel_rfl
  have h := List.all_eq_true.1 hb n hn
  rw [h1] at h
  obtain ⟨x, hx, rfl⟩ := Option.map_eq_some_iff.1 h2
  simp only [Option.bind_some, hx, Option.map_some, Option.getD_some, Bool.and_eq_true, decide_eq_true_eq] at h
  exact h
set_option maxRecDepth 100000 in
theorem contract (H : Type) (enc : TypeId × Value → H) (W : World) (base : Nat) (args : Array Value) (ds gs : List (DataW H)) (before : List MemPlace)
    (hval0 : ∀ (j : Nat) t v, Tryd.f6.params[j]? = some t → args[j]? = some v → Value.okWide Tryd.prog W .any base t v)
    (hW : DataW.Whole enc Tryd.prog Tryd.f6.params.toList Rows.fnPacksSpec.vars false W args.toList ds gs before) (hL : laidMetH Tryd.prog Rows.fnPacksRow.laid W) :
    Calls Tryd.prog 6 args W fun e W' => ∃ v, e = .returned v ∧ Rows.fnPacksSpec.post enc Tryd.prog Tryd.f6 false true false false W args v W' := by
  have hval : ∀ (j : Nat) t v, Tryd.f6.params[j]? = some t → args[j]? = some v → Value.okWide Tryd.prog W .any base t v := hval0
  have hT : Tabs W := tabs_of (l := Rows.fnPacksRow.laid) hL (List.mem_cons_of_mem _ (List.mem_cons_of_mem _ (List.mem_cons_of_mem _ (List.mem_cons_self ..)))) (List.mem_cons_of_mem _ (List.mem_cons_of_mem _ (List.mem_cons_of_mem _ (List.mem_cons_of_mem _ (List.mem_cons_self ..)))))
  have hP : Pow W := pow_of (l := Rows.fnPacksRow.laid) hL (List.mem_cons_of_mem _ (List.mem_cons_of_mem _ (List.mem_cons_self ..)))
  have hW' := hW
  obtain ⟨p, q, hA0, hV, rfl, hfz, hnd⟩ := hW
  have hA : DataW.TrodAll enc Tryd.prog W 0 (fun _ => true) true Tryd.f6.params.toList args.toList ds p := hA0
  rw [Tryd.params6] at hA hval
  obtain ⟨v0, vs0, d0, ds0, p0, q0, hargs, rfl, rfl, h0, r0⟩ := trodAll_cons hA
  obtain ⟨rfl, rfl, rfl⟩ := trodAll_nil r0
  obtain rfl : args = #[v0] := by cases args; simp_all
  obtain ⟨x0, x1, rfl⟩ := list2 (vars_len hV)
  obtain ⟨A0, n0, cap0, rfl⟩ := okWide_slice Tryd.underlying33 (hval 0 33 v0 rfl rfl)
  have lt0 : ∀ x ∈ p0, x.block < W.heap.size := by obtain ⟨m, hm⟩ := h0; exact DataW.trod_lt m _ _ _ hm
  obtain ⟨l0, rfl, hl0, hin0⟩ := open_code h0
  clear hA0 hval0
  refine (walk A0 n0 cap0 W hl0 hin0 hT hP).mono fun e W' ⟨he, bel⟩ => ?_
  subst he
  exact ⟨_, rfl, _, _, _, [], _, q, hW', trodAll_mk1 (shut_bool Tryd.underlying4 _), (trodAll_cons_mk (Below.trod laidOut (by kernel_rfl) (of_decide_eq_true (by kernel_rfl)) h0 bel lt0) trodAll_mk0), vars_stay laidOut bel plainVars hV, bel.frame _, fun h => by cases h⟩

/-- a world for the witness: the tables hold what their initialisers lay -/
noncomputable def laidWorld (os : Os) : World := layAllP (World.holding Tryd.prog os ⟨#[], #[], []⟩)
theorem laid_met (os : Os) : laidMet Tryd.prog Rows.fnPacksRow.laid ((laidWorld os).forCall (fun _ _ => 0) ⟨#[], #[.slice none 0 0], []⟩).memory :=
  laidMet_of_run' 8 (by kernel_rfl) (by kernel_rfl)
theorem reads (os : Os) {H : Type} (enc : TypeId × Value → H) : ∃ x, DataW.whole enc Tryd.prog ((laidWorld os).forCall (fun _ _ => 0) ⟨#[], #[.slice none 0 0], []⟩).memory Tryd.f6.params.toList Rows.fnPacksSpec.vars false (#[.slice none 0 0] : Array Value).toList 8 = some x :=
  Option.isSome_iff_exists.1 (by kernel_rfl)
set_option maxRecDepth 100000 in
theorem lifted (os : Os) (started : os.Started) (H : Type) (enc : TypeId × Value → H) (F : Stop.Interp) :
    ReturnsInHanded {} Tryd.checked os 6 .any ((OpenSpec.ofChange Rows.fnPacksSpec).preRow enc Tryd.prog Tryd.f6 Rows.fnPacksRow.domain false Rows.fnPacksRow.laid) (((OpenSpec.ofChange Rows.fnPacksSpec).at F).post enc Tryd.prog Tryd.f6 false true false false) := by
  obtain ⟨x, hx⟩ := reads os enc
  refine returnsInHanded_of_row (C := Tryd.checked) (s := OpenSpec.ofChange Rows.fnPacksSpec) own started (by kernel_rfl) Tryd.func6
    (witness_row_at (enc := enc) (C := Tryd.checked) false (laidWorld os) #[.slice none 0 0] rfl (by kernel_rfl) (by kernel_rfl) (by kernel_rfl)
      (OpenSpec.preRow_of_cond 8 hx rfl (fun k hk => by cases hk) (by kernel_rfl) (laid_met os))) ?_
  intro W base args ds gs before hval hW _ _ _ hL _ _
  exact contract H enc W base args ds gs before hval hW hL
theorem said : Rows.FnPacksSaid :=
  OpenClaim.holds_of_cond 6 Tryd.f6 rfl rfl rfl rfl rfl rfl rfl ⟨rfl, rfl, rfl, rfl, rfl⟩ rfl rfl rfl rfl rfl (by kernel_rfl) Tryd.func6 (by kernel_rfl)
    (of_decide_eq_true (by kernel_rfl)) (by unfold Func.isWrapper; first | (rw [if_pos (by decide +kernel)]; kernel_rfl) | (rw [if_neg (by decide +kernel)]; exact ⟨rfl, rfl⟩))
    (fun os started H enc _ F => by rw [OpenClaim.pre_eq_preRow]; exact lifted os started H enc F)
theorem plain (f : FuncId) (fn : Func) (hf : Tryd.pinned.checked.prog.funcNamed "loop.example/g00652/laws.FnPacks" = some f) (hfn : Tryd.pinned.checked.prog.funcs[f]? = some fn) :
    false = Tryd.pinned.checked.prog.looks [] ∧ ∀ (j : Nat) t, fn.params[j]? = some t → Tryd.pinned.checked.prog.wantsStandIn t = false := by
  obtain rfl : f = 6 := Option.some.inj ((show Tryd.prog.funcNamed "loop.example/g00652/laws.FnPacks" = some 6 by kernel_rfl).symm.trans hf) |>.symm
  obtain rfl : fn = Tryd.f6 := (Option.some.inj (Tryd.func6.symm.trans hfn)).symm
  refine ⟨by kernel_rfl, fun j t ht => ?_⟩
  rw [Tryd.params6] at ht
  have hm := Array.mem_of_getElem? ht
  simp only [List.mem_toArray, List.mem_cons, List.not_mem_nil, or_false] at hm
  subst hm
  exact (show Tryd.prog.wantsStandIn 33 = false by kernel_rfl)
theorem card : Rows.FnPacksCardSaid :=
  Claim7.holds_tied_plain_at .later [] _ _ _ _ said (fun _ h => by cases h) (by kernel_rfl) (fun _ h => by cases h) fnPacks_row_tie rfl ⟨rfl, rfl⟩ (by kernel_rfl) rfl plain (by kernel_rfl)

end Go.Proofs.YtlipefnaeblhfaaDoor.LPacks
namespace Go.Proofs.YtlipefnaeblhfaaDoor
theorem fnPacks_proved : Rows.FnPacksCardSaid := LPacks.card
end Go.Proofs.YtlipefnaeblhfaaDoor
