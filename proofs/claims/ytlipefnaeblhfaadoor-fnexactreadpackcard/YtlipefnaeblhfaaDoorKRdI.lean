/-
  What impl.ReadPack answers.
-/
import Derived.Test.YtlipefnaeblhfaaDoorKPack
import Derived.Test.YtlipefnaeblhfaaDoorQRow
namespace Go.Proofs.YtlipefnaeblhfaaDoor
open Go.RowKit

/-- objects come back, in a row of the call's own, or none -/
def RetPk (s : ByteArray) (w : World) (e : Ending) (w' : World) : Prop :=
  ∃ A cap, e = .returned (.tuple #[.slice A (rpL s).length cap, .bool (rpB s)]) ∧ Own w' w.heap.size A cap (rpL s) ∧ Below w.heap.size w w'
theorem retPk_no {s : ByteArray} {w w' : World} (h : ¬ rpP s) (hb : Below w.heap.size w w') : RetPk s w (.returned (.tuple #[.slice none 0 0, .bool false])) w' := by
  obtain ⟨a, b⟩ := rp_no h
  exact ⟨none, 0, by rw [a, b]; rfl, by rw [b]; exact Own.nil _ _, hb⟩
theorem emK_ne {r : ByteArray} (h : ¬ r.size = 0) : (r.toList == []) = false ∧ (r.toList != []) = true ∧ r.toList.isEmpty = false := by
  have hl : r.toList.length = r.size := by rw [Go.ByteArray.toList_eq]; simp
  cases hx : r.toList with
  | nil => rw [hx] at hl; exact absurd hl.symm h
  | cons a b => exact ⟨rfl, rfl, rfl⟩
theorem emK_eq {r : ByteArray} (h : r.size = 0) : r = ByteArray.empty := by
  cases r with
  | mk d => cases d with
    | mk l => cases l with
      | nil => rfl
      | cons a b => simp [ByteArray.size] at h
theorem idT_size (t : ByteArray) : (idT t).size ≤ 16 := by
  by_cases h : t.size ≤ 2000
  · rw [idT_in h, idL_size]; exact Nat.le_refl _
  · rw [idT_out h]; simp

set_option maxRecDepth 100000 in
set_option maxHeartbeats 2000000 in
theorem implReadPack_any (s : ByteArray) (w : World) (hs : s.size ≤ 1048576) (hT : Tabs w) :
    Calls Tryd.prog 13 #[.string s] w (RetPk s w) := by
  have HT := hide hT
  have HB := hide hT.1
  clear hT
  go_enter Tryd.func13, Tryd.ntmps13
  go_wp2
  go_loopw [0, 4] (fun sv ov wr => ∃ (r : ByteArray) (ts : List ByteArray) (A : Option Addr) (cap : Nat), sv = .string r ∧ ov = .slice A ts.length cap ∧ ts.length ≤ 60 ∧ r.size ≤ s.size ∧ Hid (StK s ts r) ∧ Hid (Own wr w.heap.size A cap (ts.map objK)) ∧ Hid (Below w.heap.size w wr)) (fun sv _ _ => match sv with | .string r => r.size | _ => 0)
  case atStart => exact ⟨s, [], none, 0, rfl, rfl, by simp, Nat.le_refl _, stK_start s, Own.nil _ _, Below.refl _ _⟩
  case round =>
    obtain ⟨r, ts, A, cap, rfl, rfl, h60, hrs, F, O, Q⟩ := hrel
    have hqs := Q.out.size
    by_cases hr : r.size = 0
    · have hend := stK_end F.out hr
      obtain rfl := emK_eq hr
      have hle : (ts.map objK).length = ts.length := List.length_map ..
      have OK := hide (implObjsOk_any A (ts.map objK) cap wr (by rw [hle]; unfold maxLen; omega) O.out.pin (HT.out.below Q.out HB.out))
      rw [hle] at OK
      cases hb : objsB (ts.map objK)
      · have N := hide (rp_not hend hb)
        rw [hb] at OK
        clear F O hrs hr hend
        go_wp2_with fail
        refine OK.out.mono ?_
        rintro e w1 ⟨rfl, b1⟩
        have B1 := hide (Q.out.trans (b1.mono hqs))
        clear b1 OK Q
        go_wp2
        go_ret2
        exact retPk_no N.out B1.out
      · have Y := hide (rp_yes hend hb)
        rw [hb] at OK
        clear F hrs hr hend
        go_wp2_with fail
        refine OK.out.mono ?_
        rintro e w1 ⟨rfl, b1⟩
        have B1 := hide (Q.out.trans (b1.mono hqs))
        have O1 := hide (O.out.below b1)
        clear b1 OK Q O
        go_wp2
        go_ret2
        exact ⟨A, cap, by rw [Y.out.1, Y.out.2, hle]; rfl, by rw [Y.out.2]; exact O1.out, B1.out⟩
    · obtain ⟨n1, n2, n3⟩ := emK_ne hr
      have PH := hide (packHead_any r wr (by omega))
      have BAD := hide (fun h => stK_bad F.out hr h)
      by_cases hh : headP r
      · have hq := hd_pieces hh
        by_cases hp : hdE r + hdV r ≤ r.size
        · by_cases h6 : ts.length = 60
          · have N := hide (stK_many F.out hr (by omega))
            generalize hdE r = e at *
            generalize hdV r = n at *
            have d1 : ((e : Int) == 0) = false := beq_eq_false_iff_ne.2 (by omega)
            have d2 : decide ((r.size : Int) - (e : Int) < (n : Int)) = false := decide_eq_false (by omega)
            have d3 : ((ts.length : Int) == 60) = true := beq_iff_eq.2 (by omega)
            clear F O BAD hh
            go_wp2_with fail
            refine PH.out.mono ?_
            rintro _ w1 ⟨rfl, rfl⟩
            clear PH
            go_wp2
            go_ret2
            exact retPk_no N.out Q.out
          · have N := hide (stK_next F.out hr ⟨hh, hp⟩)
            have zt : (r.extract (hdE r) (hdE r + hdV r)).size = hdV r := by rw [ByteArray.size_extract]; omega
            have zr : (r.extract (hdE r + hdV r) r.size).size = r.size - (hdE r + hdV r) := by rw [ByteArray.size_extract]; omega
            have ID := hide (implId (r.extract (hdE r) (hdE r + hdV r)) wr (by unfold maxLen; omega) (HT.out.below Q.out HB.out))
            have zi := idT_size (r.extract (hdE r) (hdE r + hdV r))
            have OJ : Hid (objK (r.extract (hdE r) (hdE r + hdV r)) = (idT (r.extract (hdE r) (hdE r + hdV r)), r.extract (hdE r) (hdE r + hdV r))) := hide rfl
            generalize ht : r.extract (hdE r) (hdE r + hdV r) = t at *
            generalize hr2 : r.extract (hdE r + hdV r) r.size = r2 at *
            generalize hdE r = e at *
            generalize hdV r = n at *
            generalize idT t = i at *
            have d1 : ((e : Int) == 0) = false := beq_eq_false_iff_ne.2 (by omega)
            have d2 : decide ((r.size : Int) - (e : Int) < (n : Int)) = false := decide_eq_false (by omega)
            have d3 : ((ts.length : Int) == 60) = false := beq_eq_false_iff_ne.2 (by omega)
            have t1 : ((e : Int) + (n : Int)).toNat = e + n := by omega
            clear F BAD hh
            go_wp2_with fail
            refine PH.out.mono ?_
            rintro _ w1 ⟨rfl, rfl⟩
            clear PH
            go_wp2_with fail
            refine ID.out.mono ?_
            rintro _ w1 ⟨rfl, b1⟩
            have Q1 := hide (Q.out.trans (b1.mono hqs))
            have O1 := hide (O.out.below b1)
            have hq1 := Q1.out.size
            clear b1 ID Q O
            have hl1 : (ts.map objK ++ [(i, t)]).length = ts.length + 1 := by simp
            have MP : Hid ((ts ++ [t]).map objK = ts.map objK ++ [(i, t)]) := hide (by rw [List.map_append, ← OJ.out]; rfl)
            go_wp2_with (at_builtin; refine wpList_app (l := ts.map objK) (l' := [(i, t)]) 25 Tryd.underlying25 rfl (.tmp 36) (.tmp 41) rfl rfl rfl (by simp) rfl (O1.out.alloc _) (PIn.one w1 i t (by unfold maxLen; omega) (by unfold maxLen; omega) _) (Nat.le_trans hq1 (by simp)) (by simp; omega) ?_; intro A3 cap3 w3 own3 g3 r3; have B3 := hide (Q1.out.trans (((Below.refl _ w1).alloc hq1 (.cells #[.string i, .string t] 41)).trans ((O1.out.alloc (.cells #[.string i, .string t] 41)).grownBelow (by rw [rowOf_own]; exact g3) (Nat.le_trans hq1 (by simp))))); have O3 := hide own3; clear own3 g3 r3)
            go_roundw
            case rel => exact ⟨r2, ts ++ [t], A3, cap3, rfl, by simp, by simp; omega, by omega, N, by rw [MP.out]; exact O3, B3⟩
            case measure => simp; omega
        · have N := hide (BAD.out (fun h => hp h.2))
          generalize hdE r = e at *
          generalize hdV r = n at *
          have d1 : ((e : Int) == 0) = false := beq_eq_false_iff_ne.2 (by omega)
          have d2 : decide ((r.size : Int) - (e : Int) < (n : Int)) = true := decide_eq_true (by omega)
          clear F O BAD hh
          go_wp2_with fail
          refine PH.out.mono ?_
          rintro _ w1 ⟨rfl, rfl⟩
          clear PH
          go_wp2
          go_ret2
          exact retPk_no N.out Q.out
      · have N := hide (BAD.out (fun h => hh h.1))
        obtain ⟨v1, v2⟩ := hd_no hh
        rw [v1, v2] at PH
        clear F O BAD hh
        go_wp2_with fail
        refine PH.out.mono ?_
        rintro _ w1 ⟨rfl, rfl⟩
        clear PH
        go_wp2
        go_ret2
        exact retPk_no N.out Q.out
end Go.Proofs.YtlipefnaeblhfaaDoor
