/-
  What impl.textsOf and impl.ObjsOk make of a list of objects.
-/
import Derived.Test.YtlipefnaeblhfaaDoorQObjs
import Derived.Test.YtlipefnaeblhfaaDoorPRises
import Derived.Maps.Own
import Derived.Maps.OwnSet
import Derived.Maps.Views
import Derived.Test.YtlipefnaeblhfaaDoorPCls
namespace Go.Proofs.YtlipefnaeblhfaaDoor
open Go.RowKit Go.Maps

theorem lawS : Keyed Tryd.prog 9 := string_keyed Tryd.underlying9
/-- a text as a key -/
def keyL (s : ByteArray) : Lit := .string s.data.toList
/-- a text as an element -/
def elD (s : ByteArray) : DataW Unit := .lit (.string s.data.toList)
/-- the map that objects fill, one behind the other -/
def mapD (l : List Pr) : DataW Unit := l.foldl (fun D p => D.put (keyL p.1) (elD p.2)) (.map [])
theorem mapD_nil : mapD [] = .map [] := rfl
theorem mapD_step (l : List Pr) (k : Nat) (h : k < l.length) : mapD (l.take (k + 1)) = (mapD (l.take k)).put (keyL l[k].1) (elD l[k].2) := by
  unfold mapD
  rw [List.take_succ_eq_append_getElem h, List.foldl_append]
  rfl
/-- the block bm is the map that the objects l make -/
def TMap (w : World) (bm : Nat) (n : Nat) (l : List Pr) : Prop := w.ownsMap Tryd.prog 9 (plainElem Tryd.prog 9) bm n (mapD l)
theorem run_mkMap (w : World) (n : Nat) : (Instr.makeMap 67 (some (.int .i64 (n : Int)))).run Tryd.prog w = .ok (.map (some w.heap.size)) (w.alloc (.map #[] 0)) := by
  simp [Instr.makeMap, run_underlying Tryd.underlying67, asInt, asIntOf, go_sem]

set_option maxRecDepth 100000 in
set_option maxHeartbeats 4000000 in
theorem textsOf_any (A : Option Addr) (l : List Pr) (cap : Nat) (w : World) (hl : l.length ≤ maxLen) (hin : PIn w w.heap.size A l) (hT : Tabs w) :
    Calls Tryd.prog 42 #[.slice A l.length cap] w fun e w' => Below w.heap.size w w' ∧ ((objsB l = false ∧ e = .returned (.tuple #[.map none, .bool false])) ∨ (objsB l = true ∧ ∃ bm, e = .returned (.tuple #[.map (some bm), .bool true]) ∧ w.heap.size ≤ bm ∧ TMap w' bm l.length l)) := by
  have hlm := hl
  unfold maxLen at hl
  have HT := hide hT
  have IN := hide hin
  have HM := hide hlm
  have RS := hide (rises_any A l cap w hlm hin)
  clear hT hin hlm
  generalize hn : l.length = n at *
  have HN := hide hn
  clear hn
  by_cases h60 : n ≤ 60
  · have c60 : ¬ ((60 : Int) < (n : Int)) := by omega
    go_enter Tryd.func42, Tryd.ntmps42
    go_wp2_with fail
    refine RS.out.mono ?_
    rintro e w1 ⟨rfl, b1⟩
    have B1 := hide b1
    clear b1 RS
    cases hr : risesB l
    · have Z : Hid (objsB l = false) := hide (by
        cases e : objsB l
        · rfl
        · have := risesB_yes (objsB_iff.1 e).2.2; rw [hr] at this; cases this)
      clear hr
      go_wp2
      go_ret2
      exact ⟨B1.out, .inl ⟨Z.out, rfl⟩⟩
    · have HR := hide (risesB_iff.1 hr)
      clear hr
      have hmk := run_mkMap w1 n
      go_wp2
      have M0 : Hid (TMap (w1.alloc (.map #[] 0)) w1.heap.size 0 (l.take 0)) := hide (World.ownsMap_made w1 _ _ _)
      have L0 : Hid (Below w1.heap.size w1 (w1.alloc (.map #[] 0))) := hide ((Below.refl _ _).alloc (Nat.le_refl _) _)
      have T1 := hide (HT.out.below B1.out HT.out.1)
      have I1 := hide ((IN.out.below B1.out).more B1.out.size)
      have hg1 := T1.out.1
      go_loopw [20] (fun iv wr => ∃ k : Nat, k ≤ n ∧ iv = .int .i64 k ∧ Hid (textsTo l k) ∧ Hid (TMap wr w1.heap.size k (l.take k)) ∧ Hid (Below w1.heap.size w1 wr)) (fun i _ => n - (intOf i).toNat)
      case atStart => exact ⟨0, Nat.zero_le _, rfl, textsTo_zero l, M0, L0⟩
      case round =>
        clear M0 L0
        obtain ⟨k, hk, rfl, H, M, Q⟩ := hrel
        have hqs := Q.out.size
        by_cases hlt : k < n
        · have hin2 := I1.out.below Q.out
          obtain ⟨b, off, rfl, hbB, hc⟩ := hin2.2 (by rw [HN.out]; omega)
          have hkl : k < l.length := by rw [HN.out]; omega
          have hbw : b < wr.heap.size := by omega
          obtain ⟨c1, c2⟩ := hc k hkl
          obtain ⟨s1, s2⟩ := hin2.1 k hkl
          have TW := hide (T1.out.below Q.out hg1)
          have MS := hide (mapD_step l k hkl)
          by_cases htx : (l[k]'hkl).2.size ≤ 2000
          · have ht : decide ((2000 : Int) < ((l[k]'hkl).2.size : Int)) = false := decide_eq_false (by omega)
            by_cases hid : idL (l[k]'hkl).2 = (l[k]'hkl).1
            · have ne := eqS_yes hid.symm
              have Z1 := hide (textsTo_succ hkl H.out htx hid)
              have L2 : Hid (∀ W, Tabs W → Calls Tryd.prog 34 #[.string (l[k]'hkl).2] W fun e w' => e = .returned (.string (idL (l[k]'hkl).2)) ∧ Below W.heap.size W w') := hide fun W hW => idI_any _ W htx hW
              generalize idL (l[k]'hkl).2 = dd at *
              generalize (l[k]'hkl).1 = s at *
              generalize (l[k]'hkl).2 = v at *
              have HI := hide hid
              clear hin2 hc hid
              go_wp2
              have y1 := cls_cell (B := wr.heap.size + 1) (w := wr.alloc (.cells #[.string s, .string v] 41)) (p := ⟨wr.heap.size, 0, none⟩) (by exact Nat.lt_succ_self _) (by rw [cell_of_row _ _ 0 _ _ _ (heap_alloc_new wr _)]; rfl : _ = some (.string s))
              have y2 := cls_cell (B := wr.heap.size + 1) (w := wr.alloc (.cells #[.string s, .string v] 41)) (p := ⟨wr.heap.size, 1, none⟩) (by exact Nat.lt_succ_self _) (by rw [cell_of_row _ _ 1 _ _ _ (heap_alloc_new wr _)]; rfl : _ = some (.string v))
              refine wp_region_cls (by kernel_rfl) (by kernel_rfl) (wr.heap.size + 1) ?_
              repeat (go_big_quiet_step ((go_at_call 34; exact cls_call (by simp) (L2.out _ (TW.out.below ((Below.refl wr.heap.size wr).alloc (Nat.le_refl _) (.cells #[.string s, .string v] 41) |>.trans (Cls.below _ |>.mono (Nat.le_succ _))) (by omega))))))
              refine wpQuiet_nil ?_
              intro _ hw'
              obtain ⟨u, hw''⟩ := hw'
              subst hw''
              have MU : Hid (TMap u.wo w1.heap.size k (l.take k)) := hide ((M.out.alloc _).kept (Below.toGrown (by rw [show (wr.alloc (.cells #[.string s, .string v] 41)).heap.size = wr.heap.size + 1 by simp]; exact u.below) none) (by simp))
              have g1 := y1 u
              have g2 := y2 u
              clear y1 y2
              go_wp2_with (at_mapUpdate; refine wpList_mapUpdate_own _ rfl _ _ _ 67 rfl 9 9 lawS Tryd.underlying67 _ w1.heap.size k (mapD (l.take k)) rfl MU.out (by unfold maxLen; omega) _ _ (keyL s) rfl rfl (Go.WideMaps.keyOf_string_mk Tryd.underlying9 s1) (elD v) [] (plainElem_string Tryd.underlying9 s2) ?_; intro w5 o5 g5)
              have O5 : Hid (TMap w5 w1.heap.size (k + 1) (l.take (k + 1))) := hide (by unfold TMap; rw [MS.out]; exact o5)
              have B5 : Hid (Below w1.heap.size w1 w5) := hide (((Q.out.alloc hqs _).trans (u.below.mono (by omega))).grown g5 (by have := u.below.size; simp at this; omega) (fun j hj => by injection hj with hj; omega))
              clear o5 g5
              go_wp2
              exact ⟨⟨k + 1, by omega, by go_num, Z1, O5, B5⟩, by simp [intOf]; omega⟩
            · have ne := eqS_no (fun h => hid h.symm)
              have Z := hide (objsB_id hkl hid)
              have L2 : Hid (∀ W, Tabs W → Calls Tryd.prog 34 #[.string (l[k]'hkl).2] W fun e w' => e = .returned (.string (idL (l[k]'hkl).2)) ∧ Below W.heap.size W w') := hide fun W hW => idI_any _ W htx hW
              generalize idL (l[k]'hkl).2 = dd at *
              generalize (l[k]'hkl).1 = s at *
              generalize (l[k]'hkl).2 = v at *
              clear hin2 hc hid
              go_wp2
              have y1 := cls_cell (B := wr.heap.size + 1) (w := wr.alloc (.cells #[.string s, .string v] 41)) (p := ⟨wr.heap.size, 0, none⟩) (by exact Nat.lt_succ_self _) (by rw [cell_of_row _ _ 0 _ _ _ (heap_alloc_new wr _)]; rfl : _ = some (.string s))
              have y2 := cls_cell (B := wr.heap.size + 1) (w := wr.alloc (.cells #[.string s, .string v] 41)) (p := ⟨wr.heap.size, 1, none⟩) (by exact Nat.lt_succ_self _) (by rw [cell_of_row _ _ 1 _ _ _ (heap_alloc_new wr _)]; rfl : _ = some (.string v))
              refine wp_region_cls (by kernel_rfl) (by kernel_rfl) (wr.heap.size + 1) ?_
              repeat (go_big_quiet_step ((go_at_call 34; exact cls_call (by simp) (L2.out _ (TW.out.below ((Below.refl wr.heap.size wr).alloc (Nat.le_refl _) (.cells #[.string s, .string v] 41) |>.trans (Cls.below _ |>.mono (Nat.le_succ _))) (by omega))))))
              refine wpQuiet_nil ?_
              intro _ hw'
              obtain ⟨u, hw''⟩ := hw'
              subst hw''
              go_wp2
              go_ret2
              exact ⟨B1.out.trans (((Q.out.alloc hqs _).trans (u.below.mono (by omega))).mono B1.out.size), .inl ⟨Z.out, rfl⟩⟩
          · have ht : decide ((2000 : Int) < ((l[k]'hkl).2.size : Int)) = true := decide_eq_true (by omega)
            have Z := hide (objsB_text hkl (by omega))
            generalize (l[k]'hkl).1 = s at *
            generalize (l[k]'hkl).2 = v at *
            clear hin2 hc
            go_wp2
            have y1 := cls_cell (B := wr.heap.size + 1) (w := wr.alloc (.cells #[.string s, .string v] 41)) (p := ⟨wr.heap.size, 0, none⟩) (by exact Nat.lt_succ_self _) (by rw [cell_of_row _ _ 0 _ _ _ (heap_alloc_new wr _)]; rfl : _ = some (.string s))
            have y2 := cls_cell (B := wr.heap.size + 1) (w := wr.alloc (.cells #[.string s, .string v] 41)) (p := ⟨wr.heap.size, 1, none⟩) (by exact Nat.lt_succ_self _) (by rw [cell_of_row _ _ 1 _ _ _ (heap_alloc_new wr _)]; rfl : _ = some (.string v))
            refine wp_region_cls (by kernel_rfl) (by kernel_rfl) (wr.heap.size + 1) ?_
            repeat (go_big_quiet_step (fail))
            refine wpQuiet_nil ?_
            intro _ hw'
            obtain ⟨u, hw''⟩ := hw'
            subst hw''
            go_wp2
            go_ret2
            exact ⟨B1.out.trans (((Q.out.alloc hqs _).trans (u.below.mono (by omega))).mono B1.out.size), .inl ⟨Z.out, rfl⟩⟩
        · have ek : Hid (k = n) := hide (by omega)
          have hgt : ¬ ((k : Int) < (n : Int)) := by omega
          clear hlt
          go_wp2
          go_ret2
          refine ⟨B1.out.trans (Q.out.mono B1.out.size), .inr ⟨objsB_yes (by rw [HN.out]; exact h60) (by rw [HN.out, ← ek.out]; exact H.out) HR.out, w1.heap.size, rfl, B1.out.size, ?_⟩⟩
          have h := M.out
          rw [ek.out, ← HN.out, List.take_length] at h
          rw [← HN.out]
          exact h
  · have Z : Hid (objsB l = false) := hide (objsB_len (by rw [HN.out]; omega))
    have c60 : (60 : Int) < (n : Int) := by omega
    go_enter Tryd.func42, Tryd.ntmps42
    go_wp2
    go_ret2
    exact ⟨Below.refl _ _, .inl ⟨Z.out, rfl⟩⟩

theorem implObjsOk_any (A : Option Addr) (l : List Pr) (cap : Nat) (w : World) (hl : l.length ≤ maxLen) (hin : PIn w w.heap.size A l) (hT : Tabs w) :
    Calls Tryd.prog 24 #[.slice A l.length cap] w fun e w' => e = .returned (.bool (objsB l)) ∧ Below w.heap.size w w' := by
  have T := hide (textsOf_any A l cap w hl hin hT)
  clear hin hT hl
  go_enter Tryd.func24, Tryd.ntmps24
  go_wp2_with fail
  refine T.out.mono ?_
  rintro e w1 ⟨b1, ⟨hf, rfl⟩ | ⟨hf, bm, rfl, _, _⟩⟩
  · have B1 := hide b1
    have Z := hide hf
    clear b1 hf T
    go_wp2
    go_ret
    exact ⟨ret_bool Z.out.symm, B1.out⟩
  · have B1 := hide b1
    have Z := hide hf
    clear b1 hf T
    go_wp2
    go_ret
    exact ⟨ret_bool Z.out.symm, B1.out⟩
end Go.Proofs.YtlipefnaeblhfaaDoor
