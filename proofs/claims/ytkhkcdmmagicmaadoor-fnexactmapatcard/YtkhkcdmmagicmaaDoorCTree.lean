/-
  What impl.readTree and spec.l4Map answer.
-/
import Derived.Test.YtkhkcdmmagicmaaDoorPReadM
import Derived.Test.YtkhkcdmmagicmaaDoorCRdI
namespace Go.Proofs.YtkhkcdmmagicmaaDoor
open Go.RowKit

def mapW : ByteArray := ⟨#[109, 97, 112, 10]⟩
open Classical in
noncomputable def treeB (s : ByteArray) : Bool := decide (mapW.data.toList <+: s.data.toList) && M.okR (s.extract 4 s.size)
noncomputable def treeL (s : ByteArray) : List Pr := if treeB s = true then M.readL (s.extract 4 s.size) else []
theorem treeB_no {s : ByteArray} (h : ¬ mapW.data.toList <+: s.data.toList) : treeB s = false := by unfold treeB; rw [decide_eq_false h]; rfl
theorem treeB_yes {s : ByteArray} (h : mapW.data.toList <+: s.data.toList) : treeB s = M.okR (s.extract 4 s.size) := by unfold treeB; rw [decide_eq_true h]; rfl
theorem treeL_no {s : ByteArray} (h : treeB s = false) : treeL s = [] := by unfold treeL; rw [h]; rfl
theorem treeL_yes {s : ByteArray} (h : mapW.data.toList <+: s.data.toList) : treeL s = M.readL (s.extract 4 s.size) := by
  cases e : treeB s
  · rw [treeL_no e]
    rw [treeB_yes h] at e
    rw [M.readL_no e]
  · unfold treeL
    rw [e]
    rfl
theorem treeL_len (s : ByteArray) : (treeL s).length ≤ 40 := by
  cases e : treeB s
  · rw [treeL_no e]; simp
  · have hp : mapW.data.toList <+: s.data.toList := by
      apply Classical.byContradiction
      intro h
      rw [treeB_no h] at e
      cases e
    rw [treeL_yes hp]
    rw [treeB_yes hp] at e
    rw [M.readL_yes e]
    unfold M.okR at e
    simp only [Bool.and_eq_true] at e
    exact (mapB_iff.1 e.2).1
theorem map_parts {s : ByteArray} (h : mapW.data.toList <+: s.data.toList) : 4 ≤ s.size ∧ s.extract 0 4 = mapW := by
  obtain ⟨t, ht⟩ := h
  obtain ⟨h1, h2, _⟩ := ext_front (r := s) (want := mapW) (r' := ⟨⟨t⟩⟩) (by rw [← ht])
  exact ⟨h1, h2⟩
theorem map_whole {s : ByteArray} (_h1 : 4 ≤ s.size) (h2 : s.extract 0 4 = mapW) : mapW.data.toList <+: s.data.toList := by
  have e1 : mapW.data.toList = s.data.toList.take 4 := by
    rw [← h2, ByteArray.data_extract, Array.toList_extract]
    simp
  rw [e1]
  exact List.take_prefix _ _

theorem mapW_list : mapW.toList = [109, 97, 112, 10] := by rw [Go.ByteArray.toList_eq]; rfl
set_option maxRecDepth 100000 in
set_option maxHeartbeats 1000000 in
theorem cutPrefix_yes (s want : ByteArray) (w : World) (h1 : want.size ≤ s.size) (h2 : s.extract 0 want.size = want) :
    Calls Tryd.prog 49 #[.string s, .string want] w fun e w' => e = .returned (.tuple #[.string (s.extract want.size s.size), .bool true]) ∧ w = w' := by
  have d1 : decide ((want.size : Int) ≤ (s.size : Int)) = true := decide_eq_true (by omega)
  have d2 : (want.toList == want.toList) = true := by simp
  have hle : (want.size : Int) ≤ (s.size : Int) := by omega
  go_enter Tryd.func49, Tryd.ntmps49
  go_wp2
  go_ret2
  exact ⟨rfl, rfl⟩
set_option maxRecDepth 100000 in
set_option maxHeartbeats 1000000 in
theorem cutPrefix_no (s want : ByteArray) (w : World) (h : want.size ≤ s.size → ¬ s.extract 0 want.size = want) :
    Calls Tryd.prog 49 #[.string s, .string want] w fun e w' => e = .returned (.tuple #[.string s, .bool false]) ∧ w = w' := by
  by_cases hl : want.size ≤ s.size
  · have d1 : decide ((want.size : Int) ≤ (s.size : Int)) = true := decide_eq_true (by omega)
    have hle : (want.size : Int) ≤ (s.size : Int) := by omega
    have d2 : ((s.extract 0 want.size).toList == want.toList) = false := eqS_no (h hl)
    clear h
    go_enter Tryd.func49, Tryd.ntmps49
    go_wp2
    go_ret2
    exact ⟨rfl, rfl⟩
  · have d1 : decide ((want.size : Int) ≤ (s.size : Int)) = false := decide_eq_false (by omega)
    have hle : ¬ (want.size : Int) ≤ (s.size : Int) := by omega
    clear h
    go_enter Tryd.func49, Tryd.ntmps49
    go_wp2
    go_ret2
    exact ⟨rfl, rfl⟩
set_option maxRecDepth 100000 in
set_option maxHeartbeats 1000000 in
theorem implReadTree_any (s : ByteArray) (w : World) (hs : s.size ≤ 1048576) :
    Calls Tryd.prog 30 #[.string s] w (M.RetOwnB w.heap.size (treeL s) (treeB s) w) := by
  by_cases hp : mapW.data.toList <+: s.data.toList
  · obtain ⟨h1, h2⟩ := map_parts hp
    have HL := hide (treeL_yes hp)
    have HB := hide (treeB_yes hp)
    have C := hide (cutPrefix_yes s mapW w h1 h2)
    have MR := hide (M.implReadMap_any (s.extract 4 s.size) w (by simp; omega))
    clear hp h2 h1
    go_enter Tryd.func30, Tryd.ntmps30
    go_wp2_with fail
    refine C.out.mono ?_
    rintro e w0 ⟨rfl, rfl⟩
    clear C
    go_wp2_with fail
    refine MR.out.mono ?_
    rintro e w1 ⟨A1, cap1, hc1, rfl, own1, b1⟩
    have R : Hid (M.RetOwnB w.heap.size (treeL s) (treeB s) w (.returned (.tuple #[.slice A1 (M.readL (s.extract 4 s.size)).length cap1, .bool (M.okR (s.extract 4 s.size))])) w1) := hide (by rw [HL.out, HB.out]; exact ⟨A1, cap1, hc1, rfl, own1, b1⟩)
    clear own1 b1 MR HL HB hc1
    generalize (M.readL (s.extract 4 s.size)).length = n1 at *
    generalize M.okR (s.extract 4 s.size) = ok at *
    go_wp2
    go_ret2
    exact R.out
  · have HB := hide (treeB_no hp)
    have HL := hide (treeL_no HB.out)
    have R : Hid (M.RetOwnB w.heap.size (treeL s) (treeB s) w (.returned (.tuple #[.slice none 0 0, .bool false])) w) := hide (M.retOwnB_no HL.out HB.out (Below.refl _ _))
    have C := hide (cutPrefix_no s mapW w (fun h4 e => hp (map_whole h4 e)))
    clear hp
    go_enter Tryd.func30, Tryd.ntmps30
    go_wp2_with fail
    refine C.out.mono ?_
    rintro e w0 ⟨rfl, rfl⟩
    go_wp2
    go_ret2
    exact R.out

set_option maxRecDepth 100000 in
set_option maxHeartbeats 1000000 in
theorem l4Map_any (s : ByteArray) (w : World) (hs : s.size ≤ 1048576) :
    Calls Tryd.prog 26 #[.string s] w (M.RetOwnB w.heap.size (treeL s) (treeB s) w) := by
  by_cases hp : mapW.data.toList <+: s.data.toList
  · obtain ⟨h1, h2⟩ := map_parts hp
    have HL := hide (treeL_yes hp)
    have HB := hide (treeB_yes hp)
    have d1 : decide ((s.size : Int) < (4 : Int)) = false := decide_eq_false (by omega)
    have d2 : ((s.extract 0 4).toList == [109, 97, 112, 10]) = true := by rw [h2, mapW_list]; rfl
    have hle : ¬ (s.size : Int) < (4 : Int) := by omega
    have MR := hide (M.specReadMap_any (s.extract 4 s.size) w (by simp; omega))
    clear hp h2
    go_enter Tryd.func26, Tryd.ntmps26
    go_wp2_with fail
    refine MR.out.mono ?_
    rintro e w1 ⟨A1, cap1, hc1, rfl, own1, b1⟩
    have R : Hid (M.RetOwnB w.heap.size (treeL s) (treeB s) w (.returned (.tuple #[.slice A1 (M.readL (s.extract 4 s.size)).length cap1, .bool (M.okR (s.extract 4 s.size))])) w1) := hide (by rw [HL.out, HB.out]; exact ⟨A1, cap1, hc1, rfl, own1, b1⟩)
    clear own1 b1 MR HL HB hc1
    generalize (M.readL (s.extract 4 s.size)).length = n1 at *
    generalize M.okR (s.extract 4 s.size) = ok at *
    go_wp2
    go_ret2
    exact R.out
  · have HB := hide (treeB_no hp)
    have HL := hide (treeL_no HB.out)
    have R : Hid (M.RetOwnB w.heap.size (treeL s) (treeB s) w (.returned (.tuple #[.slice none 0 0, .bool false])) w) := hide (M.retOwnB_no HL.out HB.out (Below.refl _ _))
    by_cases h4 : 4 ≤ s.size
    · have d1 : decide ((s.size : Int) < (4 : Int)) = false := decide_eq_false (by omega)
      have hle : ¬ (s.size : Int) < (4 : Int) := by omega
      have d2 : ((s.extract 0 4).toList == [109, 97, 112, 10]) = false := by rw [← mapW_list]; exact eqS_no (fun e => hp (map_whole h4 e))
      clear hp
      go_enter Tryd.func26, Tryd.ntmps26
      go_wp2
      go_ret2
      exact R.out
    · have d1 : decide ((s.size : Int) < (4 : Int)) = true := decide_eq_true (by omega)
      have hle : (s.size : Int) < (4 : Int) := by omega
      clear hp
      go_enter Tryd.func26, Tryd.ntmps26
      go_wp2
      go_ret2
      exact R.out
end Go.Proofs.YtkhkcdmmagicmaaDoor
