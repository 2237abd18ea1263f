/-
  What impl's commitReader does: skip, id; each goes on, or panics with the sentinel.
-/
import Derived.Test.YtkhkcdmmagicmaaDoorCSplit
import Derived.Test.YtkhkcdmmagicmaaDoorCRow
import Derived.BigQuiet
import Derived.IntWalk
namespace Go.Proofs.YtkhkcdmmagicmaaDoor
open Go.RowKit

/-- the sentinel that the reader panics with -/
def ErrC (w : World) (a : Addr) : Prop := w.cell? ⟨0, 0, none⟩ = some (.iface 165 (.pointer (some a))) ∧ 0 < w.heap.size
theorem ErrC.below {w w' : World} {a : Addr} (h : ErrC w a) (q : Below w.heap.size w w') : ErrC w' a := ⟨cellB q h.2 h.1, Nat.lt_of_lt_of_le h.2 q.size⟩
theorem ErrC.belowB {w w' : World} {a : Addr} {B : Nat} (h : ErrC w a) (q : Below B w w') (h1 : 0 < B) : ErrC w' a := ⟨cellB q h1 h.1, Nat.lt_of_lt_of_le h.2 q.size⟩
def pan (a : Addr) : Ending := .panicked [{ v := .iface 165 (.pointer (some a)), recovered := false }]
/-- what the reader has left -/
def RdR (w : World) (rb : Nat) (r : ByteArray) : Prop := w.heap[rb]? = some (.cells #[.string r] 101 (0, 0))
theorem ext_front {r want r' : ByteArray} (h : r.data.toList = want.data.toList ++ r'.data.toList) : want.size ≤ r.size ∧ r.extract 0 want.size = want ∧ r.extract want.size r.size = r' := by
  have hl : r.size = want.size + r'.size := by
    have := congrArg List.length h
    simpa using this
  refine ⟨by omega, ba_ext ?_, ba_ext ?_⟩
  · rw [ByteArray.data_extract, Array.toList_extract, h]
    show List.take (want.size - 0) (List.drop 0 (want.data.toList ++ r'.data.toList)) = want.data.toList
    rw [List.drop_zero, Nat.sub_zero]
    exact List.take_left' rfl
  · rw [ByteArray.data_extract, Array.toList_extract, h]
    show List.take (r.size - want.size) (List.drop want.size (want.data.toList ++ r'.data.toList)) = r'.data.toList
    rw [List.drop_left' (show want.data.toList.length = want.size from rfl)]
    exact List.take_of_length_le (by show r'.size ≤ _; omega)
theorem rd_cell {w : World} {rb : Nat} {r : ByteArray} (h : RdR w rb r) : w.cell? ⟨rb, 0, none⟩ = some (.string r) ∧ w.frozen? ⟨rb, 0, none⟩ = false := ⟨cell_of_row w rb 0 _ _ _ h, frozen_of_row w rb 0 _ _ h⟩
theorem rd_set {w : World} {rb : Nat} {r : ByteArray} (h : RdR w rb r) (r' : ByteArray) : RdR (w.setCell ⟨rb, 0, none⟩ (.string r')) rb r' := heap_setCell_same w rb 0 _ _ _ h

set_option maxRecDepth 100000 in
set_option maxHeartbeats 1000000 in
theorem skip_yes (rb : Nat) (r want r' : ByteArray) (w : World) (hw : RdR w rb r) (h : r.data.toList = want.data.toList ++ r'.data.toList) :
    Calls Tryd.prog 87 #[.pointer (some ⟨rb, 0, none⟩), .string want] w fun e w' => e = .returned (.tuple #[]) ∧ w' = w.setCell ⟨rb, 0, none⟩ (.string r') := by
  obtain ⟨h1, h2, h3⟩ := ext_front h
  obtain ⟨c0, f0⟩ := rd_cell hw
  have d1 : decide ((want.size : Int) ≤ (r.size : Int)) = true := decide_eq_true (by omega)
  have d2 : (want.toList == want.toList) = true := by simp
  have hle : (want.size : Int) ≤ (r.size : Int) := by omega
  clear hw h
  go_enter Tryd.func87, Tryd.ntmps87
  go_wp2
  go_end0
  exact ⟨rfl, rfl⟩

set_option maxRecDepth 100000 in
set_option maxHeartbeats 1000000 in
theorem skip_no (rb : Nat) (r want : ByteArray) (a : Addr) (w : World) (hw : RdR w rb r) (hE : ErrC w a) (h : ¬ want.data.toList <+: r.data.toList) :
    Calls Tryd.prog 87 #[.pointer (some ⟨rb, 0, none⟩), .string want] w fun e w' => e = pan a ∧ w = w' := by
  obtain ⟨c0, f0⟩ := rd_cell hw
  have x0 := hE.1
  by_cases hs : want.size ≤ r.size
  · have d1 : decide ((want.size : Int) ≤ (r.size : Int)) = true := decide_eq_true (by omega)
    have hle : (want.size : Int) ≤ (r.size : Int) := by omega
    have d2 : ((r.extract 0 want.size).toList == want.toList) = false := eqS_no (fun e => h (by
      have e1 : want.data.toList = r.data.toList.take want.size := by
        conv => lhs; rw [← e]
        rw [ByteArray.data_extract, Array.toList_extract]
        simp
      rw [e1]
      exact List.take_prefix _ _))
    clear hw h hE
    go_enter Tryd.func87, Tryd.ntmps87
    go_wp2
    exact ⟨rfl, rfl, rfl⟩
  · have d1 : decide ((want.size : Int) ≤ (r.size : Int)) = false := decide_eq_false (by omega)
    have hle : ¬ (want.size : Int) ≤ (r.size : Int) := by omega
    clear hw h hE
    go_enter Tryd.func87, Tryd.ntmps87
    go_wp2
    exact ⟨rfl, rfl, rfl⟩

set_option maxRecDepth 100000 in
set_option maxHeartbeats 1000000 in
theorem id_yes (rb : Nat) (r x r' : ByteArray) (w : World) (hw : RdR w rb r) (hx : x.size = 16) (h : r.data.toList = x.data.toList ++ r'.data.toList) :
    Calls Tryd.prog 88 #[.pointer (some ⟨rb, 0, none⟩)] w fun e w' => e = .returned (.string x) ∧ w' = w.setCell ⟨rb, 0, none⟩ (.string r') := by
  obtain ⟨h1, h2, h3⟩ := ext_front h
  rw [hx] at h1 h2 h3
  obtain ⟨c0, f0⟩ := rd_cell hw
  have d1 : ¬ (r.size : Int) < 16 := by omega
  clear hw h hx
  go_enter Tryd.func88, Tryd.ntmps88
  go_wp2
  go_ret
  exact ⟨rfl, rfl⟩

set_option maxRecDepth 100000 in
set_option maxHeartbeats 1000000 in
theorem id_no (rb : Nat) (r : ByteArray) (a : Addr) (w : World) (hw : RdR w rb r) (hE : ErrC w a) (h : r.data.toList.length < 16) :
    Calls Tryd.prog 88 #[.pointer (some ⟨rb, 0, none⟩)] w fun e w' => e = pan a ∧ w = w' := by
  obtain ⟨c0, f0⟩ := rd_cell hw
  have x0 := hE.1
  have hz : r.size < 16 := h
  have d1 : (r.size : Int) < 16 := by omega
  clear hw h hE
  go_enter Tryd.func88, Tryd.ntmps88
  go_wp2
  exact ⟨rfl, rfl, rfl⟩

theorem hasPrefix_any (r : ByteArray) (c : UInt8) (w : World) :
    Calls Tryd.prog 89 #[.string r, .string ⟨#[c]⟩] w fun e w' => e = .returned (.bool (decide (r.data.toList.head? = some c))) ∧ w = w' := by
  have hz : (ByteArray.mk #[c]).size = 1 := rfl
  by_cases hs : 1 ≤ r.size
  · have d1 : decide ((1 : Int) ≤ (r.size : Int)) = true := decide_eq_true (by omega)
    have hle : (1 : Int) ≤ (r.size : Int) := by omega
    by_cases he : r.data.toList.head? = some c
    · have D3 : Hid (decide (r.data.toList.head? = some c) = true) := hide (decide_eq_true he)
      have e1 : r.extract 0 1 = ⟨#[c]⟩ := ba_ext (by
        rw [ByteArray.data_extract, Array.toList_extract]
        cases hl : r.data.toList with
        | nil => rw [hl] at he; simp at he
        | cons x y => rw [hl] at he; simp at he; subst he; simp)
      clear he
      go_enter Tryd.func89, Tryd.ntmps89
      go_wp2
      go_ret
      exact ⟨ret_bool D3.out.symm, rfl⟩
    · have D3 : Hid (decide (r.data.toList.head? = some c) = false) := hide (decide_eq_false he)
      have d2 : ((r.extract 0 1).toList == (ByteArray.mk #[c]).toList) = false := eqS_no (fun e => he (by
        have e1 := congrArg (fun b : ByteArray => b.data.toList) e
        simp only [ByteArray.data_extract, Array.toList_extract] at e1
        cases hl : r.data.toList with
        | nil => rw [hl] at e1; simp at e1
        | cons x y => rw [hl] at e1; simp at e1; subst e1; rfl))
      have d4 : ((r.extract 0 1).toList == [c]) = false := by
        have e : (ByteArray.mk #[c]).toList = [c] := by rw [Go.ByteArray.toList_eq]
        rw [← e]; exact d2
      clear he
      go_enter Tryd.func89, Tryd.ntmps89
      go_wp2
      go_ret
      exact ⟨ret_bool D3.out.symm, rfl⟩
  · have D3 : Hid (decide (r.data.toList.head? = some c) = false) := hide (decide_eq_false (fun he => by
      have : r.data.toList = [] := List.eq_nil_of_length_eq_zero (by show r.size = 0; omega)
      rw [this] at he
      cases he))
    have hle : ¬ (1 : Int) ≤ (r.size : Int) := by omega
    go_enter Tryd.func89, Tryd.ntmps89
    go_wp2
    go_ret
    exact ⟨ret_bool D3.out.symm, rfl⟩
end Go.Proofs.YtkhkcdmmagicmaaDoor
