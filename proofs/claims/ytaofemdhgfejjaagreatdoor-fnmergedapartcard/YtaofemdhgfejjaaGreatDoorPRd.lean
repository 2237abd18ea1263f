/-
  The reader of a law's code: what l1Open, next, below, once, key, val leave. Loosely: which values come out doesn't matter, only that they are such values.
-/
import Derived.Test.YtaofemdhgfejjaaGreatDoorPRow
import Derived.Test.YtaofemdhgfejjaaGreatDoorRdBase
import Derived.BigQuiet
import Derived.IntWalk
namespace Go.Proofs.YtaofemdhgfejjaaGreatDoor
open Go.RowKit

set_option maxRecDepth 100000 in
set_option maxHeartbeats 1000000 in
theorem key_any (rb : Nat) (w : World) (h : Rd w rb) :
    Calls Tryz.prog 46 #[.pointer (some ⟨rb, 0, none⟩)] w (RdS rb 12 w) := by
  go_enter Tryz.func46, Tryz.ntmps46
  go_wp2_with fail
  refine (once_any rb 30 w h (by omega) (by omega)).mono ?_
  rintro e w1 ⟨x, rfl, r1, g1⟩
  cases x
  · have G1 := hide g1
    have r1b := r1.below ((Below.refl _ w1).alloc (Nat.le_refl _) (.cells #[.string ⟨#[97]⟩, .string ⟨#[98]⟩, .string ⟨#[99]⟩, .string ⟨#[100]⟩, .string ⟨#[101]⟩] 9))
    have hh := heap_alloc_new w1 (.cells #[.string ⟨#[97]⟩, .string ⟨#[98]⟩, .string ⟨#[99]⟩, .string ⟨#[100]⟩, .string ⟨#[101]⟩] 9)
    have HH := hide hh
    have hlt := r1.lt
    clear g1 h hh
    go_wp2_with fail
    refine (below_any rb 5 _ r1b (by omega) (by omega)).mono ?_
    rintro e w2 ⟨y, hy0, hy1, rfl, r2, g2⟩
    have R2 := hide r2
    have hb2 := g2.block w1.heap.size (by simp) (by simp; omega)
    rw [HH.out] at hb2
    have G2 := hide (World.grownBy.trans (World.grownBy.trans G1.out (World.grownBy_alloc w1 _ _)) g2)
    obtain ⟨k, rfl⟩ := Int.eq_ofNat_of_zero_le hy0
    have hk : k < 5 := by omega
    obtain ⟨s, hs, ho, hc⟩ : ∃ s : ByteArray, s.size ≤ 12 ∧ s ≠ otherS ∧ w2.cell? ⟨w1.heap.size, k, none⟩ = some (.string s) := by
      rw [cell_of_row w2 w1.heap.size k _ _ _ hb2]
      match k, hk with
      | 0, _ => exact ⟨_, by decide, by decide, rfl⟩
      | 1, _ => exact ⟨_, by decide, by decide, rfl⟩
      | 2, _ => exact ⟨_, by decide, by decide, rfl⟩
      | 3, _ => exact ⟨_, by decide, by decide, rfl⟩
      | 4, _ => exact ⟨_, by decide, by decide, rfl⟩
    have HO := hide ho
    clear r2 g2 hb2 r1b r1 HH ho
    go_wp2
    go_ret
    exact ⟨s, hs, HO.out, rfl, R2.out, G2.out⟩
  · have R1 := hide r1
    have G1 := hide g1
    clear r1 g1 h
    go_wp2
    go_ret
    exact ⟨_, by decide, by decide, rfl, R1.out, G1.out⟩

set_option maxRecDepth 100000 in
set_option maxHeartbeats 1000000 in
theorem val_any (rb : Nat) (w : World) (h : Rd w rb) :
    Calls Tryz.prog 47 #[.pointer (some ⟨rb, 0, none⟩)] w (RdS rb 12 w) := by
  have r1b := fun o => h.below ((Below.refl _ w).alloc (Nat.le_refl _) o)
  have hlt := h.lt
  have RB := hide r1b
  clear r1b h
  go_enter Tryz.func47, Tryz.ntmps47
  go_wp2_with fail
  refine (below_any rb 6 _ (RB.out _) (by omega) (by omega)).mono ?_
  rintro e w2 ⟨y, hy0, hy1, rfl, r2, g2⟩
  have R2 := hide r2
  have hb2 := (g2.block w.heap.size (by simp) (by simp; omega)).trans (heap_alloc_new w _)
  have G2 := hide (World.grownBy.trans (World.grownBy_alloc w _ _) g2)
  obtain ⟨k, rfl⟩ := Int.eq_ofNat_of_zero_le hy0
  have hk : k < 6 := by omega
  obtain ⟨s, hs, ho, hc⟩ : ∃ s : ByteArray, s.size ≤ 12 ∧ s ≠ otherS ∧ w2.cell? ⟨w.heap.size, k, none⟩ = some (.string s) := by
    rw [cell_of_row w2 w.heap.size k _ _ _ hb2]
    match k, hk with
    | 0, _ => exact ⟨_, by decide, by decide, rfl⟩
    | 1, _ => exact ⟨_, by decide, by decide, rfl⟩
    | 2, _ => exact ⟨_, by decide, by decide, rfl⟩
    | 3, _ => exact ⟨_, by decide, by decide, rfl⟩
    | 4, _ => exact ⟨_, by decide, by decide, rfl⟩
    | 5, _ => exact ⟨_, by decide, by decide, rfl⟩
  have HO := hide ho
  clear r2 g2 hb2 RB ho
  go_wp2
  go_ret
  exact ⟨s, hs, HO.out, rfl, R2.out, G2.out⟩
end Go.Proofs.YtaofemdhgfejjaaGreatDoor
