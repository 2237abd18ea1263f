/-
  What hurt makes of a text (loosely: that it is a text, and short).
-/
import Derived.Test.YtlipefnaeblhfaaDoorRdBase
import Derived.Deep.RegionWith
import Derived.WalkSpells
namespace Go.Proofs.YtlipefnaeblhfaaDoor
open Go.RowKit

def RdT (rb most : Nat) (w : World) (e : Ending) (w' : World) : Prop := ∃ s : ByteArray, s.size ≤ most ∧ e = .returned (.string s) ∧ Rd w' rb ∧ w.grownBy w' (some rb)

theorem four_cell (w : World) (k : Nat) (hk : k < 4) (b : Nat) (hb : w.heap[b]? = some (.cells #[.string ⟨#[0]⟩, .string ⟨#[55]⟩, .string ⟨#[255]⟩, .string ⟨#[32]⟩] 9 (0, 0))) : ∃ a : ByteArray, a.size ≤ 1 ∧ w.cell? ⟨b, k, none⟩ = some (.string a) := by
  rw [cell_of_row w b k _ _ _ hb]
  match k, hk with
  | 0, _ => exact ⟨_, by decide, rfl⟩
  | 1, _ => exact ⟨_, by decide, rfl⟩
  | 2, _ => exact ⟨_, by decide, rfl⟩
  | 3, _ => exact ⟨_, by decide, rfl⟩

set_option maxRecDepth 100000 in
set_option maxHeartbeats 2000000 in
theorem hurt_any (rb : Nat) (s : ByteArray) (w : World) (h : Rd w rb) (hs : s.size ≤ 1000) :
    Calls Tryd.prog 40 #[.pointer (some ⟨rb, 0, none⟩), .string s] w (RdT rb 1001 w) := by
  go_enter Tryd.func40, Tryd.ntmps40
  go_wp2_with fail
  refine (below_any rb 6 w h (by omega) (by omega)).mono ?_
  rintro e w1 ⟨x, hx0, hx1, rfl, r1, g1⟩
  have R1 := hide r1
  have G1 := hide g1
  clear r1 g1 h
  by_cases hx : x = 1
  · subst hx
    go_wp2_with fail
    refine (below_any rb ((s.size : Int) + 1) w1 R1.out (by omega) (by omega)).mono ?_
    rintro e w2 ⟨y, hy0, hy1, rfl, r2, g2⟩
    have R2 := hide r2
    have G2 := hide (World.grownBy.trans G1.out g2)
    clear r2 g2 R1 G1
    obtain ⟨k, rfl⟩ := Int.eq_ofNat_of_zero_le hy0
    have hk : k ≤ s.size := by omega
    go_wp2
    go_ret
    exact ⟨_, by rw [ByteArray.size_extract]; omega, rfl, R2.out, G2.out⟩
  by_cases hx2 : x = 2
  · subst hx2
    clear hx
    by_cases hs0 : 0 < s.size
    · go_wp2_with fail
      refine (below_any rb (s.size : Int) w1 R1.out (by omega) (by omega)).mono ?_
      rintro e w2 ⟨y, hy0, hy1, rfl, r2, g2⟩
      have R2 := hide r2
      have hlt := r2.lt
      have G2 := hide (World.grownBy.trans G1.out g2)
      clear r2 g2 R1 G1
      obtain ⟨k, rfl⟩ := Int.eq_ofNat_of_zero_le hy0
      have hk : k < s.size := by omega
      go_wp2_with fail
      have c1 : (0 : Int) ≤ (k : Int) := by omega
      have c2 : (k : Int) ≤ (s.size : Int) := by omega
      have c3 : (0 : Int) ≤ (k : Int) + 1 := by omega
      have c4 : (k : Int) + 1 ≤ (s.size : Int) := by omega
      have cw : IntKind.i64.wrap ((k : Int) + 1) = (k : Int) + 1 := IntWalk.i64_in _ (by omega)
      have z1 : (s.extract 0 k).size = k := by rw [ByteArray.size_extract]; omega
      have z2 : (s.extract (k + 1) s.size).size = s.size - (k + 1) := by rw [ByteArray.size_extract]; omega
      have Rb : Hid (Rd (w2.alloc (.cells #[.string ⟨#[0]⟩, .string ⟨#[55]⟩, .string ⟨#[255]⟩, .string ⟨#[32]⟩] 9)).drew rb) := hide (R2.out.below (((Below.refl _ w2).alloc (Nat.le_refl _) (.cells #[.string ⟨#[0]⟩, .string ⟨#[55]⟩, .string ⟨#[255]⟩, .string ⟨#[32]⟩] 9)).drew))
      have Ha : Hid ((w2.alloc (.cells #[.string ⟨#[0]⟩, .string ⟨#[55]⟩, .string ⟨#[255]⟩, .string ⟨#[32]⟩] 9)).drew.heap[w2.heap.size]? = some (.cells #[.string ⟨#[0]⟩, .string ⟨#[55]⟩, .string ⟨#[255]⟩, .string ⟨#[32]⟩] 9 (0, 0))) := hide (heap_alloc_new w2 (.cells #[.string ⟨#[0]⟩, .string ⟨#[55]⟩, .string ⟨#[255]⟩, .string ⟨#[32]⟩] 9))
      have Ga : Hid (w.grownBy (w2.alloc (.cells #[.string ⟨#[0]⟩, .string ⟨#[55]⟩, .string ⟨#[255]⟩, .string ⟨#[32]⟩] 9)).drew (some rb)) := hide (World.grownBy.trans G2.out (grown_of_below (((Below.refl _ w2).alloc (Nat.le_refl _) _).drew)))
      have hsz3 : (w2.alloc (.cells #[.string ⟨#[0]⟩, .string ⟨#[55]⟩, .string ⟨#[255]⟩, .string ⟨#[32]⟩] 9)).drew.heap.size = w2.heap.size + 1 := by simp
      have HS3 := hide hsz3
      clear hsz3
      have A4 : Hid (Calls Tryd.prog 48 #[.pointer (some ⟨rb, 0, none⟩), .int .i64 4] (w2.alloc (.cells #[.string ⟨#[0]⟩, .string ⟨#[55]⟩, .string ⟨#[255]⟩, .string ⟨#[32]⟩] 9)).drew fun e w' => ∃ (k2 : Nat) (a : ByteArray), k2 < 4 ∧ a.size ≤ 1 ∧ e = .returned (.int .i64 k2) ∧ w'.cell? ⟨w2.heap.size, k2, none⟩ = some (.string a) ∧ Hid (Rd w' rb) ∧ Hid (w.grownBy w' (some rb))) := hide ((below_any rb 4 _ Rb.out (by omega) (by omega)).mono (by
        rintro e w3 ⟨y, hy0', hy1', rfl, r3, g3⟩
        have hb3 := g3.block w2.heap.size (by rw [HS3.out]; omega) (by simp; omega)
        rw [Ha.out] at hb3
        obtain ⟨k2, rfl⟩ := Int.eq_ofNat_of_zero_le hy0'
        obtain ⟨a, ha, hc⟩ := four_cell w3 k2 (by omega) w2.heap.size hb3
        exact ⟨k2, a, by omega, ha, rfl, hc, r3, World.grownBy.trans Ga.out g3⟩))
      have A5 : Hid (Calls Tryd.prog 48 #[.pointer (some ⟨rb, 0, none⟩), .int .i64 4] w2.drew fun e w' => ∃ (k2 : Nat) (a : ByteArray), k2 < 4 ∧ a.size ≤ 1 ∧ e = .returned (.int .i64 k2) ∧ (w'.alloc (.cells #[.string ⟨#[0]⟩, .string ⟨#[55]⟩, .string ⟨#[255]⟩, .string ⟨#[32]⟩] 9)).cell? ⟨w'.heap.size, k2, none⟩ = some (.string a) ∧ Hid (Rd (w'.alloc (.cells #[.string ⟨#[0]⟩, .string ⟨#[55]⟩, .string ⟨#[255]⟩, .string ⟨#[32]⟩] 9)) rb) ∧ Hid (w.grownBy (w'.alloc (.cells #[.string ⟨#[0]⟩, .string ⟨#[55]⟩, .string ⟨#[255]⟩, .string ⟨#[32]⟩] 9)) (some rb))) := hide ((below_any rb 4 w2.drew R2.out (by omega) (by omega)).mono (by
        rintro e w3 ⟨y, hy0', hy1', rfl, r3, g3⟩
        obtain ⟨k2, rfl⟩ := Int.eq_ofNat_of_zero_le hy0'
        obtain ⟨a, ha, hc⟩ := four_cell (w3.alloc (.cells #[.string ⟨#[0]⟩, .string ⟨#[55]⟩, .string ⟨#[255]⟩, .string ⟨#[32]⟩] 9)) k2 (by omega) w3.heap.size (heap_alloc_new w3 (.cells #[.string ⟨#[0]⟩, .string ⟨#[55]⟩, .string ⟨#[255]⟩, .string ⟨#[32]⟩] 9))
        exact ⟨k2, a, by omega, ha, rfl, hc, r3.below ((Below.refl _ w3).alloc (Nat.le_refl _) _), World.grownBy.trans (World.grownBy.trans G2.out (World.grownBy.trans (grown_of_below ((Below.refl _ w2).drew)) g3)) (World.grownBy_alloc w3 _ _)⟩))
      clear R2 G2 Rb Ha Ga HS3
      go_region_with (first
        | (go_at_call 48; refine A4.out.mono ?_; rintro e w3 ⟨k2, a, hk2, ha, rfl, hc, R3, G3⟩; have zB : ¬ (9223372036854775807 < (s.extract 0 k).size + a.size) := (by omega); have zC : ¬ (9223372036854775807 < (s.extract 0 k).size + a.size + (s.extract (k + 1) s.size).size) := (by omega))
        | (go_at_call 48; refine A5.out.mono ?_; rintro e w3 ⟨k2, a, hk2, ha, rfl, hc, R3, G3⟩; have zB : ¬ (9223372036854775807 < (s.extract 0 k).size + a.size) := (by omega); have zC : ¬ (9223372036854775807 < (s.extract 0 k).size + a.size + (s.extract (k + 1) s.size).size) := (by omega)))
      all_goals
       go_wp2
       go_ret
       exact ⟨_, by rw [ByteArray.size_append, ByteArray.size_append, z1, z2]; omega, rfl, R3.out, G3.out⟩
    · go_wp2
      go_ret
      exact ⟨s, by omega, rfl, R1.out, G1.out⟩
  by_cases hx3 : x = 3
  · subst hx3
    clear hx hx2
    have R2 := hide (R1.out.below ((Below.refl _ w1).alloc (Nat.le_refl _) (.cells #[.string ⟨#[0]⟩, .string ⟨#[49]⟩, .string ⟨#[10]⟩, .string ⟨#[32]⟩] 9)))
    have HH := hide (heap_alloc_new w1 (.cells #[.string ⟨#[0]⟩, .string ⟨#[49]⟩, .string ⟨#[10]⟩, .string ⟨#[32]⟩] 9))
    have hlt := R1.out.lt
    go_wp2_with fail
    refine (below_any rb 4 _ R2.out (by omega) (by omega)).mono ?_
    rintro e w2 ⟨y, hy0, hy1, rfl, r2, g2⟩
    have R3 := hide r2
    have hb2 := g2.block w1.heap.size (by simp) (by simp; omega)
    rw [HH.out] at hb2
    have G2 := hide (World.grownBy.trans (World.grownBy.trans G1.out (World.grownBy_alloc w1 _ _)) g2)
    obtain ⟨k, rfl⟩ := Int.eq_ofNat_of_zero_le hy0
    have hk : k < 4 := by omega
    obtain ⟨a, ha, hc⟩ : ∃ a : ByteArray, a.size ≤ 1 ∧ w2.cell? ⟨w1.heap.size, k, none⟩ = some (.string a) := by
      rw [cell_of_row w2 w1.heap.size k _ _ _ hb2]
      match k, hk with
      | 0, _ => exact ⟨_, by decide, rfl⟩
      | 1, _ => exact ⟨_, by decide, rfl⟩
      | 2, _ => exact ⟨_, by decide, rfl⟩
      | 3, _ => exact ⟨_, by decide, rfl⟩
    clear r2 g2 hb2 R2 R1 HH G1
    have zB : ¬ (9223372036854775807 < s.size + a.size) := by omega
    go_wp2
    go_ret
    exact ⟨s ++ a, by rw [ByteArray.size_append]; omega, rfl, R3.out, G2.out⟩
  · have d1 : (x == 1) = false := by rw [beq_eq_false_iff_ne]; exact hx
    have d2 : (x == 2) = false := by rw [beq_eq_false_iff_ne]; exact hx2
    have d3 : (x == 3) = false := by rw [beq_eq_false_iff_ne]; exact hx3
    go_wp2
    go_ret
    exact ⟨s, by omega, rfl, R1.out, G1.out⟩

end Go.Proofs.YtlipefnaeblhfaaDoor
