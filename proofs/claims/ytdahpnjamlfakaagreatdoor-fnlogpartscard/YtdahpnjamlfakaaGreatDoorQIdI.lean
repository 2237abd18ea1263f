/-
  What impl.IdOf gives.
-/
import Derived.Test.YtdahpnjamlfakaaGreatDoorQPlain
namespace Go.Proofs.YtdahpnjamlfakaaGreatDoor
open Go.RowKit

/-- a digit 0 .. 9, a .. f -/
def hexD (n : Int) : Int := if n < 10 then 48 + n else 87 + n
/-- the digits of the first n bytes -/
def hexTo (d : ByteArray) (n : Nat) : List Int := (List.range n).flatMap fun j => [hexD (sB d j / 16), hexD (sB d j % 16)]
theorem hexTo_succ (d : ByteArray) (n : Nat) : hexTo d (n + 1) = hexTo d n ++ [hexD (sB d n / 16), hexD (sB d n % 16)] := by simp [hexTo, List.range_succ]
theorem hexTo_length (d : ByteArray) : ∀ n, (hexTo d n).length = 2 * n
  | 0 => rfl
  | n + 1 => by rw [hexTo_succ, List.length_append, hexTo_length d n]; show 2 * n + 2 = _; omega
theorem hexTo_get (d : ByteArray) : ∀ (n j r : Nat), j < n → r < 2 → (hexTo d n).getD (2 * j + r) 0 = [hexD (sB d j / 16), hexD (sB d j % 16)].getD r 0
  | 0, j, _, h, _ => absurd h (by omega)
  | n + 1, j, r, h, hr => by
    rw [hexTo_succ]
    have hl := hexTo_length d n
    by_cases hj : j < n
    · have ih := hexTo_get d n j r hj hr
      simp only [List.getD_eq_getElem?_getD] at ih ⊢
      rw [List.getElem?_append_left (by omega)]
      exact ih
    · obtain rfl : j = n := by omega
      simp only [List.getD_eq_getElem?_getD]
      rw [List.getElem?_append_right (by omega), show 2 * j + r - (hexTo d j).length = r by omega]
/-- the digits while the first k bytes are done -/
def hexF (d : ByteArray) (k : Nat) : Nat → Int := fun j => if j < 2 * k then (hexTo d 8).getD j 0 else 0
theorem hexF_zero (d : ByteArray) : bytesA (hexF d 0) 16 = bytesA (fun _ => 0) 16 := bytesA_congr fun j _ => if_neg (by omega)
theorem hexF_step (d : ByteArray) (k : Nat) (hk : k < 8) : bytesA (hexF d (k + 1)) 16 = ((bytesA (hexF d k) 16).setIfInBounds (2 * k) (.int .u8 (hexD (sB d k / 16)))).setIfInBounds (2 * k + 1) (.int .u8 (hexD (sB d k % 16))) := by
  rw [bytesA_set, bytesA_set]
  refine bytesA_congr fun j hj => ?_
  have g0 := hexTo_get d 8 k 0 hk (by omega)
  have g1 := hexTo_get d 8 k 1 hk (by omega)
  unfold hexF
  by_cases e1 : j = 2 * k + 1
  · rw [if_pos e1, if_pos (by omega), e1, g1]; rfl
  · rw [if_neg e1]
    by_cases e0 : j = 2 * k
    · rw [if_pos e0, if_pos (by omega), e0]; exact g0
    · rw [if_neg e0]
      by_cases h : j < 2 * k
      · rw [if_pos (by omega), if_pos h]
      · rw [if_neg (by omega), if_neg h]
theorem hexF_all (d : ByteArray) : bytesA (hexF d 8) 16 = ((hexTo d 8).map (Value.int .u8)).toArray := by
  symm
  refine bytesA_eq (by simp [hexTo_length]) fun j hj => ?_
  have hl := hexTo_length d 8
  unfold hexF
  rw [if_pos (by omega)]
  simp [show j < (hexTo d 8).length by omega]
theorem zeros16 : #[Value.int .u8 0, .int .u8 0, .int .u8 0, .int .u8 0, .int .u8 0, .int .u8 0, .int .u8 0, .int .u8 0, .int .u8 0, .int .u8 0, .int .u8 0, .int .u8 0, .int .u8 0, .int .u8 0, .int .u8 0, .int .u8 0] = bytesA (fun _ => 0) 16 := by simp [bytesA, List.range, List.range.loop]
theorem and15 : ∀ n : Fin 256, bits BinOp.and IntKind.u8 (n.val : Int) 15 = (n.val : Int) % 16 := by decide +kernel
/-- sixteen digits of a digest -/
def hexB (d : ByteArray) : ByteArray := strOfNums (hexTo d 8)
/-- the id of a text, without the bound -/
def idL (s : ByteArray) : ByteArray := hexB (shaL s)
/-- the id of a text; nothing for more than 2000 bytes -/
def idT (s : ByteArray) : ByteArray := if s.size ≤ 2000 then idL s else ByteArray.empty
theorem shaL_size (s : ByteArray) : (shaL s).size = 32 := digB_size _
theorem hexB_size (d : ByteArray) : (hexB d).size = 16 := by unfold hexB; rw [strOfNums_size, hexTo_length]
theorem idL_size (s : ByteArray) : (idL s).size = 16 := hexB_size _
theorem hexD_byte {n : Int} (h : 0 ≤ n) (h' : n < 16) : 0 ≤ hexD n ∧ hexD n < 256 := by unfold hexD; split <;> omega
/-- a digit out of the table -/
theorem hex_tab (n : Nat) (h : n < 16) : (((⟨#[48, 49, 50, 51, 52, 53, 54, 55, 56, 57, 97, 98, 99, 100, 101, 102]⟩ : ByteArray)[n]'h).toNat : Int) = hexD (n : Int) := by
  rcases (show n = 0 ∨ n = 1 ∨ n = 2 ∨ n = 3 ∨ n = 4 ∨ n = 5 ∨ n = 6 ∨ n = 7 ∨ n = 8 ∨ n = 9 ∨ n = 10 ∨ n = 11 ∨ n = 12 ∨ n = 13 ∨ n = 14 ∨ n = 15 by omega) with e | e | e | e | e | e | e | e | e | e | e | e | e | e | e | e <;> subst e <;> rfl

set_option maxRecDepth 100000 in
set_option maxHeartbeats 2000000 in
theorem idI_any (s : ByteArray) (w : World) (hs : s.size ≤ 2000) (hT : Tabs w) :
    Calls Tryz.prog 47 #[.string s] w fun e w' => e = .returned (.string (idL s)) ∧ Below w.heap.size w w' := by
  have FIN : Hid (idL s = strOfNums (hexTo (shaL s) 8)) := hide rfl
  have hz := shaL_size s
  have SH := hide (shaI_any s w hs hT)
  generalize shaL s = d at *
  have hne : (d.toList == []) = false := by
    rw [beq_eq_false_iff_ne]
    intro e
    have hl : d.toList.length = d.size := by rw [Go.ByteArray.toList_eq]; simp
    rw [e] at hl
    simp at hl
    omega
  have he : d.toList.isEmpty = false := by
    cases h : d.toList with
    | nil => rw [h] at hne; cases hne
    | cons _ _ => rfl
  have hz1 : d.size ≤ 32 := by omega
  have hz2 : 32 ≤ d.size := by omega
  clear hz
  go_enter Tryz.func47, Tryz.ntmps47
  go_wp2_with fail
  refine SH.out.mono ?_
  rintro e w1 ⟨rfl, hb1⟩
  have B1 := hide hb1
  clear hb1
  go_wp2
  have R0 : Hid ((w1.alloc (.cells #[.int .u8 0, .int .u8 0, .int .u8 0, .int .u8 0, .int .u8 0, .int .u8 0, .int .u8 0, .int .u8 0, .int .u8 0, .int .u8 0, .int .u8 0, .int .u8 0, .int .u8 0, .int .u8 0, .int .u8 0, .int .u8 0] 113)).heap[w1.heap.size]? = some (.cells (bytesA (hexF d 0) 16) 113 (0, 0))) := hide (by rw [heap_alloc_new, hexF_zero, zeros16])
  have L0 : Hid (Below w1.heap.size w1 (w1.alloc (.cells #[.int .u8 0, .int .u8 0, .int .u8 0, .int .u8 0, .int .u8 0, .int .u8 0, .int .u8 0, .int .u8 0, .int .u8 0, .int .u8 0, .int .u8 0, .int .u8 0, .int .u8 0, .int .u8 0, .int .u8 0, .int .u8 0] 113))) := hide ((Below.refl _ _).alloc (Nat.le_refl _) _)
  generalize w1.alloc (.cells #[.int .u8 0, .int .u8 0, .int .u8 0, .int .u8 0, .int .u8 0, .int .u8 0, .int .u8 0, .int .u8 0, .int .u8 0, .int .u8 0, .int .u8 0, .int .u8 0, .int .u8 0, .int .u8 0, .int .u8 0, .int .u8 0] 113) = w2 at R0 L0 ⊢
  go_loopw [10] (fun iv wr => ∃ k : Nat, k ≤ 8 ∧ iv = .int .i64 k ∧ Hid (wr.heap[w1.heap.size]? = some (.cells (bytesA (hexF d k) 16) 113 (0, 0))) ∧ Hid (Below w1.heap.size w1 wr)) (fun i _ => 8 - (intOf i).toNat)
  case atStart => exact ⟨0, by omega, rfl, R0, L0⟩
  case round =>
    clear R0 L0
    obtain ⟨k, hk, rfl, R, Q⟩ := hrel
    by_cases hlt : k < 8
    · have c0 := (cell_of_row wr w1.heap.size (2 * k) _ _ _ R.out).trans (bytesA_get _ (show 2 * k < 16 by omega))
      have c1 := (cell_of_row wr w1.heap.size (2 * k + 1) _ _ _ R.out).trans (bytesA_get _ (show 2 * k + 1 < 16 by omega))
      have f0 := frozen_of_row wr w1.heap.size (2 * k) _ _ R.out
      have f1 := frozen_of_row wr w1.heap.size (2 * k + 1) _ _ R.out
      have ST := hide (hexF_step d k hlt)
      have SB := hide (sB_in (s := d) (j := k) (by omega))
      have hb := d[k].toNat_lt
      have hb2 : (d[k].toNat : Int) < 256 := by omega
      have ha := and15 ⟨d[k].toNat, by omega⟩
      simp only at ha
      have t0 : (2 * (k : Int)).toNat = 2 * k := by omega
      have t1 : (2 * (k : Int) + 1).toNat = 2 * k + 1 := by omega
      generalize hexF d k (2 * k) = o0 at c0
      generalize hexF d k (2 * k + 1) = o1 at c1
      have x0 := hide (hex_tab (d[k].toNat / 16) (by omega))
      have x1 := hide (hex_tab (d[k].toNat % 16) (by omega))
      go_wp2
      refine ⟨⟨k + 1, by omega, by go_num, hide ?_, hide ((Q.out.setCell (p := ⟨w1.heap.size, 2 * k, none⟩) (Nat.le_refl _) _).setCell (p := ⟨w1.heap.size, 2 * k + 1, none⟩) (Nat.le_refl _) _)⟩, by simp [intOf]; omega⟩
      refine (heap_setCell_same _ w1.heap.size (2 * k + 1) _ _ _ (heap_setCell_same wr w1.heap.size (2 * k) _ _ _ R.out)).trans ?_
      rw [ST.out, SB.out, x0.out, x1.out]
      rfl
    · have e8 : Hid (k = 8) := hide (by omega)
      have hgt : ¬ ((k : Int) < 8) := by omega
      have R8 : Hid (wr.heap[w1.heap.size]? = some (.cells ((hexTo d 8).map (Value.int .u8)).toArray 113 (0, 0))) := hide (by rw [R.out, e8.out, hexF_all])
      have HC := run_conv wr w1.heap.size 16 (hexTo d 8) 16 113 (hexTo_length d 8) R8.out
      clear hlt
      go_wp2
      go_ret
      have hq := B1.out.size
      refine ⟨ret_str ?_, B1.out.trans (Q.out.mono hq)⟩
      rw [FIN.out]
end Go.Proofs.YtdahpnjamlfakaaGreatDoor
