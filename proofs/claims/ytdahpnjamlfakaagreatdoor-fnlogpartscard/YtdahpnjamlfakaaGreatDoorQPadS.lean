/-
  What spec.l2Pad makes of a text: its bytes are the padded text's.
-/
import Derived.Test.YtdahpnjamlfakaaGreatDoorQPad
import Derived.Test.YtdahpnjamlfakaaGreatDoorQBytes
namespace Go.Proofs.YtdahpnjamlfakaaGreatDoor
open Go.RowKit

theorem sB_append (a b : ByteArray) (j : Nat) : sB (a ++ b) j = if j < a.size then sB a j else sB b (j - a.size) := by
  have hsz : (a ++ b).size = a.size + b.size := ByteArray.size_append
  unfold sB
  by_cases h : j < a.size
  · rw [if_pos h, dif_pos (by omega), dif_pos h, ByteArray.getElem_append_left h]
  · rw [if_neg h]
    by_cases h2 : j - a.size < b.size
    · rw [dif_pos (by omega), dif_pos h2, ByteArray.getElem_append_right (by omega)]
    · rw [dif_neg (by omega), dif_neg h2]
theorem sB_nums (xs : List Int) (hx : ∀ z ∈ xs, 0 ≤ z ∧ z < 256) (j : Nat) : sB (strOfNums xs) j = xs.getD j 0 := by
  have hsz := strOfNums_size xs
  unfold sB
  by_cases h : j < xs.length
  · rw [dif_pos (by omega)]
    have hm := hx xs[j] (List.getElem_mem h)
    have e : (strOfNums xs)[j]'(by omega) = UInt8.ofNat (xs[j].toNat) := by simp [strOfNums, ByteArray.getElem_eq_getElem_data]
    rw [e]
    have : (UInt8.ofNat xs[j].toNat).toNat = xs[j].toNat := by simp; omega
    rw [this]
    simp [h]
    omega
  · rw [dif_neg (by omega)]
    simp [h]

/-- the text, a byte 128, k noughts -/
def padS (s : ByteArray) : Nat → ByteArray
  | 0 => s ++ ⟨#[128]⟩
  | k + 1 => padS s k ++ ⟨#[0]⟩
theorem padS_size (s : ByteArray) : ∀ k, (padS s k).size = s.size + 1 + k
  | 0 => by show (s ++ (⟨#[128]⟩ : ByteArray)).size = _; rw [ByteArray.size_append]; rfl
  | k + 1 => by show (padS s k ++ (⟨#[0]⟩ : ByteArray)).size = _; rw [ByteArray.size_append, padS_size s k]; rfl
theorem one_byte (c : UInt8) (j : Nat) : sB ⟨#[c]⟩ j = if j = 0 then (c.toNat : Int) else 0 := by
  unfold sB
  by_cases h : j = 0
  · subst h; rfl
  · rw [if_neg h, dif_neg (by show ¬ j < 1; omega)]
theorem padS_byte (s : ByteArray) : ∀ k j, sB (padS s k) j = if j = s.size then 128 else sB s j
  | 0, j => by
    show sB (s ++ (⟨#[128]⟩ : ByteArray)) j = _
    rw [sB_append, one_byte]
    by_cases h : j = s.size
    · rw [if_pos h, if_neg (by omega), if_pos (by omega)]; rfl
    · rw [if_neg h]
      by_cases h2 : j < s.size
      · rw [if_pos h2]
      · rw [if_neg h2, if_neg (by omega)]
        unfold sB
        rw [dif_neg h2]
  | k + 1, j => by
    show sB (padS s k ++ (⟨#[0]⟩ : ByteArray)) j = _
    rw [sB_append, padS_byte s k, one_byte, padS_size]
    by_cases h2 : j < s.size + 1 + k
    · rw [if_pos h2]
    · rw [if_neg h2, if_neg (show ¬ j = s.size by omega)]
      unfold sB
      rw [dif_neg (show ¬ j < s.size by omega)]
      split <;> rfl
/-- the whole of it -/
def padT (s : ByteArray) : ByteArray := padS s (padN s.size - 9 - s.size) ++ ⟨#[0, 0, 0, 0]⟩ ++ strOfNums [(8 * s.size : Int) / 16777216 % 256, (8 * s.size : Int) / 65536 % 256, (8 * s.size : Int) / 256 % 256, (8 * s.size : Int) % 256]
theorem padT_size (s : ByteArray) : (padT s).size = padN s.size := by
  have := padN_ge s.size
  unfold padT
  rw [ByteArray.size_append, ByteArray.size_append, padS_size, strOfNums_size]
  show s.size + 1 + (padN s.size - 9 - s.size) + 4 + 4 = _
  omega
theorem padT_byte (s : ByteArray) (hs : s.size ≤ 2000) (j : Nat) (hj : j < padN s.size) : sB (padT s) j = padY s j := by
  have hN := padN_ge s.size
  unfold padT padY midP
  rw [sB_append, ByteArray.size_append, padS_size]
  show (if j < s.size + 1 + (padN s.size - 9 - s.size) + 4 then _ else sB _ (j - (s.size + 1 + (padN s.size - 9 - s.size) + 4))) = _
  by_cases h : j < padN s.size - 4
  · rw [if_pos (by omega), sB_append, padS_size, padS_byte]
    by_cases h2 : padN s.size - 8 ≤ j
    · rw [if_neg (by omega), if_pos h2]
      have hz : sB (⟨#[0, 0, 0, 0]⟩ : ByteArray) (j - (s.size + 1 + (padN s.size - 9 - s.size))) = 0 := by
        unfold sB
        split
        · rename_i hh
          have hh' : j - (s.size + 1 + (padN s.size - 9 - s.size)) < 4 := hh
          generalize j - (s.size + 1 + (padN s.size - 9 - s.size)) = i at *
          rcases (show i = 0 ∨ i = 1 ∨ i = 2 ∨ i = 3 by omega) with e | e | e | e <;> subst e <;> rfl
        · rfl
      rw [hz]
      have e4 : (256 : Int) ^ (padN s.size - 1 - j) = 4294967296 * 256 ^ (padN s.size - 5 - j) := by
        rw [show padN s.size - 1 - j = 4 + (padN s.size - 5 - j) by omega, Int.pow_add]; rfl
      have hp : (0 : Int) < 256 ^ (padN s.size - 5 - j) := Int.pow_pos (by decide)
      rw [Int.ediv_eq_zero_of_lt (by omega) (by rw [e4]; omega)]
      rfl
    · rw [if_pos (by omega), if_neg h2]
  · rw [if_neg (by omega), if_pos (by omega), sB_nums _ (by
      intro z hz
      simp only [List.mem_cons, List.not_mem_nil, or_false] at hz
      rcases hz with e | e | e | e <;> subst e <;> omega)]
    rcases (show j = padN s.size - 4 ∨ j = padN s.size - 3 ∨ j = padN s.size - 2 ∨ j = padN s.size - 1 by omega) with e | e | e | e
    · rw [show j - (s.size + 1 + (padN s.size - 9 - s.size) + 4) = 0 by omega, show padN s.size - 1 - j = 3 by omega]; rfl
    · rw [show j - (s.size + 1 + (padN s.size - 9 - s.size) + 4) = 1 by omega, show padN s.size - 1 - j = 2 by omega]; rfl
    · rw [show j - (s.size + 1 + (padN s.size - 9 - s.size) + 4) = 2 by omega, show padN s.size - 1 - j = 1 by omega]; rfl
    · rw [show j - (s.size + 1 + (padN s.size - 9 - s.size) + 4) = 3 by omega, show padN s.size - 1 - j = 0 by omega]
      show (8 * s.size : Int) % 256 = (8 * s.size : Int) / 1 % 256
      rw [Int.ediv_one]

/-- the text in a slot -/
def strOf : Value → ByteArray | .string s => s | _ => ByteArray.empty

set_option maxRecDepth 100000 in
set_option maxHeartbeats 2000000 in
theorem l2Pad_any (s : ByteArray) (w : World) (hs : s.size ≤ 2000) :
    Calls Tryz.prog 136 #[.string s] w fun e w' => e = .returned (.string (padT s)) ∧ Below w.heap.size w w' := by
  go_enter Tryz.func136, Tryz.ntmps136
  go_wp2
  have hN1 := padN_ge s.size
  have hN2 := padN_le s.size
  have hN3 : Hid (padN s.size % 64 = 0) := hide (by unfold padN; omega)
  have FIN : Hid (padT s = padS s (padN s.size - 9 - s.size) ++ ⟨#[0, 0, 0, 0]⟩ ++ strOfNums [(8 * s.size : Int) / 16777216 % 256, (8 * s.size : Int) / 65536 % 256, (8 * s.size : Int) / 256 % 256, (8 * s.size : Int) % 256]) := hide rfl
  generalize padN s.size = N at *
  go_loop [3] (fun sv => ∃ k : Nat, k + 9 + s.size ≤ N ∧ sv = .string (padS s k)) (fun v => 3000 - (strOf v).size)
  case atStart => exact ⟨0, by omega, rfl⟩
  case round =>
    obtain ⟨k, hk, rfl⟩ := hrel
    have hz := padS_size s k
    have hz1 : (padS s k).size ≤ 2072 := by omega
    have ST : Hid (padS s (k + 1) = padS s k ++ ⟨#[0]⟩) := hide rfl
    by_cases hlt : k + 9 + s.size < N
    · have ht : (((padS s k).size : Int) % 64 != 56) = true := by rw [hz, bne_iff_ne]; have := hN3.out; omega
      have HZ := hide hz
      clear hz
      go_wp2
      refine ⟨⟨k + 1, by omega, by rw [ST.out]⟩, ?_⟩
      show 3000 - (padS s k ++ (⟨#[0]⟩ : ByteArray)).size < 3000 - (padS s k).size
      rw [← ST.out, padS_size, padS_size]
      omega
    · have ht : (((padS s k).size : Int) % 64 != 56) = false := by
        rw [hz, bne_eq_false_iff_eq]; have := hN3.out; omega
      have HK : Hid (k = N - 9 - s.size) := hide (by omega)
      have HZ := hide hz
      clear hz
      have EV : Hid ((8 * s.size : Int) / 16777216 % 256 = 8 * s.size / 16777216 ∧ (8 * s.size : Int) / 65536 % 256 = 8 * s.size / 65536 ∧ (8 * s.size : Int) / 256 % 256 = 8 * s.size / 256) := hide (by omega)
      have HC := run_conv (w.alloc (.cells (([(8 * s.size : Int) / 16777216, (8 * s.size : Int) / 65536, (8 * s.size : Int) / 256, (8 * s.size : Int) % 256]).map (Value.int .u8)).toArray 5)) w.heap.size 4 [(8 * s.size : Int) / 16777216, (8 * s.size : Int) / 65536, (8 * s.size : Int) / 256, (8 * s.size : Int) % 256] 4 5 rfl (heap_alloc_new w _)
      simp only [List.map_cons, List.map_nil] at HC
      have hz2 : (padS s k ++ (⟨#[0, 0, 0, 0]⟩ : ByteArray)).size ≤ 2076 := by rw [ByteArray.size_append]; show _ + 4 ≤ _; omega
      have hz3 : (strOfNums [(8 * s.size : Int) / 16777216, (8 * s.size : Int) / 65536, (8 * s.size : Int) / 256, (8 * s.size : Int) % 256]).size ≤ 4 := by rw [strOfNums_size]; exact Nat.le_refl _
      go_wp2
      go_ret
      refine ⟨ret_str ?_, (Below.refl _ w).alloc (Nat.le_refl _) _⟩
      rw [FIN.out, ← HK.out, EV.out.1, EV.out.2.1, EV.out.2.2]
end Go.Proofs.YtdahpnjamlfakaaGreatDoor
