/-
  Plain mathematics of the digest's steps: the state that goes up by one place, words and their bytes, a block's step on strings.
-/
import Derived.Test.YtdahpnjamlfakaaGreatDoorQShaI
import Derived.Test.YtdahpnjamlfakaaGreatDoorQOwn
import Derived.Test.YtdahpnjamlfakaaGreatDoorQPadS
namespace Go.Proofs.YtdahpnjamlfakaaGreatDoor
open Go.RowKit

/-- the state while its words from the last one down to i + 1 have gone up by one place -/
def shI (V : Nat → Int) (i : Nat) : Nat → Int := fun j => if i < j then V (j - 1) else V j
theorem shI_last (V : Nat → Int) : wordsA (shI V 7) 8 = wordsA V 8 := wordsA_congr fun j hj => if_neg (by omega)
theorem shI_step (V : Nat → Int) (i : Nat) (hi : 0 < i) : wordsA (shI V (i - 1)) 8 = (wordsA (shI V i) 8).setIfInBounds i (.int .u32 (V (i - 1))) := by
  rw [wordsA_set]
  refine wordsA_congr fun j hj => ?_
  unfold shI
  by_cases e : j = i
  · subst e; rw [if_pos (by omega), if_pos rfl]
  · rw [if_neg e]
    by_cases h' : i < j
    · rw [if_pos (by omega), if_pos h']
    · rw [if_neg (by omega), if_neg h']
theorem rnd_row (V : Nat → Int) (k x : Int) : wordsA (rnd V k x) 8 = ((wordsA (shI V 0) 8).setIfInBounds 4 (.int .u32 (rnd V k x 4))).setIfInBounds 0 (.int .u32 (rnd V k x 0)) := by
  rw [wordsA_set, wordsA_set]
  refine wordsA_congr fun j hj => ?_
  rcases (show j = 0 ∨ j = 1 ∨ j = 2 ∨ j = 3 ∨ j = 4 ∨ j = 5 ∨ j = 6 ∨ j = 7 by omega) with e | e | e | e | e | e | e | e <;> subst e <;> simp [rnd, shI]

/-- the bytes of the first n words -/
def bytesTo (u : Nat → Int) (n : Nat) : List Int := (List.range n).flatMap fun j => bytesI (u j)
theorem bytesTo_succ (u : Nat → Int) (n : Nat) : bytesTo u (n + 1) = bytesTo u n ++ bytesI (u n) := by simp [bytesTo, List.range_succ]
theorem bytesTo_length (u : Nat → Int) : ∀ n, (bytesTo u n).length = 4 * n
  | 0 => rfl
  | n + 1 => by rw [bytesTo_succ, List.length_append, bytesTo_length u n]; show 4 * n + 4 = _; omega
theorem bytesTo_8 (u : Nat → Int) : strOfNums (bytesTo u 8) = digB u := by
  unfold digB bytesTo
  simp [List.range, List.range.loop]

/-- four bytes, put together and taken apart again -/
theorem or_disj (a b k : Nat) (hb : b < 2 ^ k) : a * 2 ^ k ||| b = a * 2 ^ k + b := by
  rw [← Nat.shiftLeft_eq, ← Nat.shiftLeft_add_eq_or_of_lt hb]
theorem bits_or (a b : Nat) (ha : a < 4294967296) (hb : b < 4294967296) : bits BinOp.or IntKind.u32 (a : Int) (b : Int) = ((a ||| b : Nat) : Int) := by
  have h : a ||| b < 4294967296 := Nat.or_lt_two_pow (n := 32) ha hb
  unfold bits
  simp only [show IntKind.u32.bits = 32 from rfl, BitVec.ofInt_natCast, wrap_u32, BitVec.toNat_or, BitVec.toNat_ofNat]
  rw [Nat.mod_eq_of_lt (by simpa using ha), Nat.mod_eq_of_lt (by simpa using hb)]
  omega
theorem be_bytes (x : Int) (hx : isW x) : beI (x / 16777216) (x / 65536 % 256) (x / 256 % 256) (x % 256) = x := by
  obtain ⟨h0, h1⟩ := hx
  obtain ⟨n, rfl⟩ := Int.eq_ofNat_of_zero_le h0
  have hn : n < 4294967296 := by omega
  unfold beI
  have e1 : ((n : Int) / 16777216 * 16777216) = ((n / 16777216 * 2 ^ 24 : Nat) : Int) := by omega
  have e2 : ((n : Int) / 65536 % 256 * 65536) = ((n / 65536 % 256 * 2 ^ 16 : Nat) : Int) := by omega
  have e3 : ((n : Int) / 256 % 256 * 256) = ((n / 256 % 256 * 2 ^ 8 : Nat) : Int) := by omega
  have e4 : ((n : Int) % 256) = ((n % 256 : Nat) : Int) := by omega
  rw [e1, e2, e3, e4, bits_or _ _ (by omega) (by omega), or_disj _ _ 24 (by omega),
    show n / 16777216 * 2 ^ 24 + n / 65536 % 256 * 2 ^ 16 = (n / 65536) * 2 ^ 16 by omega, bits_or _ _ (by omega) (by omega), or_disj _ _ 16 (by omega),
    show n / 65536 * 2 ^ 16 + n / 256 % 256 * 2 ^ 8 = (n / 256) * 2 ^ 8 by omega, bits_or _ _ (by omega) (by omega), or_disj _ _ 8 (by omega)]
  omega
theorem bytesI_byte {x : Int} (h : isW x) : ∀ z ∈ bytesI x, 0 ≤ z ∧ z < 256 := by
  obtain ⟨h0, h1⟩ := h
  intro z hz
  simp only [bytesI, List.mem_cons, List.not_mem_nil, or_false] at hz
  rcases hz with e | e | e | e <;> subst e <;> omega
theorem bytesTo_get (u : Nat → Int) : ∀ (n j r : Nat), j < n → r < 4 → (bytesTo u n).getD (4 * j + r) 0 = (bytesI (u j)).getD r 0
  | 0, j, _, h, _ => absurd h (by omega)
  | n + 1, j, r, h, hr => by
    rw [bytesTo_succ]
    have hl := bytesTo_length u n
    by_cases hj : j < n
    · have ih := bytesTo_get u n j r hj hr
      simp only [List.getD_eq_getElem?_getD] at ih ⊢
      rw [List.getElem?_append_left (by omega)]
      exact ih
    · obtain rfl : j = n := by omega
      simp only [List.getD_eq_getElem?_getD]
      rw [List.getElem?_append_right (by omega), show 4 * j + r - (bytesTo u j).length = r by omega]
/-- the words of eight words' string are those words -/
theorem mOf_dig {u : Nat → Int} (hu : ∀ j, j < 8 → isW (u j)) (j : Nat) (hj : j < 8) : mOf (sB (digB u)) j = u j := by
  have hb : ∀ z ∈ bytesTo u 8, 0 ≤ z ∧ z < 256 := by
    intro z hz
    simp only [bytesTo, List.mem_flatMap, List.mem_range] at hz
    obtain ⟨i, hi, hz⟩ := hz
    exact bytesI_byte (hu i hi) z hz
  unfold mOf
  rw [← bytesTo_8, sB_nums _ hb, sB_nums _ hb, sB_nums _ hb, sB_nums _ hb, show 4 * j = 4 * j + 0 from rfl, bytesTo_get u 8 j 0 hj (by omega), show 4 * j + 0 + 1 = 4 * j + 1 from rfl, bytesTo_get u 8 j 1 hj (by omega), show 4 * j + 0 + 2 = 4 * j + 2 from rfl, bytesTo_get u 8 j 2 hj (by omega), show 4 * j + 0 + 3 = 4 * j + 3 from rfl, bytesTo_get u 8 j 3 hj (by omega)]
  exact be_bytes _ (hu j hj)
theorem digB_size (u : Nat → Int) : (digB u).size = 32 := by rw [← bytesTo_8, strOfNums_size, bytesTo_length]
theorem digB_congr {u u' : Nat → Int} (h : ∀ j, j < 8 → u j = u' j) : digB u = digB u' := by
  unfold digB
  rw [h 0 (by omega), h 1 (by omega), h 2 (by omega), h 3 (by omega), h 4 (by omega), h 5 (by omega), h 6 (by omega), h 7 (by omega)]
theorem sB_extract (t : ByteArray) (a b j : Nat) (hj : a + j < b) (hb : b ≤ t.size) : sB (t.extract a b) j = sB t (a + j) := by
  have hsz : (t.extract a b).size = b - a := by rw [ByteArray.size_extract]; omega
  rw [sB_in (by omega), sB_in (by omega)]
  rw [ByteArray.getElem_extract]
/-- a step on the state's string and a block of the padded text -/
theorem step_st (s : ByteArray) (hs : s.size ≤ 2000) (n : Nat) (hn : 64 * n + 64 ≤ padN s.size) :
    digB (mixI (mOf (sB (digB (stTo (padY s) n)))) (wAt (mOf (sB ((padT s).extract (64 * n) (64 * n + 64)))))) = digB (stTo (padY s) (n + 1)) := by
  refine digB_congr fun j hj => ?_
  refine mixI_congr (fun i hi => mOf_dig (stTo_word (padY s) n) i hi) (fun i hi => ?_) j hj
  have hz := padT_size s
  unfold mOf
  rw [sB_extract _ _ _ _ (by omega) (by omega), sB_extract _ _ _ _ (by omega) (by omega), sB_extract _ _ _ _ (by omega) (by omega), sB_extract _ _ _ _ (by omega) (by omega), padT_byte s hs _ (by omega), padT_byte s hs _ (by omega), padT_byte s hs _ (by omega), padT_byte s hs _ (by omega)]
theorem dig_first : (⟨#[106, 9, 230, 103, 187, 103, 174, 133, 60, 110, 243, 114, 165, 79, 245, 58, 81, 14, 82, 127, 155, 5, 104, 140, 31, 131, 217, 171, 91, 224, 205, 25]⟩ : ByteArray) = digB (fun j => fTab.getD j 0) := by decide +kernel

end Go.Proofs.YtdahpnjamlfakaaGreatDoor
