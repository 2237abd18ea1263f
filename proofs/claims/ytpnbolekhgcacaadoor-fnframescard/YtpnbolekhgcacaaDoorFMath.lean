/-
  The sum of zip, as plain mathematics: bit by bit, and four bits by a table. No Go in it.
-/
import Derived.Test.YtpnbolekhgcacaaDoorPMath
import Derived.Laws.Entries
import Derived.Laws.BytesArg
namespace Go.Proofs.YtpnbolekhgcacaaDoor
open Go.RowKit

/-- one bit -/
def bitS (c : Nat) : Nat := if c % 2 = 1 then (c / 2) ^^^ 3988292384 else c / 2
/-- what four bits come to -/
def rowT : List Int := [0, 498536548, 997073096, 651767980, 1994146192, 1802195444, 1303535960, 1342533948, 3988292384, 4027552580, 3604390888, 3412177804, 2607071920, 2262029012, 2685067896, 3183342108]
def rowN (r : Nat) : Nat := (rowT.getD r 0).toNat
/-- four bits -/
def nibS (c : Nat) : Nat := (c / 16) ^^^ rowN (c % 16)
theorem rowN_lt : ∀ r : Nat, rowN r < 4294967296 := by
  intro r
  by_cases h : r < 16
  · have : ∀ r : Fin 16, rowN r.val < 4294967296 := by decide
    exact this ⟨r, h⟩
  · unfold rowN rowT
    rw [List.getD_eq_getElem?_getD, List.getElem?_eq_none (by simp; omega)]
    decide
theorem rowT_N (r : Nat) : rowT.getD r 0 = (rowN r : Int) := by
  by_cases h : r < 16
  · have : ∀ r : Fin 16, rowT.getD r.val 0 = (rowN r.val : Int) := by decide
    exact this ⟨r, h⟩
  · unfold rowN rowT
    rw [List.getD_eq_getElem?_getD, List.getElem?_eq_none (by simp; omega)]
    decide
theorem bitS_eq (c : Nat) : bitS c = (c / 2) ^^^ (if c % 2 = 1 then 3988292384 else 0) := by
  unfold bitS
  split <;> simp
theorem xor_half (a b : Nat) : (a ^^^ b) / 2 = a / 2 ^^^ b / 2 := by
  have h := Nat.shiftRight_xor_distrib (a := a) (b := b) (i := 1)
  simpa [Nat.shiftRight_eq_div_pow] using h
theorem xor_odd (a b : Nat) : (a ^^^ b) % 2 = (a % 2) ^^^ (b % 2) := by
  have h := Nat.xor_mod_two_pow (a := a) (b := b) (n := 1)
  simpa using h
theorem xor_16 (a b : Nat) : (a ^^^ b) / 16 = a / 16 ^^^ b / 16 := by
  have h := Nat.shiftRight_xor_distrib (a := a) (b := b) (i := 4)
  simpa [Nat.shiftRight_eq_div_pow] using h
theorem xor_m16 (a b : Nat) : (a ^^^ b) % 16 = (a % 16) ^^^ (b % 16) := by
  have h := Nat.xor_mod_two_pow (a := a) (b := b) (n := 4)
  simpa using h
theorem xor_swap (a b c d : Nat) : (a ^^^ b) ^^^ (c ^^^ d) = (a ^^^ c) ^^^ (b ^^^ d) := by
  rw [Nat.xor_assoc, Nat.xor_assoc, ← Nat.xor_assoc b c d, Nat.xor_comm b c, Nat.xor_assoc c b d]
theorem bitS_xor (a b : Nat) : bitS (a ^^^ b) = bitS a ^^^ bitS b := by
  rw [bitS_eq, bitS_eq a, bitS_eq b, xor_half, xor_odd, xor_swap]
  congr 1
  rcases Nat.mod_two_eq_zero_or_one a with ha | ha <;> rcases Nat.mod_two_eq_zero_or_one b with hb | hb <;> simp [ha, hb]
theorem bitS_even (q : Nat) : bitS (2 * q) = q := by
  unfold bitS
  rw [if_neg (by omega)]
  omega
theorem split16 (c : Nat) : c = (16 * (c / 16)) ^^^ (c % 16) := by
  have h1 : ((16 * (c / 16)) ^^^ (c % 16)) / 16 = c / 16 := by
    rw [xor_16, Nat.mul_div_cancel_left _ (by decide), Nat.div_eq_of_lt (Nat.mod_lt c (by decide))]
    simp
  have h2 : ((16 * (c / 16)) ^^^ (c % 16)) % 16 = c % 16 := by
    rw [xor_m16, Nat.mul_mod_right, Nat.mod_mod]
    simp
  omega
theorem nib_low : ∀ r : Fin 16, bitS (bitS (bitS (bitS r.val))) = rowN r.val := by decide
theorem nib_bits (c : Nat) : bitS (bitS (bitS (bitS c))) = nibS c := by
  conv => lhs; rw [split16 c]
  rw [bitS_xor, bitS_xor, bitS_xor, bitS_xor]
  rw [show 16 * (c / 16) = 2 * (2 * (2 * (2 * (c / 16)))) by omega, bitS_even, bitS_even, bitS_even, bitS_even]
  unfold nibS
  rw [nib_low ⟨c % 16, Nat.mod_lt c (by decide)⟩]
theorem xor_lt32 {a b : Nat} (ha : a < 4294967296) (hb : b < 4294967296) : a ^^^ b < 4294967296 := Nat.xor_lt_two_pow (n := 32) ha hb
theorem bitS_lt {c : Nat} (h : c < 4294967296) : bitS c < 4294967296 := by
  unfold bitS
  split
  · exact xor_lt32 (by omega) (by decide)
  · omega
theorem nibS_lt {c : Nat} (h : c < 4294967296) : nibS c < 4294967296 := xor_lt32 (by omega) (rowN_lt _)
/-- k bits -/
def bitsTo (c : Nat) : Nat → Nat
  | 0 => c
  | k + 1 => bitS (bitsTo c k)
theorem bitsTo_lt {c : Nat} (h : c < 4294967296) : ∀ k, bitsTo c k < 4294967296
  | 0 => h
  | k + 1 => bitS_lt (bitsTo_lt h k)
theorem bitsTo_8 (c : Nat) : bitsTo c 8 = nibS (nibS c) := by
  show bitS (bitS (bitS (bitS (bitS (bitS (bitS (bitS c))))))) = _
  rw [nib_bits, nib_bits]
/-- a byte of a text, 0 behind it -/
def byN (s : ByteArray) (j : Nat) : Nat := if h : j < s.size then s[j].toNat else 0
theorem byN_in {s : ByteArray} {j : Nat} (h : j < s.size) : byN s j = s[j].toNat := dif_pos h
theorem byN_lt (s : ByteArray) (j : Nat) : byN s j < 256 := by
  unfold byN
  split
  · rename_i h; exact s[j].toNat_lt
  · omega
/-- the sum's state behind n bytes -/
def crcTo (s : ByteArray) : Nat → Nat
  | 0 => 4294967295
  | n + 1 => nibS (nibS (crcTo s n ^^^ byN s n))
theorem crcTo_lt (s : ByteArray) : ∀ n, crcTo s n < 4294967296
  | 0 => by unfold crcTo; omega
  | n + 1 => nibS_lt (nibS_lt (xor_lt32 (crcTo_lt s n) (by have := byN_lt s n; omega)))
theorem crcTo_bits (s : ByteArray) (n : Nat) : crcTo s (n + 1) = bitsTo (crcTo s n ^^^ byN s n) 8 := (bitsTo_8 _).symm
/-- the sum -/
def crcN (s : ByteArray) : Nat := 4294967295 ^^^ crcTo s s.size
theorem crcN_lt (s : ByteArray) : crcN s < 4294967296 := xor_lt32 (by decide) (crcTo_lt s _)
theorem xor32 (a b : Nat) (ha : a < 4294967296) (hb : b < 4294967296) : bits .xor .u32 (a : Int) (b : Int) = ((a ^^^ b : Nat) : Int) := by
  have hx : a ^^^ b < 2 ^ 32 := Nat.xor_lt_two_pow (by omega) (by omega)
  have h1 : (BitVec.ofInt 32 (a : Int)).toNat = a := by
    rw [BitVec.ofInt_natCast, BitVec.toNat_ofNat]; exact Nat.mod_eq_of_lt (by omega)
  have h2 : (BitVec.ofInt 32 (b : Int)).toNat = b := by
    rw [BitVec.ofInt_natCast, BitVec.toNat_ofNat]; exact Nat.mod_eq_of_lt (by omega)
  show IntKind.u32.wrap ((BitVec.ofInt 32 (a : Int) ^^^ BitVec.ofInt 32 (b : Int)).toNat : Int) = _
  rw [BitVec.toNat_xor, h1, h2]
  simp [IntKind.wrap, IntKind.bits, IntKind.signed]
  omega
theorem and32 (a b : Nat) (ha : a < 4294967296) (hb : b < 4294967296) : bits .and .u32 (a : Int) (b : Int) = ((a &&& b : Nat) : Int) := by
  have hx : a &&& b < 2 ^ 32 := Nat.and_lt_two_pow _ (by omega)
  have h1 : (BitVec.ofInt 32 (a : Int)).toNat = a := by
    rw [BitVec.ofInt_natCast, BitVec.toNat_ofNat]; exact Nat.mod_eq_of_lt (by omega)
  have h2 : (BitVec.ofInt 32 (b : Int)).toNat = b := by
    rw [BitVec.ofInt_natCast, BitVec.toNat_ofNat]; exact Nat.mod_eq_of_lt (by omega)
  show IntKind.u32.wrap ((BitVec.ofInt 32 (a : Int) &&& BitVec.ofInt 32 (b : Int)).toNat : Int) = _
  rw [BitVec.toNat_and, h1, h2]
  simp [IntKind.wrap, IntKind.bits, IntKind.signed]
  omega
theorem and15w (a : Nat) (ha : a < 4294967296) : bits .and .u32 (a : Int) 15 = ((a % 16 : Nat) : Int) := by
  have h := and32 a 15 ha (by decide)
  rw [show (15 : Nat) = 2 ^ 4 - 1 by decide, Nat.and_two_pow_sub_one_eq_mod] at h
  exact h

/-- the four bytes of a number, the highest first -/
def be4 (n : Nat) : List Int := [(n : Int) / 16777216 % 256, (n : Int) / 65536 % 256, (n : Int) / 256 % 256, (n : Int) % 256]
/-- the lowest first -/
def le4 (n : Nat) : List Int := [(n : Int) % 256, (n : Int) / 256 % 256, (n : Int) / 65536 % 256, (n : Int) / 16777216 % 256]
def headF (s : ByteArray) : ByteArray := strOfNums (be4 s.size ++ le4 (crcN s))
/-- the frame of a text, without the bound -/
def frameL (s : ByteArray) : ByteArray := headF s ++ s
/-- the frame of a text; nothing for more than 100000 bytes -/
def frameT (s : ByteArray) : ByteArray := if s.size ≤ 100000 then frameL s else ByteArray.empty
end Go.Proofs.YtpnbolekhgcacaaDoor
