/-
  The ids of ten short texts differ: the texts that are drawn, and the one that a law adds.
-/
import Derived.Test.YtaibonbabicilaaDoorQFast
namespace Go.Proofs.YtaibonbabicilaaDoor
open Go.RowKit

/-- the first byte of a digest of a short text -/
def headN (s : ByteArray) : Nat := (UInt8.ofNat (firstW s / 16777216).toNat).toNat
theorem sB_head (x : Int) (r : List Int) : sB (strOfNums (x :: r)) 0 = ((UInt8.ofNat x.toNat).toNat : Int) := by
  unfold sB strOfNums
  rw [dif_pos (by simp [ByteArray.size])]
  rfl
theorem sha_head {s : ByteArray} (h : padN s.size / 64 = 1) : sB (shaL s) 0 = (headN s : Int) := by
  have e : shaL s = strOfNums ((stTo (padY s) (padN s.size / 64) 0 / 16777216) :: (([stTo (padY s) (padN s.size / 64) 0].flatMap bytesI).tail ++ [stTo (padY s) (padN s.size / 64) 1, stTo (padY s) (padN s.size / 64) 2, stTo (padY s) (padN s.size / 64) 3, stTo (padY s) (padN s.size / 64) 4, stTo (padY s) (padN s.size / 64) 5, stTo (padY s) (padN s.size / 64) 6, stTo (padY s) (padN s.size / 64) 7].flatMap bytesI)) := rfl
  rw [e, sB_head, firstW_eq h]
  rfl
theorem sB_next (x y : Int) (r : List Int) : sB (strOfNums (x :: y :: r)) 1 = ((UInt8.ofNat y.toNat).toNat : Int) := by
  unfold sB strOfNums
  rw [dif_pos (by simp [ByteArray.size])]
  rfl
theorem idL_first (s : ByteArray) : sB (idL s) 0 = ((UInt8.ofNat (hexD (sB (shaL s) 0 / 16)).toNat).toNat : Int) ∧ sB (idL s) 1 = ((UInt8.ofNat (hexD (sB (shaL s) 0 % 16)).toNat).toNat : Int) := by
  have e : idL s = strOfNums (hexD (sB (shaL s) 0 / 16) :: hexD (sB (shaL s) 0 % 16) :: (List.range' 1 7).flatMap fun j => [hexD (sB (shaL s) j / 16), hexD (sB (shaL s) j % 16)]) := rfl
  constructor
  · rw [e, sB_head]
  · rw [e, sB_next]
theorem hex_inj : ∀ x y : Fin 256, (UInt8.ofNat (hexD ((x.val : Int) / 16)).toNat).toNat = (UInt8.ofNat (hexD ((y.val : Int) / 16)).toNat).toNat → (UInt8.ofNat (hexD ((x.val : Int) % 16)).toNat).toNat = (UInt8.ofNat (hexD ((y.val : Int) % 16)).toNat).toNat → x = y := by decide +kernel
theorem id_head {s t : ByteArray} (hs : padN s.size / 64 = 1) (ht : padN t.size / 64 = 1) (h : idL s = idL t) : headN s = headN t := by
  obtain ⟨a1, a2⟩ := idL_first s
  obtain ⟨b1, b2⟩ := idL_first t
  rw [h, b1] at a1
  rw [h, b2] at a2
  rw [sha_head hs, sha_head ht] at a1 a2
  have x1 : headN s < 256 := UInt8.toNat_lt _
  have x2 : headN t < 256 := UInt8.toNat_lt _
  have := hex_inj ⟨headN s, x1⟩ ⟨headN t, x2⟩ (Int.ofNat.inj a1.symm) (Int.ofNat.inj a2.symm)
  exact congrArg Fin.val this
theorem head_third : headN ⟨#[116, 104, 105, 114, 100]⟩ = 177 := by decide +kernel
theorem head_a : headN ⟨#[97]⟩ = 202 := by decide +kernel
theorem head_b : headN ⟨#[98]⟩ = 62 := by decide +kernel
theorem head_c : headN ⟨#[99]⟩ = 46 := by decide +kernel
theorem head_d : headN ⟨#[100]⟩ = 24 := by decide +kernel
theorem head_e : headN ⟨#[]⟩ = 227 := by decide +kernel
theorem head_t : headN ⟨#[116, 101, 120, 116]⟩ = 152 := by decide +kernel
theorem head_x : headN ⟨#[120, 10]⟩ = 115 := by decide +kernel
theorem head_abc : headN ⟨#[97, 98, 99]⟩ = 186 := by decide +kernel
theorem head_0 : headN ⟨#[0]⟩ = 110 := by decide +kernel
/-- the texts that are drawn -/
def texts9 : List ByteArray := [⟨#[97]⟩, ⟨#[98]⟩, ⟨#[99]⟩, ⟨#[100]⟩, ⟨#[]⟩, ⟨#[116, 101, 120, 116]⟩, ⟨#[120, 10]⟩, ⟨#[97, 98, 99]⟩, ⟨#[0]⟩]
def thirdS : ByteArray := ⟨#[116, 104, 105, 114, 100]⟩
theorem third_alone {t : ByteArray} (h : t ∈ texts9) : idL t ≠ idL thirdS := by
  intro e
  have hn : padN thirdS.size / 64 = 1 := by decide
  have := head_third
  simp only [texts9, List.mem_cons, List.not_mem_nil, or_false] at h
  rcases h with h | h | h | h | h | h | h | h | h
  · subst h; have := id_head (by decide) hn e; rw [head_a, show headN thirdS = 177 from head_third] at this; cases this
  · subst h; have := id_head (by decide) hn e; rw [head_b, show headN thirdS = 177 from head_third] at this; cases this
  · subst h; have := id_head (by decide) hn e; rw [head_c, show headN thirdS = 177 from head_third] at this; cases this
  · subst h; have := id_head (by decide) hn e; rw [head_d, show headN thirdS = 177 from head_third] at this; cases this
  · subst h; have := id_head (by decide) hn e; rw [head_e, show headN thirdS = 177 from head_third] at this; cases this
  · subst h; have := id_head (by decide) hn e; rw [head_t, show headN thirdS = 177 from head_third] at this; cases this
  · subst h; have := id_head (by decide) hn e; rw [head_x, show headN thirdS = 177 from head_third] at this; cases this
  · subst h; have := id_head (by decide) hn e; rw [head_abc, show headN thirdS = 177 from head_third] at this; cases this
  · subst h; have := id_head (by decide) hn e; rw [head_0, show headN thirdS = 177 from head_third] at this; cases this
end Go.Proofs.YtaibonbabicilaaDoor
