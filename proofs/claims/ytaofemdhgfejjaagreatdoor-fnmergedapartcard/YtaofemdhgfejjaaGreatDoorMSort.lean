/-
  What slices.Sort and slices.Compact do to a row of texts of the call's own, by the library's contracts.
-/
import Derived.Test.YtaofemdhgfejjaaGreatDoorSLay
import Derived.Test.YtaofemdhgfejjaaGreatDoorMUniq
import Derived.Test.YtaofemdhgfejjaaGreatDoorCRow
import Derived.Sort.OwnSorted
import Derived.Sort.Grow
import Derived.Lib.OwnBridge
import Derived.Lib.RowBridge
namespace Go.Proofs.YtaofemdhgfejjaaGreatDoor
open Go.RowKit Go.Lib Go.Sort

/-- texts as lists of bytes -/
def toLs (bs : List ByteArray) : List (List UInt8) := bs.map fun b => b.data.toList
def sortL (zs : List (List UInt8)) : List (List UInt8) := zs.mergeSort fun x y => decide (x ≤ y)
theorem sortL_len (zs : List (List UInt8)) : (sortL zs).length = zs.length := List.length_mergeSort zs
theorem toLs_len (bs : List ByteArray) : (toLs bs).length = bs.length := by unfold toLs; simp
theorem toLs_enc (bs : List ByteArray) : (toLs bs).map encStr = bs.map Value.string := by
  unfold toLs
  rw [List.map_map]
  refine List.map_congr_left fun p _ => ?_
  simp [encStr]
/-- a row of the call's own, its texts as lists of bytes -/
def LOwn (w : World) (B : Nat) (A : Option Addr) (cap : Nat) (zs : List (List UInt8)) : Prop := w.ownsRow B 9 1 (.slice A zs.length cap) zs.length (zs.map encStr)
theorem ZOwn.toL {w : World} {B : Nat} {A : Option Addr} {cap : Nat} {bs : List ByteArray} (h : ZOwn w B A cap bs) : LOwn w B A cap (toLs bs) := by
  unfold LOwn
  rw [toLs_enc, toLs_len]
  exact h
theorem LOwn.toZ {w : World} {B : Nat} {A : Option Addr} {cap : Nat} {bs : List ByteArray} (h : LOwn w B A cap (toLs bs)) : ZOwn w B A cap bs := by
  unfold LOwn at h
  rw [toLs_enc, toLs_len] at h
  exact h
theorem LOwn.form {w : World} {B : Nat} {A : Option Addr} {cap : Nat} {zs : List (List UInt8)} (h : LOwn w B A cap zs) : (A = none ∧ cap = 0 ∧ zs = []) ∨ ∃ g cur, A = some ⟨g, 0, none⟩ ∧ B ≤ g ∧ g < w.heap.size ∧ w.heap[g]? = some (.cells cur 9 (0, 0)) ∧ zs.length ≤ cap ∧ cap ≤ maxLen ∧ cur.size = cap * 1 ∧ Holds encStr w g 0 zs.toArray := by
  rcases h.2 with ⟨e, e'⟩ | ⟨g, c, cur, e, hb, hg, h1, h2, h3, h4⟩
  · injection e with e1 e2 e3
    exact .inl ⟨e1, e3, List.eq_nil_of_length_eq_zero e2⟩
  · injection e with e1 e2 e3
    obtain ⟨g', cap', e', _, _, _, _, _, hH⟩ := holds_of_ownsRow h (by rw [e1]; simp)
    rw [e1] at e'
    injection e' with e4 e5 e6
    injection e4 with e4
    injection e4 with e4
    subst e4 e3
    exact .inr ⟨g, cur, e1, hb, (Array.getElem?_eq_some_iff.1 hg).1, hg, h1, h2, h3, hH⟩

theorem sort_any (A : Option Addr) (zs : List (List UInt8)) (cap : Nat) (w : World) (B : Nat) (hown : LOwn w B A cap zs) (hl : zs.length ≤ 100000) :
    Calls Tryz.prog 73 #[.slice A zs.length cap] w fun e w' => e = .returned (.tuple #[]) ∧ LOwn w' B A cap (sortL zs) ∧ w.grownBy w' (rowOf A) := by
  rcases hown.form with ⟨rfl, rfl, rfl⟩ | ⟨g, cur, rfl, hB, hg, hc, h1, h2, h3, hH⟩
  · refine (show Calls Tryz.prog 73 #[.slice none 0 0] w fun e w' => e = .returned (.tuple #[]) ∧ w' = w from AnyM.slices_Sort_string_none Tryz.sort73 none 0 w).mono ?_
    rintro e w' ⟨rfl, rfl⟩
    exact ⟨rfl, by simpa [sortL] using hown, World.grownBy.refl _ _⟩
  · refine (show Calls Tryz.prog 73 #[.slice (some ⟨g, 0, none⟩) zs.length cap] w _ from AnyM.slices_Sort_string Tryz.sort73 g 0 cap zs w hH hg (by omega)).mono ?_
    rintro e w' ⟨rfl, n, os, rfl⟩
    refine ⟨rfl, ?_, grownBy_sorted _⟩
    have hs := ownsRow_sorted (n := n) (os := os) (ts := sortL zs) (sortL_len zs) hB hc h1 h2 h3
    unfold LOwn
    rw [sortL_len]
    exact hs

theorem compact_any (A : Option Addr) (zs : List (List UInt8)) (cap : Nat) (w : World) (B : Nat) (hown : LOwn w B A cap zs) (hl : zs.length ≤ 100000) :
    Calls Tryz.prog 74 #[.slice A zs.length cap] w fun e w' => e = .returned (.slice A (compact zs).length cap) ∧ LOwn w' B A cap (compact zs) ∧ w.grownBy w' (rowOf A) := by
  rcases hown.form with ⟨rfl, rfl, rfl⟩ | ⟨g, cur, rfl, hB, hg, hc, h1, h2, h3, hH⟩
  · refine (show Calls Tryz.prog 74 #[.slice none 0 0] w fun e w' => e = .returned (.slice none 0 0) ∧ w' = w from Any.slices_Compact_string_empty Tryz.compact74 none 0 w).mono ?_
    rintro e w' ⟨rfl, rfl⟩
    exact ⟨rfl, hown, World.grownBy.refl _ _⟩
  · refine (show Calls Tryz.prog 74 #[.slice (some ⟨g, 0, none⟩) zs.length cap] w _ from Any.slices_Compact_string Tryz.compact74 g 0 cap zs w hH (by omega) h1).mono ?_
    rintro e w' ⟨rfl, q, rfl⟩
    have hle := compact_length_le zs
    have hcc := ownsRow_putRow (q := q) (k := (compact zs).length) (ys := compact zs ++ List.replicate (zs.length - (compact zs).length) []) hown (by simp; omega) hle
    rw [List.take_left] at hcc
    refine ⟨rfl, hcc, ?_⟩
    refine ⟨rfl, rfl, rfl, by simp [putRow, mapBlock, Sort.ahead], fun k hk hne => ?_⟩
    have : g ≠ k := fun e => hne (by rw [e]; rfl)
    simp [putRow, mapBlock, Sort.ahead, Array.getElem?_modify, this]
/-- a row that is sorted, each once -/
theorem uniq_own {w : World} {B : Nat} {A : Option Addr} {cap : Nat} {bs ks : List ByteArray} (hk : RisK ks) (hm : ∀ x, x ∈ ks ↔ x ∈ bs) (h : LOwn w B A cap (compact (sortL (toLs bs)))) : ZOwn w B A cap ks ∧ (compact (sortL (toLs bs))).length = ks.length := by
  have e : compact (sortL (toLs bs)) = toLs ks := uniq_keys hk hm
  rw [e] at h ⊢
  exact ⟨h.toZ, toLs_len ks⟩
end Go.Proofs.YtaofemdhgfejjaaGreatDoor
