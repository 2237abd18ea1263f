/-
  For every list of objects and every id, laws.FnExactAncestors returns true and leaves its arguments as they were: impl.Ancestors answers as the reference does, and its answer is memory of its own. No conditions but that the two tables of the digest and the sentinel of the reader hold what the program's text lays (the card ties them).
-/
import Derived.Test.YtkhkcdmmagicmaaGreatDoorJC
import Derived.Test.YtkhkcdmmagicmaaGreatDoorChecked
import Derived.ProofKit
import Derived.OpenShut
import Derived.SliceStrings
import Derived.Shelf.SortM.Plain
import Derived.Shelf.SortM.SortNone
import Derived.Shelf.Slices.CompactS
import Derived.Ground.SlgmProg
import Derived.Ground.NamesProg
import Derived.Test.YtkhkcdmmagicmaaGreatDoorProg
import Derived.Lib.SlicesCompact
import Derived.Sort.KeysCollected
import Derived.Sort.OwnSorted
import Derived.Sort.Grow
import Derived.Lib.OwnBridge
import Derived.Lib.RowBridge
import Derived.Test.YtkhkcdmmagicmaaGreatDoorJO
import Derived.Maps.OwnSet
import Derived.Test.YtkhkcdmmagicmaaGreatDoorJW
import Derived.Test.YtkhkcdmmagicmaaGreatDoorJR
/-
  Rows of texts that laws.toStringS makes; an argument that is a list of texts, opened.
-/
namespace Go.Proofs.YtkhkcdmmagicmaaGreatDoor
open Go.ChangeShapes Go.WideShapes Go.ChangeAt Go.RowKit

theorem zown_row {w : World} {g B : Nat} {l : List ByteArray} (hl : l.length ≤ maxLen) (hB : B ≤ g) (h : w.heap[g]? = some (.cells (strsA (cutF l l.length) l.length) 9 (0, 0))) : ZOwn w B (some ⟨g, 0, none⟩) l.length l := by
  refine ⟨by simp, .inr ⟨g, l.length, _, rfl, hB, h, Nat.le_refl _, hl, by rw [strsA_size]; omega, ?_⟩⟩
  have e : (strsA (cutF l l.length) l.length).toList = l.map Value.string := by
    refine List.ext_getElem? fun i => ?_
    rw [Array.getElem?_toList]
    by_cases hi : i < l.length
    · rw [strsA_get _ hi, List.getElem?_map, List.getElem?_eq_getElem hi]
      unfold cutF
      rw [if_pos hi]
      simp [hi]
    · rw [Array.getElem?_eq_none (by rw [strsA_size]; omega), List.getElem?_eq_none (by simp; omega)]
  rw [e, List.take_of_length_le (by simp)]
theorem sin_of {w : World} {B : Nat} {A : Option Addr} {l : List ByteArray} (hs : slenS l) (h : ZIn w B A l) : SIn w B A l := ⟨hs, h⟩
theorem ZOwn.apart {w w' : World} {B : Nat} {A A' : Option Addr} {cap : Nat} {l : List ByteArray} (h : ZOwn w B A cap l) (hg : w.grownBy w' (rowOf A')) (hne : ∀ g, rowOf A = some g → rowOf A' ≠ some g) : ZOwn w' B A cap l := by
  refine World.ownsRow.kept h hg ?_
  rw [rowOf_own]
  cases e : rowOf A with
  | none => exact .inl rfl
  | some g => exact .inr (fun x => hne g e x.symm)

section
variable {H : Type} {enc : TypeId × Value → H} {W : World}
theorem open_strs1 {v : Value} {n : Nat} {y : DataW H × List MemPlace} (h : DataW.trod enc Tryz.prog W 0 (fun _ => true) true n 24 [v] = some y) :
    ∃ (A : Option Addr) (cap : Nat) (l : List ByteArray), v = .slice A l.length cap ∧ l.length ≤ maxLen ∧ SIn W W.heap.size A l := by
  rcases open_strings Tryz.underlying24 Tryz.underlying9 (by kernel_rfl) h with ⟨hcs, _⟩ | ⟨a, len, cap, ss, hcs, _, hlc, hcm, hsl, _, hc, hz⟩
  · simp at hcs
    exact ⟨none, 0, [], by simpa using hcs, by simp [maxLen], fun i hi => absurd hi (by simp), fun hp => absurd hp (by simp)⟩
  · simp at hcs
    simp only [if_true] at hsl
    have hll : (ss.take len).length = len := by rw [List.length_take]; omega
    refine ⟨some a, cap, ss.take len, by rw [hll]; exact hcs, by omega, fun i hi => hz _ (List.mem_of_mem_take (List.getElem_mem hi)), fun hp => ?_⟩
    have hn : 0 < len := by omega
    obtain ⟨b, off, spot⟩ := a
    have hc0 := hc 0 (by omega)
    have hspot : spot = none := by simpa [Addr.add] using World.cell?_spot hc0
    subst hspot
    refine ⟨b, off, rfl, ?_, fun i hi => ?_⟩
    · have := World.block_lt_of_cell? W _ hc0
      simpa [Addr.add] using this
    · have hi' : i < ss.length := by omega
      have h1 := hc i hi'
      rw [List.getElem_take]
      rw [show ss.getD i ByteArray.empty = ss[i] by simp [hi']] at h1
      have ea : (⟨b, off, none⟩ : Addr).add i = ⟨b, off + i, none⟩ := by simp [Addr.add]
      rw [ea] at h1
      exact h1
theorem open_strs {A : Option Addr} {n cap : Nat} {d : DataW H} {p : List MemPlace} (h : DataW.Trod enc Tryz.prog W 0 (fun _ => true) true 24 (.slice A n cap) d p) :
    ∃ l : List ByteArray, n = l.length ∧ l.length ≤ maxLen ∧ SIn W W.heap.size A l := by
  obtain ⟨fuel, hf⟩ := h
  obtain ⟨A', cap', l, e, hl, hin⟩ := open_strs1 (v := .slice A n cap) (by simpa [Value.cells] using hf)
  injection e with e1 e2 e3
  subst e1 e2
  exact ⟨l, rfl, hl, hin⟩
end
end Go.Proofs.YtkhkcdmmagicmaaGreatDoor
/-
  DERIVED: THE SHELF's CONTRACTS AT THIS DUMP, IN PLAIN WORDS (tools/lay-plain.mjs out of 'YtkhkcdmmagicmaaGreatDoorSLay.lean', which tools/lay-shelf.mjs wrote): THE SAME DECLARATIONS UNDER THE SAME NAMES: 'import', 'namespace', 'open', 'def', 'theorem' AND NOTHING ELSE: no command of the shelf's: FOR A HAND-IN. Each laying: the table of numbers ('.._ren') and one theorem, a field a fact of the dump's own or the kernel's comparison; each contract: ONE APPLICATION.
-/
namespace Go.Proofs
open Go.Shelf
def Tryz.sort82_ren : Go.Shelf.Ren := ⟨fun | 6 => 82 | 8 => 111 | 9 => 110 | 19 => 135 | 20 => 136 | 21 => 127 | 22 => 128 | 23 => 129 | 24 => 130 | 25 => 131 | 26 => 132 | 27 => 112 | 28 => 133 | 29 => 134 | 36 => 143 | 31 => 144 | 32 => 145 | 37 => 146 | 38 => 147 | 39 => 137 | 41 => 150 | n => n, fun | 27 => 24 | 29 => 9 | 3 => 3 | 32 => 101 | 26 => 24 | 0 => 0 | 44 => 133 | 46 => 158 | 4 => 4 | 36 => 165 | 35 => 164 | 41 => 122 | 5 => 5 | 9 => 9 | 53 => 175 | 57 => 179 | 63 => 181 | 64 => 182 | n => n, fun | n => n⟩
theorem Tryz.sort82 : Go.Proofs.SlLaysM.n6 Tryz.prog Tryz.sort82_ren := {
  mixed := by kernel_rfl
  f6 := ⟨Tryz.f82.name, by decide, Tryz.func82.trans (congrArg some (by kernel_rfl))⟩
  f8 := Tryz.func111.trans (congrArg some (by kernel_rfl))
  f9 := ⟨Tryz.f110.name, by decide, Tryz.func110.trans (congrArg some (by kernel_rfl))⟩
  f19 := Tryz.func135.trans (congrArg some (by kernel_rfl))
  f20 := Tryz.func136.trans (congrArg some (by kernel_rfl))
  f21 := ⟨Tryz.f127.name, by decide, Tryz.func127.trans (congrArg some (by kernel_rfl))⟩
  f22 := ⟨Tryz.f128.name, by decide, Tryz.func128.trans (congrArg some (by kernel_rfl))⟩
  f23 := ⟨Tryz.f129.name, by decide, Tryz.func129.trans (congrArg some (by kernel_rfl))⟩
  f24 := ⟨Tryz.f130.name, by decide, Tryz.func130.trans (congrArg some (by kernel_rfl))⟩
  f25 := ⟨Tryz.f131.name, by decide, Tryz.func131.trans (congrArg some (by kernel_rfl))⟩
  f26 := ⟨Tryz.f132.name, by decide, Tryz.func132.trans (congrArg some (by kernel_rfl))⟩
  f27 := ⟨Tryz.f112.name, by decide, Tryz.func112.trans (congrArg some (by kernel_rfl))⟩
  f28 := ⟨Tryz.f133.name, by decide, Tryz.func133.trans (congrArg some (by kernel_rfl))⟩
  f29 := ⟨Tryz.f134.name, by decide, Tryz.func134.trans (congrArg some (by kernel_rfl))⟩
  f31 := Tryz.func144.trans (congrArg some (by kernel_rfl))
  f32 := Tryz.func145.trans (congrArg some (by kernel_rfl))
  f36 := ⟨Tryz.f143.name, by decide, Tryz.func143.trans (congrArg some (by kernel_rfl))⟩
  f37 := ⟨Tryz.f146.name, by decide, Tryz.func146.trans (congrArg some (by kernel_rfl))⟩
  f38 := ⟨Tryz.f147.name, by decide, Tryz.func147.trans (congrArg some (by kernel_rfl))⟩
  f39 := ⟨Tryz.f137.name, by decide, Tryz.func137.trans (congrArg some (by kernel_rfl))⟩
  f41 := ⟨Tryz.f150.name, by decide, Tryz.func150.trans (congrArg some (by kernel_rfl))⟩
  t0 := Tryz.underlying0
  a0 := Tryz.isAgg0
  z0 := Tryz.sizeOf0
  v0 := Tryz.zeroValue0
  t3 := Tryz.underlying3
  a3 := Tryz.isAgg3
  z3 := Tryz.sizeOf3
  v3 := Tryz.zeroValue3
  t4 := Tryz.underlying4
  a4 := Tryz.isAgg4
  z4 := Tryz.sizeOf4
  v4 := Tryz.zeroValue4
  t5 := Tryz.underlying5
  a5 := Tryz.isAgg5
  z5 := Tryz.sizeOf5
  v5 := Tryz.zeroValue5
  t9 := Tryz.underlying9
  a9 := Tryz.isAgg9
  z9 := Tryz.sizeOf9
  v9 := Tryz.zeroValue9
  t26 := Tryz.underlying24
  a26 := Tryz.isAgg24
  z26 := Tryz.sizeOf24
  v26 := Tryz.zeroValue24
  t27 := Tryz.underlying24
  a27 := Tryz.isAgg24
  z27 := Tryz.sizeOf24
  v27 := Tryz.zeroValue24
  t29 := Tryz.underlying9
  a29 := Tryz.isAgg9
  z29 := Tryz.sizeOf9
  v29 := Tryz.zeroValue9
  t32 := Tryz.underlying101
  a32 := Tryz.isAgg101
  z32 := Tryz.sizeOf101
  v32 := Tryz.zeroValue101
  t35 := Tryz.underlying164
  a35 := Tryz.isAgg164
  z35 := Tryz.sizeOf164
  v35 := Tryz.zeroValue164
  t36 := Tryz.underlying165
  a36 := Tryz.isAgg165
  z36 := Tryz.sizeOf165
  v36 := Tryz.zeroValue165
  t41 := Tryz.underlying122
  a41 := Tryz.isAgg122
  z41 := Tryz.sizeOf122
  v41 := Tryz.zeroValue122
  t44 := Tryz.underlying133
  a44 := Tryz.isAgg133
  z44 := Tryz.sizeOf133
  v44 := Tryz.zeroValue133
  t46 := Tryz.underlying158
  a46 := Tryz.isAgg158
  z46 := Tryz.sizeOf158
  v46 := Tryz.zeroValue158
  t53 := Tryz.underlying175
  a53 := Tryz.isAgg175
  z53 := Tryz.sizeOf175
  v53 := Tryz.zeroValue175
  t57 := Tryz.underlying179
  a57 := Tryz.isAgg179
  z57 := Tryz.sizeOf179
  v57 := Tryz.zeroValue179
  t63 := Tryz.underlying181
  a63 := Tryz.isAgg181
  z63 := Tryz.sizeOf181
  v63 := Tryz.zeroValue181
  t64 := Tryz.underlying182
  a64 := Tryz.isAgg182
  z64 := Tryz.sizeOf182
  v64 := Tryz.zeroValue182 }
end Go.Proofs
/-
  Texts sorted, each once: the rising list of the same members. Plain mathematics.
-/
namespace Go.Proofs.YtkhkcdmmagicmaaGreatDoor
open Go.RowKit Go.Lib

theorem le_of_ltL : ∀ {x y : List UInt8}, Op.bytesLess x y = true → x ≤ y
  | _, [], h => by simp [Op.bytesLess] at h
  | [], _ :: _, _ => List.nil_le _
  | a :: x, b :: y, h => by
    simp only [Op.bytesLess, Bool.or_eq_true, Bool.and_eq_true, decide_eq_true_eq, beq_iff_eq] at h
    rw [List.cons_le_cons_iff]
    rcases h with h | ⟨h, h'⟩
    · exact .inl h
    · exact .inr ⟨h, le_of_ltL h'⟩
theorem ofL_toL (x : List UInt8) : (ByteArray.mk x.toArray).toList = x := by rw [Go.ByteArray.toList_eq]
theorem lt_of_le_ne {x y : List UInt8} (h : x ≤ y) (hne : x ≠ y) : ltB (ByteArray.mk x.toArray) (ByteArray.mk y.toArray) = true := by
  rcases ltB_tri (ByteArray.mk x.toArray) (ByteArray.mk y.toArray) with g | g | g
  · exact g
  · have e : (ByteArray.mk x.toArray).toList = (ByteArray.mk y.toArray).toList := by rw [g]
    rw [ofL_toL, ofL_toL] at e
    exact absurd e hne
  · unfold ltB at g
    rw [ofL_toL, ofL_toL] at g
    exact absurd (List.le_antisymm h (le_of_ltL g)) hne
theorem kept_first (d : Array (List UInt8)) (x : List UInt8) : ∀ i, d[i]! = x → ∃ j, j ≤ i ∧ keeps d j = true ∧ d[j]! = x
  | 0, h => ⟨0, Nat.le_refl _, by simp [keeps], h⟩
  | i + 1, h => by
    by_cases e : d[i + 1]! = d[i]!
    · obtain ⟨j, h1, h2, h3⟩ := kept_first d x i (by rw [← e]; exact h)
      exact ⟨j, by omega, h2, h3⟩
    · exact ⟨i + 1, Nat.le_refl _, keeps_pos e, h⟩
theorem compact_mem (zs : List (List UInt8)) (x : List UInt8) : x ∈ compact zs ↔ x ∈ zs := by
  have hget : ∀ i, i < zs.length → zs.toArray[i]! ∈ zs := fun i hi => by
    have : zs.toArray[i]! = zs[i] := by simp [hi]
    rw [this]
    exact List.getElem_mem hi
  unfold compact compactUpTo
  rw [List.mem_map]
  constructor
  · rintro ⟨i, hi, rfl⟩
    exact hget i (List.mem_range.1 (List.mem_filter.1 hi).1)
  · intro hx
    obtain ⟨i, hi, rfl⟩ := List.mem_iff_getElem.1 hx
    obtain ⟨j, h1, h2, h3⟩ := kept_first zs.toArray zs[i] i (by simp [hi])
    exact ⟨j, List.mem_filter.2 ⟨List.mem_range.2 (by omega), h2⟩, h3⟩
theorem compact_rise (zs : List (List UInt8)) (h : zs.Pairwise fun x y => x ≤ y) : (compact zs).Pairwise fun x y => x ≤ y ∧ x ≠ y := by
  have hget : ∀ i (hi : i < zs.length), zs.toArray[i]! = zs[i] := fun i hi => by simp [hi]
  have hle : ∀ i j, i ≤ j → j < zs.length → zs.toArray[i]! ≤ zs.toArray[j]! := fun i j hij hj => by
    rw [hget i (by omega), hget j hj]
    rcases Nat.lt_or_ge i j with g | g
    · exact List.pairwise_iff_getElem.1 h i j (by omega) hj g
    · obtain rfl : i = j := by omega
      exact List.le_refl _
  unfold compact compactUpTo
  rw [List.pairwise_map, List.pairwise_filter]
  refine List.Pairwise.imp_of_mem (R := fun i j => i < j) ?_ List.pairwise_lt_range
  intro i j hi hj hij _ hk
  have hj' := List.mem_range.1 hj
  refine ⟨hle i j (by omega) hj', fun e => ?_⟩
  have h1 := hle i (j - 1) (by omega) (by omega)
  have h2 := hle (j - 1) j (by omega) hj'
  rw [e] at h1
  have h3 := List.le_antisymm h2 h1
  unfold keeps at hk
  have hk := of_decide_eq_true hk
  rcases hk with x | x
  · omega
  · exact x h3.symm
/-- the texts of bs, sorted, each once -/
theorem uniq_keys {bs ks : List ByteArray} (hk : RisK ks) (hm : ∀ x, x ∈ ks ↔ x ∈ bs) : compact ((bs.map fun b => b.data.toList).mergeSort fun x y => decide (x ≤ y)) = ks.map fun b => b.data.toList := by
  have tr : ∀ a b c : List UInt8, decide (a ≤ b) = true → decide (b ≤ c) = true → decide (a ≤ c) = true := fun a b c h1 h2 => by simp only [decide_eq_true_eq] at *; exact List.le_trans h1 h2
  have to : ∀ a b : List UInt8, (decide (a ≤ b) || decide (b ≤ a)) = true := fun a b => by simp only [Bool.or_eq_true, decide_eq_true_eq]; exact List.le_total a b
  have hs := List.pairwise_mergeSort tr to (bs.map fun b => b.data.toList)
  have hr := compact_rise _ (hs.imp fun {x y} h => of_decide_eq_true h)
  have h1 : RisK ((compact ((bs.map fun b => b.data.toList).mergeSort fun x y => decide (x ≤ y))).map fun l => ByteArray.mk l.toArray) := List.pairwise_map.2 (hr.imp fun {x y} h => lt_of_le_ne h.1 h.2)
  have back : ∀ b : ByteArray, ByteArray.mk b.data.toList.toArray = b := fun b => by simp
  have e : (compact ((bs.map fun b => b.data.toList).mergeSort fun x y => decide (x ≤ y))).map (fun l => ByteArray.mk l.toArray) = ks := by
    refine RisK.ext h1 hk fun x => ?_
    rw [hm, List.mem_map]
    constructor
    · rintro ⟨l, hl, rfl⟩
      rw [compact_mem, List.mem_mergeSort, List.mem_map] at hl
      obtain ⟨b, hb, rfl⟩ := hl
      rw [back]
      exact hb
    · intro hx
      exact ⟨x.data.toList, (compact_mem _ _).2 (List.mem_mergeSort.2 (List.mem_map.2 ⟨x, hx, rfl⟩)), back x⟩
  rw [← e, List.map_map]
  conv => lhs; rw [← List.map_id (compact _)]
  refine List.map_congr_left fun l _ => ?_
  simp
end Go.Proofs.YtkhkcdmmagicmaaGreatDoor
/-
  What slices.Sort and slices.Compact do to a row of texts of the call's own, by the library's contracts.
-/
namespace Go.Proofs.YtkhkcdmmagicmaaGreatDoor
open Go.RowKit Go.Lib Go.Sort

/-- texts as lists of bytes -/
def toLs (bs : List ByteArray) : List (List UInt8) := bs.map fun b => b.data.toList
def sortL (zs : List (List UInt8)) : List (List UInt8) := zs.mergeSort fun x y => decide (x ≤ y)
theorem sortL_len (zs : List (List UInt8)) : (sortL zs).length = zs.length := List.length_mergeSort zs
theorem toLs_len (bs : List ByteArray) : (toLs bs).length = bs.length := by unfold toLs; simp
theorem toLs_enc (bs : List ByteArray) : (toLs bs).map encStr = bs.map Value.string := by
  unfold toLs
  rw [List.map_map]
  refine List.map_congr_left fun p _ => ?_
  simp [encStr]
/-- a row of the call's own, its texts as lists of bytes -/
def LOwn (w : World) (B : Nat) (A : Option Addr) (cap : Nat) (zs : List (List UInt8)) : Prop := w.ownsRow B 9 1 (.slice A zs.length cap) zs.length (zs.map encStr)
theorem ZOwn.toL {w : World} {B : Nat} {A : Option Addr} {cap : Nat} {bs : List ByteArray} (h : ZOwn w B A cap bs) : LOwn w B A cap (toLs bs) := by
  unfold LOwn
  rw [toLs_enc, toLs_len]
  exact h
theorem LOwn.toZ {w : World} {B : Nat} {A : Option Addr} {cap : Nat} {bs : List ByteArray} (h : LOwn w B A cap (toLs bs)) : ZOwn w B A cap bs := by
  unfold LOwn at h
  rw [toLs_enc, toLs_len] at h
  exact h
theorem LOwn.form {w : World} {B : Nat} {A : Option Addr} {cap : Nat} {zs : List (List UInt8)} (h : LOwn w B A cap zs) : (A = none ∧ cap = 0 ∧ zs = []) ∨ ∃ g cur, A = some ⟨g, 0, none⟩ ∧ B ≤ g ∧ g < w.heap.size ∧ w.heap[g]? = some (.cells cur 9 (0, 0)) ∧ zs.length ≤ cap ∧ cap ≤ maxLen ∧ cur.size = cap * 1 ∧ Holds encStr w g 0 zs.toArray := by
  rcases h.2 with ⟨e, e'⟩ | ⟨g, c, cur, e, hb, hg, h1, h2, h3, h4⟩
  · injection e with e1 e2 e3
    exact .inl ⟨e1, e3, List.eq_nil_of_length_eq_zero e2⟩
  · injection e with e1 e2 e3
    obtain ⟨g', cap', e', _, _, _, _, _, hH⟩ := holds_of_ownsRow h (by rw [e1]; simp)
    rw [e1] at e'
    injection e' with e4 e5 e6
    injection e4 with e4
    injection e4 with e4
    subst e4 e3
    exact .inr ⟨g, cur, e1, hb, (Array.getElem?_eq_some_iff.1 hg).1, hg, h1, h2, h3, hH⟩

theorem sort_any (A : Option Addr) (zs : List (List UInt8)) (cap : Nat) (w : World) (B : Nat) (hown : LOwn w B A cap zs) (hl : zs.length ≤ 100000) :
    Calls Tryz.prog 82 #[.slice A zs.length cap] w fun e w' => e = .returned (.tuple #[]) ∧ LOwn w' B A cap (sortL zs) ∧ w.grownBy w' (rowOf A) := by
  rcases hown.form with ⟨rfl, rfl, rfl⟩ | ⟨g, cur, rfl, hB, hg, hc, h1, h2, h3, hH⟩
  · refine (show Calls Tryz.prog 82 #[.slice none 0 0] w fun e w' => e = .returned (.tuple #[]) ∧ w' = w from AnyM.slices_Sort_string_none Tryz.sort82 none 0 w).mono ?_
    rintro e w' ⟨rfl, rfl⟩
    exact ⟨rfl, by simpa [sortL] using hown, World.grownBy.refl _ _⟩
  · refine (show Calls Tryz.prog 82 #[.slice (some ⟨g, 0, none⟩) zs.length cap] w _ from AnyM.slices_Sort_string Tryz.sort82 g 0 cap zs w hH hg (by omega)).mono ?_
    rintro e w' ⟨rfl, n, os, rfl⟩
    refine ⟨rfl, ?_, grownBy_sorted _⟩
    have hs := ownsRow_sorted (n := n) (os := os) (ts := sortL zs) (sortL_len zs) hB hc h1 h2 h3
    unfold LOwn
    rw [sortL_len]
    exact hs

/-- a row that is sorted, each once -/
theorem uniq_own {w : World} {B : Nat} {A : Option Addr} {cap : Nat} {bs ks : List ByteArray} (hk : RisK ks) (hm : ∀ x, x ∈ ks ↔ x ∈ bs) (h : LOwn w B A cap (compact (sortL (toLs bs)))) : ZOwn w B A cap ks ∧ (compact (sortL (toLs bs))).length = ks.length := by
  have e : compact (sortL (toLs bs)) = toLs ks := uniq_keys hk hm
  rw [e] at h ⊢
  exact ⟨h.toZ, toLs_len ks⟩
end Go.Proofs.YtkhkcdmmagicmaaGreatDoor
/-
  What laws.markCommit and laws.heldCommit answer; rows that stay.
-/
namespace Go.Proofs.YtkhkcdmmagicmaaGreatDoor
open Go.RowKit
theorem ZOwn.keptO {w w' : World} {B : Nat} {A : Option Addr} {cap : Nat} {l : List ByteArray} {r : Option Nat} (h : ZOwn w B A cap l) (hg : w.grownBy w' r) (hne : ∀ g, rowOf A = some g → some g ≠ r) : ZOwn w' B A cap l := by
  cases r with
  | none => exact ZOwn.kept h (r := w.heap.size) ⟨hg.os, hg.tape, hg.output, hg.size, fun k hk _ => hg.block k hk (by simp)⟩ (fun e => by have := (h.row _ e).2; omega)
  | some r => exact ZOwn.kept h hg (fun e => hne r e rfl)
theorem rd_parts (s : ByteArray) : (rdC s).2.1.length ≤ 2 ∧ ∀ p ∈ (rdC s).2.1, p.size = 16 := by
  by_cases h : ∃ c, isCom s c
  · obtain ⟨c, hc⟩ := h
    rw [(rd_yes hc).2]
    exact (com_parts hc.1).2
  · rw [(rd_no h).2]
    simp
end Go.Proofs.YtkhkcdmmagicmaaGreatDoor
/-
  The map of texts by their ids, told by a rising list: what it tells, what a store makes of it, its keys in order.
-/
namespace Go.Proofs.YtkhkcdmmagicmaaGreatDoor
open Go.RowKit Go.Maps

/-- the map D tells what the rising list l tells -/
def Rep (D : DataW Unit) (l : List Pr) : Prop := Ris l ∧ ∀ k, has D (keyL k) = hasB l k ∧ D.atKey (keyL k) (elD ByteArray.empty) = elD (valOf l k)
theorem rep_mapD {l : List Pr} (h : risesTo l l.length) : Rep (mapD l) l := ⟨ris_iff.1 h, fun k => mapD_look h k⟩
theorem rep_put {D : DataW Unit} {l : List Pr} (hD : IsMap D) (h : Rep D l) (k v : ByteArray) : Rep (D.put (keyL k) (elD v)) (setL l k v) := by
  refine ⟨ris_set h.1 k v, fun k' => ?_⟩
  by_cases e : k' = k
  · subst e
    rw [has_put_same hD (keyL_key _), atKey_put_same hD (keyL_key _), val_set h.1, (has_set h.1 k' v k').2 (.inl rfl)]
    exact ⟨rfl, rfl⟩
  · have hne : keyL k' ≠ keyL k := fun x => e (keyL_inj x)
    rw [has_put_other hne, atKey_put_other hne, val_set_ne h.1 v e, (h.2 k').1, (h.2 k').2]
    refine ⟨?_, rfl⟩
    cases e1 : hasB l k' <;> cases e2 : hasB (setL l k v) k'
    · rfl
    · rcases (has_set h.1 k v k').1 e2 with g | g
      · exact absurd g e
      · rw [e1] at g; cases g
    · rw [(has_set h.1 k v k').2 (.inr e1)] at e2; cases e2
    · rfl
/-- the block bm is a map that tells what l tells -/
def TRep (w : World) (bm : Nat) (n : Nat) (l : List Pr) : Prop := ∃ D, w.ownsMap Tryz.prog 9 (plainElem Tryz.prog 9) bm n D ∧ Rep D l
theorem TMap.rep {w : World} {bm n : Nat} {l : List Pr} (h : TMap w bm n l) (hr : risesTo l l.length) : TRep w bm n l := ⟨_, h, rep_mapD hr⟩
theorem TRep.lt {w : World} {bm n : Nat} {l : List Pr} (h : TRep w bm n l) : bm < w.heap.size := by obtain ⟨D, h, _⟩ := h; exact h.lt
theorem TRep.kept {w w' : World} {bm n : Nat} {l : List Pr} {row : Option Nat} (h : TRep w bm n l) (hg : w.grownBy w' row) (hne : some bm ≠ row) : TRep w' bm n l := by obtain ⟨D, h, r⟩ := h; exact ⟨D, h.kept hg hne, r⟩
theorem TRep.below {w w' : World} {bm n : Nat} {l : List Pr} (h : TRep w bm n l) (hb : Below w.heap.size w w') : TRep w' bm n l := h.kept (Below.toGrown hb none) (by simp)
theorem TRep.belowB {B : Nat} {w w' : World} {bm n : Nat} {l : List Pr} (h : TRep w bm n l) (hb : Below B w w') (hB : bm < B) : TRep w' bm n l := by
  obtain ⟨D, ⟨es, clock, hbk, F, hs, hD⟩, r⟩ := h
  exact ⟨D, ⟨es, clock, (hb.block bm hB).trans hbk, F, hs, hD⟩, r⟩
theorem TRep.perm {w : World} {bm n : Nat} {l : List Pr} {D : DataW Unit} (h : w.ownsMap Tryz.prog 9 (plainElem Tryz.prog 9) bm n D) (r : Rep D l) : (l.map fun p => p.1.data.toList).Perm (strKeys D) := by
  refine Collected.perm (left := fun _ => false) ⟨?_, fun x => ?_⟩ h lawS Tryz.underlying9 (fun _ => rfl)
  · refine List.pairwise_map.2 (r.1.imp fun {p q} hlt e => ?_)
    have : p.1 = q.1 := Go.WideShapes.bytes_inj e
    rw [this, ltB_irrefl] at hlt
    cases hlt
  · have hk := (r.2 ⟨x.toArray⟩).1
    have hx : keyL ⟨x.toArray⟩ = .string x := rfl
    rw [hx] at hk
    rw [hk, has_iff r.1, List.mem_map]
    constructor
    · rintro ⟨p, hp, rfl⟩
      exact ⟨⟨p.2, by simpa using hp⟩, rfl⟩
    · rintro ⟨⟨v, hv⟩, _⟩
      exact ⟨_, hv, rfl⟩
theorem TRep.size {w : World} {bm n : Nat} {l : List Pr} {D : DataW Unit} (h : w.ownsMap Tryz.prog 9 (plainElem Tryz.prog 9) bm n D) (r : Rep D l) : Maps.size D = l.length := by
  have hp := (TRep.perm h r).length_eq
  rw [List.length_map] at hp
  obtain ⟨es, rfl⟩ := World.ownsMap.isMap h
  rw [size_eq, hp]
  show es.length = (es.map _).length
  rw [List.length_map]
set_option maxRecDepth 100000 in
theorem TRep.look {w : World} {bm n : Nat} {l : List Pr} (h : TRep w bm n l) {key : ByteArray} (hk : key.size ≤ maxLen) :
    (Instr.lookup 67 (.map (some bm)) (.string key) true).run Tryz.prog w = .ok (.tuple #[.string (valOf l key), .bool (hasB l key)]) w := by
  obtain ⟨D, h, r⟩ := h
  obtain ⟨v, ps, hrun, hv⟩ := World.ownsMap.look_ok h lawS Tryz.underlying67 (zeroS w) (zd := elD ByteArray.empty) (zp := []) (plainElem_string Tryz.underlying9 (by simp [maxLen])) (Go.WideMaps.keyOf_string_mk Tryz.underlying9 hk)
  obtain ⟨c, rfl, hc, _⟩ := plainElem_string_inv Tryz.underlying9 hv
  obtain ⟨q1, q2⟩ := r.2 key
  have q2' : D.atKey (keyL key) (elD ByteArray.empty) = elD c := by injection hc
  have ec : c = valOf l key := by
    rw [q2] at q2'
    unfold elD at q2'
    injection q2' with q2'
    injection q2' with q2'
    exact (Go.WideShapes.bytes_inj q2').symm
  have q1' : Maps.has D (.string key.data.toList) = hasB l key := q1
  rw [q1', ec] at hrun
  exact hrun
set_option maxRecDepth 100000 in
theorem TRep.get {w : World} {bm n : Nat} {l : List Pr} (h : TRep w bm n l) {key : ByteArray} (hk : key.size ≤ maxLen) :
    (Instr.lookup 67 (.map (some bm)) (.string key) false).run Tryz.prog w = .ok (.string (valOf l key)) w := by
  obtain ⟨D, h, r⟩ := h
  obtain ⟨v, ps, hrun, hv⟩ := World.ownsMap.lookup h lawS Tryz.underlying67 (zeroS w) (zd := elD ByteArray.empty) (zp := []) (plainElem_string Tryz.underlying9 (by simp [maxLen])) (Go.WideMaps.keyOf_string_mk Tryz.underlying9 hk)
  obtain ⟨c, rfl, hc, _⟩ := plainElem_string_inv Tryz.underlying9 hv
  obtain ⟨_, q2⟩ := r.2 key
  have q2' : D.atKey (keyL key) (elD ByteArray.empty) = elD c := by injection hc
  have ec : c = valOf l key := by
    rw [q2] at q2'
    unfold elD at q2'
    injection q2' with q2'
    injection q2' with q2'
    exact (Go.WideShapes.bytes_inj q2').symm
  rw [ec] at hrun
  exact hrun
theorem TRep.len {w : World} {bm n : Nat} {l : List Pr} (h : TRep w bm n l) (ty : TypeId) : (Builtin.len_ #[67] ty #[.map (some bm)]).run Tryz.prog w = .ok (.int .i64 (l.length : Nat)) w := by
  obtain ⟨D, h, r⟩ := h
  rw [World.ownsMap.len h Tryz.underlying67 ty, TRep.size h r]
theorem TRep.store {w : World} {bm n : Nat} {l : List Pr} (h : TRep w bm n l) (hn : n < maxLen) {k v : ByteArray} (hk : k.size ≤ maxLen) (hv : v.size ≤ maxLen) :
    ∃ w', (Instr.mapUpdate 67 (.map (some bm)) (.string k) (.string v)).run Tryz.prog w = .ok () w' ∧ TRep w' bm (n + 1) (setL l k v) ∧ w.grownBy w' (some bm) := by
  obtain ⟨D, h, r⟩ := h
  obtain ⟨w', hrun, h1, h2⟩ := World.ownsMap.update h lawS Tryz.underlying67 hn (Go.WideMaps.keyOf_string_mk Tryz.underlying9 hk) (plainElem_string Tryz.underlying9 hv)
  exact ⟨w', hrun, ⟨_, h1, rep_put (World.ownsMap.isMap h) r k v⟩, h2⟩
/-- bytes in their order: what the sort goes by -/
theorem le_of_lt : ∀ {x y : List UInt8}, Op.bytesLess x y = true → x ≤ y
  | _, [], h => by simp [Op.bytesLess] at h
  | [], _ :: _, _ => List.nil_le _
  | a :: x, b :: y, h => by
    simp only [Op.bytesLess, Bool.or_eq_true, Bool.and_eq_true, decide_eq_true_eq, beq_iff_eq] at h
    rw [List.cons_le_cons_iff]
    rcases h with h | ⟨h, h'⟩
    · exact .inl h
    · exact .inr ⟨h, le_of_lt h'⟩
theorem sorted_keys {l : List Pr} (h : Ris l) {ss : List (List UInt8)} {D : DataW Unit} (hs : ss.Perm (strKeys D)) (hp : (l.map fun p => p.1.data.toList).Perm (strKeys D)) : ss.mergeSort (fun x y => decide (x ≤ y)) = l.map fun p => p.1.data.toList := by
  have e1 : ss.mergeSort leB = (l.map fun p => p.1.data.toList).mergeSort leB := mergeSort_of_perm (hs.trans hp.symm)
  have e2 : (l.map fun p => p.1.data.toList).mergeSort leB = l.map fun p => p.1.data.toList := by
    refine List.mergeSort_of_pairwise ?_
    refine List.pairwise_map.2 (h.imp fun {p q} hlt => ?_)
    unfold ltB at hlt
    rw [Go.ByteArray.toList_eq, Go.ByteArray.toList_eq] at hlt
    exact decide_eq_true (le_of_lt hlt)
  exact e1.trans e2
end Go.Proofs.YtkhkcdmmagicmaaGreatDoor
/-
  What impl.repo's ancestors and impl.Ancestors answer.
-/
namespace Go.Proofs.YtkhkcdmmagicmaaGreatDoor
open Go.RowKit Go.Shelf Go.Maps

attribute [local go_sem] Oper.semAt_some

theorem row_from {B k : Nat} {W W' : World} {row : Option Nat} {o : Obj} (h : W.heap[k]? = some o) (hk : k < B) (hg : W.grownBy W' row) (hr : ∀ r, row = some r → B ≤ r ∧ ∃ o : Obj, W.heap[r]? = some o ∧ o.isCells = false) : W'.heap[k]? = some o :=
  (hg.block k (Array.getElem?_eq_some_iff.1 h).1 (fun e => by have := (hr k e.symm).1; omega)).trans h
theorem below_from {B b : Nat} {w W W' : World} {row : Option Nat} (h : Below b w W) (hb : b ≤ B) (hbw : b ≤ W.heap.size) (hg : W.grownBy W' row) (hr : ∀ r, row = some r → B ≤ r ∧ ∃ o : Obj, W.heap[r]? = some o ∧ o.isCells = false) : Below b w W' :=
  h.grown hg hbw (fun k e => Nat.le_trans hb (hr k e).1)
theorem heap_alloc_l {w : World} {k : Nat} {o o' : Obj} (h : w.heap[k]? = some o) : (w.alloc o').heap[k]? = some o := (Below.heap_alloc w o' k (Array.getElem?_eq_some_iff.1 h).1).trans h
theorem heap_alloc_at {w : World} {k : Nat} {o : Obj} (h : w.heap.size = k) : (w.alloc o).heap[k]? = some o := by subst h; exact heap_alloc_new w o
/-- the row of texts is a block of strings -/
theorem zown_block {W : World} {B : Nat} {A : Option Addr} {cap : Nat} {bs : List ByteArray} (h : ZOwn W B A cap bs) {g : Nat} (hg : rowOf A = some g) : B ≤ g ∧ ∃ cs, W.heap[g]? = some (.cells cs 9 (0, 0)) := by
  rcases h.2 with ⟨e, _⟩ | ⟨g', c, cur, e, hb, hh, _⟩
  · injection e with e1
    rw [e1] at hg
    cases hg
  · injection e with e1
    rw [e1] at hg
    have : g' = g := rowOf_some hg
    subst this
    exact ⟨hb, _, hh⟩
theorem zown_from {B b : Nat} {W W' : World} {row : Option Nat} {A : Option Addr} {cap : Nat} {bs : List ByteArray} (h : ZOwn W b A cap bs) (hg : W.grownBy W' row) (hr : ∀ r, row = some r → B ≤ r ∧ ∃ o : Obj, W.heap[r]? = some o ∧ o.isCells = false) : ZOwn W' b A cap bs :=
  ZOwn.keptO h hg (fun g hg' e => by
    obtain ⟨_, o, ho, hc⟩ := hr g e.symm
    obtain ⟨_, cs, hh⟩ := zown_block h hg'
    rw [hh] at ho
    injection ho with ho
    subst ho
    cases hc)
theorem str_no_box {cs : Array Value} {f : Nat × Nat} : ¬ isBox (.cells cs 9 f) := by
  rintro (⟨c, f', e⟩ | ⟨c, f', e⟩) <;> (injection e with _ e2 _; exact absurd e2 (by decide))
theorem strs_no_box {cs : Array Value} {f : Nat × Nat} : ¬ isBox (.cells cs 24 f) := by
  rintro (⟨c, f', e⟩ | ⟨c, f', e⟩) <;> (injection e with _ e2 _; exact absurd e2 (by decide))
/-- an append in the fence -/
theorem wpListIn_appZ {F : Fence} {n : Nat} {w : World} {ops : Array Oper} {rest : List Oper} {o : Oper} {a : Act} {Q : Exit → Act → World → Prop} (t : TypeId) (ht : Tryz.prog.underlying t = some (.slice 9)) (hgd : o.guard = none) (s x : Operand)
    (ho : o.op = .call { callee := .builtin .append, args := #[s, x], argTypes := #[t, t] })
    {B B' : Nat} {A A' : Option Addr} {cap c k m : Nat} {l l' : List ByteArray} (hs : a.eval s = .slice A k cap) (hx : a.eval x = .slice A' m c) (hn : k = l.length) (hm : m = l'.length)
    (hown : ZOwn w B A cap l) (hin : ZIn w B' A' l') (hB : B ≤ w.heap.size) (hb : l.length + l'.length ≤ 3000000)
    (h : ∀ A2 cap2 w', ZOwn w' B A2 cap2 (l ++ l') → w.grownBy w' (rowOf A) → (rowOf A2 = rowOf A ∨ rowOf A2 = some w.heap.size) → wpListIn F n Tryz.prog ops Q rest (a.put o.dst (.slice A2 (l ++ l').length cap2)) w') : wpListIn F n Tryz.prog ops Q (o :: rest) a w := by
  refine wpListIn_plain hgd fun K hK' => ?_
  subst hn hm
  obtain ⟨A2, cap2, w', hrun, h2, h3, h4⟩ := run_appZ t o.type ht (c := c) hown hin hB hb
  unfold Oper.wpIn
  refine ⟨?_, ?_⟩
  · simp [Oper.about, ho, resolve, Target.leads, Sem.run_pure]
  · rw [Oper.semAt_plain F _ _ (by rw [ho]; intro c hc'; cases hc')]
    simp only [execOp, ho, resolve, invoke, builtin, Sem.run_bind, Sem.run_pure, Result.andThen_ok, List.map_toArray, List.map_cons, List.map_nil, hs, hx, hrun]
    exact hK' _ _ (h A2 cap2 w' h2 h3 h4)

theorem perm_nodup {α : Type} : ∀ {S T : List α}, S.Nodup → T.Nodup → (∀ z, z ∈ S ↔ z ∈ T) → S.Perm T
  | [], T, _, _, h => by
    have : T = [] := List.eq_nil_iff_forall_not_mem.2 (fun z hz => by have := (h z).2 hz; cases this)
    rw [this]
  | a :: r, T, hS, hT, h => by
    obtain ⟨u, v, rfl⟩ := List.append_of_mem ((h a).1 (List.mem_cons_self ..))
    rw [List.nodup_cons] at hS
    have hT' : (a :: (u ++ v)).Nodup := (List.perm_middle.nodup_iff).1 hT
    rw [List.nodup_cons] at hT'
    refine (List.Perm.cons a (perm_nodup hS.2 hT'.2 fun z => ?_)).trans List.perm_middle.symm
    have hz := h z
    rw [List.mem_cons, List.mem_append, List.mem_cons] at hz
    rw [List.mem_append]
    constructor
    · intro h1
      rcases hz.1 (.inr h1) with h2 | h2 | h2
      · exact .inl h2
      · subst h2; exact absurd h1 hS.1
      · exact .inr h2
    · intro h1
      rcases hz.2 (h1.elim .inl (fun h2 => .inr (.inr h2))) with h2 | h2
      · subst h2; exact absurd (List.mem_append.2 h1) hT'.1
      · exact h2
theorem sort_ris {xs ys : List ByteArray} (hx : xs.Nodup) (hy : RisK ys) (h : ∀ z, z ∈ xs ↔ z ∈ ys) : sortL (toLs xs) = toLs ys := by
  have hp : (toLs xs).Perm (toLs ys) := (perm_nodup hx (risK_nodup hy) h).map _
  have e1 : (toLs xs).mergeSort leB = (toLs ys).mergeSort leB := mergeSort_of_perm hp
  have e2 : (toLs ys).mergeSort leB = toLs ys := by
    refine List.mergeSort_of_pairwise ?_
    unfold toLs
    refine List.pairwise_map.2 (hy.imp fun {p q} hlt => ?_)
    unfold ltB at hlt
    rw [Go.ByteArray.toList_eq, Go.ByteArray.toList_eq] at hlt
    exact decide_eq_true (le_of_lt hlt)
  exact e1.trans e2

/-- what a collecting loop holds -/
def CollI (w : World) (B0 g1 : Nat) {l : List Pr} (pre : List (ComI l)) (W : World) : Prop :=
  ∃ A cap, W.heap[g1]? = some (.cells #[.slice A (pre.map fun z => z.1).length cap] 24 (0, 0)) ∧ ZOwn W B0 A cap (pre.map fun z => z.1) ∧ Below w.heap.size w W ∧ B0 ≤ W.heap.size

theorem coll_step {w W w1 : World} {n₀ n₁ B0 g1 n2 : Nat} {pm : List ByteArray} {x : ByteArray} {A A2 : Option Addr} {cap cap2 : Nat} (hg1 : g1 < B0) (hw : w.heap.size ≤ g1) (hn0 : n₀ ≤ g1) (hG : W.heap[g1]? = some (.cells #[.slice A pm.length cap] 24 (0, 0))) (hO : ZOwn W B0 A cap pm) (hB : Below w.heap.size w W) (hS : B0 ≤ W.heap.size)
    (own : ZOwn w1 B0 A2 cap2 (pm ++ [x])) (g : (W.alloc (.cells #[.string x] 9)).grownBy w1 (rowOf A)) (hn2 : n2 = (pm ++ [x]).length) :
    KeepsOthers W (w1.setCell ⟨g1, 0, none⟩ (.slice A2 n2 cap2)) ∧ Keep n₀ n₁ W (w1.setCell ⟨g1, 0, none⟩ (.slice A2 n2 cap2)) ∧ ((w1.setCell ⟨g1, 0, none⟩ (.slice A2 n2 cap2)).heap[g1]? = some (.cells #[.slice A2 (pm ++ [x]).length cap2] 24 (0, 0)) ∧ ZOwn (w1.setCell ⟨g1, 0, none⟩ (.slice A2 n2 cap2)) B0 A2 cap2 (pm ++ [x]) ∧ Below w.heap.size w (w1.setCell ⟨g1, 0, none⟩ (.slice A2 n2 cap2)) ∧ B0 ≤ (w1.setCell ⟨g1, 0, none⟩ (.slice A2 n2 cap2)).heap.size) := by
  subst hn2
  have hOa := hO.alloc (.cells #[.string x] 9)
  have hs1 : B0 ≤ w1.heap.size := Nat.le_trans hS (Nat.le_trans (by simp) g.size)
  have hlt : g1 < (W.alloc (.cells #[.string x] 9)).heap.size := Nat.lt_of_lt_of_le hg1 (Nat.le_trans hS (by simp))
  have G1 : w1.heap[g1]? = some (.cells #[.slice A pm.length cap] 24 (0, 0)) := (g.block g1 hlt (fun e => by have := (zown_block hOa e.symm).1; omega)).trans (heap_alloc_l hG)
  have gs : w1.grownBy (w1.setCell ⟨g1, 0, none⟩ (.slice A2 (pm ++ [x]).length cap2)) (some g1) := ⟨rfl, rfl, rfl, by simp [World.setCell], fun k _ hk => Below.heap_setCell w1 ⟨g1, 0, none⟩ _ k (fun e => hk (by rw [e]))⟩
  have K1 : Keep n₀ n₁ (W.alloc (.cells #[.string x] 9)) w1 := by
    cases hA : rowOf A with
    | none =>
      rw [hA] at g
      exact ⟨⟨⟨g.os, g.tape, g.output, g.size, fun k hk => g.block k (by omega) (by simp)⟩, fun k o hk _ => (g.block k (Array.getElem?_eq_some_iff.1 hk).1 (by simp)).trans hk⟩, fun k o _ hk _ => (g.block k (Array.getElem?_eq_some_iff.1 hk).1 (by simp)).trans hk⟩
    | some r =>
      rw [hA] at g
      obtain ⟨hb, cs, hc⟩ := zown_block hOa hA
      exact Keep.grown g (by omega) (by omega) (fun o ho => by rw [hc] at ho; injection ho with ho; subst ho; exact ⟨str_no_box, rfl⟩)
  have K2 : Keep n₀ n₁ w1 (w1.setCell ⟨g1, 0, none⟩ (.slice A2 (pm ++ [x]).length cap2)) := Keep.grown gs hn0 (by omega) (fun o ho => by rw [G1] at ho; injection ho with ho; subst ho; exact ⟨strs_no_box, rfl⟩)
  refine ⟨?_, (Keep.alloc (by omega) _).trans (K1.trans K2), heap_setCell_same w1 g1 0 _ _ _ G1, ZOwn.keptO own gs (fun r hr e => by injection e with e; have := (zown_block own hr).1; omega), ?_, ?_⟩
  · refine ((KeepsOthers.alloc W _).trans (KeepsOthers.of_grownBy g fun j o hj ho => ?_)).trans (KeepsOthers.setCell _ _ _)
    obtain ⟨_, cs, hc⟩ := zown_block hOa hj
    rw [hc] at ho
    injection ho with ho
    subst ho
    rfl
  · exact ((hB.alloc hB.size _).grown g (Nat.le_trans hB.size (by simp)) (fun k e => by have := (zown_block hOa e).1; omega)).setCell (p := ⟨g1, 0, none⟩) hw _
  · simpa [World.setCell] using hs1

set_option maxRecDepth 100000 in
set_option maxHeartbeats 2000000 in
theorem anc_any {w₀ : World} {B bm bc : Nat} {l : List Pr} {vs : List Value} (bt : Nat) (hM : RepoM w₀ B bm bc 60 l vs) (hrep : repoB l = true) (b : ByteArray) (hb : b.size ≤ maxLen) (w : World) (hbel : Below w₀.heap.size w₀ w) :
    Calls Tryz.prog 52 #[.agg #[.map (some bt), .map (some bm), .map (some bc)], .string b] w (RetZ w.heap.size (ancK l b) w) := by
  obtain ⟨rA, rC, R⟩ := hM.toW hrep
  have hd : Fence.wide.depth = none := rfl
  have hro : Fence.wide.round = none := rfl
  have XR := heap_alloc_new w (.cells #[.map (some bt), .map (some bm), .map (some bc)] 71)
  have x0 := cell_of_row _ _ 0 _ _ _ XR
  have x1 := cell_of_row _ _ 1 _ _ _ XR
  have x2 := cell_of_row _ _ 2 _ _ _ XR
  refine (callsIn_wide (n := 3)).1 ?_
  refine callsIn_of_wp_marks Tryz.func52 rfl trivial ?_ hro
  simp only [Tryz.ntmps52, List.size_toArray, List.length_cons, List.length_nil, Nat.reduceAdd, Nat.reduceSub, Array.replicate_succ, Array.replicate_zero, List.push_toArray, List.append_toArray, List.nil_append, List.cons_append]
  gi_wp2_with ((try refine ⟨trivial, ?_⟩); gi_at_call 81; refine (behind_in Fence.wide trivial hro 2 bt bm bc b _).mono ?_; rintro e w' ⟨rfl, rfl⟩)
  obtain ⟨W0, hW0⟩ : ∃ W0, ((((w.alloc (.cells #[.map (some bt), .map (some bm), .map (some bc)] 71)).alloc (.cells #[.slice none 0 0] 24)).alloc (.cells #[.map (some bt), .map (some bm), .map (some bc)] 71)).alloc (.cells #[.string b] 9)) = W0 := ⟨_, rfl⟩
  rw [hW0]
  have hB0 : Below w.heap.size w W0 := by rw [← hW0]; exact ((((Below.refl _ w).alloc (Nat.le_refl _) _).alloc (by simp) _).alloc (by simp; omega) _).alloc (by simp; omega) _
  have hs0 : W0.heap.size = w.heap.size + 4 := by rw [← hW0]; simp
  have hG : W0.heap[w.heap.size + 1]? = some (.cells #[.slice none 0 0] 24 (0, 0)) := by rw [← hW0]; exact heap_alloc_l (heap_alloc_l (heap_alloc_at (by simp)))
  have hX : W0.heap[w.heap.size + 1 + 1]? = some (.cells #[.map (some bt), .map (some bm), .map (some bc)] 71 (0, 0)) := by rw [← hW0]; exact heap_alloc_l (heap_alloc_at (by simp))
  have hI : W0.heap[w.heap.size + 1 + 1 + 1]? = some (.cells #[.string b] 9 (0, 0)) := by rw [← hW0]; exact heap_alloc_at (by simp)
  clear hW0 XR x0 x1 x2
  obtain ⟨g1, e1⟩ : ∃ g, w.heap.size + 1 = g := ⟨_, rfl⟩
  rw [e1] at hG hX hI ⊢
  obtain ⟨g2, e2⟩ : ∃ g, g1 + 1 = g := ⟨_, rfl⟩
  rw [e2] at hX hI ⊢
  obtain ⟨g3, e3⟩ : ∃ g, g2 + 1 = g := ⟨_, rfl⟩
  rw [e3] at hI ⊢
  have hw0 : w₀.heap.size ≤ w.heap.size := hbel.size
  have hr1 : g1 < W0.heap.size := by omega
  have hr3 : w.heap.size ≤ g1 := by omega
  have hr4 : w.heap.size ≤ W0.heap.size := by omega
  have hr5 : w₀.heap.size ≤ W0.heap.size := by omega
  have hr6 : w₀.heap.size ≤ g1 := by omega
  clear hs0
  refine wpIn_rangeFunc_ownF hro (by omega) (gf := 108) (lb := #[.pointer (some ⟨g2, 0, none⟩), .pointer (some ⟨g3, 0, none⟩)]) rfl trivial (enters_of Tryz.func108 (by kernel_rfl) rfl)
    (behind_stops bt R Fence.wide hd trivial trivial hro 2 W0.heap.size g2 g3 b hb W0 hr5 (Nat.le_refl _) (hbel.trans (hB0.mono hw0)) hX hI) (fun h k => Keep.trans h k) (fun W l o o' h1 h2 h3 h4 => Keep.putObj W l o o' (Nat.le_trans hr5 h1) h2 h3 h4) (Below.refl _ _) (fun _ => rfl)
    (fun pre W => CollI w W0.heap.size g1 pre W) (fun _ _ _ => False)
    (fun s A B row hs hg hr => by
      obtain ⟨A1, cap, h1, h2, h3, h4⟩ := hs
      exact ⟨A1, cap, row_from h1 hr1 hg hr, zown_from h2 hg hr, below_from h3 hr4 h3.size hg hr, Nat.le_trans h4 hg.size⟩)
    (fun _ _ _ _ _ hs _ _ => hs)
    ⟨none, 0, hG, ZOwn.nil _ _, hB0, Nat.le_refl _⟩
    (fun x => { tmps := #[.agg #[.map (some bt), .map (some bm), .map (some bc)], .string b, .pointer (some ⟨w.heap.size, 0, none⟩), undef, .slice none 0 0, .pointer (some ⟨g1, 0, none⟩), .string x.1, .agg #[.map (some bt), .map (some bm), .map (some bc)], .string b, .func (.func 108) #[] #[.pointer (some ⟨g2, 0, none⟩), .pointer (some ⟨g3, 0, none⟩)], .string x.1, .agg #[.string (treK l x.1), .slice (rA x.1) (lenK l x.1) (rC x.1), .string (notK l x.1)], undef, undef, undef, undef, undef, undef, undef], defers := [] }) ?assign ?body ?done ?stop
  case assign =>
    intro lr x W K hK
    simp only [encC]
    gi_wp2
    exact hK
  case body =>
    rintro lr pre x W ⟨A, cap, hG, hO, hB, hS⟩ hlen
    have hpl : (pre.map fun z => z.1).length < 60 := by rw [List.length_map]; exact hlen
    have hpx : (pre ++ [x]).map (fun z => z.1) = (pre.map fun z => z.1) ++ [x.1] := by simp
    have IX : Hid (∀ A2 cap2 w1 n2, ZOwn w1 W0.heap.size A2 cap2 ((pre.map fun z => z.1) ++ [x.1]) → (W.alloc (.cells #[.string x.1] 9)).grownBy w1 (rowOf A) → n2 = ((pre.map fun z => z.1) ++ [x.1]).length → KeepsOthers W (w1.setCell ⟨g1, 0, none⟩ (.slice A2 n2 cap2)) ∧ Keep w₀.heap.size W0.heap.size W (w1.setCell ⟨g1, 0, none⟩ (.slice A2 n2 cap2)) ∧ CollI w W0.heap.size g1 (pre ++ [x]) (w1.setCell ⟨g1, 0, none⟩ (.slice A2 n2 cap2))) := hide (fun A2 cap2 w1 n2 own g hn2 => by
      obtain ⟨h1, h2, h3⟩ := coll_step (n₁ := W0.heap.size) hr1 hr3 hr6 hG hO hB hS own g hn2
      exact ⟨h1, h2, A2, cap2, by rw [hpx]; exact h3⟩)
    have G1 : Hid (∀ w1, (W.alloc (.cells #[.string x.1] 9)).grownBy w1 (rowOf A) → w1.heap[g1]? = some (.cells #[.slice A (pre.map fun z => z.1).length cap] 24 (0, 0))) := hide (fun w1 g =>
      (g.block g1 (Nat.lt_of_lt_of_le hr1 (Nat.le_trans hS (by simp))) (fun e => by have := (zown_block (hO.alloc (.cells #[.string x.1] 9)) e.symm).1; omega)).trans (heap_alloc_l hG))
    have c1 := cell_of_row _ _ 0 _ _ _ hG
    have OA := hide hO
    have HS := hide hS
    clear hG hO hB hS hpx hlen
    generalize hpm : (pre.map fun z => z.1) = pm at *
    have HPM := hide hpm
    clear hpm
    generalize hnm : pm.length = nm at hpl c1 G1
    have NM := hide hnm
    clear hnm
    gi_wp2_with ((try refine ⟨trivial, ?_⟩); gi_at_builtin; refine wpListIn_appZ (l' := [x.1]) 24 Tryz.underlying24 rfl (.tmp 12) (.tmp 14) rfl rfl rfl NM.out.symm rfl (OA.out.alloc _) (ZIn.one x.1 _ rfl) (Nat.le_trans HS.out (by simp)) (by rw [NM.out]; simp; omega) ?_; intro A2 cap2 w1 own g r; have c2 := cell_of_row _ _ 0 _ _ _ (G1.out _ g); have f2 := frozen_of_row _ _ 0 _ _ (G1.out _ g); have FX := hide (IX.out A2 cap2 w1 (pm.length + 1) own g (by simp)); clear own g r)
    exact FX.out
  case done =>
    rintro D ys W hD ⟨hnd, hall⟩ ⟨A, cap, hG, hO, hB, hS⟩ hK
    have hex : Hid (sortL (toLs (ys.map fun z => z.1)) = toLs (ancK l b)) := hide (sort_ris hnd (ancK_ris l b).1 (fun z => (hall z).trans ⟨fun h => ancK_mem.2 ⟨hrep, h⟩, fun h => (ancK_mem.1 h).2⟩))
    have hlen : Hid ((ys.map fun z => z.1).length = (ancK l b).length) := hide (by
      have h1 := congrArg List.length hex.out
      rw [sortL_len, toLs_len, toLs_len] at h1
      exact h1)
    have hal := ancK_len l b
    have SO := hide (sort_any A (toLs (ys.map fun z => z.1)) cap W W0.heap.size hO.toL (by rw [toLs_len, hlen.out]; omega))
    rw [toLs_len, hex.out, hlen.out] at SO
    rw [hlen.out] at hG
    have c1 := cell_of_row _ _ 0 _ _ _ hG
    have HO := hide (fun g hg => zown_block hO (g := g) hg)
    have GG := hide hG
    have BB := hide hB
    have KK := hide hK
    clear hG hO hB hK hnd hall hex hlen
    have FIN : Hid (∀ W2, LOwn W2 W0.heap.size A cap (toLs (ancK l b)) → W.grownBy W2 (rowOf A) → W2.heap[g1]? = some (.cells #[.slice A (ancK l b).length cap] 24 (0, 0)) ∧ W2.heap[D]? = some (.deferred (some [])) ∧ RetZ w.heap.size (ancK l b) w (.returned (.slice A (ancK l b).length cap)) (W2.putObj D (.deferred none))) := hide (fun W2 hl2 hg2 => by
      have hD2 : W2.heap[D]? = some (.deferred (some [])) := (hg2.block D (Array.getElem?_eq_some_iff.1 KK.out).1 (fun e => by
        obtain ⟨_, cs, hc⟩ := HO.out D e.symm
        rw [KK.out] at hc
        injection hc with hc
        cases hc)).trans KK.out
      refine ⟨(hg2.block g1 (Array.getElem?_eq_some_iff.1 GG.out).1 (fun e => by have := (HO.out g1 e.symm).1; omega)).trans GG.out, hD2, A, cap, rfl, ?_, ?_⟩
      · refine ZOwn.more (ZOwn.keptO hl2.toZ (grownBy_putObj' _ D _) (fun g hg e => ?_)) hr4
        injection e with e
        subst e
        obtain ⟨_, cs, hc⟩ := zown_block hl2.toZ hg
        rw [hD2] at hc
        injection hc with hc
        cases hc
      · have b2 := BB.out.grown hg2 BB.out.size (fun k e => by have := (HO.out k e).1; omega)
        exact b2.trans (belowK_b (w := w) (Nat.le_refl _) W2 D _ _ (Nat.le_trans hr4 hD) hD2 rfl rfl))
    generalize (ancK l b).length = an at *
    gi_wp2_with ((try refine ⟨trivial, ?_⟩); gi_at_call 82; refine (callsIn_wide.2 SO.out).mono ?_; rintro e W2 ⟨rfl, hl2, hg2⟩; have F2 := hide (FIN.out _ hl2 hg2); have c2 := cell_of_row _ _ 0 _ _ _ F2.out.1; clear hl2 hg2)
    refine ⟨by simp, .inl ⟨_, _, rfl, run_takeDeferred F2.out.2.1, ?_⟩⟩
    exact ⟨_, results_tmp (t := 4) rfl _ _ _, F2.out.2.2⟩
  case stop =>
    rintro D c pre W hD hsp h hK
    exact h.elim

set_option maxRecDepth 100000 in
set_option maxHeartbeats 1000000 in
theorem implAncestors_any (A : Option Addr) (l : List Pr) (cap : Nat) (id : ByteArray) (a : Addr) (w : World) (hl : l.length ≤ maxLen) (hin : PIn w w.heap.size A l) (hid : id.size ≤ maxLen) (hT : Tabs w) (hE : ErrC w a) :
    Calls Tryz.prog 22 #[.slice A l.length cap, .string id] w (RetZ w.heap.size (ancK l id) w) := by
  have T := hide (repoOf_any A l cap a w hl hin hT hE)
  have NO : Hid (repoB l = false → ∀ w', Below w.heap.size w w' → RetZ w.heap.size (ancK l id) w (.returned (.slice none 0 0)) w') := hide (fun h w' hb => by
    rw [ancK_no (fun x => by rw [x.1] at h; cases h)]
    exact ⟨none, 0, rfl, ZOwn.nil _ _, hb⟩)
  clear hin hT hE hl
  generalize l.length = n at *
  go_enter Tryz.func22, Tryz.ntmps22
  go_wp2_with fail
  refine T.out.mono ?_
  rintro e w1 ⟨b1, ⟨hf, rfl⟩ | ⟨hf, bt, bm, bc, B, vs, rfl, _, _, _, _, _, _, rm⟩⟩
  · have Z := hide (NO.out hf)
    have B1 := hide (b1.alloc b1.size (.cells #[.map none, .map none, .map none] 71))
    clear b1 hf T NO
    go_wp2_with fail
    go_ret
    exact Z.out _ B1.out
  · have b2 := (Below.refl w1.heap.size w1).alloc (Nat.le_refl _) (.cells #[.map (some bt), .map (some bm), .map (some bc)] 71)
    have B2 := hide (b1.trans (b2.mono b1.size))
    have XR := hide (heap_alloc_new w1 (.cells #[.map (some bt), .map (some bm), .map (some bc)] 71))
    have IA := hide (anc_any bt rm hf id hid _ b2)
    have x0 := cell_of_row _ _ 0 _ _ _ XR.out
    have x1 := cell_of_row _ _ 1 _ _ _ XR.out
    have x2 := cell_of_row _ _ 2 _ _ _ XR.out
    clear b1 b2 hf T NO rm
    go_wp2_with fail
    refine IA.out.mono ?_
    rintro e w3 ⟨A3, cap3, rfl, o3, b3⟩
    have F : Hid (RetZ w.heap.size (ancK l id) w (.returned (.slice A3 (ancK l id).length cap3)) w3) := hide ⟨A3, cap3, rfl, o3.more B2.out.size, B2.out.trans (b3.mono B2.out.size)⟩
    clear o3 b3 IA x0 x1 x2 XR
    generalize (ancK l id).length = an at *
    go_wp2_with fail
    go_ret
    exact F.out
end Go.Proofs.YtkhkcdmmagicmaaGreatDoor
namespace Go.Proofs.YtkhkcdmmagicmaaGreatDoor.ExAncestors
open Go.RowKit Go.ChangeShapes Go.WideShapes Go.ChangeAt
open Go.ChangeMaps (open_string shut_string)

set_option maxRecDepth 100000 in
set_option maxHeartbeats 4000000 in
theorem walk (A0 : Option Addr) (l0 : List Pr) (cap0 : Nat) (id : ByteArray) (a : Addr) (w : World) (hl0 : l0.length ≤ maxLen) (hin0 : PIn w w.heap.size A0 l0) (hs1 : id.size ≤ maxLen) (hT : Tabs w) (hE : ErrC w a) :
    Calls Tryz.prog 4 #[.slice A0 l0.length cap0, .string id] w fun e w' => e = .returned (.bool true) ∧ Below w.heap.size w w' := by
  have hs12 := hs1
  unfold maxLen at hs12
  by_cases hbig1 : 1048576 < id.size
  · go_enter Tryz.func4, Tryz.ntmps4
    go_wp2
    go_ret
    exact ⟨rfl, Below.refl _ _⟩
  have es0 := eqL_self l0
  have e2 : (true != true) = false := by simp
  have HT := hide hT
  have HB := hide hT.1
  have HE := hide hE
  have IN0 := hide hin0
  have B0 : Hid (Below w.heap.size w w) := hide (Below.refl _ _)
  clear hin0 hT hE
  go_enter Tryz.func4, Tryz.ntmps4
  go_wp2_with fail
  refine (szPairS_each A0 l0 cap0 1048576 _ hl0 ((IN0.out.below B0.out).more B0.out.size) (by omega) (by omega)).mono ?_
  rintro e w1 ⟨hr1, b1⟩
  have B1 := hide (B0.out.trans (b1.mono B0.out.size))
  clear b1 B0
  rcases hr1 with rfl | ⟨r1, hr10, hr11, hse, rfl⟩
  · go_wp2
    go_ret
    exact ⟨rfl, B1.out⟩
  have hm0 : l0.length ≤ 1048576 := by omega
  have HZ := hide (fun k => valOf_each hse k)
  clear hse
  have zw := B1.out.size
  have hp0 : (ancK l0 id).length ≤ 60 := ancK_len l0 id
  have hpm0 : (ancK l0 id).length ≤ maxLen := by unfold maxLen; omega
  go_wp2_with fail
  refine (toPairS_any A0 l0 cap0 _ hm0 ((IN0.out.below B1.out).more B1.out.size)).mono ?_
  rintro e w2 ⟨rfl, own2, b2⟩
  have B2 := hide (B1.out.trans (b2.mono B1.out.size))
  have z2 := b2.size
  clear b2 B1 
  have rS0 := own2.row
  have S0_2 := hide own2
  clear own2
  go_wp2_with fail
  refine (specAncestors_any _ l0 l0.length id _ hl0 (S0_2.out.pin) (HZ.out id)).mono ?_
  rintro e w3 ⟨AW0, capW0, rfl, own3_0, b3⟩
  have B3 := hide (B2.out.trans (b3.mono B2.out.size))
  have z3 := b3.size
  have S0_3 := hide (S0_2.out.below b3)
  clear b3 B2 S0_2
  have rW0 := own3_0.row
  have W0_3 := hide own3_0
  clear own3_0
  clear S0_3
  go_wp2_with fail
  refine (toPairS_any A0 l0 cap0 _ hm0 ((IN0.out.below B3.out).more B3.out.size)).mono ?_
  rintro e w4 ⟨rfl, own4, b4⟩
  have B4 := hide (B3.out.trans (b4.mono B3.out.size))
  have z4 := b4.size
  have W0_4 := hide (W0_3.out.below b4)
  clear b4 B3 W0_3
  have rX0 := own4.row
  have X0_4 := hide own4
  clear own4
  go_wp2_with fail
  refine (implAncestors_any _ l0 l0.length id a _ hl0 (X0_4.out.pin) hs1 (HT.out.below B4.out HB.out) (HE.out.below B4.out)).mono ?_
  rintro e w5 ⟨AG0, capG0, rfl, own5_0, b5⟩
  have B5 := hide (B4.out.trans (b5.mono B4.out.size))
  have z5 := b5.size
  have W0_5 := hide (W0_4.out.below b5)
  have X0_5 := hide (X0_4.out.below b5)
  clear b5 B4 W0_4 X0_4
  have rG0 := own5_0.row
  have G0_5 := hide own5_0
  clear own5_0
  have apX0W0 : Hid (∀ g, rowOf (AW0 : Option Addr) = some g → rowOf ((some ⟨w3.heap.size, 0, none⟩) : Option Addr) ≠ some g) := hide (fun g hg x => by have h1 := rW0 g hg; have h2 := rX0 g x; omega)
  have apX0G0 : Hid (∀ g, rowOf (AG0 : Option Addr) = some g → rowOf ((some ⟨w3.heap.size, 0, none⟩) : Option Addr) ≠ some g) := hide (fun g hg x => by have h1 := rG0 g hg; have h2 := rX0 g x; omega)
  have hzX0 : Hid (∀ g, rowOf ((some ⟨w3.heap.size, 0, none⟩) : Option Addr) = some g → w.heap.size ≤ g) := hide (fun g hg => by have h1 := rX0 g hg; have h2 := B5.out.size; omega)
  have apG0W0 : Hid (∀ g, rowOf AW0 = some g → rowOf AG0 ≠ some g) := hide (fun g hg x => by have h1 := rW0 g hg; have h2 := rG0 g x; omega)
  have hzG0 : Hid (∀ g, rowOf AG0 = some g → w.heap.size ≤ g) := hide (fun g hg => by have h1 := rG0 g hg; omega)
  clear rW0 rG0 rX0 rS0
  go_wp2_with fail
  refine (eqStringZ_same _ _ (ancK l0 id) (capG0) (capW0) _ _ _ hpm0 G0_5.out.zin W0_5.out.zin).mono ?_
  rintro e w6 ⟨rfl, b6⟩
  replace b6 := b6.below w5.heap.size
  have B6 := hide (B5.out.trans (b6.mono B5.out.size))
  have z6 := b6.size
  have W0_6 := hide (W0_5.out.below b6)
  have X0_6 := hide (X0_5.out.below b6)
  have G0_6 := hide (G0_5.out.below b6)
  clear b6 B5 W0_5 X0_5 G0_5
  go_wp2_with fail
  refine (toPairS_any A0 l0 cap0 _ hm0 ((IN0.out.below B6.out).more B6.out.size)).mono ?_
  rintro e w7 ⟨rfl, own7, b7⟩
  have B7 := hide (B6.out.trans (b7.mono B6.out.size))
  have z7 := b7.size
  have W0_7 := hide (W0_6.out.below b7)
  have X0_7 := hide (X0_6.out.below b7)
  have G0_7 := hide (G0_6.out.below b7)
  clear b7 B6 W0_6 X0_6 G0_6
  have rY := own7.row
  have Y_7 := hide own7
  clear own7
  go_wp2_with fail
  refine (eqPairS_any _ _ (l0) (l0) (l0.length) (l0.length) _ hl0 hl0 X0_7.out.pin Y_7.out.pin).mono ?_
  rintro e w8 ⟨rfl, b8⟩
  have B8 := hide (B7.out.trans (b8.mono B7.out.size))
  have z8 := b8.size
  have W0_8 := hide (W0_7.out.below b8)
  have X0_8 := hide (X0_7.out.below b8)
  have G0_8 := hide (G0_7.out.below b8)
  have Y_8 := hide (Y_7.out.below b8)
  clear b8 B7 W0_7 X0_7 G0_7 Y_7
  clear Y_8
  clear rY
  go_wp2_with fail
  refine (markPairS_int _ (l0) (l0.length) (_) (1) _ _ (by omega) (by omega) (by omega) X0_8.out).mono ?_
  rintro e w9 ⟨rfl, ow9, g9⟩
  have B9 := hide (B8.out.grown g9 B8.out.size hzX0.out)
  have W0_9 := hide (W0_8.out.apart g9 apX0W0.out)
  have G0_9 := hide (G0_8.out.apart g9 apX0G0.out)
  clear B8 W0_8 G0_8
  clear X0_8 ow9 g9
  have hk1 : ¬ ((1 + 2 * l0.length : Nat) : Int) < 0 := by omega
  have hk2 : ¬ (1 + 2 * (l0.length : Int)) < 0 := by omega
  have hk3 : decide (((1 + 2 * l0.length : Nat) : Int) < 0) = false := decide_eq_false hk1
  have hk4 : decide ((1 + 2 * (l0.length : Int)) < 0) = false := decide_eq_false hk2
  go_wp2_with fail
  refine (eqStringZ_same _ _ (ancK l0 id) (capG0) (capW0) _ _ _ hpm0 G0_9.out.zin W0_9.out.zin).mono ?_
  rintro e w10 ⟨rfl, b10⟩
  replace b10 := b10.below w9.heap.size
  have B10 := hide (B9.out.trans (b10.mono B9.out.size))
  have z10 := b10.size
  have W0_10 := hide (W0_9.out.below b10)
  have G0_10 := hide (G0_9.out.below b10)
  clear b10 B9 W0_9 G0_9
  clear hk1 hk2 hk3 hk4
  go_wp2_with fail
  refine (markStringS_int _ (ancK l0 id) (capG0) (_) (1) _ _ (by omega) (by omega) (by omega) G0_10.out).mono ?_
  rintro e w11 ⟨rfl, ow11, g11⟩
  have B11 := hide (B10.out.grown g11 B10.out.size hzG0.out)
  have W0_11 := hide (W0_10.out.apart g11 apG0W0.out)
  clear B10 W0_10
  have G0_11 := hide ow11
  clear G0_10 ow11 g11
  go_wp2_with fail
  refine (heldStringS_any AG0 (ancK l0 id).length capG0 _ (1) _ (by omega) (by omega) (by omega) G0_11.out.zin).mono ?_
  rintro e w12 ⟨rfl, b12⟩
  have B12 := hide (B11.out.trans (b12.mono B11.out.size))
  have z12 := b12.size
  have W0_12 := hide (W0_11.out.below b12)
  have G0_12 := hide (G0_11.out.below b12)
  clear b12 B11 W0_11 G0_11
  have hq0 : ¬ ((1 + (ancK l0 id).length : Nat) : Int) < 0 := by omega
  have hqd0 : decide (((1 + (ancK l0 id).length : Nat) : Int) < 0) = false := decide_eq_false hq0
  have hqe0 : (((1 + (ancK l0 id).length : Nat) : Int) != ((1 + (ancK l0 id).length : Nat) : Int)) = false := by simp
  go_wp2_with fail
  refine (toPairS_any A0 l0 cap0 _ hm0 ((IN0.out.below B12.out).more B12.out.size)).mono ?_
  rintro e w13 ⟨rfl, own13, b13⟩
  have B13 := hide (B12.out.trans (b13.mono B12.out.size))
  have z13 := b13.size
  have W0_13 := hide (W0_12.out.below b13)
  have G0_13 := hide (G0_12.out.below b13)
  clear b13 B12 W0_12 G0_12
  have rT0 := own13.row
  have T0_13 := hide own13
  clear own13
  go_wp2_with fail
  refine (implAncestors_any _ l0 l0.length id a _ hl0 (T0_13.out.pin) hs1 (HT.out.below B13.out HB.out) (HE.out.below B13.out)).mono ?_
  rintro e w14 ⟨AH0, capH0, rfl, own14_0, b14⟩
  have B14 := hide (B13.out.trans (b14.mono B13.out.size))
  have z14 := b14.size
  have W0_14 := hide (W0_13.out.below b14)
  have G0_14 := hide (G0_13.out.below b14)
  have T0_14 := hide (T0_13.out.below b14)
  clear b14 B13 W0_13 G0_13 T0_13
  have rH0 := own14_0.row
  have H0_14 := hide own14_0
  clear own14_0
  clear T0_14
  go_wp2_with fail
  refine (eqStringZ_same _ _ (ancK l0 id) (capH0) (capW0) _ _ _ hpm0 H0_14.out.zin W0_14.out.zin).mono ?_
  rintro e w15 ⟨rfl, b15⟩
  replace b15 := b15.below w14.heap.size
  have B15 := hide (B14.out.trans (b15.mono B14.out.size))
  have z15 := b15.size
  have W0_15 := hide (W0_14.out.below b15)
  have G0_15 := hide (G0_14.out.below b15)
  have H0_15 := hide (H0_14.out.below b15)
  clear b15 B14 W0_14 G0_14 H0_14
  clear H0_15
  clear W0_15
  go_wp2_with fail
  refine (heldStringS_any AG0 (ancK l0 id).length capG0 _ (1) _ (by omega) (by omega) (by omega) G0_15.out.zin).mono ?_
  rintro e w16 ⟨rfl, b16⟩
  have B16 := hide (B15.out.trans (b16.mono B15.out.size))
  have z16 := b16.size
  have G0_16 := hide (G0_15.out.below b16)
  clear b16 B15 G0_15
  go_wp2
  go_ret
  exact ⟨rfl, B16.out⟩

theorem plainVars : ∀ n ∈ Rows.fnExactAncestorsSpec.vars, n = "loop.example/g00652/impl.errNoCommit" ∨ ∀ g t, Tryz.prog.globalNamed n = some g → (Tryz.prog.globals[g]?).map (·.type) = some t → Tryz.prog.readableRec t = true ∧ t < Tryz.prog.types.size := by
  intro n hn
  have hb : (Rows.fnExactAncestorsSpec.vars).all (fun n => n == "loop.example/g00652/impl.errNoCommit" || ((Tryz.prog.globalNamed n).bind fun g => (Tryz.prog.globals[g]?).map fun x => Tryz.prog.readableRec x.type && decide (x.type < Tryz.prog.types.size)).getD false) = true := by kernel_rfl
  have h := List.all_eq_true.1 hb n hn
  rw [Bool.or_eq_true] at h
  rcases h with h | h
  · exact .inl (by simpa using h)
  refine .inr fun g t h1 h2 => ?_
  rw [h1] at h
  obtain ⟨x, hx, rfl⟩ := Option.map_eq_some_iff.1 h2
  simp only [Option.bind_some, hx, Option.map_some, Option.getD_some, Bool.and_eq_true, decide_eq_true_eq] at h
  exact h
set_option maxRecDepth 100000 in
theorem contract (H : Type) (enc : TypeId × Value → H) (W : World) (base : Nat) (args : Array Value) (ds gs : List (DataW H)) (before : List MemPlace)
    (hval0 : ∀ (j : Nat) t v, Tryz.f4.params[j]? = some t → args[j]? = some v → Value.okWide Tryz.prog W .any base t v)
    (hW : DataW.Whole enc Tryz.prog Tryz.f4.params.toList Rows.fnExactAncestorsSpec.vars false W args.toList ds gs before) (hL : laidMetH Tryz.prog Rows.fnExactAncestorsRow.laid W) :
    Calls Tryz.prog 4 args W fun e W' => ∃ v, e = .returned v ∧ Rows.fnExactAncestorsSpec.post enc Tryz.prog Tryz.f4 false true false false W args v W' := by
  have hval : ∀ (j : Nat) t v, Tryz.f4.params[j]? = some t → args[j]? = some v → Value.okWide Tryz.prog W .any base t v := hval0
  have hT : Tabs W := tabs_of (l := Rows.fnExactAncestorsRow.laid) hL (List.mem_cons_self ..) (List.mem_cons_of_mem _ (List.mem_cons_self ..))
  obtain ⟨a, hE, hvar⟩ := errs_in (W := W) (laid_tail (laid_tail hL))
  have hW' := hW
  obtain ⟨p, q, hA0, hV, rfl, hfz, hnd⟩ := hW
  have hA : DataW.TrodAll enc Tryz.prog W 0 (fun _ => true) true Tryz.f4.params.toList args.toList ds p := hA0
  rw [Tryz.params4] at hA hval
  obtain ⟨v0, vs0, d0, ds0, p0, q0, hargs, rfl, rfl, h0, r0⟩ := trodAll_cons hA
  obtain ⟨v1, vs1, d1, ds1, p1, q1, rfl, rfl, rfl, h1, r1⟩ := trodAll_cons r0
  obtain ⟨rfl, rfl, rfl⟩ := trodAll_nil r1
  obtain rfl : args = #[v0, v1] := by cases args; simp_all
  obtain ⟨x0, x1, x2, rfl⟩ := list3 (vars_len hV)
  obtain ⟨A0, n0, cap0, rfl⟩ := okWide_slice Tryz.underlying22 (hval 0 22 v0 rfl rfl)
  have lt0 : ∀ x ∈ p0, x.block < W.heap.size := by obtain ⟨m, hm⟩ := h0; exact DataW.trod_lt m _ _ _ hm
  obtain ⟨l0, rfl, hl0, hin0⟩ := open_pairs h0
  obtain ⟨s1, rfl, rfl, rfl, hs1⟩ := open_string Tryz.underlying9 (hval 1 9 v1 rfl rfl) h1
  clear hA0 hval0
  refine (walk A0 l0 cap0 s1 a W hl0 hin0 hs1 hT hE).mono fun e W' ⟨he, bel⟩ => ?_
  subst he
  exact ⟨_, rfl, _, _, _, [], _, q, hW', trodAll_mk1 (shut_bool Tryz.underlying4 _), (trodAll_cons_mk (Below.trod laidOut (by kernel_rfl) (of_decide_eq_true (by kernel_rfl)) h0 bel lt0) (trodAll_cons_mk (shut_string Tryz.underlying9 hs1) trodAll_mk0)), vars_stayE laidOut bel hvar plainVars hV, bel.frame _, fun h => by cases h⟩

/-- a world for the witness: the tables hold what their initialisers lay -/
noncomputable def laidWorld (os : Os) : World := layAllE (World.holding Tryz.prog os ⟨#[], #[], []⟩)
theorem laid_met (os : Os) : laidMet Tryz.prog Rows.fnExactAncestorsRow.laid ((laidWorld os).forCall (fun _ _ => 0) ⟨#[], #[.slice none 0 0, .string ByteArray.empty], []⟩).memory :=
  laidMet_of_run' 8 (by kernel_rfl) (by kernel_rfl)
theorem reads (os : Os) {H : Type} (enc : TypeId × Value → H) : ∃ x, DataW.whole enc Tryz.prog ((laidWorld os).forCall (fun _ _ => 0) ⟨#[], #[.slice none 0 0, .string ByteArray.empty], []⟩).memory Tryz.f4.params.toList Rows.fnExactAncestorsSpec.vars false (#[.slice none 0 0, .string ByteArray.empty] : Array Value).toList 8 = some x :=
  Option.isSome_iff_exists.1 (by kernel_rfl)
set_option maxRecDepth 100000 in
theorem lifted (os : Os) (started : os.Started) (H : Type) (enc : TypeId × Value → H) (F : Stop.Interp) :
    ReturnsInHanded {} Tryz.checked os 4 .any ((OpenSpec.ofChange Rows.fnExactAncestorsSpec).preRow enc Tryz.prog Tryz.f4 Rows.fnExactAncestorsRow.domain false Rows.fnExactAncestorsRow.laid) (((OpenSpec.ofChange Rows.fnExactAncestorsSpec).at F).post enc Tryz.prog Tryz.f4 false true false false) := by
  obtain ⟨x, hx⟩ := reads os enc
  refine returnsInHanded_of_row (C := Tryz.checked) (s := OpenSpec.ofChange Rows.fnExactAncestorsSpec) own started (by kernel_rfl) Tryz.func4
    (witness_row_at (enc := enc) (C := Tryz.checked) false (laidWorld os) #[.slice none 0 0, .string ByteArray.empty] rfl (by kernel_rfl) (by kernel_rfl) (by kernel_rfl)
      (OpenSpec.preRow_of_cond 8 hx rfl (fun k hk => by cases hk) (by kernel_rfl) (laid_met os))) ?_
  intro W base args ds gs before hval hW _ _ _ hL _ _
  exact contract H enc W base args ds gs before hval hW hL
theorem said : Rows.FnExactAncestorsSaid :=
  OpenClaim.holds_of_cond 4 Tryz.f4 rfl rfl rfl rfl rfl rfl rfl ⟨rfl, rfl, rfl, rfl, rfl⟩ rfl rfl rfl rfl rfl (by kernel_rfl) Tryz.func4 (by kernel_rfl)
    (of_decide_eq_true (by kernel_rfl)) (by unfold Func.isWrapper; first | (rw [if_pos (by decide +kernel)]; kernel_rfl) | (rw [if_neg (by decide +kernel)]; exact ⟨rfl, rfl⟩))
    (fun os started H enc _ F => by rw [OpenClaim.pre_eq_preRow]; exact lifted os started H enc F)
theorem plain (f : FuncId) (fn : Func) (hf : Tryz.pinned.checked.prog.funcNamed "loop.example/g00652/laws.FnExactAncestors" = some f) (hfn : Tryz.pinned.checked.prog.funcs[f]? = some fn) :
    false = Tryz.pinned.checked.prog.looks [] ∧ ∀ (j : Nat) t, fn.params[j]? = some t → Tryz.pinned.checked.prog.wantsStandIn t = false := by
  obtain rfl : f = 4 := Option.some.inj ((show Tryz.prog.funcNamed "loop.example/g00652/laws.FnExactAncestors" = some 4 by kernel_rfl).symm.trans hf) |>.symm
  obtain rfl : fn = Tryz.f4 := (Option.some.inj (Tryz.func4.symm.trans hfn)).symm
  refine ⟨by kernel_rfl, fun j t ht => ?_⟩
  rw [Tryz.params4] at ht
  have hm := Array.mem_of_getElem? ht
  simp only [List.mem_toArray, List.mem_cons, List.not_mem_nil, or_false] at hm
  rcases hm with e | e <;> subst e
  · exact (show Tryz.prog.wantsStandIn 22 = false by kernel_rfl)
  · exact (show Tryz.prog.wantsStandIn 9 = false by kernel_rfl)
theorem card : Rows.FnExactAncestorsCardSaid :=
  Claim7.holds_tied_plain_at .later [] _ _ _ _ said (fun _ h => by cases h) (by kernel_rfl) (fun _ h => by cases h) fnExactAncestors_row_tie rfl ⟨rfl, rfl⟩ (by kernel_rfl) rfl plain (by kernel_rfl)

end Go.Proofs.YtkhkcdmmagicmaaGreatDoor.ExAncestors
namespace Go.Proofs.YtkhkcdmmagicmaaGreatDoor
theorem fnExactAncestors_proved : Rows.FnExactAncestorsCardSaid := ExAncestors.card
end Go.Proofs.YtkhkcdmmagicmaaGreatDoor
