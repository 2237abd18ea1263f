/-
  Texts sorted, each once: the rising list of the same members. Plain mathematics.
-/
import Derived.Test.YtaofemdhgfejjaaGreatDoorMPut
import Derived.Lib.SlicesCompact
import Derived.Sort.KeysCollected
namespace Go.Proofs.YtaofemdhgfejjaaGreatDoor
open Go.RowKit Go.Lib

theorem le_of_ltL : ∀ {x y : List UInt8}, Op.bytesLess x y = true → x ≤ y
  | _, [], h => by simp [Op.bytesLess] at h
  | [], _ :: _, _ => List.nil_le _
  | a :: x, b :: y, h => by
    simp only [Op.bytesLess, Bool.or_eq_true, Bool.and_eq_true, decide_eq_true_eq, beq_iff_eq] at h
    rw [List.cons_le_cons_iff]
    rcases h with h | ⟨h, h'⟩
    · exact .inl h
    · exact .inr ⟨h, le_of_ltL h'⟩
theorem ofL_toL (x : List UInt8) : (ByteArray.mk x.toArray).toList = x := by rw [Go.ByteArray.toList_eq]
theorem lt_of_le_ne {x y : List UInt8} (h : x ≤ y) (hne : x ≠ y) : ltB (ByteArray.mk x.toArray) (ByteArray.mk y.toArray) = true := by
  rcases ltB_tri (ByteArray.mk x.toArray) (ByteArray.mk y.toArray) with g | g | g
  · exact g
  · have e : (ByteArray.mk x.toArray).toList = (ByteArray.mk y.toArray).toList := by rw [g]
    rw [ofL_toL, ofL_toL] at e
    exact absurd e hne
  · unfold ltB at g
    rw [ofL_toL, ofL_toL] at g
    exact absurd (List.le_antisymm h (le_of_ltL g)) hne
theorem kept_first (d : Array (List UInt8)) (x : List UInt8) : ∀ i, d[i]! = x → ∃ j, j ≤ i ∧ keeps d j = true ∧ d[j]! = x
  | 0, h => ⟨0, Nat.le_refl _, by simp [keeps], h⟩
  | i + 1, h => by
    by_cases e : d[i + 1]! = d[i]!
    · obtain ⟨j, h1, h2, h3⟩ := kept_first d x i (by rw [← e]; exact h)
      exact ⟨j, by omega, h2, h3⟩
    · exact ⟨i + 1, Nat.le_refl _, keeps_pos e, h⟩
theorem compact_mem (zs : List (List UInt8)) (x : List UInt8) : x ∈ compact zs ↔ x ∈ zs := by
  have hget : ∀ i, i < zs.length → zs.toArray[i]! ∈ zs := fun i hi => by
    have : zs.toArray[i]! = zs[i] := by simp [hi]
    rw [this]
    exact List.getElem_mem hi
  unfold compact compactUpTo
  rw [List.mem_map]
  constructor
  · rintro ⟨i, hi, rfl⟩
    exact hget i (List.mem_range.1 (List.mem_filter.1 hi).1)
  · intro hx
    obtain ⟨i, hi, rfl⟩ := List.mem_iff_getElem.1 hx
    obtain ⟨j, h1, h2, h3⟩ := kept_first zs.toArray zs[i] i (by simp [hi])
    exact ⟨j, List.mem_filter.2 ⟨List.mem_range.2 (by omega), h2⟩, h3⟩
theorem compact_rise (zs : List (List UInt8)) (h : zs.Pairwise fun x y => x ≤ y) : (compact zs).Pairwise fun x y => x ≤ y ∧ x ≠ y := by
  have hget : ∀ i (hi : i < zs.length), zs.toArray[i]! = zs[i] := fun i hi => by simp [hi]
  have hle : ∀ i j, i ≤ j → j < zs.length → zs.toArray[i]! ≤ zs.toArray[j]! := fun i j hij hj => by
    rw [hget i (by omega), hget j hj]
    rcases Nat.lt_or_ge i j with g | g
    · exact List.pairwise_iff_getElem.1 h i j (by omega) hj g
    · obtain rfl : i = j := by omega
      exact List.le_refl _
  unfold compact compactUpTo
  rw [List.pairwise_map, List.pairwise_filter]
  refine List.Pairwise.imp_of_mem (R := fun i j => i < j) ?_ List.pairwise_lt_range
  intro i j hi hj hij _ hk
  have hj' := List.mem_range.1 hj
  refine ⟨hle i j (by omega) hj', fun e => ?_⟩
  have h1 := hle i (j - 1) (by omega) (by omega)
  have h2 := hle (j - 1) j (by omega) hj'
  rw [e] at h1
  have h3 := List.le_antisymm h2 h1
  unfold keeps at hk
  have hk := of_decide_eq_true hk
  rcases hk with x | x
  · omega
  · exact x h3.symm
/-- the texts of bs, sorted, each once -/
theorem uniq_keys {bs ks : List ByteArray} (hk : RisK ks) (hm : ∀ x, x ∈ ks ↔ x ∈ bs) : compact ((bs.map fun b => b.data.toList).mergeSort fun x y => decide (x ≤ y)) = ks.map fun b => b.data.toList := by
  have tr : ∀ a b c : List UInt8, decide (a ≤ b) = true → decide (b ≤ c) = true → decide (a ≤ c) = true := fun a b c h1 h2 => by simp only [decide_eq_true_eq] at *; exact List.le_trans h1 h2
  have to : ∀ a b : List UInt8, (decide (a ≤ b) || decide (b ≤ a)) = true := fun a b => by simp only [Bool.or_eq_true, decide_eq_true_eq]; exact List.le_total a b
  have hs := List.pairwise_mergeSort tr to (bs.map fun b => b.data.toList)
  have hr := compact_rise _ (hs.imp fun {x y} h => of_decide_eq_true h)
  have h1 : RisK ((compact ((bs.map fun b => b.data.toList).mergeSort fun x y => decide (x ≤ y))).map fun l => ByteArray.mk l.toArray) := List.pairwise_map.2 (hr.imp fun {x y} h => lt_of_le_ne h.1 h.2)
  have back : ∀ b : ByteArray, ByteArray.mk b.data.toList.toArray = b := fun b => by simp
  have e : (compact ((bs.map fun b => b.data.toList).mergeSort fun x y => decide (x ≤ y))).map (fun l => ByteArray.mk l.toArray) = ks := by
    refine RisK.ext h1 hk fun x => ?_
    rw [hm, List.mem_map]
    constructor
    · rintro ⟨l, hl, rfl⟩
      rw [compact_mem, List.mem_mergeSort, List.mem_map] at hl
      obtain ⟨b, hb, rfl⟩ := hl
      rw [back]
      exact hb
    · intro hx
      exact ⟨x.data.toList, (compact_mem _ _).2 (List.mem_mergeSort.2 (List.mem_map.2 ⟨x, hx, rfl⟩)), back x⟩
  rw [← e, List.map_map]
  conv => lhs; rw [← List.map_id (compact _)]
  refine List.map_congr_left fun l _ => ?_
  simp
end Go.Proofs.YtaofemdhgfejjaaGreatDoor
