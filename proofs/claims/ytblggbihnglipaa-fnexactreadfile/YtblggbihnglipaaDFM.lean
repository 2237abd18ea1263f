/-
  Rows of bytes of the call's own (what a conversion makes, what an append makes), and a map of files: its keys and rows.
-/
import Derived.Test.YtblggbihnglipaaDDkM
import Derived.Maps.OwnSet
import Derived.Maps.RangeWalk
import Derived.Lib.ConvBytes
import Derived.Lib.AppendStr
import Derived.Lib.SlBytesRow
import Derived.Lib.BufferRead
namespace Go.Proofs.Ytblggbihnglipaa
open Go.RowKit Go.Maps

/-- the slice at A holds the bytes of s, in a row from block B on; what is frozen of it lies behind its end -/
def BRow (w : World) (B : Nat) (A : Option Addr) (cap : Nat) (s : ByteArray) : Prop :=
  (A = none ∧ cap = 0 ∧ s = ByteArray.empty) ∨ ∃ g cur fz, A = some ⟨g, 0, none⟩ ∧ B ≤ g ∧ w.heap[g]? = some (.cells cur 5 fz) ∧ (fz.2 = 0 ∨ cur.size ≤ fz.1) ∧ s.size ≤ cap ∧ cap ≤ maxLen ∧ cur.size = cap ∧ cur.toList.take s.size = Lib.strCells s
theorem BRow.nil (w : World) (B : Nat) : BRow w B none 0 ByteArray.empty := .inl ⟨rfl, rfl, rfl⟩
theorem BRow.row {w : World} {B : Nat} {A : Option Addr} {cap : Nat} {s : ByteArray} (h : BRow w B A cap s) : ∀ g, rowOf A = some g → B ≤ g ∧ g < w.heap.size := by
  intro g hg
  rcases h with ⟨rfl, _, _⟩ | ⟨g', cur, fz, rfl, hb, hh, _⟩
  · cases hg
  · injection hg with hg
    subst hg
    exact ⟨hb, (Array.getElem?_eq_some_iff.1 hh).1⟩
theorem BRow.kept {w w' : World} {B : Nat} {A : Option Addr} {cap : Nat} {s : ByteArray} {row : Option Nat} (h : BRow w B A cap s) (hg : w.grownBy w' row) (hne : ∀ g, rowOf A = some g → row ≠ some g) : BRow w' B A cap s := by
  rcases h with h | ⟨g, cur, fz, rfl, hb, hh, r⟩
  · exact .inl h
  · exact .inr ⟨g, cur, fz, rfl, hb, (hg.block g (Array.getElem?_eq_some_iff.1 hh).1 (fun e => hne g rfl e.symm)).trans hh, r⟩
theorem BRow.below {w w' : World} {B : Nat} {A : Option Addr} {cap : Nat} {s : ByteArray} (h : BRow w B A cap s) (hb : Below w.heap.size w w') : BRow w' B A cap s := h.kept (Below.toGrown hb none) (fun _ _ e => by cases e)
theorem BRow.more {w : World} {B B' : Nat} {A : Option Addr} {cap : Nat} {s : ByteArray} (h : BRow w B A cap s) (hB : B' ≤ B) : BRow w B' A cap s := by
  rcases h with h | ⟨g, cur, fz, rfl, hb, r⟩
  · exact .inl h
  · exact .inr ⟨g, cur, fz, rfl, Nat.le_trans hB hb, r⟩
theorem strCells_get {s : ByteArray} {i : Nat} (h : i < s.size) : (Lib.strCells s)[i]? = some (.int .u8 (s[i].toNat : Int)) := by
  have h' : i < s.data.toList.length := by simpa using h
  unfold Lib.strCells
  rw [List.getElem?_map, List.getElem?_eq_getElem h']
  rfl
theorem row_bytes {w : World} {g : Nat} {cur : Array Value} {fz : Nat × Nat} {s : ByteArray} (hh : w.heap[g]? = some (.cells cur 5 fz)) (ht : cur.toList.take s.size = Lib.strCells s) : Lib.Bytes w g 0 s := by
  intro i hi
  rw [Nat.zero_add, cell_of_row w g i cur _ fz hh]
  have := strCells_get hi
  rw [← ht, List.getElem?_take_of_lt hi] at this
  simpa using this
/-- read as a text -/
theorem BRow.str {w : World} {B : Nat} {A : Option Addr} {cap : Nat} {s : ByteArray} (h : BRow w B A cap s) : (convert 57 9 (.slice A s.size cap)).run Try.prog w = .ok (.string s) w := by
  rcases h with ⟨rfl, rfl, rfl⟩ | ⟨g, cur, fz, rfl, _, hh, _, _, _, _, ht⟩
  · exact Lib.run_convert_nil_bytes w 57 9 5 0 Try.underlying57 Try.underlying5 Try.underlying9
  · exact Lib.run_convert_whole w 57 5 9 Try.underlying57 Try.underlying5 Try.underlying9 g 0 s (row_bytes hh ht) cap
/-- made of a text -/
theorem run_bytes (w : World) (s : ByteArray) (hs : s.size ≤ maxLen) : ∃ c, (convert 9 57 (.string s)).run Try.prog w = .ok (.slice (some ⟨w.heap.size, 0, none⟩) s.size c) (Lib.bytesWorld w 5 s) ∧ BRow (Lib.bytesWorld w 5 s) w.heap.size (some ⟨w.heap.size, 0, none⟩) c s ∧ Below w.heap.size w (Lib.bytesWorld w 5 s) ∧ (Lib.bytesWorld w 5 s).heap.size = w.heap.size + 1 := by
  have hge := grownCap_ge w s.size 0 5
  have hcm := grownCap_le_maxLen w s.size 0 5 hs
  have hz : (Lib.bytesCells w 5 s).size = grownCap w s.size 0 5 := by
    unfold Lib.bytesCells
    have : s.data.size = s.size := rfl
    simp only [Array.size_append, Array.size_map, Array.size_replicate, this]
    omega
  refine ⟨_, Lib.run_convert_string_bytes (P := Try.prog) w 9 57 5 s Try.underlying9 Try.underlying57 Try.underlying5, .inr ⟨w.heap.size, _, _, rfl, Nat.le_refl _, Lib.bytesWorld_at_new w 5 s, .inr (Nat.le_refl _), hge, hcm, hz, ?_⟩, ?_, Lib.bytesWorld_size w 5 s⟩
  · unfold Lib.bytesCells Lib.strCells
    rw [Array.toList_append, Array.toList_map]
    have : (s.data.toList.map fun b => Value.int .u8 (b.toNat : Int)).length = s.size := by rw [List.length_map, Array.length_toList]; rfl
    rw [← this]
    exact List.take_left
  · exact ⟨rfl, rfl, rfl, by rw [Lib.bytesWorld_size]; omega, fun k hk => Lib.bytesWorld_at_old w 5 s k hk⟩
/-- cells are stored one behind the other where nothing is frozen -/
theorem run_storeFree (P : Program) (g o : Nat) (t : TypeId) (fz : Nat × Nat) : ∀ (vs : List Value) (i : Nat) (cur : Array Value) (w : World), w.heap[g]? = some (.cells cur t fz) → (fz.2 = 0 ∨ cur.size ≤ fz.1) → o + i + vs.length ≤ cur.size → (∀ v ∈ vs, v.oneCell' = true) →
    (storeCells ⟨g, o, none⟩ vs i).run P w = .ok () (w.setRow g (cur.toList.take (o + i) ++ vs ++ cur.toList.drop (o + i + vs.length)).toArray)
  | [], i, cur, w, hg, _, _, _ => by
    simp only [storeCells, List.append_nil, List.length_nil, Nat.add_zero, List.take_append_drop, Array.toArray_toList]
    rw [setRow_self w g cur t fz hg]
    rfl
  | v :: rest, i, cur, w, hg, hfz, hl, h1 => by
    have hi : o + i < cur.size := by simp at hl; omega
    have hadd : (⟨g, o, none⟩ : Addr).add i = ⟨g, o + i, none⟩ := by unfold Addr.add; split <;> simp_all
    have hcell : w.cell? ⟨g, o + i, none⟩ = some cur[o + i] := by simp [World.cell?, hg, hi]
    have hfro : w.frozen? ⟨g, o + i, none⟩ = false := by
      obtain ⟨lo, hi'⟩ := fz
      simp only [World.frozen?, hg, Bool.and_eq_false_iff, decide_eq_false_iff_not]
      simp only at hfz
      rcases hfz with h | h
      · right; omega
      · left; omega
    have hst : (store ((⟨g, o, none⟩ : Addr).add i) v).run P w = .ok () (w.setRow g (cur.setIfInBounds (o + i) v)) := by
      rw [hadd, run_store P w _ v _ (h1 v (by simp)), hcell]
      simp [hfro, setCell_eq_setRow w g (o + i) cur t fz v hg]
    have ih := run_storeFree P g o t fz rest (i + 1) (cur.setIfInBounds (o + i) v) (w.setRow g (cur.setIfInBounds (o + i) v)) (setRow_heap w g cur _ t _ hg) (by simpa using hfz) (by simp at hl ⊢; omega) (fun x hx => h1 x (by simp [hx]))
    simp only [storeCells, Sem.run_bind, hst, Result.andThen_ok, ih, setRow_setRow]
    congr 3
    have e := list_seg_step cur.toList (o + i) v rest (by simp at hl ⊢; omega)
    simpa [Array.toList_setIfInBounds, Nat.add_assoc] using e
theorem infoU8 : (Try.prog.info? 5).map (fun i => (i.zero, i.size, i.bytes)) = some (some (.int .u8 0), 1, 1) := by kernel_rfl
theorem strCells_app (s t : ByteArray) : Lib.strCells (s ++ t) = Lib.strCells s ++ Lib.strCells t := by
  unfold Lib.strCells
  rw [show (s ++ t).data = s.data ++ t.data from ByteArray.data_append, Array.toList_append, List.map_append]
set_option maxRecDepth 100000 in
/-- a text is appended -/
theorem BRow.app {w : World} {B : Nat} {A : Option Addr} {cap : Nat} {s : ByteArray} (h : BRow w B A cap s) (t : ByteArray) (ty : TypeId) (hs : s.size + t.size ≤ 1099511627776) (hB : B ≤ w.heap.size) :
    ∃ A' c' w', (Builtin.append_ #[57, 9] ty #[.slice A s.size cap, .string t]).run Try.prog w = .ok (.slice A' (s ++ t).size c') w' ∧ BRow w' B A' c' (s ++ t) ∧ w.grownBy w' (rowOf A) ∧ (rowOf A' = rowOf A ∨ rowOf A' = some w.heap.size) := by
  obtain ⟨i, hi, hz0, hz1, hz2⟩ := info_parts infoU8
  have hst : (s ++ t).size = s.size + t.size := app_size s t
  have hm : s.size + t.size ≤ maxLen := by unfold maxLen; omega
  have huS := Try.underlying9
  have huB := Try.underlying57
  rcases h with ⟨rfl, rfl, rfl⟩ | ⟨g, cur, fz, rfl, hb, hh, hfz, hsc, hcm, hcs, htk⟩
  · have e : ByteArray.empty ++ t = t := by simp
    rw [e]
    simp only [ByteArray.size_empty, Nat.zero_add] at hs hm ⊢
    by_cases h0 : t.size = 0
    · have et : t = ByteArray.empty := by
        apply ByteArray.ext
        exact Array.eq_empty_of_size_eq_zero h0
      refine ⟨none, 0, w, ?_, .inl ⟨rfl, rfl, et⟩, World.grownBy.refl _ _, .inl rfl⟩
      rw [h0]
      simp [Builtin.append_, run_underlying huB, run_underlying huS, sizeOf, typeInfo, hi, Builtin.lenOf, Builtin.firstCells, et]
    · have hr := run_append_nil_string (P := Try.prog) w 57 9 ty 5 i _ huB huS hi hz0 t (by omega) (by omega) (by rw [hz2]; omega)
      have hge := grownCap_ge w t.size 0 5
      have hcm := grownCap_le_maxLen w t.size 0 5 hm
      have hz : (Value.int IntKind.u8 0).cells.size = 1 := rfl
      have hd : t.data.size = t.size := rfl
      refine ⟨_, _, _, hr, .inr ⟨w.heap.size, _, _, rfl, hB, heap_alloc_new w.drew _, .inl rfl, hge, hcm, ?_, ?_⟩, ⟨rfl, rfl, rfl, by simp, fun k hk _ => Below.heap_alloc w.drew _ k hk⟩, .inr rfl⟩
      · simp only [Array.size_append, Array.size_map, size_zeroCells, hz, hd]
        omega
      · rw [Array.toList_append, Array.toList_map]
        have : (t.data.toList.map fun b => Value.int .u8 (b.toNat : Int)).length = t.size := by rw [List.length_map, Array.length_toList]; rfl
        rw [← this]
        exact List.take_left
  · by_cases hroom : s.size + t.size ≤ cap
    · have hf := Lib.run_firstCells_string (P := Try.prog) w 1 t
      have hsc2 := run_storeFree Try.prog g s.size 5 fz (Lib.strCells t) 0 cur w hh hfz (by rw [Lib.strCells_length]; omega) (Lib.strCells_oneCell t)
      simp only [Nat.add_zero, Lib.strCells_length] at hsc2
      have hr : (Builtin.append_ #[57, 9] ty #[.slice (some ⟨g, 0, none⟩) s.size cap, .string t]).run Try.prog w = .ok (.slice (some ⟨g, 0, none⟩) (s.size + t.size) cap) (w.setRow g (cur.toList.take s.size ++ Lib.strCells t ++ cur.toList.drop (s.size + t.size)).toArray) := by
        simp [Builtin.append_, run_underlying huB, run_underlying huS, sizeOf, typeInfo, hi, hz1, Builtin.lenOf, hroom, hf, Addr.add_lit, hsc2]
      refine ⟨some ⟨g, 0, none⟩, cap, _, by rw [hst]; exact hr, .inr ⟨g, _, fz, rfl, hb, setRow_heap w g cur _ _ _ hh, ?_, by rw [hst]; exact hroom, hcm, ?_, ?_⟩, ⟨rfl, rfl, rfl, by simp, fun k _ hk => setRow_other w g k _ (fun e => hk (by rw [e]; rfl))⟩, .inl rfl⟩
      · rcases hfz with e | e
        · exact .inl e
        · refine .inr ?_
          have hl2 := Lib.strCells_length t
          simp only [List.size_toArray, List.length_append, List.length_take, List.length_drop, Array.length_toList, hl2]
          omega
      · have hl2 := Lib.strCells_length t
        simp only [List.size_toArray, List.length_append, List.length_take, List.length_drop, Array.length_toList, hl2]
        omega
      · rw [htk, strCells_app, hst]
        have : (Lib.strCells s ++ Lib.strCells t).length = s.size + t.size := by rw [List.length_append, Lib.strCells_length, Lib.strCells_length]
        rw [← this]
        exact List.take_left
    · have holds : ∀ j u, (Lib.strCells s)[j]? = some u → w.cell? ((⟨g, 0, none⟩ : Addr).add j) = some u := by
        intro j u hu
        have hj : j < s.size := by rw [← Lib.strCells_length s]; exact (List.getElem?_eq_some_iff.1 hu).1
        have hadd : (⟨g, 0, none⟩ : Addr).add j = ⟨g, j, none⟩ := by unfold Addr.add; split <;> simp_all
        rw [hadd, cell_of_row w g j cur _ fz hh, ← Array.getElem?_toList, ← List.getElem?_take_of_lt hj, htk]
        exact hu
      have hr := Lib.run_append_grow_string (P := Try.prog) w 57 9 ty 5 i (.int .u8 0) huB huS hi hz0 ⟨g, 0, none⟩ s.size cap (Lib.strCells s) (by rw [hz1, Nat.mul_one]; exact Lib.strCells_length s) holds t (by omega) (by omega) (by rw [hz2]; exact growslice_fits (by omega) (by omega))
      have hge := grownCap_ge w (s.size + t.size) cap 5
      have hcm2 := grownCap_le_maxLen w (s.size + t.size) cap 5 hm
      refine ⟨_, _, _, by rw [hst]; exact hr, .inr ⟨w.heap.size, _, _, rfl, hB, heap_alloc_new w.drew _, .inl rfl, by rw [hst]; exact hge, hcm2, ?_, ?_⟩, ⟨rfl, rfl, rfl, by simp, fun k hk _ => Below.heap_alloc w.drew _ k hk⟩, .inr rfl⟩
      · have hz : (Value.int IntKind.u8 0).cells.size = 1 := rfl
        simp only [Array.size_append, List.size_toArray, size_zeroCells, hz, Lib.strCells_length]
        omega
      · rw [strCells_app, hst]
        simp only [Array.toList_append, List.append_assoc]
        have : (Lib.strCells s ++ Lib.strCells t).length = s.size + t.size := by rw [List.length_append, Lib.strCells_length, Lib.strCells_length]
        rw [← List.append_assoc, ← this]
        exact List.take_left
end Go.Proofs.Ytblggbihnglipaa
