/-
  The frames with which a text begins, as plain mathematics. No Go in it.
-/
import Derived.Test.YtpnbolekhgcacaaDoorFMath
namespace Go.Proofs.YtpnbolekhgcacaaDoor
open Go.RowKit

theorem ba_eq {a b : ByteArray} (h : a.data.toList = b.data.toList) : a = b := by
  cases a; cases b
  simp at h
  rw [h]
theorem ext_list (s : ByteArray) (a b : Nat) : (s.extract a b).data.toList = (s.data.toList.drop a).take (b - a) := by
  rw [ByteArray.data_extract, Array.toList_extract, List.extract_eq_take_drop]
theorem len_list (s : ByteArray) : s.data.toList.length = s.size := by simp
theorem byN_list (s : ByteArray) (j : Nat) : byN s j = (s.data.toList.getD j 0).toNat := by
  unfold byN
  split
  · rename_i h
    rw [List.getD_eq_getElem?_getD, List.getElem?_eq_getElem (by rw [len_list]; exact h)]
    rfl
  · rename_i h
    rw [List.getD_eq_getElem?_getD, List.getElem?_eq_none (by rw [len_list]; omega)]
    rfl
theorem byN_right (a b : ByteArray) (j : Nat) : byN (a ++ b) (a.size + j) = byN b j := by
  rw [byN_list, byN_list, ByteArray.data_append, Array.toList_append, List.getD_eq_getElem?_getD, List.getElem?_append_right (by rw [len_list]; omega), len_list, Nat.add_sub_cancel_left, List.getD_eq_getElem?_getD]
theorem byN_left (a b : ByteArray) (j : Nat) (h : j < a.size) : byN (a ++ b) j = byN a j := by
  rw [byN_list, byN_list, ByteArray.data_append, Array.toList_append, List.getD_eq_getElem?_getD, List.getElem?_append_left (by rw [len_list]; omega), List.getD_eq_getElem?_getD]
theorem byN_cut (s : ByteArray) (k j : Nat) (h : j < k) : byN (s.extract 0 k) j = byN s j := by
  rw [byN_list, byN_list, ext_list, List.drop_zero, List.getD_eq_getElem?_getD, List.getD_eq_getElem?_getD, List.getElem?_take_of_lt (by omega)]
theorem byN_from (s : ByteArray) (p j : Nat) : byN (s.extract p s.size) j = byN s (p + j) := by
  rw [byN_list, byN_list, ext_list, List.getD_eq_getElem?_getD, List.getD_eq_getElem?_getD]
  by_cases h : j < s.size - p
  · rw [List.getElem?_take_of_lt h, List.getElem?_drop]
  · rw [List.getElem?_eq_none (by rw [List.length_take, List.length_drop, len_list]; omega), List.getElem?_eq_none (by rw [len_list]; omega)]
/-- how many bytes the frame at p says that it has -/
def sizeAt (s : ByteArray) (p : Nat) : Nat := 16777216 * byN s p + 65536 * byN s (p + 1) + 256 * byN s (p + 2) + byN s (p + 3)
def dataAt (s : ByteArray) (p : Nat) : ByteArray := s.extract (p + 8) (p + 8 + sizeAt s p)
/-- a frame stands at p -/
def okAt (s : ByteArray) (p : Nat) : Prop := p + 8 ≤ s.size ∧ sizeAt s p ≤ 100000 ∧ p + 8 + sizeAt s p ≤ s.size ∧ strOfNums (le4 (crcN (dataAt s p))) = s.extract (p + 4) (p + 8)
open Classical in
/-- the frames from p on, and where they end -/
noncomputable def fr (s : ByteArray) : Nat → Nat → List ByteArray × Nat
  | 0, p => ([], p)
  | f + 1, p => if okAt s p then (dataAt s p :: (fr s f (p + 8 + sizeAt s p)).1, (fr s f (p + 8 + sizeAt s p)).2) else ([], p)
theorem fr_yes {s : ByteArray} {f p : Nat} (h : okAt s p) : fr s (f + 1) p = (dataAt s p :: (fr s f (p + 8 + sizeAt s p)).1, (fr s f (p + 8 + sizeAt s p)).2) := by rw [fr, if_pos h]
theorem fr_no {s : ByteArray} {f p : Nat} (h : ¬ okAt s p) : fr s f p = ([], p) := by
  cases f with
  | zero => rfl
  | succ f => rw [fr, if_neg h]
/-- the frames with which a text begins -/
noncomputable def frL (s : ByteArray) : List ByteArray × Nat := fr s (s.size + 1) 0
theorem data_size {s : ByteArray} {p : Nat} (h : okAt s p) : (dataAt s p).size = sizeAt s p := by
  unfold dataAt
  rw [ByteArray.size_extract]
  have := h.2.2.1
  omega
/-- texts' frames, one behind the other -/
def catF : List ByteArray → ByteArray
  | [] => ByteArray.empty
  | x :: r => frameL x ++ catF r
theorem catF_list : ∀ l : List ByteArray, (catF l).data.toList = l.flatMap fun x => (frameL x).data.toList
  | [] => by simp [catF]
  | x :: r => by simp [catF, catF_list r]
theorem catF_app (l : List ByteArray) (x : ByteArray) : catF (l ++ [x]) = catF l ++ frameL x := ba_eq (by simp [catF_list])
theorem headF_size (s : ByteArray) : (headF s).size = 8 := by unfold headF; rw [strOfNums_size]; rfl
theorem frameL_size (s : ByteArray) : (frameL s).size = 8 + s.size := by unfold frameL; rw [ByteArray.size_append, headF_size]
theorem byte_of (n : Int) (h0 : 0 ≤ n) (h1 : n < 256) : (UInt8.ofNat n.toNat).toNat = n.toNat := by
  rw [UInt8.toNat_ofNat']
  omega
/-- the first four bytes at p are those of the size -/
theorem be4_at (s : ByteArray) (p : Nat) (h : p + 4 ≤ s.size) : strOfNums (be4 (sizeAt s p)) = s.extract p (p + 4) := by
  apply ba_eq
  rw [strOfNums_data, ext_list]
  have hl : p + 4 ≤ s.data.toList.length := by rw [len_list]; exact h
  have e : (s.data.toList.drop p).take (p + 4 - p) = [s.data.toList[p], s.data.toList[p + 1], s.data.toList[p + 2], s.data.toList[p + 3]] := by
    rw [show p + 4 - p = 4 by omega, List.drop_eq_getElem_cons (by omega), List.drop_eq_getElem_cons (by omega), List.drop_eq_getElem_cons (by omega), List.drop_eq_getElem_cons (by omega)]
    simp
  rw [e]
  have g : ∀ j, (hj : j < s.data.toList.length) → byN s j = (s.data.toList[j]).toNat := fun j hj => by
    rw [byN_list, List.getD_eq_getElem?_getD, List.getElem?_eq_getElem hj]
    rfl
  have b0 := byN_lt s p
  have b1 := byN_lt s (p + 1)
  have b2 := byN_lt s (p + 2)
  have b3 := byN_lt s (p + 3)
  have v : ∀ (x : UInt8) (n : Int), n = (x.toNat : Int) → UInt8.ofNat n.toNat = x := fun x n hn => by
    apply UInt8.toNat_inj.1
    have := x.toNat_lt
    rw [byte_of n (by omega) (by omega)]
    omega
  unfold be4 sizeAt
  simp only [List.map_cons, List.map_nil]
  rw [v _ _ (show _ = _ from ?_), v _ _ (show _ = _ from ?_), v _ _ (show _ = _ from ?_), v _ _ (show _ = _ from ?_)]
  all_goals (first | (rw [← g p (by omega)]; omega) | (rw [← g (p + 1) (by omega)]; omega) | (rw [← g (p + 2) (by omega)]; omega) | (rw [← g (p + 3) (by omega)]; omega))
theorem nums_app (a b : List Int) : strOfNums (a ++ b) = strOfNums a ++ strOfNums b := ba_eq (by simp [strOfNums, ByteArray.data_append])
theorem ext_join (s : ByteArray) {a b c : Nat} (h1 : a ≤ b) (h2 : b ≤ c) : s.extract a b ++ s.extract b c = s.extract a c := by
  apply ba_eq
  rw [ByteArray.data_append, Array.toList_append, ext_list, ext_list, ext_list]
  rw [show c - a = (b - a) + (c - b) by omega, List.take_add, List.drop_drop, show a + (b - a) = b by omega]
/-- a frame that stands at p is that of its data -/
theorem frame_at {s : ByteArray} {p : Nat} (h : okAt s p) : frameL (dataAt s p) = s.extract p (p + 8 + sizeAt s p) := by
  unfold frameL headF
  rw [nums_app, data_size h, be4_at s p (by have := h.1; omega), h.2.2.2, ext_join s (by omega) (by omega)]
  exact ext_join s (by omega) (by omega)
theorem fr_spec (s : ByteArray) : ∀ (f p : Nat), p ≤ s.size → catF (fr s f p).1 = s.extract p (fr s f p).2 ∧ p ≤ (fr s f p).2 ∧ (fr s f p).2 ≤ s.size ∧ (∀ x ∈ (fr s f p).1, x.size ≤ 100000) ∧ p + 8 * (fr s f p).1.length ≤ (fr s f p).2
  | 0, p, h => by
    refine ⟨?_, Nat.le_refl _, h, fun x hx => by simp [fr] at hx, by simp [fr]⟩
    apply ba_eq
    rw [ext_list]
    simp [fr, catF]
  | f + 1, p, h => by
    by_cases hk : okAt s p
    · have q := hk.2.2.1
      obtain ⟨h1, h2, h3, h4, h5⟩ := fr_spec s f (p + 8 + sizeAt s p) q
      rw [fr_yes hk]
      refine ⟨?_, by simp only; omega, h3, ?_, by simp only [List.length_cons]; omega⟩
      · show frameL (dataAt s p) ++ catF _ = _
        rw [h1, frame_at hk]
        exact ext_join s (by omega) h2
      · intro x hx
        rcases List.mem_cons.1 hx with rfl | hx
        · rw [data_size hk]; exact hk.2.1
        · exact h4 x hx
    · rw [fr_no hk]
      refine ⟨?_, Nat.le_refl _, h, fun x hx => by simp at hx, by simp⟩
      apply ba_eq
      rw [ext_list]
      simp [catF]
theorem frL_spec (s : ByteArray) : catF (frL s).1 = s.extract 0 (frL s).2 ∧ (frL s).2 ≤ s.size ∧ (∀ x ∈ (frL s).1, x.size ≤ 100000) ∧ 8 * (frL s).1.length ≤ (frL s).2 := by
  obtain ⟨h1, _, h3, h4, h5⟩ := fr_spec s (s.size + 1) 0 (Nat.zero_le _)
  exact ⟨h1, h3, h4, by unfold frL; omega⟩
/-- enough is enough -/
theorem fr_fuel (s : ByteArray) : ∀ (f g p : Nat), s.size < f + p → s.size < g + p → fr s f p = fr s g p
  | 0, g, p, h, _ => by rw [fr_no (fun hk => by have := hk.1; omega), fr_no (fun hk => by have := hk.1; omega)]
  | f + 1, 0, p, _, h => by rw [fr_no (fun hk => by have := hk.1; omega), fr_no (fun hk => by have := hk.1; omega)]
  | f + 1, g + 1, p, h1, h2 => by
    by_cases hk : okAt s p
    · rw [fr_yes hk, fr_yes hk, fr_fuel s f g _ (by omega) (by omega)]
    · rw [fr_no hk, fr_no hk]
/-- of texts' frames the texts come back -/
theorem head_at (a x b : ByteArray) (hx : x.size ≤ 100000) : okAt (a ++ (frameL x ++ b)) a.size ∧ sizeAt (a ++ (frameL x ++ b)) a.size = x.size ∧ dataAt (a ++ (frameL x ++ b)) a.size = x := by
  have hfs := frameL_size x
  have hb : ∀ j, j < 8 → byN (a ++ (frameL x ++ b)) (a.size + j) = byN (headF x) j := fun j hj => by
    rw [byN_right, byN_left _ _ _ (by omega)]
    exact byN_left _ _ _ (by rw [headF_size]; exact hj)
  have hv : ∀ j, (hj : j < 8) → byN (headF x) j = ((be4 x.size ++ le4 (crcN x))[j]'hj).toNat := fun j hj => by
    rw [byN_list]
    unfold headF
    rw [strOfNums_data, List.getD_eq_getElem?_getD, List.getElem?_map, List.getElem?_eq_getElem hj]
    simp only [Option.map_some, Option.getD_some]
    have hr : ∀ n ∈ be4 x.size ++ le4 (crcN x), 0 ≤ n ∧ n < 256 := by
      intro n hn
      simp only [be4, le4, List.cons_append, List.nil_append, List.mem_cons, List.not_mem_nil, or_false] at hn
      omega
    obtain ⟨h0, h1⟩ := hr _ (List.getElem_mem hj)
    exact byte_of _ h0 h1
  have hz : sizeAt (a ++ (frameL x ++ b)) a.size = x.size := by
    unfold sizeAt
    have e0 := (hb 0 (by omega)).trans (hv 0 (by omega))
    have e1 := (hb 1 (by omega)).trans (hv 1 (by omega))
    have e2 := (hb 2 (by omega)).trans (hv 2 (by omega))
    have e3 := (hb 3 (by omega)).trans (hv 3 (by omega))
    simp only [be4, le4, List.cons_append, List.nil_append, List.getElem_cons_zero, List.getElem_cons_succ, Nat.add_zero] at e0 e1 e2 e3
    rw [e0, e1, e2, e3]
    omega
  have hd : dataAt (a ++ (frameL x ++ b)) a.size = x := by
    unfold dataAt
    rw [hz]
    apply ba_eq
    rw [ext_list]
    unfold frameL
    simp only [ByteArray.data_append, Array.toList_append, List.append_assoc]
    rw [show a.size + 8 = a.data.toList.length + (headF x).data.toList.length by rw [len_list, len_list, headF_size], ← List.drop_drop, List.drop_left', List.drop_left', Nat.add_sub_cancel_left]
    · exact List.take_left' (len_list x)
    · rfl
    · rfl
  refine ⟨⟨?_, by rw [hz]; exact hx, ?_, ?_⟩, hz, hd⟩
  · rw [ByteArray.size_append, ByteArray.size_append]; omega
  · rw [hz, ByteArray.size_append, ByteArray.size_append]; omega
  · rw [hd]
    apply ba_eq
    rw [ext_list]
    unfold frameL headF
    rw [nums_app]
    simp only [ByteArray.data_append, Array.toList_append, List.append_assoc]
    rw [show a.size + 4 = a.data.toList.length + (strOfNums (be4 x.size)).data.toList.length by rw [len_list, len_list, strOfNums_size]; rfl, ← List.drop_drop, List.drop_left', List.drop_left']
    · rw [show a.size + 8 - (a.data.toList.length + (strOfNums (be4 x.size)).data.toList.length) = 4 by rw [len_list, len_list, strOfNums_size]; show a.size + 8 - (a.size + 4) = 4; omega]
      exact (List.take_left' (by rw [len_list, strOfNums_size]; rfl)).symm
    · rfl
    · rfl
theorem fr_back : ∀ (l : List ByteArray) (a : ByteArray) (f : Nat), (∀ x ∈ l, x.size ≤ 100000) → l.length < f → fr (a ++ catF l) f a.size = (l, (a ++ catF l).size)
  | [], a, f, _, _ => by
    rw [fr_no]
    · simp [catF]
    · intro hk
      have := hk.1
      simp [catF] at this
      omega
  | x :: r, a, f, hx, hf => by
    obtain ⟨f, rfl⟩ : ∃ g, f = g + 1 := ⟨f - 1, by simp at hf; omega⟩
    obtain ⟨h1, h2, h3⟩ := head_at a x (catF r) (hx x (List.mem_cons_self ..))
    have ih := fr_back r (a ++ frameL x) f (fun y hy => hx y (List.mem_cons_of_mem _ hy)) (by simp at hf; omega)
    have e : a ++ catF (x :: r) = a ++ frameL x ++ catF r := ba_eq (by simp [catF])
    have e2 : a ++ catF (x :: r) = a ++ (frameL x ++ catF r) := rfl
    rw [e2, fr_yes h1, h3, h2, ← e2, e]
    rw [show a.size + 8 + x.size = (a ++ frameL x).size by rw [ByteArray.size_append, frameL_size]; omega, ih]
theorem catF_size : ∀ l : List ByteArray, l.length ≤ (catF l).size
  | [] => by simp
  | x :: r => by
    have := catF_size r
    simp only [catF, ByteArray.size_append, frameL_size, List.length_cons]
    omega
theorem frL_back (l : List ByteArray) (h : ∀ x ∈ l, x.size ≤ 100000) : frL (catF l) = (l, (catF l).size) := by
  have := fr_back l ByteArray.empty ((catF l).size + 1) h (by have := catF_size l; omega)
  have e : ByteArray.empty ++ catF l = catF l := ba_eq (by simp)
  rw [e] at this
  exact this
/-- of a text that is cut the frames are first ones of its own -/
theorem cut_ok {s : ByteArray} {k p : Nat} (hk : k ≤ s.size) (h : okAt (s.extract 0 k) p) : okAt s p ∧ sizeAt (s.extract 0 k) p = sizeAt s p ∧ dataAt (s.extract 0 k) p = dataAt s p := by
  have hsz : (s.extract 0 k).size = k := by rw [ByteArray.size_extract]; omega
  obtain ⟨h1, h2, h3, h4⟩ := h
  rw [hsz] at h1 h3
  have hz : sizeAt (s.extract 0 k) p = sizeAt s p := by
    unfold sizeAt
    rw [byN_cut s k p (by omega), byN_cut s k (p + 1) (by omega), byN_cut s k (p + 2) (by omega), byN_cut s k (p + 3) (by omega)]
  have hx : ∀ a b, b ≤ k → (s.extract 0 k).extract a b = s.extract a b := fun a b hb => by
    apply ba_eq
    rw [ext_list, ext_list, ext_list, List.drop_zero, Nat.sub_zero, List.drop_take, List.take_take]
    congr 1
    omega
  have hd : dataAt (s.extract 0 k) p = dataAt s p := by
    unfold dataAt
    rw [hz] at h3 ⊢
    exact hx _ _ h3
  refine ⟨⟨by omega, by rw [← hz]; exact h2, by rw [← hz]; omega, ?_⟩, hz, hd⟩
  rw [← hd, h4]
  exact hx _ _ h1
theorem fr_cut {s : ByteArray} {k : Nat} (hk : k ≤ s.size) : ∀ f p, (fr (s.extract 0 k) f p).1 <+: (fr s f p).1
  | 0, p => List.prefix_refl _
  | f + 1, p => by
    by_cases h : okAt (s.extract 0 k) p
    · obtain ⟨h1, h2, h3⟩ := cut_ok hk h
      rw [fr_yes h, fr_yes h1, h2, h3]
      exact List.cons_prefix_cons.2 ⟨rfl, fr_cut hk f _⟩
    · rw [fr_no h]
      exact List.nil_prefix
theorem frL_cut {s : ByteArray} {k : Nat} (hk : k ≤ s.size) : (frL (s.extract 0 k)).1 <+: (frL s).1 := by
  have hsz : (s.extract 0 k).size = k := by rw [ByteArray.size_extract]; omega
  have := fr_cut hk (s.size + 1) 0
  unfold frL
  rw [hsz, fr_fuel _ (k + 1) (s.size + 1) 0 (by rw [hsz]; omega) (by rw [hsz]; omega)]
  exact this
end Go.Proofs.YtpnbolekhgcacaaDoor
