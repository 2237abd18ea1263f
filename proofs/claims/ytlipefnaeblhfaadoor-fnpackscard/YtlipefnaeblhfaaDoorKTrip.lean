/-
  Packs there and back, as plain mathematics.
-/
import Derived.Test.YtlipefnaeblhfaaDoorKPack
import Derived.Test.YtlipefnaeblhfaaDoorKText
namespace Go.Proofs.YtlipefnaeblhfaaDoor
open Go.RowKit

theorem baK {a b : ByteArray} (h : a.data.toList = b.data.toList) : a = b := Go.WideShapes.bytes_inj h
theorem exK (s : ByteArray) (a b : Nat) : (s.extract a b).data.toList = (s.data.toList.drop a).take (b - a) := by
  rw [ByteArray.data_extract, Array.toList_extract, List.extract_eq_take_drop]
theorem lenK (s : ByteArray) : s.data.toList.length = s.size := by simp
theorem byK_list (s : ByteArray) (j : Nat) : byK s j = (s.data.toList.getD j 0).toNat := by
  unfold byK
  split
  · rename_i h
    rw [List.getD_eq_getElem?_getD, List.getElem?_eq_getElem (by rw [lenK]; exact h)]
    rfl
  · rename_i h
    rw [List.getD_eq_getElem?_getD, List.getElem?_eq_none (by rw [lenK]; omega)]
    rfl
theorem byK_left (a b : ByteArray) (j : Nat) (h : j < a.size) : byK (a ++ b) j = byK a j := by
  rw [byK_list, byK_list, ByteArray.data_append, Array.toList_append, List.getD_eq_getElem?_getD, List.getElem?_append_left (by rw [lenK]; omega), List.getD_eq_getElem?_getD]
theorem byK_last (a : ByteArray) (c : UInt8) : byK (a ++ ⟨#[c]⟩) a.size = c.toNat := by
  rw [byK_list, ByteArray.data_append, Array.toList_append, List.getD_eq_getElem?_getD, List.getElem?_append_right (by rw [lenK]; omega), lenK, Nat.sub_self]
  rfl
theorem numK_left (a b : ByteArray) : ∀ k, k ≤ a.size → numK (a ++ b) k = numK a k
  | 0, _ => rfl
  | k + 1, h => by
    show 10 * numK (a ++ b) k + (byK (a ++ b) k - 48) = 10 * numK a k + (byK a k - 48)
    rw [numK_left a b k (by omega), byK_left a b k (by omega)]
theorem dig_byte {d : Nat} (h : d < 10) : ((48 + d).toUInt8).toNat = 48 + d := by
  show (48 + d) % 256 = 48 + d
  omega
/-- a number that is written in decimal is read -/
theorem dec_read : ∀ n : Nat, digsTo (decB n) (decB n).size ∧ numK (decB n) (decB n).size = n ∧ 1 ≤ (decB n).size ∧ (0 < n → byK (decB n) 0 ≠ 48) ∧ (n = 0 → (decB n).size = 1) := by
  intro n
  induction n using Nat.strongRecOn with
  | _ n ih =>
    by_cases h : n < 10
    · rw [decB_one h]
      have hs : (ByteArray.mk #[(48 + n).toUInt8]).size = 1 := rfl
      have hb : byK (ByteArray.mk #[(48 + n).toUInt8]) 0 = 48 + n := by
        rw [byK_in (by rw [hs]; omega)]
        exact dig_byte h
      refine ⟨fun i hi => ?_, ?_, by rw [hs]; omega, fun h0 => by rw [hb]; omega, fun _ => hs⟩
      · rw [hs] at hi
        obtain rfl : i = 0 := by omega
        rw [hb]; omega
      · rw [hs]
        show 10 * 0 + (byK _ 0 - 48) = n
        rw [hb]; omega
    · obtain ⟨i1, i2, i3, i4, _⟩ := ih (n / 10) (by omega)
      rw [decB_step h]
      have hs : (decB (n / 10) ++ ⟨#[(48 + n % 10).toUInt8]⟩).size = (decB (n / 10)).size + 1 := by rw [ByteArray.size_append]; rfl
      have hl : byK (decB (n / 10) ++ ⟨#[(48 + n % 10).toUInt8]⟩) (decB (n / 10)).size = 48 + n % 10 := by
        rw [byK_last]
        exact dig_byte (Nat.mod_lt _ (by decide))
      refine ⟨fun i hi => ?_, ?_, by rw [hs]; omega, fun _ => ?_, fun h0 => by omega⟩
      · rw [hs] at hi
        rcases Nat.lt_or_ge i (decB (n / 10)).size with g | g
        · rw [byK_left _ _ _ g]; exact i1 i g
        · obtain rfl : i = (decB (n / 10)).size := by omega
          rw [hl]; omega
      · rw [hs]
        show 10 * numK _ (decB (n / 10)).size + (byK _ (decB (n / 10)).size - 48) = n
        rw [hl, numK_left _ _ _ (Nat.le_refl _), i2]
        omega
      · rw [byK_left _ _ _ (by omega)]
        exact i4 (by omega)
theorem decB_small : ∀ (k n : Nat), n < 10 ^ (k + 1) → (decB n).size ≤ k + 1
  | 0, n, h => by rw [decB_one (by simpa using h)]; exact Nat.le_refl _
  | k + 1, n, h => by
    by_cases h10 : n < 10
    · rw [decB_one h10]; show 1 ≤ _; omega
    · rw [decB_step h10, ByteArray.size_append]
      have := decB_small k (n / 10) (by rw [Nat.pow_succ] at h; omega)
      show _ + 1 ≤ _
      omega
theorem dec_numP {n : Nat} (h : n ≤ 2000) : numP (decB n) := by
  obtain ⟨d1, d2, d3, d4, d5⟩ := dec_read n
  have hs := decB_small 3 n (by omega)
  refine ⟨d3, by omega, ?_, d1⟩
  rintro ⟨a, b⟩
  rcases Nat.eq_zero_or_pos n with g | g
  · rw [d5 g] at b; omega
  · exact d4 g a
theorem ext_snoc {s : ByteArray} {k : Nat} (hk : k < s.size) : s.extract 0 (k + 1) = s.extract 0 k ++ ⟨#[s[k]]⟩ := by
  apply baK
  rw [ByteArray.data_append, Array.toList_append, exK, exK, List.drop_zero, Nat.sub_zero, Nat.sub_zero, List.take_succ_eq_append_getElem (by rw [lenK]; exact hk)]
  rfl
theorem byte_back {s : ByteArray} {k : Nat} (hk : k < s.size) (h : 48 ≤ byK s k) : (48 + (byK s k - 48)).toUInt8 = s[k] := by
  apply UInt8.toNat_inj.1
  rw [byK_in hk] at h ⊢
  have := s[k].toNat_lt
  show (48 + (s[k].toNat - 48)) % 256 = s[k].toNat
  omega
/-- a number that is read, written in decimal, is what it was -/
theorem num_dec {s : ByteArray} (h0 : byK s 0 ≠ 48) : ∀ k, k + 1 ≤ s.size → digsTo s (k + 1) → decB (numK s (k + 1)) = s.extract 0 (k + 1) ∧ 1 ≤ numK s (k + 1)
  | 0, hk, hd => by
    have hb := hd 0 (by omega)
    have hv : numK s 1 = byK s 0 - 48 := by show 10 * 0 + (byK s 0 - 48) = _; omega
    have e0 : s.extract 0 0 = ByteArray.empty := baK (by rw [exK]; simp)
    rw [hv, decB_one (by omega), ext_snoc hk, byte_back hk hb.1, e0]
    exact ⟨baK (by simp), by omega⟩
  | k + 1, hk, hd => by
    obtain ⟨i1, i2⟩ := num_dec h0 k (by omega) (fun i hi => hd i (by omega))
    have hb := hd (k + 1) (by omega)
    have hv : numK s (k + 2) = 10 * numK s (k + 1) + (byK s (k + 1) - 48) := rfl
    rw [hv, decB_step (by omega), show (10 * numK s (k + 1) + (byK s (k + 1) - 48)) / 10 = numK s (k + 1) by omega, i1, show (10 * numK s (k + 1) + (byK s (k + 1) - 48)) % 10 = byK s (k + 1) - 48 by omega, byte_back (by omega) hb.1, ext_snoc (k := k + 1) (by omega)]
    exact ⟨rfl, by omega⟩
theorem ext_all (s : ByteArray) : s.extract 0 s.size = s := baK (by rw [exK, List.drop_zero, Nat.sub_zero, List.take_of_length_le (by rw [lenK]; exact Nat.le_refl _)])
theorem numP_dec {h : ByteArray} (hp : numP h) : decB (numK h h.size) = h := by
  obtain ⟨p1, p2, p3, p4⟩ := hp
  by_cases h0 : byK h 0 = 48
  · have hs : h.size = 1 := by
      rcases Nat.lt_or_ge 1 h.size with g | g
      · exact absurd ⟨h0, g⟩ p3
      · omega
    have hv : numK h 1 = 0 := by show 10 * 0 + (byK h 0 - 48) = 0; omega
    have e := ext_snoc (s := h) (k := 0) (by omega)
    have hb := byte_back (s := h) (k := 0) (by omega) (by omega)
    have e0 : h.extract 0 0 = ByteArray.empty := baK (by rw [exK]; simp)
    rw [hs, hv, decB_one (by omega), ← ext_all h, hs, e, ← hb, h0, e0]
    exact baK (by simp)
  · obtain ⟨k, hk⟩ : ∃ k, h.size = k + 1 := ⟨h.size - 1, by omega⟩
    have := (num_dec h0 k (by omega) (fun i hi => p4 i (by omega))).1
    rw [← hk] at this
    rw [this, ext_all]
theorem ext_joinK (s : ByteArray) {a b c : Nat} (h1 : a ≤ b) (h2 : b ≤ c) : s.extract a b ++ s.extract b c = s.extract a c := by
  apply baK
  rw [ByteArray.data_append, Array.toList_append, exK, exK, exK]
  rw [show c - a = (b - a) + (c - b) by omega, List.take_add, List.drop_drop, show a + (b - a) = b by omega]
theorem ext_ten {s : ByteArray} (h : posB s 10 < s.size) : s.extract (posB s 10) (posB s 10 + 1) = ⟨#[10]⟩ := by
  apply baK
  rw [exK, show posB s 10 + 1 - posB s 10 = 1 by omega, List.drop_eq_getElem_cons (by rw [lenK]; exact h)]
  have := posB_is h
  simp only [List.take_succ_cons, List.take_zero]
  congr 1
/-- what is read, written again, has just its bytes -/
theorem pk_back : ∀ (f : Nat) (s : ByteArray) (ts : List ByteArray), pk f s = some ts → packL (ts.map objK) = s
  | 0, s, ts, h => by cases h
  | f + 1, s, ts, h => by
    by_cases h0 : s.size = 0
    · rw [pk_nil h0] at h
      injection h with h
      subst h
      apply baK
      have := List.eq_nil_of_length_eq_zero ((lenK s).trans h0)
      rw [this]
      simp [packL]
    · obtain ⟨hp, _⟩ := pk_some h0 h
      rw [pk_step h0 hp] at h
      obtain ⟨r, hr, rfl⟩ := Option.map_eq_some_iff.1 h
      have ih := pk_back f _ r hr
      obtain ⟨e1, e2⟩ := hd_yes hp.1
      have hh := hp.1
      have hsz := hp.2
      obtain ⟨q1, q2⟩ := hh
      have hz : (s.extract 0 (posB s 10)).size = posB s 10 := by rw [ByteArray.size_extract]; omega
      have hd := numP_dec q2
      rw [hz, numK_cut s _ (by omega) _ (Nat.le_refl _), ← e1] at hd
      have hx : (s.extract (hdE s) (hdE s + hdV s)).size = hdV s := by rw [ByteArray.size_extract]; omega
      show pieceT (s.extract (hdE s) (hdE s + hdV s)) ++ packL (r.map objK) = s
      rw [ih]
      unfold pieceT
      rw [hx, hd, ← ext_ten q1, ext_joinK s (by omega) (by omega), e2, ext_joinK s (by omega) (by omega), ext_joinK s (by omega) (by omega), ext_all]
/-- right objects come back -/
theorem pk_there : ∀ (l : List Pr), (∀ p ∈ l, p.2.size ≤ 2000) → ∀ f, l.length < f → pk f (packL l) = some (l.map (·.2))
  | [], _, f, hf => by
    obtain ⟨f, rfl⟩ : ∃ g, f = g + 1 := ⟨f - 1, by simp at hf; omega⟩
    exact pk_nil (by simp [packL])
  | p :: r, hl, f, hf => by
    obtain ⟨f, rfl⟩ : ∃ g, f = g + 1 := ⟨f - 1, by simp at hf; omega⟩
    have ih := pk_there r (fun q hq => hl q (List.mem_cons_of_mem _ hq)) f (by simp at hf; omega)
    have ht := hl p (List.mem_cons_self ..)
    obtain ⟨d1, d2, d3, _, _⟩ := dec_read p.2.size
    have hnp := dec_numP ht
    have hs0 : packL (p :: r) = decB p.2.size ++ (⟨#[10]⟩ ++ (p.2 ++ packL r)) := baK (by simp [packL, pieceT])
    have hsz : (packL (p :: r)).size = (decB p.2.size).size + (1 + (p.2.size + (packL r).size)) := by
      rw [hs0]
      simp only [ByteArray.size_append]
      rfl
    have hsl : (packL (p :: r)).data.toList = (decB p.2.size).data.toList ++ (10 :: (p.2.data.toList ++ (packL r).data.toList)) := by rw [hs0]; simp
    generalize hg : packL (p :: r) = s at *
    generalize hd : decB p.2.size = d at *
    have hk : d.size < s.size := by omega
    have hten : s[d.size] = 10 := by
      have e : s.data.toList[d.size]'(by rw [lenK]; exact hk) = 10 := by
        simp only [hsl]
        rw [List.getElem_append_right (by rw [lenK]; exact Nat.le_refl _)]
        simp
      exact e
    have hby : ∀ j, j < d.size → byK s j = byK d j := fun j hj => by rw [hs0]; exact byK_left _ _ _ hj
    have hpos : posB s 10 = d.size := posB_hit hk hten (fun j hj hjd => by
      have := (d1 j hjd).1
      rw [← hby j hjd, byK_in hj] at this
      intro hc
      rw [hc] at this
      exact absurd this (by decide))
    have hex : s.extract 0 d.size = d := baK (by rw [exK, List.drop_zero, Nat.sub_zero, hsl]; exact List.take_left' (lenK d))
    have hh : headP s := ⟨by omega, by rw [hpos, hex]; exact hnp⟩
    obtain ⟨e1, e2⟩ := hd_yes hh
    have hv : hdV s = p.2.size := by rw [e1, hpos, hs0, numK_left _ _ _ (Nat.le_refl _), d2]
    rw [hpos] at e2
    have hpp : pieceP s := ⟨hh, by rw [e2, hv]; omega⟩
    have x1 : s.extract (hdE s) (hdE s + hdV s) = p.2 := baK (by
      rw [exK, e2, hv, Nat.add_sub_cancel_left, hsl, show d.size + 1 = d.data.toList.length + 1 by rw [lenK], ← List.drop_drop, List.drop_left' rfl]
      simp only [List.drop_succ_cons, List.drop_zero]
      exact List.take_left' (lenK _))
    have x2 : s.extract (hdE s + hdV s) s.size = packL r := baK (by
      rw [exK, e2, hv, hsl, show d.size + 1 + p.2.size = d.data.toList.length + (1 + p.2.data.toList.length) by rw [lenK, lenK]; omega, ← List.drop_drop, List.drop_left' rfl, ← List.drop_drop]
      simp only [List.drop_succ_cons, List.drop_zero]
      rw [List.drop_left' rfl, List.take_of_length_le (by rw [lenK, lenK, lenK]; omega)])
    rw [pk_step (by omega) hpp, x1, x2, ih]
    rfl
theorem packL_long : ∀ l : List Pr, l.length ≤ (packL l).size
  | [] => by simp
  | p :: r => by
    have := packL_long r
    have h1 : (ByteArray.mk #[10]).size = 1 := rfl
    simp only [packL, pieceT, ByteArray.size_append, List.length_cons]
    omega
theorem objs_back {l : List Pr} (h : objsB l = true) : (l.map (·.2)).map objK = l := by
  obtain ⟨_, h2, _⟩ := objsB_iff.1 h
  rw [List.map_map]
  apply List.ext_getElem (by simp)
  intro i h1 h3
  obtain ⟨a, b⟩ := h2 i h3 h3
  simp only [List.getElem_map, Function.comp, objK]
  rw [idT_in a, b]
theorem rp_there {l : List Pr} (h : objsB l = true) : rpB (packL l) = true ∧ rpL (packL l) = l := by
  have h1 : pkL (packL l) = some (l.map (·.2)) := pk_there l (objs_texts h) _ (by have := packL_long l; omega)
  have h2 := rp_yes h1 (by rw [objs_back h]; exact h)
  rw [objs_back h] at h2
  exact h2
theorem rp_back {s : ByteArray} (h : rpB s = true) : packT (rpL s) = s := by
  by_cases hp : rpP s
  · obtain ⟨ts, h1, h2⟩ := hp
    rw [(rp_yes h1 h2).2, packT_yes h2]
    exact pk_back _ _ _ h1
  · rw [(rp_no hp).1] at h; cases h
end Go.Proofs.YtlipefnaeblhfaaDoor
