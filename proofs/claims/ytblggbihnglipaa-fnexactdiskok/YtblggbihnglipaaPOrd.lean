/-
  The order of texts is a strict order without ends left open; where a key stands in a map, and what it has there. Plain mathematics.
-/
import Derived.Test.YtblggbihnglipaaPMath
import Derived.Lib.Bytealg
namespace Go.Proofs.Ytblggbihnglipaa
open Go.RowKit

theorem bl_irrefl : ∀ x : List UInt8, Op.bytesLess x x = false
  | [] => rfl
  | a :: x => by simp [Op.bytesLess, bl_irrefl x]
theorem bl_trans : ∀ x y z : List UInt8, Op.bytesLess x y = true → Op.bytesLess y z = true → Op.bytesLess x z = true
  | _, _, [], _, h => by simp [Op.bytesLess] at h
  | _, [], _ :: _, h, _ => by simp [Op.bytesLess] at h
  | [], _ :: _, _ :: _, _, _ => by simp [Op.bytesLess]
  | a :: x, b :: y, c :: z, h, k => by
    simp only [Op.bytesLess, Bool.or_eq_true, Bool.and_eq_true, decide_eq_true_eq, beq_iff_eq] at h k ⊢
    rcases h with h | ⟨rfl, h⟩
    · rcases k with k | ⟨rfl, k⟩
      · exact .inl (UInt8.lt_trans h k)
      · exact .inl h
    · rcases k with k | ⟨rfl, k⟩
      · exact .inl k
      · exact .inr ⟨rfl, bl_trans x y z h k⟩
theorem bl_tri : ∀ x y : List UInt8, Op.bytesLess x y = true ∨ x = y ∨ Op.bytesLess y x = true
  | [], [] => .inr (.inl rfl)
  | [], _ :: _ => .inl rfl
  | _ :: _, [] => .inr (.inr rfl)
  | a :: x, b :: y => by
    simp only [Op.bytesLess, Bool.or_eq_true, Bool.and_eq_true, decide_eq_true_eq, beq_iff_eq]
    by_cases h : a < b
    · exact .inl (.inl h)
    · by_cases k : b < a
      · exact .inr (.inr (.inl k))
      · obtain rfl : a = b := UInt8.le_antisymm (UInt8.not_lt.1 k) (UInt8.not_lt.1 h)
        rcases bl_tri x y with g | rfl | g
        · exact .inl (.inr ⟨rfl, g⟩)
        · exact .inr (.inl rfl)
        · exact .inr (.inr (.inr ⟨rfl, g⟩))
theorem cmp_bl : ∀ x y : List UInt8, (Lib.compareBytes x y < 0 ↔ Op.bytesLess x y = true) ∧ (Lib.compareBytes x y = 0 ↔ x = y)
  | [], [] => by simp [Lib.compareBytes, Op.bytesLess]
  | [], _ :: _ => by simp [Lib.compareBytes, Op.bytesLess]
  | _ :: _, [] => by simp [Lib.compareBytes, Op.bytesLess]
  | a :: x, b :: y => by
    obtain ⟨h1, h2⟩ := cmp_bl x y
    unfold Lib.compareBytes Op.bytesLess
    by_cases hlt : a < b
    · have hne : ¬ a = b := by rintro rfl; exact UInt8.lt_irrefl _ hlt
      simp [hlt, hne]
    · by_cases hgt : b < a
      · have hne : ¬ a = b := by rintro rfl; exact UInt8.lt_irrefl _ hgt
        simp [hlt, hgt, hne]
      · obtain rfl : a = b := UInt8.le_antisymm (UInt8.not_lt.1 hgt) (UInt8.not_lt.1 hlt)
        simp [UInt8.lt_irrefl, h1, h2]

theorem ltB_irrefl (a : ByteArray) : ltB a a = false := bl_irrefl _
theorem ltB_trans {a b c : ByteArray} (h : ltB a b = true) (k : ltB b c = true) : ltB a c = true := bl_trans _ _ _ h k
theorem toList_inj {a b : ByteArray} (e : a.toList = b.toList) : a = b := by
  rw [Go.ByteArray.toList_eq, Go.ByteArray.toList_eq] at e
  exact Go.WideShapes.bytes_inj e
theorem ltB_tri (a b : ByteArray) : ltB a b = true ∨ a = b ∨ ltB b a = true := by
  rcases bl_tri a.toList b.toList with h | h | h
  · exact .inl h
  · exact .inr (.inl (toList_inj h))
  · exact .inr (.inr h)
theorem ltB_asymm {a b : ByteArray} (h : ltB a b = true) : ltB b a = false := by
  cases e : ltB b a
  · rfl
  · have := ltB_trans h e; rw [ltB_irrefl] at this; cases this
/-- what strings.Compare says -/
def cmpS (a b : ByteArray) : Int := Lib.compareBytes a.data.toList b.data.toList
theorem cmpS_lt {a b : ByteArray} : cmpS a b < 0 ↔ ltB a b = true := by
  unfold cmpS ltB; rw [Go.ByteArray.toList_eq, Go.ByteArray.toList_eq]; exact (cmp_bl _ _).1
theorem cmpS_eq {a b : ByteArray} : cmpS a b = 0 ↔ a = b := by
  unfold cmpS; rw [(cmp_bl _ _).2]; exact ⟨fun h => Go.WideShapes.bytes_inj h, fun h => by rw [h]⟩

theorem rises_lt {l : List Pr} (h : risesTo l l.length) : ∀ j (hj : j < l.length) i (hi : i < j), ltB (l[i]'(by omega)).1 l[j].1 = true
  | 0, _, i, hi => absurd hi (by omega)
  | j + 1, hj, i, hi => by
    have h1 := h j hj hj
    rcases Nat.lt_or_ge i j with g | g
    · exact ltB_trans (rises_lt h j (by omega) i g) h1
    · obtain rfl : i = j := by omega
      exact h1

/-- how many keys at the head of l are less: where the key would stand -/
def atN : List Pr → ByteArray → Nat
  | [], _ => 0
  | p :: r, k => if ltB p.1 k = true then atN r k + 1 else 0
theorem atN_le : ∀ (l : List Pr) (k : ByteArray), atN l k ≤ l.length
  | [], _ => Nat.le_refl _
  | p :: r, k => by
    unfold atN
    have := atN_le r k
    split <;> simp <;> omega
theorem atN_lt : ∀ (l : List Pr) (k : ByteArray) (i : Nat) (_ : i < atN l k) (h' : i < l.length), ltB l[i].1 k = true
  | [], _, i, _, h' => absurd h' (by simp)
  | p :: r, k, i, h, h' => by
    unfold atN at h
    split at h
    next e =>
      cases i with
      | zero => exact e
      | succ i => exact atN_lt r k i (by omega) (by simpa using h')
    next => omega
theorem atN_not : ∀ (l : List Pr) (k : ByteArray) (h : atN l k < l.length), ltB l[atN l k].1 k = false
  | [], _, h => absurd h (by simp)
  | p :: r, k, h => by
    by_cases e : ltB p.1 k = true
    · have h1 : atN (p :: r) k = atN r k + 1 := by rw [atN, if_pos e]
      have h2 : atN r k < r.length := by rw [h1] at h; simpa using h
      have h3 := atN_not r k h2
      simp only [h1, List.getElem_cons_succ]
      exact h3
    · have h1 : atN (p :: r) k = 0 := by rw [atN, if_neg e]
      simp only [h1, List.getElem_cons_zero]
      simpa using e
/-- the place is known by what stands on both sides of it -/
theorem atN_eq {l : List Pr} {k : ByteArray} {n : Nat} (hn : n ≤ l.length) (h1 : ∀ i (h : i < l.length), i < n → ltB l[i].1 k = true) (h2 : ∀ (h : n < l.length), ltB l[n].1 k = false) : atN l k = n := by
  rcases Nat.lt_trichotomy (atN l k) n with g | g | g
  · have := atN_not l k (by omega)
    rw [h1 _ (by omega) g] at this
    cases this
  · exact g
  · have h3 : n < l.length := by have := atN_le l k; omega
    have := atN_lt l k n g h3
    rw [h2 h3] at this
    cases this

/-- is the key there? -/
def hasB (l : List Pr) (k : ByteArray) : Bool := if h : atN l k < l.length then decide (l[atN l k].1 = k) else false
theorem hasB_yes {l : List Pr} {k : ByteArray} (h : atN l k < l.length) (e : l[atN l k].1 = k) : hasB l k = true := by unfold hasB; rw [dif_pos h]; exact decide_eq_true e
theorem hasB_no {l : List Pr} {k : ByteArray} (h : atN l k < l.length) (e : ¬ l[atN l k].1 = k) : hasB l k = false := by unfold hasB; rw [dif_pos h]; exact decide_eq_false e
theorem hasB_end {l : List Pr} {k : ByteArray} (h : ¬ atN l k < l.length) : hasB l k = false := by unfold hasB; rw [dif_neg h]
theorem hasB_iff {l : List Pr} {k : ByteArray} : hasB l k = true ↔ ∃ h : atN l k < l.length, l[atN l k].1 = k := by
  unfold hasB
  split
  next h => rw [decide_eq_true_iff]; exact ⟨fun e => ⟨h, e⟩, fun ⟨_, e⟩ => e⟩
  next h => simp; intro x; exact absurd x h
/-- its value, or nothing -/
def valOf (l : List Pr) (k : ByteArray) : ByteArray := if h : atN l k < l.length then (if l[atN l k].1 = k then l[atN l k].2 else ByteArray.empty) else ByteArray.empty
theorem valOf_yes {l : List Pr} {k : ByteArray} (h : atN l k < l.length) (e : l[atN l k].1 = k) : valOf l k = l[atN l k].2 := by unfold valOf; rw [dif_pos h, if_pos e]
theorem valOf_no {l : List Pr} {k : ByteArray} (h : hasB l k = false) : valOf l k = ByteArray.empty := by
  unfold valOf
  split
  next h' =>
    split
    next e => rw [hasB_yes h' e] at h; cases h
    next => rfl
  next => rfl
/-- what Get tells -/
noncomputable def getB (l : List Pr) (k : ByteArray) : Bool := mapB l && hasB l k
noncomputable def getV (l : List Pr) (k : ByteArray) : ByteArray := if mapB l = true then valOf l k else ByteArray.empty
end Go.Proofs.Ytblggbihnglipaa
