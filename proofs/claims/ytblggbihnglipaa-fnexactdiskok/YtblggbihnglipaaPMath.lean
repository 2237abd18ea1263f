/-
  Plain mathematics of texts and maps, for the walks of this seat: which texts are keys and values, which lists of pairs are right maps. No Go in it.
-/
import Derived.Below
import GoSem.Claim
import Derived.Laws.Strings
import Derived.WideShapes
namespace Go.Proofs.Ytblggbihnglipaa
open Go.RowKit

theorem hide {p : Prop} (h : p) : Hid p := h
theorem ret_bool {a b : Bool} (h : a = b) : Ending.returned (.bool a) = .returned (.bool b) := by rw [h]
theorem ret_int {k : IntKind} {a b : Int} (h : a = b) : Ending.returned (.int k a) = .returned (.int k b) := by rw [h]
theorem ret_ib {k : IntKind} {a b : Int} {c d : Bool} (h : a = b) (h' : c = d) : Ending.returned (.tuple #[.int k a, .bool c]) = .returned (.tuple #[.int k b, .bool d]) := by rw [h, h']
theorem ret_sb {a b : ByteArray} {c d : Bool} (h : a = b) (h' : c = d) : Ending.returned (.tuple #[.string a, .bool c]) = .returned (.tuple #[.string b, .bool d]) := by rw [h, h']
theorem ret_str {a b : ByteArray} (h : a = b) : Ending.returned (.string a) = .returned (.string b) := by rw [h]

theorem eqS_yes {a b : ByteArray} (h : a = b) : (a.toList == b.toList) = true := by simp [h]
theorem eqS_no {a b : ByteArray} (h : ¬ a = b) : (a.toList == b.toList) = false := by
  rw [beq_eq_false_iff_ne]
  intro e
  rw [Go.ByteArray.toList_eq, Go.ByteArray.toList_eq] at e
  exact h (Go.WideShapes.bytes_inj e)

/-- the first k bytes of s meet p -/
def allTo (p : Int → Bool) (s : ByteArray) (k : Nat) : Prop := ∀ j (h : j < s.size), j < k → p (s[j].toNat : Int) = true
theorem allTo_zero (p : Int → Bool) (s : ByteArray) : allTo p s 0 := fun _ _ h => absurd h (by omega)
theorem allTo_succ {p : Int → Bool} {s : ByteArray} {k : Nat} (hk : k < s.size) (h : allTo p s k) (hc : p (s[k].toNat : Int) = true) : allTo p s (k + 1) := by
  intro j hj hlt
  rcases Nat.lt_or_ge j k with h1 | h1
  · exact h j hj h1
  · obtain rfl : j = k := by omega
    exact hc

open Classical in
/-- lo .. hi bytes, each of which meets p -/
noncomputable def okB (lo hi : Int) (p : Int → Bool) (s : ByteArray) : Bool := decide (lo ≤ (s.size : Int) ∧ (s.size : Int) ≤ hi ∧ allTo p s s.size)
open Classical in
theorem okB_iff {lo hi : Int} {p : Int → Bool} {s : ByteArray} : okB lo hi p s = true ↔ lo ≤ (s.size : Int) ∧ (s.size : Int) ≤ hi ∧ allTo p s s.size := by unfold okB; exact decide_eq_true_iff
theorem okB_yes {lo hi : Int} {p : Int → Bool} {s : ByteArray} (h : lo ≤ (s.size : Int)) (h' : (s.size : Int) ≤ hi) (k : allTo p s s.size) : okB lo hi p s = true := okB_iff.2 ⟨h, h', k⟩
theorem okB_len {lo hi : Int} {p : Int → Bool} {s : ByteArray} (h : (s.size : Int) < lo ∨ hi < (s.size : Int)) : okB lo hi p s = false := by
  cases e : okB lo hi p s
  · rfl
  · have := okB_iff.1 e; omega
theorem okB_bad {lo hi : Int} {p : Int → Bool} {s : ByteArray} {k : Nat} (hk : k < s.size) (h : p (s[k].toNat : Int) = false) : okB lo hi p s = false := by
  cases e : okB lo hi p s
  · rfl
  · have := (okB_iff.1 e).2.2 k hk hk; rw [h] at this; cases this

/-- a letter a .. z or a digit -/
def keyC (c : Int) : Bool := (decide (97 ≤ c) && decide (c ≤ 122)) || (decide (48 ≤ c) && decide (c ≤ 57))
theorem keyC_yes {c : Int} (h : (97 ≤ c ∧ c ≤ 122) ∨ (48 ≤ c ∧ c ≤ 57)) : keyC c = true := by
  unfold keyC; rcases h with ⟨a, b⟩ | ⟨a, b⟩ <;> simp [a, b]
theorem keyC_no {c : Int} (h : (c < 97 ∨ 122 < c) ∧ (c < 48 ∨ 57 < c)) : keyC c = false := by
  unfold keyC; obtain ⟨a, b⟩ := h; rw [Bool.or_eq_false_iff, Bool.and_eq_false_iff, Bool.and_eq_false_iff]; simp; omega
/-- a digit 0 .. 9, a .. f -/
def hexC (c : Int) : Bool := (decide (97 ≤ c) && decide (c ≤ 102)) || (decide (48 ≤ c) && decide (c ≤ 57))
theorem hexC_yes {c : Int} (h : (97 ≤ c ∧ c ≤ 102) ∨ (48 ≤ c ∧ c ≤ 57)) : hexC c = true := by
  unfold hexC; rcases h with ⟨a, b⟩ | ⟨a, b⟩ <;> simp [a, b]
theorem hexC_no {c : Int} (h : (c < 97 ∨ 102 < c) ∧ (c < 48 ∨ 57 < c)) : hexC c = false := by
  unfold hexC; obtain ⟨a, b⟩ := h; rw [Bool.or_eq_false_iff, Bool.and_eq_false_iff, Bool.and_eq_false_iff]; simp; omega
/-- a byte 32 .. 126 -/
def plainC (c : Int) : Bool := decide (32 ≤ c) && decide (c ≤ 126)
theorem plainC_yes {c : Int} (h : 32 ≤ c) (h' : c ≤ 126) : plainC c = true := by unfold plainC; simp [h, h']
theorem plainC_no {c : Int} (h : c < 32 ∨ 126 < c) : plainC c = false := by unfold plainC; rw [Bool.and_eq_false_iff]; simp; omega

theorem five (c hi : Int) : c < 48 ∨ (48 ≤ c ∧ c ≤ 57) ∨ (57 < c ∧ c < 97) ∨ (97 ≤ c ∧ c ≤ hi) ∨ (97 ≤ c ∧ hi < c) := by omega

noncomputable def keyB (s : ByteArray) : Bool := okB 1 8 keyC s
noncomputable def plainB (s : ByteArray) (most : Int) : Bool := okB 0 most plainC s
noncomputable def valB (s : ByteArray) : Bool := plainB s 12
noncomputable def idB (s : ByteArray) : Bool := okB 16 16 hexC s

/-- the order of texts, byte by byte -/
def ltB (a b : ByteArray) : Bool := Op.bytesLess a.toList b.toList

/-- a map as a list of its pairs -/
abbrev Pr := ByteArray × ByteArray
def emp : Pr := (ByteArray.empty, ByteArray.empty)
def eqPr (p q : Pr) : Bool := decide (p = q)
theorem eqPr_yes {p q : Pr} (h : p = q) : eqPr p q = true := decide_eq_true h
theorem eqPr_no {p q : Pr} (h : ¬ p = q) : eqPr p q = false := decide_eq_false h
def eqL (l l' : List Pr) : Bool := decide (l = l')
theorem eqL_yes {p q : List Pr} (h : p = q) : eqL p q = true := decide_eq_true h
theorem eqL_no {p q : List Pr} (h : ¬ p = q) : eqL p q = false := decide_eq_false h
theorem eqL_self (p : List Pr) : eqL p p = true := eqL_yes rfl
/-- the first k pairs are right, and rise -/
def mapTo (l : List Pr) (k : Nat) : Prop :=
  (∀ i (h : i < l.length), i < k → keyB l[i].1 = true ∧ valB l[i].2 = true) ∧ ∀ i (h : i + 1 < l.length), i + 1 < k → ltB l[i].1 l[i + 1].1 = true
theorem mapTo_zero (l : List Pr) : mapTo l 0 := ⟨fun _ _ h => absurd h (by omega), fun _ _ h => absurd h (by omega)⟩
theorem mapTo_succ {l : List Pr} {k : Nat} (hk : k < l.length) (h : mapTo l k) (h1 : keyB l[k].1 = true) (h2 : valB l[k].2 = true) (h3 : ∀ (hp : 0 < k), ltB (l[k - 1]'(by omega)).1 l[k].1 = true) : mapTo l (k + 1) := by
  refine ⟨fun i hi hik => ?_, fun i hi hik => ?_⟩
  · rcases Nat.lt_or_ge i k with g | g
    · exact h.1 i hi g
    · obtain rfl : i = k := by omega
      exact ⟨h1, h2⟩
  · rcases Nat.lt_or_ge (i + 1) k with g | g
    · exact h.2 i hi g
    · obtain rfl : k = i + 1 := by omega
      simpa using h3 (by omega)
open Classical in
noncomputable def mapB (l : List Pr) : Bool := decide (l.length ≤ 40 ∧ mapTo l l.length)
open Classical in
theorem mapB_iff {l : List Pr} : mapB l = true ↔ l.length ≤ 40 ∧ mapTo l l.length := by unfold mapB; exact decide_eq_true_iff
theorem mapB_yes {l : List Pr} (h : l.length ≤ 40) (k : mapTo l l.length) : mapB l = true := mapB_iff.2 ⟨h, k⟩
theorem mapB_len {l : List Pr} (h : 40 < l.length) : mapB l = false := by
  cases e : mapB l
  · rfl
  · have := (mapB_iff.1 e).1; omega
theorem mapB_key {l : List Pr} {k : Nat} (hk : k < l.length) (h : keyB l[k].1 = false) : mapB l = false := by
  cases e : mapB l
  · rfl
  · have := ((mapB_iff.1 e).2.1 k hk hk).1; rw [h] at this; cases this
theorem mapB_val {l : List Pr} {k : Nat} (hk : k < l.length) (h : valB l[k].2 = false) : mapB l = false := by
  cases e : mapB l
  · rfl
  · have := ((mapB_iff.1 e).2.1 k hk hk).2; rw [h] at this; cases this
theorem mapB_rise {l : List Pr} {k : Nat} (hk : k + 1 < l.length) (h : ltB l[k].1 l[k + 1].1 = false) : mapB l = false := by
  cases e : mapB l
  · rfl
  · have := (mapB_iff.1 e).2.2 k hk hk; rw [h] at this; cases this
/-- pairs that are right, and do they rise: what the two loops of the program ask one behind the other -/
def pairsTo (l : List Pr) (k : Nat) : Prop := ∀ i (h : i < l.length), i < k → keyB l[i].1 = true ∧ valB l[i].2 = true
theorem pairsTo_zero (l : List Pr) : pairsTo l 0 := fun _ _ h => absurd h (by omega)
theorem pairsTo_succ {l : List Pr} {k : Nat} (hk : k < l.length) (h : pairsTo l k) (h1 : keyB l[k].1 = true) (h2 : valB l[k].2 = true) : pairsTo l (k + 1) := by
  intro i hi hik
  rcases Nat.lt_or_ge i k with g | g
  · exact h i hi g
  · obtain rfl : i = k := by omega
    exact ⟨h1, h2⟩
def risesTo (l : List Pr) (k : Nat) : Prop := ∀ i (h : i + 1 < l.length), i + 1 < k → ltB l[i].1 l[i + 1].1 = true
theorem risesTo_one (l : List Pr) : risesTo l 1 := fun _ _ h => absurd h (by omega)
theorem risesTo_succ {l : List Pr} {k : Nat} (hk : k + 1 < l.length) (h : risesTo l (k + 1)) (h1 : ltB l[k].1 l[k + 1].1 = true) : risesTo l (k + 2) := by
  intro i hi hik
  rcases Nat.lt_or_ge i k with g | g
  · exact h i hi (by omega)
  · obtain rfl : i = k := by omega
    exact h1
open Classical in
noncomputable def risesB (l : List Pr) : Bool := decide (risesTo l l.length)
open Classical in
theorem risesB_iff {l : List Pr} : risesB l = true ↔ risesTo l l.length := by unfold risesB; exact decide_eq_true_iff
theorem risesB_yes {l : List Pr} (h : risesTo l l.length) : risesB l = true := risesB_iff.2 h
theorem risesB_no {l : List Pr} {k : Nat} (hk : k + 1 < l.length) (h : ltB l[k].1 l[k + 1].1 = false) : risesB l = false := by
  cases e : risesB l
  · rfl
  · have := risesB_iff.1 e k hk hk; rw [h] at this; cases this
theorem mapB_of {l : List Pr} (h : l.length ≤ 40) (hp : pairsTo l l.length) : mapB l = risesB l := by
  cases e : risesB l
  · cases e' : mapB l
    · rfl
    · exact absurd (risesB_yes (mapB_iff.1 e').2.2) (by rw [e]; simp)
  · exact mapB_yes h ⟨hp, risesB_iff.1 e⟩
end Go.Proofs.Ytblggbihnglipaa
