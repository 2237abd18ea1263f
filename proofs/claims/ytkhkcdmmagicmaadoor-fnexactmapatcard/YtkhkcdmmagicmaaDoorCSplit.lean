/-
  What stands between blanks: as a list, and of a right commit's first line. Plain mathematics.
-/
import Derived.Test.YtkhkcdmmagicmaaDoorCRdM
namespace Go.Proofs.YtkhkcdmmagicmaaDoor
open Go.RowKit

theorem cutA_rest {s : ByteArray} {c : UInt8} (h : (cutS s c).2.2 = true) : (cutS s c).1.size + 1 + (cutS s c).2.1.size = s.size := by
  unfold cutS at h ⊢
  have := posB_le s c
  split at h
  · rename_i hp
    simp only [if_pos hp, ByteArray.size_extract]
    omega
  · simp at h
theorem cutA_one {s : ByteArray} {c : UInt8} : (cutS s c).1.size ≤ s.size ∧ (cutS s c).2.1.size ≤ s.size := by
  unfold cutS
  split
  · simp only [ByteArray.size_extract]; omega
  · simp
theorem cutA_app {a b : ByteArray} {c : UInt8} (h : ∀ x ∈ a.data.toList, x ≠ c) : cutS (a ++ ⟨#[c]⟩ ++ b) c = (a, b, true) := by
  have hl : (a ++ ⟨#[c]⟩ ++ b).data.toList = a.data.toList ++ (c :: b.data.toList) := by simp [ByteArray.data_append]
  have hp : posB (a ++ ⟨#[c]⟩ ++ b) c = a.size := by
    unfold posB
    rw [hl, List.findIdx_append]
    have : List.findIdx (fun x => x == c) a.data.toList = a.data.toList.length := by
      rw [List.findIdx_eq_length]
      intro x hx
      exact beq_eq_false_iff_ne.2 (h x hx)
    have hc0 : List.findIdx (fun x => x == c) (c :: b.data.toList) = 0 := by rw [List.findIdx_cons]; simp
    rw [this, if_neg (Nat.lt_irrefl _), hc0, Nat.zero_add]
    rfl
  have hz : (a ++ ⟨#[c]⟩ ++ b).size = a.size + 1 + b.size := by
    simp only [ByteArray.size_append]; rfl
  rw [cutS_yes (by rw [hp, hz]; omega), hp, hz]
  have e1 : (a ++ ⟨#[c]⟩ ++ b).extract 0 a.size = a := by
    apply Go.WideShapes.bytes_inj
    rw [ByteArray.data_extract, Array.toList_extract, hl]
    show List.take (a.size - 0) (List.drop 0 (a.data.toList ++ c :: b.data.toList)) = a.data.toList
    rw [List.drop_zero, Nat.sub_zero]
    exact List.take_left' rfl
  have e2 : (a ++ ⟨#[c]⟩ ++ b).extract (a.size + 1) (a.size + 1 + b.size) = b := by
    apply Go.WideShapes.bytes_inj
    rw [ByteArray.data_extract, Array.toList_extract, hl]
    show List.take (a.size + 1 + b.size - (a.size + 1)) (List.drop (a.size + 1) (a.data.toList ++ c :: b.data.toList)) = b.data.toList
    rw [show a.data.toList ++ c :: b.data.toList = (a.data.toList ++ [c]) ++ b.data.toList by simp, List.drop_left' (by rw [List.length_append]; rfl), Nat.add_sub_cancel_left]
    exact List.take_of_length_le (Nat.le_refl _)
  rw [e1, e2]
/-- what stands between blanks -/
def splitF : Nat → ByteArray → List ByteArray
  | 0, s => [s]
  | n + 1, s => if (cutS s 32).2.2 = true then (cutS s 32).1 :: splitF n (cutS s 32).2.1 else [(cutS s 32).1]
theorem splitF_more {n : Nat} {s : ByteArray} (h : (cutS s 32).2.2 = true) : splitF (n + 1) s = (cutS s 32).1 :: splitF n (cutS s 32).2.1 := by rw [splitF, if_pos h]
theorem splitF_last {n : Nat} {s : ByteArray} (h : (cutS s 32).2.2 = false) : splitF (n + 1) s = [(cutS s 32).1] := by rw [splitF, h]; rfl
theorem cut_none {s : ByteArray} {c : UInt8} (h : ∀ x ∈ s.data.toList, x ≠ c) : cutS s c = (s, ByteArray.empty, false) := by
  refine cutS_no fun hp => ?_
  have hp' : List.findIdx (fun x => x == c) s.data.toList < s.data.toList.length := hp
  have hc : s.data.toList[List.findIdx (fun x => x == c) s.data.toList] = c := by
    have := List.findIdx_getElem (w := hp')
    simpa using this
  exact h _ (List.getElem_mem hp') hc
theorem split_one {n : Nat} {s : ByteArray} (h : ∀ x ∈ s.data.toList, x ≠ 32) : splitF n s = [s] := by
  cases n with
  | zero => rfl
  | succ n => rw [splitF_last (by rw [cut_none h]), cut_none h]
theorem split_step {n : Nat} {a b : ByteArray} (h : ∀ x ∈ a.data.toList, x ≠ 32) : splitF (n + 1) (a ++ ⟨#[32]⟩ ++ b) = a :: splitF n b := by
  rw [splitF_more (by rw [cutA_app h]), cutA_app h]
/-- the parents, each with a blank ahead -/
def blanks : List ByteArray → ByteArray
  | [] => ByteArray.empty
  | p :: r => ⟨#[32]⟩ ++ p ++ blanks r
theorem split_all : ∀ (l : List ByteArray) (n : Nat) (t : ByteArray), l.length ≤ n → (∀ x ∈ t.data.toList, x ≠ 32) → (∀ p ∈ l, ∀ x ∈ p.data.toList, x ≠ 32) → splitF n (t ++ blanks l) = t :: l
  | [], n, t, _, ht, _ => by
    have : t ++ blanks [] = t := ba_ext (by simp [blanks])
    rw [this]
    exact split_one ht
  | p :: r, 0, t, hn, _, _ => by simp at hn
  | p :: r, n + 1, t, hn, ht, hp => by
    have e : t ++ blanks (p :: r) = t ++ ⟨#[32]⟩ ++ (p ++ blanks r) := ba_ext (by simp [blanks])
    rw [e, split_step ht, split_all r n p (by simpa using hn) (hp p (List.mem_cons_self ..)) (fun q hq => hp q (List.mem_cons_of_mem _ hq))]
theorem blanks_list : ∀ (l : List ByteArray), (blanks l).data.toList = l.flatMap fun p => 32 :: p.data.toList
  | [] => by simp [blanks]
  | p :: r => by simp [blanks, blanks_list r]
open Classical in
theorem hex_bytes {s : ByteArray} (h : QI.idB s = true) : ∀ x ∈ s.data.toList, x ≠ 32 ∧ x ≠ 10 := by
  intro x hx
  obtain ⟨i, hi, e⟩ := List.getElem_of_mem hx
  unfold QI.idB at h
  have h1 := (of_decide_eq_true h).2 i hi hi
  rw [show s[i] = x from e] at h1
  constructor <;> (rintro rfl; exact absurd h1 (by decide))
/-- the first line of a right commit's text, parted -/
theorem com_head {c : Com} (h : comB c.1 c.2.1 c.2.2 = true) : cutS (textC c.1 c.2.1 c.2.2) 10 = (⟨#[99, 111, 109, 109, 105, 116]⟩ ++ blanks (c.1 :: c.2.1), c.2.2, true) ∧ ∀ n, 3 ≤ n → splitF n (⟨#[99, 111, 109, 109, 105, 116]⟩ ++ blanks (c.1 :: c.2.1)) = ⟨#[99, 111, 109, 109, 105, 116]⟩ :: c.1 :: c.2.1 := by
  have h0 := h
  unfold comB at h
  rw [Bool.and_eq_true, Bool.and_eq_true] at h
  obtain ⟨⟨h1, h2⟩, _⟩ := h
  obtain ⟨h3, h4⟩ := parB_iff.1 h2
  have hall : ∀ p ∈ c.1 :: c.2.1, ∀ x ∈ p.data.toList, x ≠ 32 ∧ x ≠ 10 := by
    intro p hp
    rcases List.mem_cons.1 hp with rfl | hp
    · exact hex_bytes h1
    · obtain ⟨i, hi, rfl⟩ := List.mem_iff_getElem.1 hp
      exact hex_bytes (h4.1 i hi hi)
  constructor
  · have e : textC c.1 c.2.1 c.2.2 = (⟨#[99, 111, 109, 109, 105, 116]⟩ ++ blanks (c.1 :: c.2.1)) ++ ⟨#[10]⟩ ++ c.2.2 := ba_ext (by
      rw [textC_list, tail_flat]
      simp [blanks_list, comW])
    rw [e]
    refine cutA_app fun x hx => ?_
    simp only [ByteArray.data_append, Array.toList_append, List.mem_append, blanks_list, List.mem_flatMap, List.mem_cons] at hx
    rcases hx with hx | ⟨p, hp, hx | hx⟩
    · simp at hx; rcases hx with rfl | rfl | rfl | rfl | rfl | rfl <;> decide
    · subst hx; decide
    · exact (hall p (List.mem_cons.2 hp) x hx).2
  · intro n hn
    refine split_all (c.1 :: c.2.1) n _ (by simp; omega) ?_ (fun p hp x hx => (hall p hp x hx).1)
    intro x hx
    simp at hx
    rcases hx with rfl | rfl | rfl | rfl | rfl | rfl <;> decide
end Go.Proofs.YtkhkcdmmagicmaaDoor
