/-
  A right map comes back from its text; what is read, written again, has just its bytes.
-/
import Derived.Test.YtmbajcppjhfpeaaPRead
import Derived.Test.YtmbajcppjhfpeaaPText
import Derived.Test.YtmbajcppjhfpeaaPAlg
namespace Go.Proofs.Ytmbajcppjhfpeaa
open Go.RowKit

theorem cut_join {s : ByteArray} {c : UInt8} (h : (cutS s c).2.2 = true) : (cutS s c).1 ++ ⟨#[c]⟩ ++ (cutS s c).2.1 = s := by
  by_cases hp : posB s c < s.size
  · rw [cutS_yes hp]
    apply Go.WideShapes.bytes_inj
    have hp' : List.findIdx (fun x => x == c) s.data.toList < s.data.toList.length := hp
    have hc : s.data.toList[List.findIdx (fun x => x == c) s.data.toList] = c := by
      have := List.findIdx_getElem (w := hp')
      simpa using this
    have e1 : (s.extract 0 (posB s c)).data.toList = s.data.toList.take (posB s c) := by simp
    have e2 : (s.extract (posB s c + 1) s.size).data.toList = s.data.toList.drop (posB s c + 1) := by
      simp
      exact List.take_of_length_le (by rw [List.length_drop]; exact Nat.le_refl _)
    simp only [ByteArray.data_append, Array.toList_append, e1, e2]
    have e3 : s.data.toList.take (posB s c) ++ [c] ++ s.data.toList.drop (posB s c + 1) = s.data.toList := by
      have : posB s c = List.findIdx (fun x => x == c) s.data.toList := rfl
      rw [this]
      conv => rhs; rw [← List.take_append_drop (List.findIdx (fun x => x == c) s.data.toList) s.data.toList, List.drop_eq_getElem_cons hp', hc]
      simp
    exact e3
  · rw [cutS_no hp] at h; simp at h
theorem cut_app {a b : ByteArray} {c : UInt8} (h : ∀ x ∈ a.data.toList, x ≠ c) : cutS (a ++ ⟨#[c]⟩ ++ b) c = (a, b, true) := by
  have hl : (a ++ ⟨#[c]⟩ ++ b).data.toList = a.data.toList ++ (c :: b.data.toList) := by simp [ByteArray.data_append]
  have hp : posB (a ++ ⟨#[c]⟩ ++ b) c = a.size := by
    unfold posB
    rw [hl, List.findIdx_append]
    have : List.findIdx (fun x => x == c) a.data.toList = a.data.toList.length := by
      rw [List.findIdx_eq_length]
      intro x hx
      exact beq_eq_false_iff_ne.2 (h x hx)
    have hc0 : List.findIdx (fun x => x == c) (c :: b.data.toList) = 0 := by rw [List.findIdx_cons]; simp
    rw [this, if_neg (Nat.lt_irrefl _), hc0, Nat.zero_add]
    rfl
  have hz : (a ++ ⟨#[c]⟩ ++ b).size = a.size + 1 + b.size := by
    simp only [ByteArray.size_append]; rfl
  rw [cutS_yes (by rw [hp, hz]; omega), hp, hz]
  have e1 : (a ++ ⟨#[c]⟩ ++ b).extract 0 a.size = a := by
    apply Go.WideShapes.bytes_inj
    rw [ByteArray.data_extract, Array.toList_extract, hl]
    show List.take (a.size - 0) (List.drop 0 (a.data.toList ++ c :: b.data.toList)) = a.data.toList
    rw [List.drop_zero, Nat.sub_zero]
    exact List.take_left' rfl
  have e2 : (a ++ ⟨#[c]⟩ ++ b).extract (a.size + 1) (a.size + 1 + b.size) = b := by
    apply Go.WideShapes.bytes_inj
    rw [ByteArray.data_extract, Array.toList_extract, hl]
    show List.take (a.size + 1 + b.size - (a.size + 1)) (List.drop (a.size + 1) (a.data.toList ++ c :: b.data.toList)) = b.data.toList
    rw [show a.data.toList ++ c :: b.data.toList = (a.data.toList ++ [c]) ++ b.data.toList by simp, List.drop_left' (by rw [List.length_append]; rfl), Nat.add_sub_cancel_left]
    exact List.take_of_length_le (Nat.le_refl _)
  rw [e1, e2]

/-- what is read, written again -/
theorem lines_text : ∀ (n : Nat) (s : ByteArray), s.size ≤ n → (linesS s).2 = true → (linesS s).1.all parted = true → textOf ((linesS s).1.map pairOf) = s
  | n, s, hn, he, hp => by
    by_cases h0 : s.size = 0
    · rw [linesS_none h0, size_zero h0]; rfl
    · cases hc : (cutS s 10).2.2
      · rw [linesS_last h0 hc] at he; simp at he
      · have hr := cutS_rest hc
        rw [linesS_more h0 hc] at he hp ⊢
        simp only [List.all_cons, Bool.and_eq_true] at hp
        match n, hn with
        | 0, hn => exact absurd (Nat.le_zero.1 hn) h0
        | n + 1, hn =>
          have ih := lines_text n (cutS s 10).2.1 (by omega) he hp.2
          rw [List.map_cons, textOf, ih]
          show (cutS (cutS s 10).1 61).1 ++ ⟨#[61]⟩ ++ (cutS (cutS s 10).1 61).2.1 ++ ⟨#[10]⟩ ++ (cutS s 10).2.1 = s
          rw [cut_join hp.1]
          exact cut_join hc
theorem read_text {s : ByteArray} (h : okR s = true) : mapTextS (readL s) = s := by
  have h' := h
  unfold okR at h'
  simp only [Bool.and_eq_true] at h'
  rw [readL_yes h, mapText_yes h'.2]
  exact lines_text s.size s (Nat.le_refl _) h'.1.2 h'.1.1

/-- a right map comes back from its text -/
theorem text_lines : ∀ (l : List Pr), (∀ p ∈ l, (∀ x ∈ p.1.data.toList, x ≠ 61 ∧ x ≠ 10) ∧ (∀ x ∈ p.2.data.toList, x ≠ 10)) → linesS (textOf l) = (l.map (fun p => p.1 ++ ⟨#[61]⟩ ++ p.2), true)
  | [], _ => by rw [textOf, linesS_none rfl]; rfl
  | p :: r, h => by
    have ih := text_lines r fun q hq => h q (List.mem_cons_of_mem _ hq)
    obtain ⟨h1, h2⟩ := h p List.mem_cons_self
    have hline : ∀ x ∈ (p.1 ++ ⟨#[61]⟩ ++ p.2).data.toList, x ≠ 10 := by
      intro x hx
      simp only [ByteArray.data_append, Array.toList_append, List.mem_append] at hx
      rcases hx with (hx | hx) | hx
      · exact (h1 x hx).2
      · have : x = 61 := by simpa using hx
        rw [this]; decide
      · exact h2 x hx
    have hcut : cutS (textOf (p :: r)) 10 = (p.1 ++ ⟨#[61]⟩ ++ p.2, textOf r, true) := by
      rw [textOf, lineS]
      exact cut_app hline
    have hsz : (textOf (p :: r)).size ≠ 0 := by
      intro h0
      have := cutS_rest (s := textOf (p :: r)) (c := 10) (by rw [hcut])
      omega
    rw [linesS_more hsz (by rw [hcut]), hcut]
    show ((p.1 ++ ⟨#[61]⟩ ++ p.2) :: (linesS (textOf r)).1, (linesS (textOf r)).2) = _
    rw [ih]
    rfl
theorem right_bytes {l : List Pr} (hm : mapB l = true) : ∀ p ∈ l, (∀ x ∈ p.1.data.toList, x ≠ 61 ∧ x ≠ 10) ∧ (∀ x ∈ p.2.data.toList, x ≠ 10) := by
  obtain ⟨_, b, _⟩ := mapB_all.1 hm
  intro p hp
  obtain ⟨h1, h2⟩ := b p hp
  have a1 := (okB_iff.1 h1).2.2
  have a2 := (okB_iff.1 h2).2.2
  constructor
  · intro x hx
    obtain ⟨i, hi, e⟩ := List.getElem_of_mem hx
    have h := a1 i hi hi
    rw [show p.1[i] = x from e] at h
    constructor <;> (rintro rfl; exact absurd h (by decide))
  · intro x hx
    obtain ⟨i, hi, e⟩ := List.getElem_of_mem hx
    have h := a2 i hi hi
    rw [show p.2[i] = x from e] at h
    rintro rfl
    exact absurd h (by decide)
theorem text_read {l : List Pr} (hm : mapB l = true) : okR (textOf l) = true ∧ readL (textOf l) = l := by
  have hb := right_bytes hm
  have hl := text_lines l hb
  have hmap : (linesS (textOf l)).1.map pairOf = l := by
    rw [hl]
    show (l.map (fun p => p.1 ++ ⟨#[61]⟩ ++ p.2)).map pairOf = l
    rw [List.map_map]
    conv => rhs; rw [← List.map_id l]
    apply List.map_congr_left
    intro p hp
    show ((cutS (p.1 ++ ⟨#[61]⟩ ++ p.2) 61).1, (cutS (p.1 ++ ⟨#[61]⟩ ++ p.2) 61).2.1) = p
    rw [cut_app fun x hx => ((hb p hp).1 x hx).1]
  have hok : okR (textOf l) = true := by
    refine okR_yes ?_ (by rw [hl]) (by rw [hmap]; exact hm)
    rw [hl]
    rw [List.all_eq_true]
    intro x hx
    obtain ⟨p, hp, rfl⟩ := List.mem_map.1 hx
    show (cutS (p.1 ++ ⟨#[61]⟩ ++ p.2) 61).2.2 = true
    rw [cut_app fun x hx => ((hb p hp).1 x hx).1]
  exact ⟨hok, by rw [readL_yes hok, hmap]⟩
end Go.Proofs.Ytmbajcppjhfpeaa
