/-
  Which texts are those of right commits, and of which. Plain mathematics.
-/
import Derived.Test.YtkhkcdmmagicmaaDoorCText
import Derived.Test.YtkhkcdmmagicmaaDoorPCut
namespace Go.Proofs.YtkhkcdmmagicmaaDoor
open Go.RowKit

/-- a commit: its tree, its parents, its note -/
abbrev Com := ByteArray × List ByteArray × ByteArray
/-- what stands behind a tree's id: each parent with a blank ahead, a byte 10, the note -/
def tailL : List ByteArray → ByteArray → List UInt8
  | [], m => 10 :: m.data.toList
  | p :: r, m => 32 :: (p.data.toList ++ tailL r m)
def comW : List UInt8 := [99, 111, 109, 109, 105, 116, 32]
theorem headTo_list (t : ByteArray) (l : List ByteArray) : ∀ k, k ≤ l.length → (headTo t l k).data.toList = comW ++ t.data.toList ++ (l.take k).flatMap fun p => 32 :: p.data.toList
  | 0, _ => by simp [headTo, comW]
  | k + 1, h => by
    rw [headTo_next (by omega), List.take_succ_eq_append_getElem (by omega), List.flatMap_append]
    simp [headTo_list t l k (by omega)]
theorem tail_flat : ∀ (l : List ByteArray) (m : ByteArray), tailL l m = (l.flatMap fun p => 32 :: p.data.toList) ++ 10 :: m.data.toList
  | [], m => rfl
  | p :: r, m => by rw [tailL, tail_flat r m]; simp
theorem textC_list (t : ByteArray) (l : List ByteArray) (m : ByteArray) : (textC t l m).data.toList = comW ++ (t.data.toList ++ tailL l m) := by
  unfold textC
  rw [tail_flat]
  simp [headTo_list t l l.length (Nat.le_refl _)]
/-- the text is that of this right commit -/
def isCom (s : ByteArray) (c : Com) : Prop := comB c.1 c.2.1 c.2.2 = true ∧ textC c.1 c.2.1 c.2.2 = s
theorem ba_ext {a b : ByteArray} (h : a.data.toList = b.data.toList) : a = b := Go.WideShapes.bytes_inj h
theorem isCom_list {s : ByteArray} {c : Com} (h : isCom s c) : s.data.toList = comW ++ (c.1.data.toList ++ tailL c.2.1 c.2.2) := by rw [← h.2, textC_list]
theorem com_parts {c : Com} (h : comB c.1 c.2.1 c.2.2 = true) : c.1.size = 16 ∧ c.2.1.length ≤ 2 ∧ (∀ p ∈ c.2.1, p.size = 16) := by
  unfold comB at h
  rw [Bool.and_eq_true, Bool.and_eq_true] at h
  obtain ⟨⟨h1, h2⟩, _⟩ := h
  obtain ⟨h3, h4⟩ := parB_iff.1 h2
  refine ⟨idB_sz h1, h3, fun p hp => ?_⟩
  obtain ⟨i, hi, rfl⟩ := List.mem_iff_getElem.1 hp
  exact idB_sz (h4.1 i hi hi)
theorem tail_inj : ∀ (l l' : List ByteArray) (m m' : ByteArray), (∀ p ∈ l, p.size = 16) → (∀ p ∈ l', p.size = 16) → tailL l m = tailL l' m' → l = l' ∧ m = m'
  | [], [], m, m', _, _, h => ⟨rfl, ba_ext (by simpa [tailL] using h)⟩
  | [], p :: r, m, m', _, _, h => by simp [tailL] at h
  | p :: r, [], m, m', _, _, h => by simp [tailL] at h
  | p :: r, p' :: r', m, m', h1, h2, h => by
    simp only [tailL, List.cons.injEq, true_and] at h
    have e1 : p.data.toList.length = p'.data.toList.length := by
      have a := h1 p (List.mem_cons_self ..)
      have b := h2 p' (List.mem_cons_self ..)
      simpa using a.trans b.symm
    obtain ⟨ha, hb⟩ := List.append_inj h e1
    obtain ⟨hc, hd⟩ := tail_inj r r' m m' (fun q hq => h1 q (List.mem_cons_of_mem _ hq)) (fun q hq => h2 q (List.mem_cons_of_mem _ hq)) hb
    exact ⟨by rw [ba_ext ha, hc], hd⟩
theorem isCom_one {s : ByteArray} {c c' : Com} (h : isCom s c) (h' : isCom s c') : c = c' := by
  have e := (isCom_list h).symm.trans (isCom_list h')
  have e2 := List.append_cancel_left e
  obtain ⟨s1, _, p1⟩ := com_parts h.1
  obtain ⟨s2, _, p2⟩ := com_parts h'.1
  obtain ⟨ha, hb⟩ := List.append_inj e2 (by simpa using s1.trans s2.symm)
  obtain ⟨hc, hd⟩ := tail_inj _ _ _ _ p1 p2 hb
  exact Prod.ext (ba_ext ha) (Prod.ext hc hd)
open Classical in
/-- what a text reads as -/
noncomputable def rdOk (s : ByteArray) : Bool := decide (∃ c, isCom s c)
open Classical in
noncomputable def rdC (s : ByteArray) : Com := if h : ∃ c, isCom s c then h.choose else (ByteArray.empty, [], ByteArray.empty)
open Classical in
theorem rd_yes {s : ByteArray} {c : Com} (h : isCom s c) : rdOk s = true ∧ rdC s = c := by
  have hx : ∃ c, isCom s c := ⟨c, h⟩
  refine ⟨decide_eq_true hx, ?_⟩
  unfold rdC
  rw [dif_pos hx]
  exact isCom_one hx.choose_spec h
open Classical in
theorem rd_no {s : ByteArray} (h : ¬ ∃ c, isCom s c) : rdOk s = false ∧ rdC s = (ByteArray.empty, [], ByteArray.empty) := by
  refine ⟨decide_eq_false h, ?_⟩
  unfold rdC
  rw [dif_neg h]
/-! ### as the program reads: what is left, and what all right commits of the text have in common so far -/
/-- behind the tree and these parents the rest is left -/
def Left (s t : ByteArray) (ps : List ByteArray) (r : List UInt8) : Prop :=
  s.data.toList = comW ++ (t.data.toList ++ ((ps.flatMap fun p => 32 :: p.data.toList) ++ r)) ∧ t.size = 16 ∧ (∀ p ∈ ps, p.size = 16) ∧ ∀ c, isCom s c → c.1 = t ∧ ∃ l2, c.2.1 = ps ++ l2 ∧ r = tailL l2 c.2.2
theorem left_tree {s t : ByteArray} {r : List UInt8} (h : s.data.toList = comW ++ (t.data.toList ++ r)) (ht : t.size = 16) : Left s t [] r := by
  refine ⟨by simpa using h, ht, fun p hp => by simp at hp, fun c hc => ?_⟩
  have e := (isCom_list hc).symm.trans h
  obtain ⟨s1, _, p1⟩ := com_parts hc.1
  obtain ⟨ha, hb⟩ := List.append_inj (List.append_cancel_left e) (by simpa using s1.trans ht.symm)
  exact ⟨ba_ext ha, c.2.1, rfl, hb.symm⟩
theorem left_parent {s t p : ByteArray} {ps : List ByteArray} {r : List UInt8} (h : Left s t ps (32 :: (p.data.toList ++ r))) (hp : p.size = 16) : Left s t (ps ++ [p]) r := by
  obtain ⟨h1, h2, h3, h4⟩ := h
  refine ⟨by rw [h1]; simp, h2, fun q hq => ?_, fun c hc => ?_⟩
  · rcases List.mem_append.1 hq with x | x
    · exact h3 q x
    · rw [List.mem_singleton.1 x]; exact hp
  · obtain ⟨e1, l2, e2, e3⟩ := h4 c hc
    refine ⟨e1, ?_⟩
    obtain ⟨_, _, p1⟩ := com_parts hc.1
    cases l2 with
    | nil => simp [tailL] at e3
    | cons q l3 =>
      simp only [tailL, List.cons.injEq, true_and] at e3
      have hq : q.size = 16 := p1 q (by rw [e2]; simp)
      obtain ⟨ha, hb⟩ := List.append_inj e3 (by simpa using hp.trans hq.symm)
      refine ⟨l3, ?_, hb⟩
      rw [e2, ba_ext ha]
      simp
theorem left_short {s t : ByteArray} {ps : List ByteArray} {r : List UInt8} (h : Left s t ps (32 :: r)) (hr : r.length < 16) : ¬ ∃ c, isCom s c := by
  rintro ⟨c, hc⟩
  obtain ⟨_, l2, e2, e3⟩ := h.2.2.2 c hc
  obtain ⟨_, _, p1⟩ := com_parts hc.1
  cases l2 with
  | nil => simp [tailL] at e3
  | cons q l3 =>
    simp only [tailL, List.cons.injEq, true_and] at e3
    have hq : q.size = 16 := p1 q (by rw [e2]; simp)
    have hl := congrArg List.length e3
    have : q.data.toList.length = 16 := by simpa using hq
    rw [List.length_append] at hl
    omega
theorem left_end {s t : ByteArray} {ps : List ByteArray} {r : List UInt8} (h : Left s t ps r) (hr : ps.length = 2 ∨ r.head? ≠ some 32) (hn : r.head? ≠ some 10) : ¬ ∃ c, isCom s c := by
  rintro ⟨c, hc⟩
  obtain ⟨_, l2, e2, e3⟩ := h.2.2.2 c hc
  obtain ⟨_, hl, _⟩ := com_parts hc.1
  cases l2 with
  | nil => rw [e3] at hn; simp [tailL] at hn
  | cons q l3 =>
    rcases hr with hr | hr
    · rw [e2] at hl; simp at hl; omega
    · rw [e3] at hr; simp [tailL] at hr
theorem left_note {s t m : ByteArray} {ps : List ByteArray} (h : Left s t ps (10 :: m.data.toList)) : (comB t ps m = true → isCom s (t, ps, m)) ∧ (comB t ps m = false → ¬ ∃ c, isCom s c) := by
  refine ⟨fun hb => ⟨hb, ba_ext ?_⟩, fun hb => ?_⟩
  · rw [textC_list, h.1, tail_flat]
  · rintro ⟨c, hc⟩
    obtain ⟨e1, l2, e2, e3⟩ := h.2.2.2 c hc
    cases l2 with
    | cons q l3 => simp [tailL] at e3
    | nil =>
      have em : m = c.2.2 := ba_ext (by simpa [tailL] using e3)
      have := hc.1
      rw [e1, e2, List.append_nil, ← em, hb] at this
      cases this
theorem no_start {s : ByteArray} (h : ¬ comW <+: s.data.toList) : ¬ ∃ c, isCom s c := by
  rintro ⟨c, hc⟩
  exact h ⟨_, (isCom_list hc).symm⟩
theorem no_tree {s : ByteArray} {r : List UInt8} (h : s.data.toList = comW ++ r) (hr : r.length < 16) : ¬ ∃ c, isCom s c := by
  rintro ⟨c, hc⟩
  have e := List.append_cancel_left ((isCom_list hc).symm.trans h)
  obtain ⟨s1, _, _⟩ := com_parts hc.1
  have hl := congrArg List.length e
  have : c.1.data.toList.length = 16 := by simpa using s1
  rw [List.length_append] at hl
  omega
end Go.Proofs.YtkhkcdmmagicmaaDoor
