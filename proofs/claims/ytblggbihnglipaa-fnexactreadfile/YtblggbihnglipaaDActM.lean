/-
  What an op makes of files: mathematics.
-/
import Derived.Test.YtblggbihnglipaaDPut
namespace Go.Proofs.Ytblggbihnglipaa
open Go.RowKit

theorem eqT_lt {a b : ByteArray} (h : ltB a b = true) : (a.toList == b.toList) = false := eqS_no (ne_of_lt h)
/-- with the file, in its place: the lesser ones, it, the greater ones -/
def midF (l : List Pr) (key v : ByteArray) : List Pr := l.filter (fun p => ltB p.1 key) ++ (key, v) :: l.filter (fun p => ltB key p.1)
theorem filter_lt_all {l : List Pr} {key : ByteArray} (h : ∀ p ∈ l, ltB p.1 key = true) : l.filter (fun p => ltB p.1 key) = l ∧ l.filter (fun p => ltB key p.1) = [] :=
  ⟨List.filter_eq_self.2 h, List.filter_eq_nil_iff.2 fun p hp => by rw [ltB_asymm (h p hp)]; simp⟩
theorem putTo_form {l : List Pr} (hr : Ris l) (key v : ByteArray) : ∀ k, k ≤ l.length →
    ((putTo l key v k).2 = false ∧ (∀ p ∈ l.take k, ltB p.1 key = true) ∧ (putTo l key v k).1 = l.take k) ∨
    ((putTo l key v k).2 = true ∧ (∃ p ∈ l.take k, ltB p.1 key = false) ∧ (putTo l key v k).1 = midF (l.take k) key v)
  | 0, _ => .inl ⟨by simp [putTo], by simp, by simp [putTo]⟩
  | k + 1, h => by
    have hk : k < l.length := by omega
    have ih := putTo_form hr key v k (by omega)
    have hin : ∀ p ∈ l.take k, ltB p.1 l[k].1 = true := fun p hp => by
      obtain ⟨i, hi, e⟩ := List.getElem_of_mem hp
      rw [List.length_take] at hi
      rw [List.getElem_take] at e
      have := List.pairwise_iff_getElem.1 hr i k (by omega) hk (by omega)
      rw [e] at this
      exact this
    rw [putTo_next hk, List.take_succ_eq_append_getElem hk]
    generalize l[k] = p at *
    rcases ih with ⟨i1, i2, i3⟩ | ⟨i1, ⟨q, hq, i2⟩, i3⟩
    · cases hlt : ltB p.1 key
      · refine .inr ⟨by unfold putStep; simp [hlt], ⟨p, by simp, hlt⟩, ?_⟩
        obtain ⟨f1, f2⟩ := filter_lt_all i2
        unfold putStep midF
        rw [List.filter_append, List.filter_append, f1, f2, i1, i3]
        cases he : (p.1.toList == key.toList)
        · have hgt : ltB key p.1 = true := by
            rcases ltB_tri p.1 key with e | e | e
            · rw [hlt] at e; cases e
            · rw [eqS_yes e] at he; cases he
            · exact e
          simp [hlt, hgt]
        · have e : p.1 = key := eqS_of he
          have hgt : ltB key p.1 = false := by rw [e]; exact ltB_irrefl _
          simp [hlt, hgt]
      · refine .inl ⟨by unfold putStep; simp [hlt, i1], fun z hz => ?_, ?_⟩
        · rcases List.mem_append.1 hz with h1 | h1
          · exact i2 z h1
          · rw [List.mem_singleton] at h1; subst h1; exact hlt
        · unfold putStep
          rw [eqT_lt hlt, i1, i3, hlt]
          rfl
    · have hqp := hin q hq
      have hlt : ltB p.1 key = false := by
        cases e : ltB p.1 key
        · rfl
        · rw [ltB_trans hqp e] at i2; cases i2
      refine .inr ⟨by unfold putStep; simp [i1], ⟨q, List.mem_append.2 (.inl hq), i2⟩, ?_⟩
      unfold putStep midF
      rw [List.filter_append, List.filter_append, i1, i3]
      cases he : (p.1.toList == key.toList)
      · have hgt : ltB key p.1 = true := by
          rcases ltB_tri p.1 key with e | e | e
          · rw [hlt] at e; cases e
          · rw [eqS_yes e] at he; cases he
          · exact e
        simp [hlt, hgt, midF]
      · have e : p.1 = key := eqS_of he
        have hgt : ltB key p.1 = false := by rw [e]; exact ltB_irrefl _
        simp [hlt, hgt, midF]
theorem mid_ris {l : List Pr} (hr : Ris l) (key v : ByteArray) : Ris (midF l key v) := by
  unfold midF Ris
  rw [List.pairwise_append, List.pairwise_cons]
  refine ⟨List.Pairwise.filter _ hr, ⟨fun p hp => (List.mem_filter.1 hp).2, List.Pairwise.filter _ hr⟩, fun p hp q hq => ?_⟩
  have h1 := (List.mem_filter.1 hp).2
  rcases List.mem_cons.1 hq with e | h2
  · subst e; exact h1
  · exact ltB_trans h1 (List.mem_filter.1 h2).2
theorem mid_set {l : List Pr} (hr : Ris l) (key v : ByteArray) : midF l key v = setL l key v := by
  refine Ris.ext (mid_ris hr key v) (ris_set hr key v) fun p => ?_
  rw [mem_set hr]
  unfold midF
  rw [List.mem_append, List.mem_cons, List.mem_filter, List.mem_filter]
  constructor
  · rintro (⟨h1, h2⟩ | e | ⟨h1, h2⟩)
    · exact .inr ⟨h1, ne_of_lt h2⟩
    · exact .inl e
    · exact .inr ⟨h1, fun e => ne_of_lt h2 e.symm⟩
  · rintro (e | ⟨h1, h2⟩)
    · exact .inr (.inl e)
    · rcases ltB_tri p.1 key with g | g | g
      · exact .inl ⟨h1, g⟩
      · exact absurd g h2
      · exact .inr (.inr ⟨h1, g⟩)
/-- what the reference's loop makes is the list with the file -/
theorem put_set {l : List Pr} (hr : Ris l) (key v : ByteArray) : putF l key v = setL l key v := by
  unfold putF
  rcases putTo_form hr key v l.length (Nat.le_refl _) with ⟨h1, h2, h3⟩ | ⟨h1, h2, h3⟩
  · rw [h1, h3, List.take_length, ← mid_set hr]
    rw [List.take_length] at h2
    obtain ⟨f1, f2⟩ := filter_lt_all h2
    unfold midF
    rw [f1, f2]
    rfl
  · rw [h1, h3, List.take_length, ← mid_set hr]
    rfl
theorem mem_cut {l : List Pr} {k : ByteArray} {p : Pr} : p ∈ cutF1 l k ↔ p ∈ l ∧ p.1 ≠ k := by
  unfold cutF1
  rw [List.mem_filter]
  refine and_congr_right fun _ => ?_
  constructor
  · intro h e
    rw [eqS_yes e] at h
    cases h
  · intro h
    rw [eqS_no h]
    rfl
theorem ris_cut {l : List Pr} (hr : Ris l) (k : ByteArray) : Ris (cutF1 l k) := List.Pairwise.filter _ hr
theorem has_cut {l : List Pr} (hr : Ris l) (k k' : ByteArray) : hasB (cutF1 l k) k' = true ↔ k' ≠ k ∧ hasB l k' = true := by
  rw [has_iff (ris_cut hr k), has_iff hr]
  constructor
  · rintro ⟨v, hv⟩
    obtain ⟨h1, h2⟩ := mem_cut.1 hv
    exact ⟨h2, v, h1⟩
  · rintro ⟨h1, v, hv⟩
    exact ⟨v, mem_cut.2 ⟨hv, h1⟩⟩
theorem has_cut_same {l : List Pr} (hr : Ris l) (k : ByteArray) : hasB (cutF1 l k) k = false := by
  cases e : hasB (cutF1 l k) k
  · rfl
  · exact absurd rfl ((has_cut hr k k).1 e).1
theorem has_cut_ne {l : List Pr} (hr : Ris l) {k k' : ByteArray} (h : k' ≠ k) : hasB (cutF1 l k) k' = hasB l k' := by
  cases e : hasB l k'
  · cases e2 : hasB (cutF1 l k) k'
    · rfl
    · rw [((has_cut hr k k').1 e2).2] at e; cases e
  · exact (has_cut hr k k').2 ⟨h, e⟩
theorem val_none {l : List Pr} {k : ByteArray} (h : hasB l k = false) : valOf l k = ByteArray.empty := valOf_no h
theorem val_cut_ne {l : List Pr} (hr : Ris l) {k k' : ByteArray} (h : k' ≠ k) : valOf (cutF1 l k) k' = valOf l k' := by
  cases e : hasB l k'
  · rw [val_none e, val_none (by rw [has_cut_ne hr h]; exact e)]
  · exact val_of (ris_cut hr k) (mem_cut.2 ⟨mem_val e, h⟩)
theorem cut_len (l : List Pr) (k : ByteArray) : (cutF1 l k).length ≤ l.length := List.length_filter_le _ _
theorem cut_none {l : List Pr} (hr : Ris l) {k : ByteArray} (h : hasB l k = false) : cutF1 l k = l := by
  unfold cutF1
  refine List.filter_eq_self.2 fun p hp => ?_
  have hne : p.1 ≠ k := fun e => by
    have := (has_iff hr k).2 ⟨p.2, by rw [← e]; exact hp⟩
    rw [h] at this
    cases this
  rw [eqS_no hne]
  rfl
theorem ris_nil : Ris [] := List.Pairwise.nil
/-- files behind an op · whether it found its file -/
noncomputable def doF (l : List Pr) (o : Dp) : List Pr :=
  if o.1 = 1 then setL l o.2.1 (valOf l o.2.1 ++ o.2.2.2)
  else if hasB l o.2.1 = true then (if o.1 = 2 then setL (cutF1 l o.2.1) o.2.2.1 (valOf l o.2.1) else cutF1 l o.2.1) else l
noncomputable def doB (l : List Pr) (o : Dp) : Bool := decide (o.1 = 1) || hasB l o.2.1
theorem doF_ris {l : List Pr} (hr : Ris l) (o : Dp) : Ris (doF l o) := by
  unfold doF
  split
  · exact ris_set hr _ _
  · split
    · split
      · exact ris_set (ris_cut hr _) _ _
      · exact ris_cut hr _
    · exact hr
theorem doF_len (l : List Pr) (o : Dp) : (doF l o).length ≤ l.length + 1 := by
  unfold doF
  split
  · exact (len_set_le l _ _).2
  · split
    · split
      · have h1 := (len_set_le (cutF1 l o.2.1) o.2.2.1 (valOf l o.2.1)).2
        have h2 := cut_len l o.2.1
        omega
      · have := cut_len l o.2.1; omega
    · omega
/-- files behind several ops -/
noncomputable def runF (l : List Pr) (os : List Dp) : List Pr := os.foldl doF l
theorem runF_nil (l : List Pr) : runF l [] = l := rfl
theorem runF_snoc (l : List Pr) (os : List Dp) (o : Dp) : runF l (os ++ [o]) = doF (runF l os) o := by unfold runF; rw [List.foldl_append]; rfl
theorem runF_next (l : List Pr) (os : List Dp) {k : Nat} (h : k < os.length) : runF l (os.take (k + 1)) = doF (runF l (os.take k)) os[k] := by rw [List.take_succ_eq_append_getElem h, runF_snoc]
theorem runF_ris {l : List Pr} (hr : Ris l) : ∀ (os : List Dp), Ris (runF l os) := fun os => by
  unfold runF
  induction os generalizing l with
  | nil => exact hr
  | cons o r ih => exact ih (doF_ris hr o)
theorem filesP_ris {l : List Pr} (h : filesP l) : Ris l := ris_iff.1 h.2.2.1
/-- the first k ops are of their form, found their files, and left files that are so -/
def opsTo (s : List Pr) (os : List Dp) (k : Nat) : Prop := ∀ i (h : i < os.length), i < k → formP os[i] ∧ doB (runF s (os.take i)) os[i] = true ∧ filesP (runF s (os.take (i + 1)))
theorem opsTo_zero (s : List Pr) (os : List Dp) : opsTo s os 0 := fun _ _ h => absurd h (by omega)
theorem opsTo_next {s : List Pr} {os : List Dp} {k : Nat} (hk : k < os.length) (h : opsTo s os k) (h1 : formP os[k]) (h2 : doB (runF s (os.take k)) os[k] = true) (h3 : filesP (runF s (os.take (k + 1)))) : opsTo s os (k + 1) := by
  intro i hi hik
  by_cases e : i = k
  · subst e; exact ⟨h1, h2, h3⟩
  · exact h i hi (by omega)
/-- a disk: what is seen, what is synced, the ops since -/
abbrev Dk := List Pr × List Pr × List Dp
def diskP (d : Dk) : Prop := filesP d.1 ∧ filesP d.2.1 ∧ d.2.2.length ≤ 200 ∧ opsTo d.2.1 d.2.2 d.2.2.length ∧ runF d.2.1 d.2.2 = d.1
open Classical in
noncomputable def diskB (d : Dk) : Bool := decide (diskP d)
open Classical in
theorem diskB_yes {d : Dk} (h : diskP d) : diskB d = true := decide_eq_true h
open Classical in
theorem diskB_no {d : Dk} (h : ¬ diskP d) : diskB d = false := decide_eq_false h
open Classical in
theorem diskB_iff {d : Dk} : diskB d = true ↔ diskP d := by unfold diskB; exact decide_eq_true_iff
end Go.Proofs.Ytblggbihnglipaa
