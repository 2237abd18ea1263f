/-
  Changes that are done to a map, one behind the other: plain mathematics.
-/
import Derived.Test.YtaofemdhgfejjaaGreatDoorPLk
import Derived.Test.YtaofemdhgfejjaaGreatDoorHMem
namespace Go.Proofs.YtaofemdhgfejjaaGreatDoor
open Go.RowKit

/-- keys with their old values -/
def cp (l : List Ch) : List Pr := l.map fun c => (c.1, c.2.1)
theorem cp_len (l : List Ch) : (cp l).length = l.length := by unfold cp; rw [List.length_map]
theorem cp_get (l : List Ch) (i : Nat) (h : i < (cp l).length) : (cp l)[i].1 = (l[i]'(by rw [cp_len] at h; exact h)).1 := by simp [cp]
/-- what is asked of a change at a map -/
noncomputable def fitB (m : List Pr) (c : Ch) : Bool := keyB c.1 && (valB c.2.2.1 && ((hasB m c.1 == c.2.2.2.1) && (decide (valOf m c.1 = c.2.1) && (c.2.2.2.2 || decide (c.2.2.1 = ByteArray.empty)))))
theorem fitB_iff {m : List Pr} {c : Ch} : fitB m c = true ↔ keyB c.1 = true ∧ valB c.2.2.1 = true ∧ hasB m c.1 = c.2.2.2.1 ∧ valOf m c.1 = c.2.1 ∧ (c.2.2.2.2 = true ∨ c.2.2.1 = ByteArray.empty) := by
  unfold fitB
  simp only [Bool.and_eq_true, Bool.or_eq_true, beq_iff_eq, decide_eq_true_eq]
def stepM (m : List Pr) (c : Ch) : List Pr := if c.2.2.2.2 = true then setL m c.1 c.2.2.1 else delL m c.1
theorem stepM_yes {m : List Pr} {c : Ch} (h : c.2.2.2.2 = true) : stepM m c = setL m c.1 c.2.2.1 := by unfold stepM; rw [if_pos h]
theorem stepM_no {m : List Pr} {c : Ch} (h : c.2.2.2.2 = false) : stepM m c = delL m c.1 := by unfold stepM; rw [h]; rfl
def appM (m : List Pr) (l : List Ch) : List Pr := l.foldl stepM m
theorem appM_succ (m : List Pr) (l : List Ch) (k : Nat) (h : k < l.length) : appM m (l.take (k + 1)) = stepM (appM m (l.take k)) l[k] := by
  unfold appM
  rw [List.take_succ_eq_append_getElem h, List.foldl_append]
  rfl
theorem ris_step {m : List Pr} (h : Ris m) (c : Ch) : Ris (stepM m c) := by
  unfold stepM
  split
  · exact ris_set h _ _
  · exact ris_del h _
theorem ris_app : ∀ (l : List Ch) {m : List Pr}, Ris m → Ris (appM m l)
  | [], _, h => h
  | c :: l, _, h => ris_app l (ris_step h c)
theorem lk_step {m : List Pr} (h : Ris m) (c : Ch) (k : ByteArray) : lk (stepM m c) k = if k = c.1 then (if c.2.2.2.2 = true then some c.2.2.1 else none) else lk m k := by
  unfold stepM
  split
  · rw [lk_set h]
  · rw [lk_del h]
theorem lk_app_other : ∀ (l : List Ch) {m : List Pr}, Ris m → ∀ {k : ByteArray}, (∀ c ∈ l, c.1 ≠ k) → lk (appM m l) k = lk m k
  | [], _, _, _, _ => rfl
  | c :: l, m, h, k, hne => by
    have h1 := lk_app_other l (ris_step h c) (k := k) (fun d hd => hne d (List.mem_cons_of_mem _ hd))
    have h2 := lk_step h c k
    rw [if_neg (fun e => hne c (List.mem_cons_self ..) e.symm)] at h2
    exact h1.trans h2
theorem fitB_lk {m m' : List Pr} {c : Ch} (h : lk m c.1 = lk m' c.1) : fitB m c = fitB m' c := by
  obtain ⟨h1, h2⟩ := lk_eq.1 h
  unfold fitB
  rw [h1, h2]
/-- the first k changes are right where they are done, and rise -/
def appsTo (m : List Pr) (l : List Ch) (k : Nat) : Prop :=
  (∀ i (h : i < l.length), i < k → fitB (appM m (l.take i)) l[i] = true) ∧ ∀ i (h : i + 1 < l.length), i + 1 < k → ltB l[i].1 l[i + 1].1 = true
theorem appsTo_zero (m : List Pr) (l : List Ch) : appsTo m l 0 := ⟨fun _ _ h => absurd h (by omega), fun _ _ h => absurd h (by omega)⟩
theorem appsTo_succ {m : List Pr} {l : List Ch} {k : Nat} (hk : k < l.length) (h : appsTo m l k) (h1 : fitB (appM m (l.take k)) l[k] = true) (h2 : ∀ (hp : 0 < k), ltB (l[k - 1]'(by omega)).1 l[k].1 = true) : appsTo m l (k + 1) := by
  refine ⟨fun i hi hik => ?_, fun i hi hik => ?_⟩
  · rcases Nat.lt_or_ge i k with g | g
    · exact h.1 i hi g
    · obtain rfl : i = k := by omega
      exact h1
  · rcases Nat.lt_or_ge (i + 1) k with g | g
    · exact h.2 i hi g
    · obtain rfl : k = i + 1 := by omega
      simpa using h2 (by omega)
open Classical in
noncomputable def appB (m : List Pr) (l : List Ch) : Bool := decide (mapB m = true ∧ appsTo m l l.length ∧ mapB (appM m l) = true)
open Classical in
theorem appB_iff {m : List Pr} {l : List Ch} : appB m l = true ↔ mapB m = true ∧ appsTo m l l.length ∧ mapB (appM m l) = true := by unfold appB; exact decide_eq_true_iff
noncomputable def appL (m : List Pr) (l : List Ch) : List Pr := if appB m l = true then appM m l else []
theorem appL_no {m : List Pr} {l : List Ch} (h : appB m l = false) : appL m l = [] := by unfold appL; rw [h]; rfl
theorem appL_yes {m : List Pr} {l : List Ch} (h : appB m l = true) : appL m l = appM m l := by unfold appL; rw [if_pos h]
theorem appL_len (m : List Pr) (l : List Ch) : (appL m l).length ≤ 40 := by
  cases h : appB m l
  · rw [appL_no h]; simp
  · rw [appL_yes h]; exact (mapB_iff.1 (appB_iff.1 h).2.2).1
theorem appB_not {m : List Pr} {l : List Ch} (h : ¬ appB m l = true) : appB m l = false := by simpa using h
theorem appB_map {m : List Pr} {l : List Ch} (h : mapB m = false) : appB m l = false := appB_not fun x => by rw [(appB_iff.1 x).1] at h; cases h
theorem appB_end {m : List Pr} {l : List Ch} (h : mapB (appM m l) = false) : appB m l = false := appB_not fun x => by rw [(appB_iff.1 x).2.2] at h; cases h
theorem appB_fit {m : List Pr} {l : List Ch} {k : Nat} (hk : k < l.length) (h : fitB (appM m (l.take k)) l[k] = false) : appB m l = false := appB_not fun x => by rw [(appB_iff.1 x).2.1.1 k hk hk] at h; cases h
theorem appB_rise {m : List Pr} {l : List Ch} {k : Nat} (hk : k + 1 < l.length) (h : ltB l[k].1 l[k + 1].1 = false) : appB m l = false := appB_not fun x => by rw [(appB_iff.1 x).2.1.2 k hk hk] at h; cases h
theorem rise_cp {l : List Ch} : risesTo (cp l) (cp l).length ↔ ∀ i (h : i + 1 < l.length), ltB l[i].1 l[i + 1].1 = true := by
  constructor
  · intro h i hi
    have := h i (by rw [cp_len]; exact hi) (by rw [cp_len]; exact hi)
    rw [cp_get, cp_get] at this
    exact this
  · intro h i hi _
    rw [cp_get, cp_get]
    exact h i (by rw [cp_len] at hi; exact hi)
theorem appB_cp {m : List Pr} {l : List Ch} (h : risesB (cp l) = false) : appB m l = false := appB_not fun x => by
  rw [risesB_yes (rise_cp.2 fun i hi => (appB_iff.1 x).2.1.2 i hi hi)] at h
  cases h
theorem ch_lt {l : List Ch} (h : risesTo (cp l) (cp l).length) {i j : Nat} (hj : j < l.length) (hi : i < j) : ltB (l[i]'(by omega)).1 l[j].1 = true := by
  have := rises_lt h j (by rw [cp_len]; exact hj) i hi
  rw [cp_get, cp_get] at this
  exact this
/-- what a change finds is what the map had, as keys rise -/
theorem lk_take {m : List Pr} {l : List Ch} (hm : Ris m) (h : risesTo (cp l) (cp l).length) {i : Nat} (hi : i < l.length) : lk (appM m (l.take i)) l[i].1 = lk m l[i].1 := by
  refine lk_app_other _ hm fun c hc => ?_
  obtain ⟨j, hj, rfl⟩ := List.mem_iff_getElem.1 hc
  rw [List.length_take] at hj
  rw [List.getElem_take]
  exact ne_of_lt (ch_lt h hi (by omega))
theorem fit_take {m : List Pr} {l : List Ch} (hm : Ris m) (h : risesTo (cp l) (cp l).length) {i : Nat} (hi : i < l.length) : fitB (appM m (l.take i)) l[i] = fitB m l[i] := fitB_lk (lk_take hm h hi)
def isLoss (c : Ch) : Bool := c.2.2.2.1 && !c.2.2.2.2
def lossN (l : List Ch) : Nat := (l.filter isLoss).length
theorem lossN_succ (l : List Ch) (k : Nat) (h : k < l.length) : lossN (l.take (k + 1)) = lossN (l.take k) + (if isLoss l[k] = true then 1 else 0) := by
  unfold lossN
  rw [List.take_succ_eq_append_getElem h, List.filter_append, List.length_append]
  congr 1
  by_cases e : isLoss l[k] = true
  · simp [e]
  · simp [e]
theorem step_len {m : List Pr} {c : Ch} (h : hasB m c.1 = c.2.2.2.1) : m.length ≤ (stepM m c).length + (if isLoss c = true then 1 else 0) := by
  cases e : c.2.2.2.2
  · rw [stepM_no e]
    unfold delL
    cases e' : c.2.2.2.1
    · rw [e'] at h; rw [h]; simp
    · rw [e'] at h
      have : isLoss c = true := by unfold isLoss; rw [e, e']; rfl
      rw [if_pos h, if_pos this, List.length_eraseIdx]
      split <;> omega
  · rw [stepM_yes e, len_set]
    split <;> omega
theorem len_apps {m : List Pr} {l : List Ch} (h : appsTo m l l.length) (i : Nat) : ∀ (j : Nat), i ≤ j → j ≤ l.length → (appM m (l.take i)).length + lossN (l.take i) ≤ (appM m (l.take j)).length + lossN (l.take j)
  | 0, h1, _ => by obtain rfl : i = 0 := by omega
                   exact Nat.le_refl _
  | j + 1, h1, h2 => by
    rcases Nat.lt_or_ge i (j + 1) with g | g
    · have ih := len_apps h i j (by omega) (by omega)
      have h3 := step_len (fitB_iff.1 (h.1 j (by omega) (by omega))).2.2.1
      rw [appM_succ _ _ _ (by omega), lossN_succ _ _ (by omega)]
      omega
    · obtain rfl : i = j + 1 := by omega
      exact Nat.le_refl _
theorem loss_at {m : List Pr} {l : List Ch} (hr : risesTo (cp l) (cp l).length) (hf : ∀ i (h : i < l.length), hasB m l[i].1 = l[i].2.2.2.1) : ∀ (j : Nat) (h : j < l.length), lossN (l.take j) ≤ atN m l[j].1
  | 0, _ => by simp [lossN]
  | j + 1, h => by
    have ih := loss_at hr hf j (by omega)
    have hlt := ch_lt hr h (show j < j + 1 by omega)
    rw [lossN_succ _ _ (by omega)]
    by_cases e : isLoss (l[j]'(by omega)) = true
    · rw [if_pos e]
      have hh : hasB m (l[j]'(by omega)).1 = true := by
        rw [hf j (by omega)]
        unfold isLoss at e
        rw [Bool.and_eq_true] at e
        exact e.1
      have := at_mono_has hh hlt
      omega
    · rw [if_neg e]
      have := at_mono m hlt
      omega
theorem loss_le {m : List Pr} {l : List Ch} (hr : risesTo (cp l) (cp l).length) (hf : ∀ i (h : i < l.length), hasB m l[i].1 = l[i].2.2.2.1) : lossN l ≤ m.length := by
  rcases Nat.eq_zero_or_pos l.length with g | g
  · rw [List.eq_nil_of_length_eq_zero g]; simp [lossN]
  · obtain ⟨j, hj⟩ : ∃ j, l.length = j + 1 := ⟨l.length - 1, by omega⟩
    have ih := loss_at hr hf j (by omega)
    have e0 : lossN l = lossN (l.take (j + 1)) := by rw [← hj, List.take_length]
    rw [e0, lossN_succ _ _ (by omega)]
    by_cases e : isLoss (l[j]'(by omega)) = true
    · rw [if_pos e]
      have hh : hasB m (l[j]'(by omega)).1 = true := by
        rw [hf j (by omega)]
        unfold isLoss at e
        rw [Bool.and_eq_true] at e
        exact e.1
      obtain ⟨h1, _⟩ := hasB_iff.1 hh
      omega
    · rw [if_neg e]
      have := atN_le m (l[j]'(by omega)).1
      omega
/-- so many pairs on the way are too many at the end -/
theorem appB_long {m : List Pr} {l : List Ch} {k : Nat} (hk : k ≤ l.length) (h : 80 < (appM m (l.take k)).length) : appB m l = false := appB_not fun x => by
  obtain ⟨hm, ha, he⟩ := appB_iff.1 x
  have hr := rise_cp.2 fun i hi => ha.2 i hi hi
  have hris := mapB_ris hm
  have hf : ∀ i (h : i < l.length), hasB m l[i].1 = l[i].2.2.2.1 := fun i hi => by
    have := ha.1 i hi hi
    rw [fit_take hris hr hi] at this
    exact (fitB_iff.1 this).2.2.1
  have h1 := len_apps ha k l.length hk (Nat.le_refl _)
  rw [List.take_length] at h1
  have h2 := loss_le hr hf
  have h3 := (mapB_iff.1 hm).1
  have h4 := (mapB_iff.1 he).1
  omega
theorem appB_all {m : List Pr} {l : List Ch} (hm : mapB m = true) (hr : risesTo (cp l) (cp l).length) (hf : ∀ i (h : i < l.length), fitB m l[i] = true) (he : mapB (appM m l) = true) : appB m l = true :=
  appB_iff.2 ⟨hm, ⟨fun i hi _ => by rw [fit_take (mapB_ris hm) hr hi]; exact hf i hi, fun i hi _ => rise_cp.1 hr i hi⟩, he⟩
theorem appB_fit0 {m : List Pr} {l : List Ch} {k : Nat} (hm : mapB m = true) (hr : risesTo (cp l) (cp l).length) (hk : k < l.length) (h : fitB m l[k] = false) : appB m l = false :=
  appB_fit hk (by rw [fit_take (mapB_ris hm) hr hk]; exact h)
end Go.Proofs.YtaofemdhgfejjaaGreatDoor
