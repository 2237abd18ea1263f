/-
  What leads from one right map to another one does, and back. Plain mathematics.
-/
import Derived.Test.YtaofemdhgfejjaaGreatDoorHApp
import Derived.Test.YtaofemdhgfejjaaGreatDoorHDif
import Derived.Test.YtaofemdhgfejjaaGreatDoorHInv
namespace Go.Proofs.YtaofemdhgfejjaaGreatDoor
open Go.RowKit

theorem invL_get (l : List Ch) (i : Nat) (h : i < (invL l).length) : (invL l)[i] = invC (l[i]'(by rw [invL_len] at h; exact h)) := by simp [invL]
theorem inv_mem {l : List Ch} {c : Ch} (h : c ∈ l) : invC c ∈ invL l := List.mem_map.2 ⟨c, h, rfl⟩
theorem inv_mem' {l : List Ch} {c : Ch} (h : c ∈ invL l) : ∃ d ∈ l, c.1 = d.1 := by
  obtain ⟨d, hd, rfl⟩ := List.mem_map.1 h
  exact ⟨d, hd, rfl⟩
theorem invL_invL (l : List Ch) : invL (invL l) = l := by
  unfold invL
  rw [List.map_map]
  have : invC ∘ invC = id := rfl
  rw [this, List.map_id]
/-- the change of a key, by what both maps tell of it -/
def chF (k : ByteArray) (x y : Option ByteArray) : Ch := (k, x.getD ByteArray.empty, y.getD ByteArray.empty, x.isSome, y.isSome)
/-- D tells each key that is unlike in both, once, by rising keys -/
def Char (A B : List Pr) (D : List Ch) : Prop :=
  (∀ c ∈ D, c = chF c.1 (lk A c.1) (lk B c.1) ∧ lk A c.1 ≠ lk B c.1) ∧ (∀ k, lk A k ≠ lk B k → chF k (lk A k) (lk B k) ∈ D) ∧ D.Pairwise fun a b => ltB a.1 b.1 = true
theorem none_of {A : List Pr} {h : ByteArray} (h1 : ∀ k, lk A k ≠ none → ltB h k = true) : lk A h = none := by
  cases e : lk A h with
  | none => rfl
  | some v =>
    have := h1 h (by rw [e]; simp)
    rw [ltB_irrefl] at this
    cases this
theorem char_gt {A B : List Pr} {D : List Ch} {h : ByteArray} (h1 : ∀ k, lk A k ≠ none → ltB h k = true) (h2 : ∀ k, lk B k ≠ none → ltB h k = true) (H : Char A B D) : ∀ c ∈ D, ltB h c.1 = true := by
  intro c hc
  obtain ⟨_, hne⟩ := H.1 c hc
  cases e : lk A c.1 with
  | none =>
    refine h2 _ fun e2 => hne ?_
    rw [e, e2]
  | some v => exact h1 _ (by rw [e]; simp)
theorem char_yes {A B A' B' : List Pr} {D : List Ch} {h : ByteArray} {x y : Option ByteArray} (hA : ∀ k, lk A k = if k = h then x else lk A' k) (hB : ∀ k, lk B k = if k = h then y else lk B' k)
    (h1 : ∀ k, lk A' k ≠ none → ltB h k = true) (h2 : ∀ k, lk B' k ≠ none → ltB h k = true) (xy : x ≠ y) (H : Char A' B' D) : Char A B (chF h x y :: D) := by
  have hg := char_gt h1 h2 H
  refine ⟨fun c hc => ?_, fun k hk => ?_, List.pairwise_cons.2 ⟨hg, H.2.2⟩⟩
  · rcases List.mem_cons.1 hc with rfl | hc
    · have e : (chF h x y).1 = h := rfl
      rw [e, hA, hB, if_pos rfl, if_pos rfl]
      exact ⟨rfl, xy⟩
    · have hne : c.1 ≠ h := fun e => by have := hg c hc; rw [e, ltB_irrefl] at this; cases this
      rw [hA, hB, if_neg hne, if_neg hne]
      exact H.1 c hc
  · rw [hA, hB] at hk ⊢
    by_cases e : k = h
    · subst e
      rw [if_pos rfl, if_pos rfl]
      exact List.mem_cons_self ..
    · rw [if_neg e, if_neg e] at hk ⊢
      exact List.mem_cons_of_mem _ (H.2.1 k hk)
theorem char_no {A B A' B' : List Pr} {D : List Ch} {h : ByteArray} {x : Option ByteArray} (hA : ∀ k, lk A k = if k = h then x else lk A' k) (hB : ∀ k, lk B k = if k = h then x else lk B' k)
    (h1 : ∀ k, lk A' k ≠ none → ltB h k = true) (h2 : ∀ k, lk B' k ≠ none → ltB h k = true) (H : Char A' B' D) : Char A B D := by
  have hg := char_gt h1 h2 H
  refine ⟨fun c hc => ?_, fun k hk => ?_, H.2.2⟩
  · have hne : c.1 ≠ h := fun e => by have := hg c hc; rw [e, ltB_irrefl] at this; cases this
    rw [hA, hB, if_neg hne, if_neg hne]
    exact H.1 c hc
  · rw [hA, hB] at hk ⊢
    by_cases e : k = h
    · rw [if_pos e, if_pos e] at hk
      exact absurd rfl hk
    · rw [if_neg e, if_neg e] at hk ⊢
      exact H.2.1 k hk
theorem lk_cons {p : Pr} {a : List Pr} (h : Ris (p :: a)) (k : ByteArray) : lk (p :: a) k = if k = p.1 then some p.2 else lk a k := by
  have ha : Ris a := (List.pairwise_cons.1 h).2
  apply Option.ext
  intro v
  rw [lk_some h]
  by_cases e : k = p.1
  · subst e
    rw [if_pos rfl]
    constructor
    · intro x
      rw [h.key x (show (p.1, p.2) ∈ p :: a from List.mem_cons_self ..)]
    · intro x
      injection x with x
      rw [← x]
      exact List.mem_cons_self ..
  · rw [if_neg e, lk_some ha]
    constructor
    · intro x
      rcases List.mem_cons.1 x with x | x
      · exact absurd (congrArg Prod.fst x) e
      · exact x
    · intro x; exact List.mem_cons_of_mem _ x
theorem lk_gt {p : Pr} {a : List Pr} (h : Ris (p :: a)) : ∀ k, lk a k ≠ none → ltB p.1 k = true := by
  intro k hk
  have ha : Ris a := (List.pairwise_cons.1 h).2
  cases e : lk a k with
  | none => exact absurd e hk
  | some v => exact (List.pairwise_cons.1 h).1 (k, v) ((lk_some ha).1 e)
theorem lk_below {h : ByteArray} {b : List Pr} (hb : ∀ k, lk b k ≠ none → ltB h k = true) (k : ByteArray) : lk b k = if k = h then none else lk b k := by
  by_cases e : k = h
  · rw [if_pos e, e]; exact none_of hb
  · rw [if_neg e]
theorem lk_gt2 {p q : Pr} {b : List Pr} (h : Ris (q :: b)) (hlt : ltB p.1 q.1 = true) : ∀ k, lk (q :: b) k ≠ none → ltB p.1 k = true := by
  intro k hk
  rw [lk_cons h] at hk
  by_cases e : k = q.1
  · rw [e]; exact hlt
  · rw [if_neg e] at hk
    exact ltB_trans hlt (lk_gt h k hk)
theorem lk_nil_gt (h : ByteArray) : ∀ k, lk [] k ≠ none → ltB h k = true := fun k hk => absurd (lk_nil k) hk
theorem lk_nil_if (h k : ByteArray) : lk [] k = if k = h then none else lk [] k := by rw [lk_nil]; split <;> rfl
theorem dif_char : ∀ (n : Nat) (a b : List Pr), a.length + b.length ≤ n → Ris a → Ris b → Char a b (difM a b)
  | n, [], [], _, _, _ => by rw [difM_nil]; exact ⟨fun c h => absurd h (by simp), fun k h => absurd rfl h, List.Pairwise.nil⟩
  | n, p :: a, [], hn, ha, hb => by
    rw [difM_a]
    exact char_yes (h := p.1) (x := some p.2) (y := none) (lk_cons ha) (lk_nil_if p.1) (lk_gt ha) (lk_nil_gt _) (by simp) (dif_char (n - 1) a [] (by simp at hn ⊢; omega) (List.pairwise_cons.1 ha).2 hb)
  | n, [], q :: b, hn, ha, hb => by
    rw [difM_b]
    exact char_yes (h := q.1) (x := none) (y := some q.2) (lk_nil_if q.1) (lk_cons hb) (lk_nil_gt _) (lk_gt hb) (by simp) (dif_char (n - 1) [] b (by simp at hn ⊢; omega) ha (List.pairwise_cons.1 hb).2)
  | n, p :: a, q :: b, hn, ha, hb => by
    have ha' := (List.pairwise_cons.1 ha).2
    have hb' := (List.pairwise_cons.1 hb).2
    rcases ltB_tri p.1 q.1 with g | g | g
    · rw [difM_lt g]
      exact char_yes (h := p.1) (x := some p.2) (y := none) (lk_cons ha) (lk_below (lk_gt2 hb g)) (lk_gt ha) (lk_gt2 hb g) (by simp) (dif_char (n - 1) a (q :: b) (by simp at hn ⊢; omega) ha' hb)
    · by_cases g' : p.2 = q.2
      · rw [difM_same g g']
        refine char_no (h := p.1) (x := some p.2) (lk_cons ha) ?_ (lk_gt ha) ?_ (dif_char (n - 1) a b (by simp at hn ⊢; omega) ha' hb')
        · rw [g, g']; exact lk_cons hb
        · rw [g]; exact lk_gt hb
      · rw [difM_turn g g']
        have := char_yes (A := p :: a) (B := q :: b) (A' := a) (B' := b) (h := q.1) (x := some p.2) (y := some q.2) (by rw [← g]; exact lk_cons ha) (lk_cons hb) (by rw [← g]; exact lk_gt ha) (lk_gt hb) (by simpa using g') (dif_char (n - 1) a b (by simp at hn ⊢; omega) ha' hb')
        exact this
    · rw [difM_gt g]
      exact char_yes (h := q.1) (x := none) (y := some q.2) (lk_below (lk_gt2 ha g)) (lk_cons hb) (lk_gt2 ha g) (lk_gt hb) (by simp) (dif_char (n - 1) (p :: a) b (by simp at hn ⊢; omega) ha hb')
termination_by _ a b => a.length + b.length
theorem dif_inv : ∀ (n : Nat) (a b : List Pr), a.length + b.length ≤ n → invL (difM a b) = difM b a
  | n, [], [], _ => by rw [difM_nil]; rfl
  | n, p :: a, [], hn => by rw [difM_a, difM_b, ← dif_inv (n - 1) a [] (by simp at hn ⊢; omega)]; rfl
  | n, [], q :: b, hn => by rw [difM_b, difM_a, ← dif_inv (n - 1) [] b (by simp at hn ⊢; omega)]; rfl
  | n, p :: a, q :: b, hn => by
    rcases ltB_tri p.1 q.1 with g | g | g
    · rw [difM_lt g, difM_gt g, ← dif_inv (n - 1) a (q :: b) (by simp at hn ⊢; omega)]; rfl
    · by_cases g' : p.2 = q.2
      · rw [difM_same g g', difM_same g.symm g'.symm, ← dif_inv (n - 1) a b (by simp at hn ⊢; omega)]
      · rw [difM_turn g g', difM_turn g.symm (fun e => g' e.symm), ← dif_inv (n - 1) a b (by simp at hn ⊢; omega)]
        show (q.1, q.2, p.2, true, true) :: invL (difM a b) = _
        unfold turnC
        rw [g]
    · rw [difM_gt g, difM_lt g, ← dif_inv (n - 1) (p :: a) b (by simp at hn ⊢; omega)]; rfl
termination_by _ a b => a.length + b.length
theorem ris_cp {l : List Ch} (h : l.Pairwise fun a b => ltB a.1 b.1 = true) : risesTo (cp l) (cp l).length :=
  rise_cp.2 fun i hi => List.pairwise_iff_getElem.1 h i (i + 1) (by omega) hi (by omega)
/-- what is done to a key stays -/
theorem lk_app_mem {m : List Pr} {l : List Ch} (hm : Ris m) (hr : risesTo (cp l) (cp l).length) : ∀ c ∈ l, lk (appM m l) c.1 = if c.2.2.2.2 = true then some c.2.2.1 else none := by
  intro c hc
  obtain ⟨i, hi, rfl⟩ := List.mem_iff_getElem.1 hc
  have e : l = l.take (i + 1) ++ l.drop (i + 1) := (List.take_append_drop _ _).symm
  have e2 : appM m l = appM (appM m (l.take (i + 1))) (l.drop (i + 1)) := by
    unfold appM
    rw [← List.foldl_append, List.take_append_drop]
  rw [e2, lk_app_other _ (ris_app _ hm), appM_succ _ _ _ hi, lk_step (ris_app _ hm), if_pos rfl]
  intro d hd
  obtain ⟨j, hj, rfl⟩ := List.mem_iff_getElem.1 hd
  rw [List.length_drop] at hj
  rw [List.getElem_drop]
  exact (ne_of_lt (ch_lt hr (by omega) (show i < i + 1 + j by omega))).symm
theorem lk_val_ok {m : List Pr} (h : mapB m = true) (k : ByteArray) : valB (valOf m k) = true := by
  cases hh : hasB m k
  · rw [valOf_no hh]
    exact okB_yes (by simp) (by simp) (fun j hj _ => absurd hj (by simp))
  · obtain ⟨hlt, he⟩ := hasB_iff.1 hh
    rw [valOf_yes hlt he]
    exact ((mapB_all.1 h).2.1 _ (List.getElem_mem hlt)).2
theorem lk_key_ok {m : List Pr} (h : mapB m = true) {k : ByteArray} (hh : hasB m k = true) : keyB k = true := by
  obtain ⟨hlt, he⟩ := hasB_iff.1 hh
  rw [← he]
  exact ((mapB_all.1 h).2.1 _ (List.getElem_mem hlt)).1
theorem dif_fit {a b : List Pr} (ha : mapB a = true) (hb : mapB b = true) : ∀ c ∈ difM a b, fitB a c = true := by
  intro c hc
  obtain ⟨e, hne⟩ := (dif_char _ a b (Nat.le_refl _) (mapB_ris ha) (mapB_ris hb)).1 c hc
  have e1 : c.2.1 = valOf a c.1 := by rw [lk_val]; exact congrArg (fun z : Ch => z.2.1) e
  have e2 : c.2.2.1 = valOf b c.1 := by rw [lk_val]; exact congrArg (fun z : Ch => z.2.2.1) e
  have e3 : c.2.2.2.1 = hasB a c.1 := by rw [lk_has]; exact congrArg (fun z : Ch => z.2.2.2.1) e
  have e4 : c.2.2.2.2 = hasB b c.1 := by rw [lk_has]; exact congrArg (fun z : Ch => z.2.2.2.2) e
  refine fitB_iff.2 ⟨?_, by rw [e2]; exact lk_val_ok hb _, e3.symm, e1.symm, ?_⟩
  · cases h1 : hasB a c.1
    · cases h2 : hasB b c.1
      · exact absurd (by rw [lk_no h1, lk_no h2]) hne
      · exact lk_key_ok hb h2
    · exact lk_key_ok ha h1
  · cases h2 : hasB b c.1
    · right; rw [e2, valOf_no h2]
    · left; rw [e4, h2]
theorem dif_app {a b : List Pr} (ha : mapB a = true) (hb : mapB b = true) : appM a (difM a b) = b := by
  have hc := dif_char _ a b (Nat.le_refl _) (mapB_ris ha) (mapB_ris hb)
  have hr := ris_cp hc.2.2
  refine ext_lk (ris_app _ (mapB_ris ha)) (mapB_ris hb) fun k => ?_
  by_cases e : lk a k = lk b k
  · rw [lk_app_other _ (mapB_ris ha), e]
    intro c h1 h2
    obtain ⟨_, hne⟩ := hc.1 c h1
    rw [h2] at hne
    exact hne e
  · have h1 := lk_app_mem (mapB_ris ha) hr _ (hc.2.1 k e)
    have e1 : (chF k (lk a k) (lk b k)).1 = k := rfl
    rw [e1] at h1
    rw [h1]
    show (if (lk b k).isSome = true then some ((lk b k).getD ByteArray.empty) else none) = lk b k
    cases lk b k <;> rfl
theorem dif_ok {a b : List Pr} (ha : mapB a = true) (hb : mapB b = true) : appB a (difM a b) = true :=
  appB_all ha (ris_cp (dif_char _ a b (Nat.le_refl _) (mapB_ris ha) (mapB_ris hb)).2.2) (fun i hi => dif_fit ha hb _ (List.getElem_mem hi)) (by rw [dif_app ha hb]; exact hb)
theorem dif_appL {a b : List Pr} (ha : mapB a = true) (hb : mapB b = true) : appL a (difM a b) = b := by rw [appL_yes (dif_ok ha hb), dif_app ha hb]
theorem dif_self {a : List Pr} (ha : mapB a = true) : difM a a = [] := by
  have hc := dif_char _ a a (Nat.le_refl _) (mapB_ris ha) (mapB_ris ha)
  cases e : difM a a with
  | nil => rfl
  | cons c r => rw [e] at hc; exact absurd rfl (hc.1 c (List.mem_cons_self ..)).2
/-- changes that are done can be undone -/
theorem inv_fit {m : List Pr} {l : List Ch} (h : appB m l = true) : ∀ c ∈ l, lk (appM m l) c.1 = (if c.2.2.2.2 = true then some c.2.2.1 else none) ∧ lk m c.1 = (if c.2.2.2.1 = true then some c.2.1 else none) ∧ fitB (appM m l) (c.1, c.2.2.1, c.2.1, c.2.2.2.2, c.2.2.2.1) = true := by
  intro c hc
  obtain ⟨hm, ha, he⟩ := appB_iff.1 h
  have hr := rise_cp.2 fun i hi => ha.2 i hi hi
  have h1 := lk_app_mem (mapB_ris hm) hr c hc
  obtain ⟨i, hi, rfl⟩ := List.mem_iff_getElem.1 hc
  have hf := ha.1 i hi hi
  rw [fit_take (mapB_ris hm) hr hi] at hf
  obtain ⟨f1, f2, f3, f4, f5⟩ := fitB_iff.1 hf
  have h2 : lk m l[i].1 = (if l[i].2.2.2.1 = true then some l[i].2.1 else none) := by
    unfold lk
    rw [f3, f4]
  refine ⟨h1, h2, fitB_iff.2 ⟨f1, by rw [← f4]; exact lk_val_ok hm _, ?_, ?_, ?_⟩⟩
  · show hasB (appM m l) l[i].1 = l[i].2.2.2.2
    rw [lk_has, h1]
    cases l[i].2.2.2.2 <;> rfl
  · show valOf (appM m l) l[i].1 = l[i].2.2.1
    rw [lk_val, h1]
    rcases f5 with g | g
    · rw [g]; rfl
    · rw [g]; split <;> rfl
  · show l[i].2.2.2.1 = true ∨ l[i].2.1 = ByteArray.empty
    cases g : l[i].2.2.2.1
    · right; rw [← f4, valOf_no (by rw [f3, g])]
    · exact .inl rfl
theorem cp_inv (l : List Ch) : (∀ i (h : i + 1 < l.length), ltB l[i].1 l[i + 1].1 = true) → risesTo (cp (invL l)) (cp (invL l)).length := by
  intro h
  refine rise_cp.2 fun i hi => ?_
  rw [invL_len] at hi
  rw [invL_get, invL_get]
  exact h i hi
theorem inv_app {m : List Pr} {l : List Ch} (h : appB m l = true) : appM (appM m l) (invL l) = m := by
  obtain ⟨hm, ha, he⟩ := appB_iff.1 h
  have hr := cp_inv l fun i hi => ha.2 i hi hi
  refine ext_lk (ris_app _ (ris_app _ (mapB_ris hm))) (mapB_ris hm) fun k => ?_
  by_cases e : ∃ c ∈ l, c.1 = k
  · obtain ⟨c, hc, rfl⟩ := e
    obtain ⟨_, h2, _⟩ := inv_fit h c hc
    have h3 := lk_app_mem (ris_app l (mapB_ris hm)) hr _ (inv_mem hc)
    rw [h2]
    exact h3
  · have hne : ∀ c ∈ l, c.1 ≠ k := fun c hc x => e ⟨c, hc, x⟩
    rw [lk_app_other (invL l) (ris_app _ (mapB_ris hm)) (fun c hc => by obtain ⟨d, hd, e⟩ := inv_mem' hc; rw [e]; exact hne d hd), lk_app_other l (mapB_ris hm) hne]
theorem inv_ok {m : List Pr} {l : List Ch} (h : appB m l = true) : appB (appM m l) (invL l) = true := by
  obtain ⟨hm, ha, he⟩ := appB_iff.1 h
  refine appB_all he (cp_inv l fun i hi => ha.2 i hi hi) (fun i hi => ?_) (by rw [inv_app h]; exact hm)
  rw [invL_len] at hi
  rw [invL_get]
  exact (inv_fit h _ (List.getElem_mem hi)).2.2
theorem inv_appL {m : List Pr} {l : List Ch} (h : appB m l = true) : appL (appL m l) (invL l) = m := by rw [appL_yes h, appL_yes (inv_ok h), inv_app h]
/-- what leads on cannot be done twice -/
theorem dif_again {m n : List Pr} (hm : mapB m = true) (hn : mapB n = true) (h : ¬ difM m n = []) : appB n (difM m n) = false := by
  have hc := dif_char _ m n (Nat.le_refl _) (mapB_ris hm) (mapB_ris hn)
  have hl : 0 < (difM m n).length := by
    rcases Nat.eq_zero_or_pos (difM m n).length with g | g
    · exact absurd (List.eq_nil_of_length_eq_zero g) h
    · exact g
  refine appB_fit0 hn (ris_cp hc.2.2) hl ?_
  cases e : fitB n (difM m n)[0]
  · rfl
  · obtain ⟨_, _, f3, f4, _⟩ := fitB_iff.1 e
    obtain ⟨e0, hne⟩ := hc.1 _ (List.getElem_mem hl)
    have e1 : (difM m n)[0].2.1 = valOf m (difM m n)[0].1 := by rw [lk_val]; exact congrArg (fun z : Ch => z.2.1) e0
    have e3 : (difM m n)[0].2.2.2.1 = hasB m (difM m n)[0].1 := by rw [lk_has]; exact congrArg (fun z : Ch => z.2.2.2.1) e0
    exact absurd (lk_eq.2 ⟨by rw [f3, e3], by rw [f4, e1]⟩).symm hne
theorem app_none {m : List Pr} : appB m [] = mapB m := by
  cases h : mapB m
  · exact appB_map h
  · exact appB_iff.2 ⟨h, appsTo_zero m [], h⟩
theorem appL_none {m : List Pr} (h : mapB m = true) : appL m [] = m := by rw [appL_yes (by rw [app_none]; exact h)]; rfl
end Go.Proofs.YtaofemdhgfejjaaGreatDoor
