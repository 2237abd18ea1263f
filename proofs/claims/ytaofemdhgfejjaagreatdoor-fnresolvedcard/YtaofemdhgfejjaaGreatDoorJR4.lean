/-
  For every code, laws.FnResolved returns true: with one side of drawn maps chosen each key of which both changed it is as there, and all others as in the merger. No conditions but that the two variables (the sentinel of refusals, the type error's handle) hold what the program's text lays (the card ties them).
-/
import Derived.BigQuiet
import Derived.IntWalk
import Derived.Deep.RegionHeld3
import Derived.Test.YtaofemdhgfejjaaGreatDoorChecked
import Derived.ProofKit
import Derived.OpenShut
import Derived.Deep.SlicePairs
import Derived.Deep.Slices
import Derived.Deep.QuietTactic
import Derived.StillTailTactics
import Derived.Test.YtaofemdhgfejjaaGreatDoorJR3
/-
  What leads from one right map to another one does, and back. Plain mathematics.
-/
namespace Go.Proofs.YtaofemdhgfejjaaGreatDoor
open Go.RowKit

theorem invL_get (l : List Ch) (i : Nat) (h : i < (invL l).length) : (invL l)[i] = invC (l[i]'(by rw [invL_len] at h; exact h)) := by simp [invL]
theorem inv_mem {l : List Ch} {c : Ch} (h : c ∈ l) : invC c ∈ invL l := List.mem_map.2 ⟨c, h, rfl⟩
theorem inv_mem' {l : List Ch} {c : Ch} (h : c ∈ invL l) : ∃ d ∈ l, c.1 = d.1 := by
  obtain ⟨d, hd, rfl⟩ := List.mem_map.1 h
  exact ⟨d, hd, rfl⟩
theorem invL_invL (l : List Ch) : invL (invL l) = l := by
  unfold invL
  rw [List.map_map]
  have : invC ∘ invC = id := rfl
  rw [this, List.map_id]
/-- the change of a key, by what both maps tell of it -/
def chF (k : ByteArray) (x y : Option ByteArray) : Ch := (k, x.getD ByteArray.empty, y.getD ByteArray.empty, x.isSome, y.isSome)
/-- D tells each key that is unlike in both, once, by rising keys -/
def Char (A B : List Pr) (D : List Ch) : Prop :=
  (∀ c ∈ D, c = chF c.1 (lk A c.1) (lk B c.1) ∧ lk A c.1 ≠ lk B c.1) ∧ (∀ k, lk A k ≠ lk B k → chF k (lk A k) (lk B k) ∈ D) ∧ D.Pairwise fun a b => ltB a.1 b.1 = true
theorem none_of {A : List Pr} {h : ByteArray} (h1 : ∀ k, lk A k ≠ none → ltB h k = true) : lk A h = none := by
  cases e : lk A h with
  | none => rfl
  | some v =>
    have := h1 h (by rw [e]; simp)
    rw [ltB_irrefl] at this
    cases this
theorem char_gt {A B : List Pr} {D : List Ch} {h : ByteArray} (h1 : ∀ k, lk A k ≠ none → ltB h k = true) (h2 : ∀ k, lk B k ≠ none → ltB h k = true) (H : Char A B D) : ∀ c ∈ D, ltB h c.1 = true := by
  intro c hc
  obtain ⟨_, hne⟩ := H.1 c hc
  cases e : lk A c.1 with
  | none =>
    refine h2 _ fun e2 => hne ?_
    rw [e, e2]
  | some v => exact h1 _ (by rw [e]; simp)
theorem char_yes {A B A' B' : List Pr} {D : List Ch} {h : ByteArray} {x y : Option ByteArray} (hA : ∀ k, lk A k = if k = h then x else lk A' k) (hB : ∀ k, lk B k = if k = h then y else lk B' k)
    (h1 : ∀ k, lk A' k ≠ none → ltB h k = true) (h2 : ∀ k, lk B' k ≠ none → ltB h k = true) (xy : x ≠ y) (H : Char A' B' D) : Char A B (chF h x y :: D) := by
  have hg := char_gt h1 h2 H
  refine ⟨fun c hc => ?_, fun k hk => ?_, List.pairwise_cons.2 ⟨hg, H.2.2⟩⟩
  · rcases List.mem_cons.1 hc with rfl | hc
    · have e : (chF h x y).1 = h := rfl
      rw [e, hA, hB, if_pos rfl, if_pos rfl]
      exact ⟨rfl, xy⟩
    · have hne : c.1 ≠ h := fun e => by have := hg c hc; rw [e, ltB_irrefl] at this; cases this
      rw [hA, hB, if_neg hne, if_neg hne]
      exact H.1 c hc
  · rw [hA, hB] at hk ⊢
    by_cases e : k = h
    · subst e
      rw [if_pos rfl, if_pos rfl]
      exact List.mem_cons_self ..
    · rw [if_neg e, if_neg e] at hk ⊢
      exact List.mem_cons_of_mem _ (H.2.1 k hk)
theorem char_no {A B A' B' : List Pr} {D : List Ch} {h : ByteArray} {x : Option ByteArray} (hA : ∀ k, lk A k = if k = h then x else lk A' k) (hB : ∀ k, lk B k = if k = h then x else lk B' k)
    (h1 : ∀ k, lk A' k ≠ none → ltB h k = true) (h2 : ∀ k, lk B' k ≠ none → ltB h k = true) (H : Char A' B' D) : Char A B D := by
  have hg := char_gt h1 h2 H
  refine ⟨fun c hc => ?_, fun k hk => ?_, H.2.2⟩
  · have hne : c.1 ≠ h := fun e => by have := hg c hc; rw [e, ltB_irrefl] at this; cases this
    rw [hA, hB, if_neg hne, if_neg hne]
    exact H.1 c hc
  · rw [hA, hB] at hk ⊢
    by_cases e : k = h
    · rw [if_pos e, if_pos e] at hk
      exact absurd rfl hk
    · rw [if_neg e, if_neg e] at hk ⊢
      exact H.2.1 k hk
theorem lk_cons {p : Pr} {a : List Pr} (h : Ris (p :: a)) (k : ByteArray) : lk (p :: a) k = if k = p.1 then some p.2 else lk a k := by
  have ha : Ris a := (List.pairwise_cons.1 h).2
  apply Option.ext
  intro v
  rw [lk_some h]
  by_cases e : k = p.1
  · subst e
    rw [if_pos rfl]
    constructor
    · intro x
      rw [h.key x (show (p.1, p.2) ∈ p :: a from List.mem_cons_self ..)]
    · intro x
      injection x with x
      rw [← x]
      exact List.mem_cons_self ..
  · rw [if_neg e, lk_some ha]
    constructor
    · intro x
      rcases List.mem_cons.1 x with x | x
      · exact absurd (congrArg Prod.fst x) e
      · exact x
    · intro x; exact List.mem_cons_of_mem _ x
theorem lk_gt {p : Pr} {a : List Pr} (h : Ris (p :: a)) : ∀ k, lk a k ≠ none → ltB p.1 k = true := by
  intro k hk
  have ha : Ris a := (List.pairwise_cons.1 h).2
  cases e : lk a k with
  | none => exact absurd e hk
  | some v => exact (List.pairwise_cons.1 h).1 (k, v) ((lk_some ha).1 e)
theorem lk_below {h : ByteArray} {b : List Pr} (hb : ∀ k, lk b k ≠ none → ltB h k = true) (k : ByteArray) : lk b k = if k = h then none else lk b k := by
  by_cases e : k = h
  · rw [if_pos e, e]; exact none_of hb
  · rw [if_neg e]
theorem lk_gt2 {p q : Pr} {b : List Pr} (h : Ris (q :: b)) (hlt : ltB p.1 q.1 = true) : ∀ k, lk (q :: b) k ≠ none → ltB p.1 k = true := by
  intro k hk
  rw [lk_cons h] at hk
  by_cases e : k = q.1
  · rw [e]; exact hlt
  · rw [if_neg e] at hk
    exact ltB_trans hlt (lk_gt h k hk)
theorem lk_nil_gt (h : ByteArray) : ∀ k, lk [] k ≠ none → ltB h k = true := fun k hk => absurd (lk_nil k) hk
theorem lk_nil_if (h k : ByteArray) : lk [] k = if k = h then none else lk [] k := by rw [lk_nil]; split <;> rfl
theorem dif_char : ∀ (n : Nat) (a b : List Pr), a.length + b.length ≤ n → Ris a → Ris b → Char a b (difM a b)
  | n, [], [], _, _, _ => by rw [difM_nil]; exact ⟨fun c h => absurd h (by simp), fun k h => absurd rfl h, List.Pairwise.nil⟩
  | n, p :: a, [], hn, ha, hb => by
    rw [difM_a]
    exact char_yes (h := p.1) (x := some p.2) (y := none) (lk_cons ha) (lk_nil_if p.1) (lk_gt ha) (lk_nil_gt _) (by simp) (dif_char (n - 1) a [] (by simp at hn ⊢; omega) (List.pairwise_cons.1 ha).2 hb)
  | n, [], q :: b, hn, ha, hb => by
    rw [difM_b]
    exact char_yes (h := q.1) (x := none) (y := some q.2) (lk_nil_if q.1) (lk_cons hb) (lk_nil_gt _) (lk_gt hb) (by simp) (dif_char (n - 1) [] b (by simp at hn ⊢; omega) ha (List.pairwise_cons.1 hb).2)
  | n, p :: a, q :: b, hn, ha, hb => by
    have ha' := (List.pairwise_cons.1 ha).2
    have hb' := (List.pairwise_cons.1 hb).2
    rcases ltB_tri p.1 q.1 with g | g | g
    · rw [difM_lt g]
      exact char_yes (h := p.1) (x := some p.2) (y := none) (lk_cons ha) (lk_below (lk_gt2 hb g)) (lk_gt ha) (lk_gt2 hb g) (by simp) (dif_char (n - 1) a (q :: b) (by simp at hn ⊢; omega) ha' hb)
    · by_cases g' : p.2 = q.2
      · rw [difM_same g g']
        refine char_no (h := p.1) (x := some p.2) (lk_cons ha) ?_ (lk_gt ha) ?_ (dif_char (n - 1) a b (by simp at hn ⊢; omega) ha' hb')
        · rw [g, g']; exact lk_cons hb
        · rw [g]; exact lk_gt hb
      · rw [difM_turn g g']
        have := char_yes (A := p :: a) (B := q :: b) (A' := a) (B' := b) (h := q.1) (x := some p.2) (y := some q.2) (by rw [← g]; exact lk_cons ha) (lk_cons hb) (by rw [← g]; exact lk_gt ha) (lk_gt hb) (by simpa using g') (dif_char (n - 1) a b (by simp at hn ⊢; omega) ha' hb')
        exact this
    · rw [difM_gt g]
      exact char_yes (h := q.1) (x := none) (y := some q.2) (lk_below (lk_gt2 ha g)) (lk_cons hb) (lk_gt2 ha g) (lk_gt hb) (by simp) (dif_char (n - 1) (p :: a) b (by simp at hn ⊢; omega) ha hb')
termination_by _ a b => a.length + b.length
theorem dif_inv : ∀ (n : Nat) (a b : List Pr), a.length + b.length ≤ n → invL (difM a b) = difM b a
  | n, [], [], _ => by rw [difM_nil]; rfl
  | n, p :: a, [], hn => by rw [difM_a, difM_b, ← dif_inv (n - 1) a [] (by simp at hn ⊢; omega)]; rfl
  | n, [], q :: b, hn => by rw [difM_b, difM_a, ← dif_inv (n - 1) [] b (by simp at hn ⊢; omega)]; rfl
  | n, p :: a, q :: b, hn => by
    rcases ltB_tri p.1 q.1 with g | g | g
    · rw [difM_lt g, difM_gt g, ← dif_inv (n - 1) a (q :: b) (by simp at hn ⊢; omega)]; rfl
    · by_cases g' : p.2 = q.2
      · rw [difM_same g g', difM_same g.symm g'.symm, ← dif_inv (n - 1) a b (by simp at hn ⊢; omega)]
      · rw [difM_turn g g', difM_turn g.symm (fun e => g' e.symm), ← dif_inv (n - 1) a b (by simp at hn ⊢; omega)]
        show (q.1, q.2, p.2, true, true) :: invL (difM a b) = _
        unfold turnC
        rw [g]
    · rw [difM_gt g, difM_lt g, ← dif_inv (n - 1) (p :: a) b (by simp at hn ⊢; omega)]; rfl
termination_by _ a b => a.length + b.length
theorem ris_cp {l : List Ch} (h : l.Pairwise fun a b => ltB a.1 b.1 = true) : risesTo (cp l) (cp l).length :=
  rise_cp.2 fun i hi => List.pairwise_iff_getElem.1 h i (i + 1) (by omega) hi (by omega)
/-- what is done to a key stays -/
theorem lk_app_mem {m : List Pr} {l : List Ch} (hm : Ris m) (hr : risesTo (cp l) (cp l).length) : ∀ c ∈ l, lk (appM m l) c.1 = if c.2.2.2.2 = true then some c.2.2.1 else none := by
  intro c hc
  obtain ⟨i, hi, rfl⟩ := List.mem_iff_getElem.1 hc
  have e : l = l.take (i + 1) ++ l.drop (i + 1) := (List.take_append_drop _ _).symm
  have e2 : appM m l = appM (appM m (l.take (i + 1))) (l.drop (i + 1)) := by
    unfold appM
    rw [← List.foldl_append, List.take_append_drop]
  rw [e2, lk_app_other _ (ris_app _ hm), appM_succ _ _ _ hi, lk_step (ris_app _ hm), if_pos rfl]
  intro d hd
  obtain ⟨j, hj, rfl⟩ := List.mem_iff_getElem.1 hd
  rw [List.length_drop] at hj
  rw [List.getElem_drop]
  exact (ne_of_lt (ch_lt hr (by omega) (show i < i + 1 + j by omega))).symm
theorem lk_val_ok {m : List Pr} (h : mapB m = true) (k : ByteArray) : valB (valOf m k) = true := by
  cases hh : hasB m k
  · rw [valOf_no hh]
    exact okB_yes (by simp) (by simp) (fun j hj _ => absurd hj (by simp))
  · obtain ⟨hlt, he⟩ := hasB_iff.1 hh
    rw [valOf_yes hlt he]
    exact ((mapB_all.1 h).2.1 _ (List.getElem_mem hlt)).2
theorem lk_key_ok {m : List Pr} (h : mapB m = true) {k : ByteArray} (hh : hasB m k = true) : keyB k = true := by
  obtain ⟨hlt, he⟩ := hasB_iff.1 hh
  rw [← he]
  exact ((mapB_all.1 h).2.1 _ (List.getElem_mem hlt)).1
theorem dif_fit {a b : List Pr} (ha : mapB a = true) (hb : mapB b = true) : ∀ c ∈ difM a b, fitB a c = true := by
  intro c hc
  obtain ⟨e, hne⟩ := (dif_char _ a b (Nat.le_refl _) (mapB_ris ha) (mapB_ris hb)).1 c hc
  have e1 : c.2.1 = valOf a c.1 := by rw [lk_val]; exact congrArg (fun z : Ch => z.2.1) e
  have e2 : c.2.2.1 = valOf b c.1 := by rw [lk_val]; exact congrArg (fun z : Ch => z.2.2.1) e
  have e3 : c.2.2.2.1 = hasB a c.1 := by rw [lk_has]; exact congrArg (fun z : Ch => z.2.2.2.1) e
  have e4 : c.2.2.2.2 = hasB b c.1 := by rw [lk_has]; exact congrArg (fun z : Ch => z.2.2.2.2) e
  refine fitB_iff.2 ⟨?_, by rw [e2]; exact lk_val_ok hb _, e3.symm, e1.symm, ?_⟩
  · cases h1 : hasB a c.1
    · cases h2 : hasB b c.1
      · exact absurd (by rw [lk_no h1, lk_no h2]) hne
      · exact lk_key_ok hb h2
    · exact lk_key_ok ha h1
  · cases h2 : hasB b c.1
    · right; rw [e2, valOf_no h2]
    · left; rw [e4, h2]
theorem dif_app {a b : List Pr} (ha : mapB a = true) (hb : mapB b = true) : appM a (difM a b) = b := by
  have hc := dif_char _ a b (Nat.le_refl _) (mapB_ris ha) (mapB_ris hb)
  have hr := ris_cp hc.2.2
  refine ext_lk (ris_app _ (mapB_ris ha)) (mapB_ris hb) fun k => ?_
  by_cases e : lk a k = lk b k
  · rw [lk_app_other _ (mapB_ris ha), e]
    intro c h1 h2
    obtain ⟨_, hne⟩ := hc.1 c h1
    rw [h2] at hne
    exact hne e
  · have h1 := lk_app_mem (mapB_ris ha) hr _ (hc.2.1 k e)
    have e1 : (chF k (lk a k) (lk b k)).1 = k := rfl
    rw [e1] at h1
    rw [h1]
    show (if (lk b k).isSome = true then some ((lk b k).getD ByteArray.empty) else none) = lk b k
    cases lk b k <;> rfl
theorem dif_ok {a b : List Pr} (ha : mapB a = true) (hb : mapB b = true) : appB a (difM a b) = true :=
  appB_all ha (ris_cp (dif_char _ a b (Nat.le_refl _) (mapB_ris ha) (mapB_ris hb)).2.2) (fun i hi => dif_fit ha hb _ (List.getElem_mem hi)) (by rw [dif_app ha hb]; exact hb)
theorem dif_appL {a b : List Pr} (ha : mapB a = true) (hb : mapB b = true) : appL a (difM a b) = b := by rw [appL_yes (dif_ok ha hb), dif_app ha hb]
theorem dif_self {a : List Pr} (ha : mapB a = true) : difM a a = [] := by
  have hc := dif_char _ a a (Nat.le_refl _) (mapB_ris ha) (mapB_ris ha)
  cases e : difM a a with
  | nil => rfl
  | cons c r => rw [e] at hc; exact absurd rfl (hc.1 c (List.mem_cons_self ..)).2
/-- changes that are done can be undone -/
theorem inv_fit {m : List Pr} {l : List Ch} (h : appB m l = true) : ∀ c ∈ l, lk (appM m l) c.1 = (if c.2.2.2.2 = true then some c.2.2.1 else none) ∧ lk m c.1 = (if c.2.2.2.1 = true then some c.2.1 else none) ∧ fitB (appM m l) (c.1, c.2.2.1, c.2.1, c.2.2.2.2, c.2.2.2.1) = true := by
  intro c hc
  obtain ⟨hm, ha, he⟩ := appB_iff.1 h
  have hr := rise_cp.2 fun i hi => ha.2 i hi hi
  have h1 := lk_app_mem (mapB_ris hm) hr c hc
  obtain ⟨i, hi, rfl⟩ := List.mem_iff_getElem.1 hc
  have hf := ha.1 i hi hi
  rw [fit_take (mapB_ris hm) hr hi] at hf
  obtain ⟨f1, f2, f3, f4, f5⟩ := fitB_iff.1 hf
  have h2 : lk m l[i].1 = (if l[i].2.2.2.1 = true then some l[i].2.1 else none) := by
    unfold lk
    rw [f3, f4]
  refine ⟨h1, h2, fitB_iff.2 ⟨f1, by rw [← f4]; exact lk_val_ok hm _, ?_, ?_, ?_⟩⟩
  · show hasB (appM m l) l[i].1 = l[i].2.2.2.2
    rw [lk_has, h1]
    cases l[i].2.2.2.2 <;> rfl
  · show valOf (appM m l) l[i].1 = l[i].2.2.1
    rw [lk_val, h1]
    rcases f5 with g | g
    · rw [g]; rfl
    · rw [g]; split <;> rfl
  · show l[i].2.2.2.1 = true ∨ l[i].2.1 = ByteArray.empty
    cases g : l[i].2.2.2.1
    · right; rw [← f4, valOf_no (by rw [f3, g])]
    · exact .inl rfl
theorem cp_inv (l : List Ch) : (∀ i (h : i + 1 < l.length), ltB l[i].1 l[i + 1].1 = true) → risesTo (cp (invL l)) (cp (invL l)).length := by
  intro h
  refine rise_cp.2 fun i hi => ?_
  rw [invL_len] at hi
  rw [invL_get, invL_get]
  exact h i hi
theorem inv_app {m : List Pr} {l : List Ch} (h : appB m l = true) : appM (appM m l) (invL l) = m := by
  obtain ⟨hm, ha, he⟩ := appB_iff.1 h
  have hr := cp_inv l fun i hi => ha.2 i hi hi
  refine ext_lk (ris_app _ (ris_app _ (mapB_ris hm))) (mapB_ris hm) fun k => ?_
  by_cases e : ∃ c ∈ l, c.1 = k
  · obtain ⟨c, hc, rfl⟩ := e
    obtain ⟨_, h2, _⟩ := inv_fit h c hc
    have h3 := lk_app_mem (ris_app l (mapB_ris hm)) hr _ (inv_mem hc)
    rw [h2]
    exact h3
  · have hne : ∀ c ∈ l, c.1 ≠ k := fun c hc x => e ⟨c, hc, x⟩
    rw [lk_app_other (invL l) (ris_app _ (mapB_ris hm)) (fun c hc => by obtain ⟨d, hd, e⟩ := inv_mem' hc; rw [e]; exact hne d hd), lk_app_other l (mapB_ris hm) hne]
theorem inv_ok {m : List Pr} {l : List Ch} (h : appB m l = true) : appB (appM m l) (invL l) = true := by
  obtain ⟨hm, ha, he⟩ := appB_iff.1 h
  refine appB_all he (cp_inv l fun i hi => ha.2 i hi hi) (fun i hi => ?_) (by rw [inv_app h]; exact hm)
  rw [invL_len] at hi
  rw [invL_get]
  exact (inv_fit h _ (List.getElem_mem hi)).2.2
theorem inv_appL {m : List Pr} {l : List Ch} (h : appB m l = true) : appL (appL m l) (invL l) = m := by rw [appL_yes h, appL_yes (inv_ok h), inv_app h]
/-- what leads on cannot be done twice -/
theorem dif_again {m n : List Pr} (hm : mapB m = true) (hn : mapB n = true) (h : ¬ difM m n = []) : appB n (difM m n) = false := by
  have hc := dif_char _ m n (Nat.le_refl _) (mapB_ris hm) (mapB_ris hn)
  have hl : 0 < (difM m n).length := by
    rcases Nat.eq_zero_or_pos (difM m n).length with g | g
    · exact absurd (List.eq_nil_of_length_eq_zero g) h
    · exact g
  refine appB_fit0 hn (ris_cp hc.2.2) hl ?_
  cases e : fitB n (difM m n)[0]
  · rfl
  · obtain ⟨_, _, f3, f4, _⟩ := fitB_iff.1 e
    obtain ⟨e0, hne⟩ := hc.1 _ (List.getElem_mem hl)
    have e1 : (difM m n)[0].2.1 = valOf m (difM m n)[0].1 := by rw [lk_val]; exact congrArg (fun z : Ch => z.2.1) e0
    have e3 : (difM m n)[0].2.2.2.1 = hasB m (difM m n)[0].1 := by rw [lk_has]; exact congrArg (fun z : Ch => z.2.2.2.1) e0
    exact absurd (lk_eq.2 ⟨by rw [f3, e3], by rw [f4, e1]⟩).symm hne
theorem app_none {m : List Pr} : appB m [] = mapB m := by
  cases h : mapB m
  · exact appB_map h
  · exact appB_iff.2 ⟨h, appsTo_zero m [], h⟩
theorem appL_none {m : List Pr} (h : mapB m = true) : appL m [] = m := by rw [appL_yes (by rw [app_none]; exact h)]; rfl
end Go.Proofs.YtaofemdhgfejjaaGreatDoor
/-
  Mergers of what was changed apart. Plain mathematics.
-/
namespace Go.Proofs.YtaofemdhgfejjaaGreatDoor
open Go.RowKit

/-- no key stands in both lists of changes -/
def apartD (x y : List Ch) : Prop := ∀ c ∈ x, ∀ d ∈ y, c.1 ≠ d.1
theorem apart_lk {o a b : List Pr} (h0 : mapB o = true) (h1 : mapB a = true) (h2 : mapB b = true) (h : apartD (difM o a) (difM o b)) (k : ByteArray) : lk o k = lk a k ∨ lk o k = lk b k := by
  have ca := dif_char _ o a (Nat.le_refl _) (mapB_ris h0) (mapB_ris h1)
  have cb := dif_char _ o b (Nat.le_refl _) (mapB_ris h0) (mapB_ris h2)
  by_cases e1 : lk o k = lk a k
  · exact .inl e1
  · by_cases e2 : lk o k = lk b k
    · exact .inr e2
    · have := h _ (ca.2.1 k e1) _ (cb.2.1 k e2)
      exact absurd rfl this
theorem apart_mer {o a b : List Pr} (h0 : mapB o = true) (h1 : mapB a = true) (h2 : mapB b = true) (h : apartD (difM o a) (difM o b)) : badM o a b = [] ∧ appM a (difM o b) = merM o a b o := by
  have hk := apart_lk h0 h1 h2 h
  have hone : ∀ k, oneM (lk o k) (lk a k) (lk b k) = some (if lk o k = lk a k then lk b k else lk a k) := fun k => by
    unfold oneM
    by_cases e : lk a k = lk o k
    · rw [if_pos e, if_pos e.symm]
    · have e' : (if lk o k = lk a k then lk b k else lk a k) = lk a k := if_neg (fun x => e x.symm)
      rw [if_neg e, e']
      rcases hk k with x | x
      · exact absurd x.symm e
      · rw [if_pos (.inl x.symm)]
  refine ⟨bad_nil (mapB_ris h0) (mapB_ris h1) (mapB_ris h2) fun k => by rw [hone k]; simp, ?_⟩
  have cb := dif_char _ o b (Nat.le_refl _) (mapB_ris h0) (mapB_ris h2)
  have hr := ris_cp cb.2.2
  refine ext_lk (ris_app _ (mapB_ris h1)) (ris_mer ..) fun k => ?_
  rw [lk_mer (mapB_ris h0) (mapB_ris h1) (mapB_ris h2) (side_sub (.inl rfl))]
  unfold pickM
  rw [hone k, Option.getD_some]
  by_cases e : lk o k = lk b k
  · rw [lk_app_other _ (mapB_ris h1)]
    · by_cases e2 : lk o k = lk a k
      · rw [if_pos e2, ← e2, e]
      · rw [if_neg e2]
    · intro c h3 h4
      obtain ⟨_, hne⟩ := cb.1 c h3
      rw [h4] at hne
      exact hne e
  · have h3 := lk_app_mem (mapB_ris h1) hr _ (cb.2.1 k e)
    have e1 : (chF k (lk o k) (lk b k)).1 = k := rfl
    rw [e1] at h3
    rw [h3]
    rcases hk k with x | x
    · rw [if_pos x]
      show (if (lk b k).isSome = true then some ((lk b k).getD ByteArray.empty) else none) = lk b k
      cases lk b k <;> rfl
    · exact absurd x e
theorem apart_ok {o a b : List Pr} (hg : mgB o a b = true) (h : apartD (difM o a) (difM o b)) : appB a (difM o b) = true ∧ appL a (difM o b) = mgL o a b ∧ mgK o a b = [] := by
  obtain ⟨h0, h1, h2, h3⟩ := mgB_iff.1 hg
  obtain ⟨e1, e2⟩ := apart_mer h0 h1 h2 h
  have cb := dif_char _ o b (Nat.le_refl _) (mapB_ris h0) (mapB_ris h2)
  have ca := dif_char _ o a (Nat.le_refl _) (mapB_ris h0) (mapB_ris h1)
  have hb : appB a (difM o b) = true := by
    refine appB_all h1 (ris_cp cb.2.2) (fun i hi => ?_) (by rw [e2]; exact h3)
    have hm := List.getElem_mem hi
    rw [← fitB_lk (m := o)]
    · exact dif_fit h0 h2 _ hm
    · by_cases x : lk o (difM o b)[i].1 = lk a (difM o b)[i].1
      · exact x
      · have := h _ (ca.2.1 _ x) _ hm
        exact absurd rfl this
  exact ⟨hb, by rw [appL_yes hb, mgL_yes hg, e2], by rw [mgK_yes hg, e1]⟩
end Go.Proofs.YtaofemdhgfejjaaGreatDoor
/-
  What the laws' own helpers on pairs answer: szPair, szPairS, toPair, toPairS, eqPair, eqPairS.
-/
namespace Go.Proofs.YtaofemdhgfejjaaGreatDoor
open Go.RowKit

/-- what szPair leaves: -1, or what is left -/
def SzRet (n : Nat) (left : Int) (w : World) (e : Ending) (w' : World) : Prop := (e = .returned (.int .i64 (-1)) ∨ ∃ r : Int, 0 ≤ r ∧ r + n ≤ left ∧ e = .returned (.int .i64 r)) ∧ Below w.heap.size w w'

end Go.Proofs.YtaofemdhgfejjaaGreatDoor
/-
  What the laws' own helpers on lists of pairs answer: toPairS, eqPairS.
-/
namespace Go.Proofs.YtaofemdhgfejjaaGreatDoor
open Go.RowKit

theorem infoPair : (Tryz.prog.info? 60).map (fun i => (i.zero, i.size, i.bytes)) = some (some (.agg #[.string ByteArray.empty, .string ByteArray.empty]), 2, 32) := by kernel_rfl

theorem made_pairs (n : Nat) : (madeCells #[Value.string ByteArray.empty, Value.string ByteArray.empty] (n * 2)).toList = pcells (List.replicate n emp) := by
  apply List.ext_getElem?
  intro j
  by_cases hj : j < n * 2
  · have h2 := pcells_get (List.replicate n emp) (j / 2) (by simp; omega)
    rcases Nat.mod_two_eq_zero_or_one j with e | e
    · have hj2 : j / 2 * 2 = j := by omega
      rw [hj2] at h2
      rw [h2.1]
      simp [madeCells, hj, e, emp]
    · have hj2 : j / 2 * 2 + 1 = j := by omega
      rw [hj2] at h2
      rw [h2.2]
      simp [madeCells, hj, e, emp]
  · rw [List.getElem?_eq_none (by simp [madeCells]; omega), List.getElem?_eq_none (by rw [pcells_length]; simp; omega)]

theorem set_step (l : List Pr) (n k : Nat) (hk : k < l.length) (hn : l.length = n) : (l.take k ++ List.replicate (n - k) emp).set k (l[k].1, l[k].2) = l.take (k + 1) ++ List.replicate (n - (k + 1)) emp := by
  have hlen : (l.take k).length = k := by rw [List.length_take]; omega
  have h1 : (l.take k ++ List.replicate (n - k) emp).set k (l[k].1, l[k].2) = l.take k ++ (List.replicate (n - k) emp).set 0 (l[k].1, l[k].2) := by
    rw [List.set_append_right _ _ (by omega), hlen, Nat.sub_self]
  rw [h1, show n - k = n - (k + 1) + 1 by omega, List.replicate_succ, List.set_cons_zero, List.take_succ_eq_append_getElem hk, List.append_assoc]
  rfl

end Go.Proofs.YtaofemdhgfejjaaGreatDoor
/-
  An argument that is a list of pairs, opened.
-/
namespace Go.Proofs.YtaofemdhgfejjaaGreatDoor
open Go.ChangeShapes Go.WideShapes Go.ChangeAt Go.RowKit Go.Deep

section
variable {H : Type} {enc : TypeId × Value → H} {W : World}
end
end Go.Proofs.YtaofemdhgfejjaaGreatDoor
/-
  What the laws' own helpers on changes answer: szChange, toChange, eqChange, szChangeS, toChangeS, eqChangeS; an argument that is a list of changes, opened.
-/
namespace Go.Proofs.YtaofemdhgfejjaaGreatDoor
open Go.RowKit

def eqC (p q : Ch) : Bool := decide (p = q)
theorem eqC_yes {p q : Ch} (h : p = q) : eqC p q = true := decide_eq_true h
theorem eqC_no {p q : Ch} (h : ¬ p = q) : eqC p q = false := decide_eq_false h
def eqCL (l l' : List Ch) : Bool := decide (l = l')
theorem eqCL_yes {p q : List Ch} (h : p = q) : eqCL p q = true := decide_eq_true h
theorem eqCL_no {p q : List Ch} (h : ¬ p = q) : eqCL p q = false := decide_eq_false h
theorem eqCL_self (p : List Ch) : eqCL p p = true := eqCL_yes rfl
theorem neB_yes {a b : Bool} (h : ¬ a = b) : (a != b) = true := by cases a <;> cases b <;> simp_all
theorem eqBf {a b : Bool} (h : ¬ a = b) : (a == b) = false := by cases a <;> cases b <;> simp_all

theorem made_changes (n : Nat) : (madeCells (arrC emC) (n * 5)).toList = ccells (List.replicate n emC) := by
  apply List.ext_getElem?
  intro j
  by_cases hj : j < n * 5
  · obtain ⟨p0, p1, p2, p3, p4⟩ := ccells_get (List.replicate n emC) (j / 5) (by simp; omega)
    have hj5 : j = j / 5 * 5 + j % 5 := by omega
    have hm : j % 5 < 5 := Nat.mod_lt _ (by omega)
    have hmm : (madeCells (arrC emC) (n * 5)).toList[j]? = some ((arrC emC).getD (j % 5) default) := by simp [madeCells, hj, arrC]
    rw [hmm]
    generalize j % 5 = r at hj5 hm
    match r, hm with
    | 0, _ => rw [show j / 5 * 5 = j by omega] at p0; rw [p0]; simp [arrC, emC]
    | 1, _ => rw [show j / 5 * 5 + 1 = j by omega] at p1; rw [p1]; simp [arrC, emC]
    | 2, _ => rw [show j / 5 * 5 + 2 = j by omega] at p2; rw [p2]; simp [arrC, emC]
    | 3, _ => rw [show j / 5 * 5 + 3 = j by omega] at p3; rw [p3]; simp [arrC, emC]
    | 4, _ => rw [show j / 5 * 5 + 4 = j by omega] at p4; rw [p4]; simp [arrC, emC]
  · rw [List.getElem?_eq_none (by simp [madeCells]; omega), List.getElem?_eq_none (by rw [ccells_length]; simp; omega)]
theorem set_stepC (l : List Ch) (n k : Nat) (hk : k < l.length) (hn : l.length = n) : (l.take k ++ List.replicate (n - k) emC).set k l[k] = l.take (k + 1) ++ List.replicate (n - (k + 1)) emC := by
  have hlen : (l.take k).length = k := by rw [List.length_take]; omega
  have h1 : (l.take k ++ List.replicate (n - k) emC).set k l[k] = l.take k ++ (List.replicate (n - k) emC).set 0 l[k] := by
    rw [List.set_append_right _ _ (by omega), hlen, Nat.sub_self]
  rw [h1, show n - k = n - (k + 1) + 1 by omega, List.replicate_succ, List.set_cons_zero, List.take_succ_eq_append_getElem hk, List.append_assoc]
  rfl
end Go.Proofs.YtaofemdhgfejjaaGreatDoor
/-
  What impl.editsBetween answers.
-/
namespace Go.Proofs.YtaofemdhgfejjaaGreatDoor
open Go.RowKit

def lenV : Value → Nat
  | .slice _ n _ => n
  | _ => 0
theorem edb_drewN {B : Nat} {w w' : World} (h : Below B w w') (n : Nat) : Below B w (w'.drewN n) := h.trans (Quiet.below ⟨n, rfl⟩ _)
/-- a slice that is gone through from its first pair on -/
def Cur (w : World) (A : Option Addr) (cap n : Nat) (l : List Pr) : Prop := PIn w w.heap.size A l ∧ l.length ≤ cap ∧ l.length = n
theorem Cur.first {w wr : World} {A : Option Addr} {cap n : Nat} {p : Pr} {l : List Pr} (h : Cur w A cap n (p :: l)) (hb : Below w.heap.size w wr) :
    ∃ b off, A = some ⟨b, off, none⟩ ∧ b < w.heap.size ∧ wr.cell? ⟨b, off, none⟩ = some (.string p.1) ∧ wr.cell? ⟨b, off + 1, none⟩ = some (.string p.2) ∧ p.1.size ≤ maxLen ∧ p.2.size ≤ maxLen := by
  obtain ⟨b, off, e, hlt, hc⟩ := (h.1.below hb).2 (by simp)
  obtain ⟨h1, h2⟩ := hc 0 (by simp)
  obtain ⟨s1, s2⟩ := h.1.1 0 (by simp)
  exact ⟨b, off, e, hlt, by simpa using h1, by simpa using h2, s1, s2⟩
theorem Cur.next {w : World} {A : Option Addr} {cap n : Nat} {p : Pr} {l : List Pr} (h : Cur w A cap n (p :: l)) : Cur w (cutA A cap 1) (cap - 1) (n - 1) l := by
  obtain ⟨h1, h2, h3⟩ := h
  refine ⟨?_, by simp at h2; omega, by simp at h3; omega⟩
  have := h1.drop h2 1
  simpa using this
theorem EOwn.cap_le {w : World} {B : Nat} {A : Option Addr} {cap : Nat} {l : List Ch} (h : EOwn w B A cap l) : l.length ≤ cap := by
  rcases h.2 with ⟨e, e'⟩ | ⟨g, c, cur, e, _, _, hnc, _⟩
  · injection e with e1 e2 e3; omega
  · injection e with e1 e2 e3; omega
theorem one_cell (w : World) (u : Value) (t : TypeId) {g : Nat} (hg : w.heap.size = g) : (w.alloc (.cells #[u] t)).cell? ⟨g, 0, none⟩ = some u := by subst hg; exact cell_of_row _ w.heap.size 0 #[u] t (0, 0) (heap_alloc_new w _)
theorem cut1 (A : Option Addr) (n cap : Nat) (h : 1 ≤ n) (w : World) : (Instr.slice 24 (.slice A n cap) (some (.int .i64 1)) none none).run Tryz.prog w = .ok (.slice (cutA A cap 1) (n - 1) (cap - 1)) w := run_cut_l 24 Tryz.underlying24 A n cap 1 h w

/-- a row of edits of the call's own comes back -/
def RetE (B : Nat) (l : List Ch) (w : World) (e : Ending) (w' : World) : Prop := ∃ A cap, l.length ≤ cap ∧ e = .returned (.slice A l.length cap) ∧ EOwn w' B A cap l ∧ Below B w w'
set_option maxRecDepth 100000 in
set_option maxHeartbeats 8000000 in
theorem editsBetween_any (A : Option Addr) (a : List Pr) (cap : Nat) (A' : Option Addr) (b : List Pr) (cap' : Nat) (w : World) (hla : a.length ≤ 1000) (hlb : b.length ≤ 1000) (hca : a.length ≤ cap) (hcb : b.length ≤ cap') (hin : PIn w w.heap.size A a) (hin' : PIn w w.heap.size A' b) :
    Calls Tryz.prog 39 #[.slice A a.length cap, .slice A' b.length cap'] w (RetE w.heap.size (difM a b) w) := by
  have CA : Hid (Cur w A cap a.length a) := hide ⟨hin, hca, rfl⟩
  have CB : Hid (Cur w A' cap' b.length b) := hide ⟨hin', hcb, rfl⟩
  have O1 := hide (EOwn.nil w w.heap.size)
  have B1 := hide (Below.refl w.heap.size w)
  clear hin hin' hca hcb
  generalize a.length = na at hla CA ⊢
  generalize b.length = nb at hlb CB ⊢
  go_enter Tryz.func39, Tryz.ntmps39
  go_wp2
  go_loopw [0, 1, 5] (fun av bv ov wr => ∃ (a' b' : List Pr) (n1 n2 : Nat) (Aa : Option Addr) (ca : Nat) (Ab : Option Addr) (cb : Nat) (A2 : Option Addr) (cap2 : Nat) (d : List Ch), av = .slice Aa n1 ca ∧ bv = .slice Ab n2 cb ∧ ov = .slice A2 d.length cap2 ∧ Hid (Cur w Aa ca n1 a') ∧ Hid (Cur w Ab cb n2 b') ∧ Hid (d ++ difM a' b' = difM a b) ∧ Hid (d.length + n1 + n2 ≤ na + nb) ∧ Hid (EOwn wr w.heap.size A2 cap2 d) ∧ Hid (Below w.heap.size w wr)) (fun av bv _ _ => lenV av + lenV bv)
  case atStart => exact ⟨a, b, na, nb, _, _, _, _, _, 0, [], rfl, rfl, rfl, CA, CB, hide (by simp), hide (by simp), O1, B1⟩
  case round =>
    clear O1 B1 CA CB
    obtain ⟨a', b', n1, n2, Aa, ca, Ab, cb, A2, cap2, d, rfl, rfl, rfl, CA, CB, D, L, O, Q⟩ := hrel
    have hqs := Q.out.size
    have l1 := CA.out.2.2
    have l2 := CB.out.2.2
    rcases a' with _ | ⟨p, a1⟩
    · have t1 : decide (0 < n1) = false := decide_eq_false (by simp at l1; omega)
      have u1 : ((n1 : Int) == 0) = true := by rw [beq_iff_eq]; simp at l1; omega
      rcases b' with _ | ⟨q, b1⟩
      · have t2 : decide (0 < n2) = false := decide_eq_false (by simp at l2; omega)
        have E : Hid (d = difM a b) := hide (by have h7 := D.out; rw [difM_nil, List.append_nil] at h7; exact h7)
        clear D L l1 l2 CA CB
        go_wp2
        go_ret
        refine ⟨A2, cap2, ?_, ?_, ?_, Q.out⟩
        · rw [← E.out]; exact O.out.cap_le
        · rw [← E.out]; rfl
        · rw [← E.out]; exact O.out
      · have DS : Hid ((d ++ [gainC q]) ++ difM [] b1 = difM a b) := hide (by rw [← D.out, difM_b, List.append_assoc]; rfl)
        have t2 : decide (0 < n2) = true := decide_eq_true (by simp at l2; omega)
        have u2 : ((n2 : Int) == 0) = false := by rw [beq_eq_false_iff_ne]; simp at l2; omega
        obtain ⟨bb, ob, rfl, hbb, g1, g2, sb1, sb2⟩ := CB.out.first Q.out
        have hn2 : 1 ≤ n2 := by simp at l2; omega
        have hn2i : (0 : Int) < (n2 : Int) := by omega
        have NB := hide CB.out.next
        have K2 := cut1 (some ⟨bb, ob, none⟩) n2 cb hn2
        have EV := hide (edV_gain q)
        clear D
        generalize hqu : q.1 = u at *
        generalize hqv : q.2 = v at *
        clear l1 l2
        go_wp2
        go_quiet (fail)
        have Q_1 : Hid (Below w.heap.size w (wr.drewN nq)) := hide (edb_drewN Q.out nq)
        have O_1 : Hid (EOwn (wr.drewN nq) w.heap.size A2 cap2 d) := hide O.out
        have hq_1 : w.heap.size ≤ (wr.drewN nq).heap.size := hqs
        have g1_1 : (wr.drewN nq).cell? ⟨bb, ob, none⟩ = some (.string u) := g1
        have g2_1 : (wr.drewN nq).cell? ⟨bb, ob + 1, none⟩ = some (.string v) := g2
        clear Q O hqs g1 g2
        generalize wr.drewN nq = W1 at *
        go_wp2
        go_quiet (fail)
        have Q_2 : Hid (Below w.heap.size w (W1.drewN nq)) := hide (edb_drewN Q_1.out nq)
        have O_2 : Hid (EOwn (W1.drewN nq) w.heap.size A2 cap2 d) := hide O_1.out
        have hq_2 : w.heap.size ≤ (W1.drewN nq).heap.size := hq_1
        have g1_2 : (W1.drewN nq).cell? ⟨bb, ob, none⟩ = some (.string u) := g1_1
        have g2_2 : (W1.drewN nq).cell? ⟨bb, ob + 1, none⟩ = some (.string v) := g2_1
        clear Q_1 O_1 hq_1 g1_1 g2_1
        generalize W1.drewN nq = W2 at *
        go_wp2_with (at_builtin; (refine wpList_appE (l := d) (c := gainC q) 71 Tryz.underlying71 rfl (.tmp 83) (.tmp 89) rfl rfl rfl rfl (O_2.out.alloc _) (by rw [EV.out]; exact one_cell _ _ _ (by simp)) (Nat.le_trans hq_2 (by simp)) (by have := L.out; omega) ?_; intro A3 cap3 w3 own3 g3 r3; have B3 := hide (Q_2.out.trans (((Below.refl _ _).alloc hq_2 (.cells #[.iface 119 (.agg #[.string u, .string v])] 74)).trans ((O_2.out.alloc (.cells #[.iface 119 (.agg #[.string u, .string v])] 74)).grownBelow (by rw [rowOf_own]; exact g3) (Nat.le_trans hq_2 (by simp))))); have O3 := hide own3; clear own3 g3 r3))
        have L3 : Hid ((d ++ [gainC q]).length + n1 + (n2 - 1) ≤ na + nb) := hide (by have := L.out; simp; omega)
        exact ⟨⟨_, b1, n1, n2 - 1, _, _, _, _, A3, cap3, d ++ [gainC q], rfl, rfl, by simp, CA, NB, DS, hide (by have := L3.out; omega), O3, B3⟩, by simp [lenV]; omega⟩
    · have t1 : decide (0 < n1) = true := decide_eq_true (by simp at l1; omega)
      have u1 : ((n1 : Int) == 0) = false := by rw [beq_eq_false_iff_ne]; simp at l1; omega
      rcases b' with _ | ⟨q, b1⟩
      · have DS : Hid ((d ++ [lossC p]) ++ difM a1 [] = difM a b) := hide (by rw [← D.out, difM_a, List.append_assoc]; rfl)
        have t2 : decide (0 < n2) = false := decide_eq_false (by simp at l2; omega)
        have u2 : ((n2 : Int) == 0) = true := by rw [beq_iff_eq]; simp at l2; omega
        obtain ⟨ba, oa, rfl, hba, c1, c2, sa1, sa2⟩ := CA.out.first Q.out
        have hn1 : 1 ≤ n1 := by simp at l1; omega
        have hn1i : (0 : Int) < (n1 : Int) := by omega
        have NA := hide CA.out.next
        have K1 := cut1 (some ⟨ba, oa, none⟩) n1 ca hn1
        have EV := hide (edV_loss p)
        clear D
        generalize hpx : p.1 = x at *
        generalize hpy : p.2 = y at *
        clear l1 l2
        go_wp2
        go_quiet (fail)
        have Q_1 : Hid (Below w.heap.size w (wr.drewN nq)) := hide (edb_drewN Q.out nq)
        have O_1 : Hid (EOwn (wr.drewN nq) w.heap.size A2 cap2 d) := hide O.out
        have hq_1 : w.heap.size ≤ (wr.drewN nq).heap.size := hqs
        have c1_1 : (wr.drewN nq).cell? ⟨ba, oa, none⟩ = some (.string x) := c1
        have c2_1 : (wr.drewN nq).cell? ⟨ba, oa + 1, none⟩ = some (.string y) := c2
        clear Q O hqs c1 c2
        generalize wr.drewN nq = W1 at *
        go_wp2_with (at_builtin; (refine wpList_appE (l := d) (c := lossC p) 71 Tryz.underlying71 rfl (.tmp 58) (.tmp 64) rfl rfl rfl rfl (O_1.out.alloc _) (by rw [EV.out]; exact one_cell _ _ _ (by simp)) (Nat.le_trans hq_1 (by simp)) (by have := L.out; omega) ?_; intro A3 cap3 w3 own3 g3 r3; have B3 := hide (Q_1.out.trans (((Below.refl _ _).alloc hq_1 (.cells #[.iface 117 (.agg #[.string x, .string y])] 74)).trans ((O_1.out.alloc (.cells #[.iface 117 (.agg #[.string x, .string y])] 74)).grownBelow (by rw [rowOf_own]; exact g3) (Nat.le_trans hq_1 (by simp))))); have O3 := hide own3; clear own3 g3 r3))
        have L3 : Hid ((d ++ [lossC p]).length + (n1 - 1) + n2 ≤ na + nb) := hide (by have := L.out; simp; omega)
        exact ⟨⟨a1, _, n1 - 1, n2, _, _, _, _, A3, cap3, d ++ [lossC p], rfl, rfl, by simp, NA, CB, DS, hide (by have := L3.out; omega), O3, B3⟩, by simp [lenV]; omega⟩
      · rcases ltB_tri p.1 q.1 with hlt | heq | hgt
        · have DS : Hid ((d ++ [lossC p]) ++ difM a1 (q :: b1) = difM a b) := hide (by rw [← D.out, difM_lt hlt, List.append_assoc]; rfl)
          have r1 : Op.bytesLess p.1.toList q.1.toList = true := hlt
          have t2 : decide (0 < n2) = true := decide_eq_true (by simp at l2; omega)
          have u2 : ((n2 : Int) == 0) = false := by rw [beq_eq_false_iff_ne]; simp at l2; omega
          obtain ⟨bb, ob, rfl, hbb, g1, g2, sb1, sb2⟩ := CB.out.first Q.out
          have hn2 : 1 ≤ n2 := by simp at l2; omega
          have hn2i : (0 : Int) < (n2 : Int) := by omega
          obtain ⟨ba, oa, rfl, hba, c1, c2, sa1, sa2⟩ := CA.out.first Q.out
          have hn1 : 1 ≤ n1 := by simp at l1; omega
          have hn1i : (0 : Int) < (n1 : Int) := by omega
          have NA := hide CA.out.next
          have K1 := cut1 (some ⟨ba, oa, none⟩) n1 ca hn1
          have EV := hide (edV_loss p)
          clear D
          clear hlt
          generalize hpx : p.1 = x at *
          generalize hpy : p.2 = y at *
          generalize hqu : q.1 = u at *
          generalize hqv : q.2 = v at *
          clear l1 l2
          go_wp2
          go_quiet (fail)
          have Q_1 : Hid (Below w.heap.size w (wr.drewN nq)) := hide (edb_drewN Q.out nq)
          have O_1 : Hid (EOwn (wr.drewN nq) w.heap.size A2 cap2 d) := hide O.out
          have hq_1 : w.heap.size ≤ (wr.drewN nq).heap.size := hqs
          have c1_1 : (wr.drewN nq).cell? ⟨ba, oa, none⟩ = some (.string x) := c1
          have c2_1 : (wr.drewN nq).cell? ⟨ba, oa + 1, none⟩ = some (.string y) := c2
          have g1_1 : (wr.drewN nq).cell? ⟨bb, ob, none⟩ = some (.string u) := g1
          have g2_1 : (wr.drewN nq).cell? ⟨bb, ob + 1, none⟩ = some (.string v) := g2
          clear Q O hqs c1 c2 g1 g2
          generalize wr.drewN nq = W1 at *
          go_wp2_with (at_builtin; (refine wpList_appE (l := d) (c := lossC p) 71 Tryz.underlying71 rfl (.tmp 58) (.tmp 64) rfl rfl rfl rfl (O_1.out.alloc _) (by rw [EV.out]; exact one_cell _ _ _ (by simp)) (Nat.le_trans hq_1 (by simp)) (by have := L.out; omega) ?_; intro A3 cap3 w3 own3 g3 r3; have B3 := hide (Q_1.out.trans (((Below.refl _ _).alloc hq_1 (.cells #[.iface 117 (.agg #[.string x, .string y])] 74)).trans ((O_1.out.alloc (.cells #[.iface 117 (.agg #[.string x, .string y])] 74)).grownBelow (by rw [rowOf_own]; exact g3) (Nat.le_trans hq_1 (by simp))))); have O3 := hide own3; clear own3 g3 r3))
          have L3 : Hid ((d ++ [lossC p]).length + (n1 - 1) + n2 ≤ na + nb) := hide (by have := L.out; simp; omega)
          exact ⟨⟨a1, _, n1 - 1, n2, _, _, _, _, A3, cap3, d ++ [lossC p], rfl, rfl, by simp, NA, CB, DS, hide (by have := L3.out; omega), O3, B3⟩, by simp [lenV]; omega⟩
        · have r1 : Op.bytesLess p.1.toList q.1.toList = false := by rw [heq]; exact ltB_irrefl _
          have r2 : Op.bytesLess q.1.toList p.1.toList = false := by rw [heq]; exact ltB_irrefl _
          by_cases hv : p.2 = q.2
          · have DS : Hid (d ++ difM a1 b1 = difM a b) := hide (by rw [← D.out, difM_same heq hv])
            have r3 := eqS_yes hv
            have t2 : decide (0 < n2) = true := decide_eq_true (by simp at l2; omega)
            have u2 : ((n2 : Int) == 0) = false := by rw [beq_eq_false_iff_ne]; simp at l2; omega
            obtain ⟨bb, ob, rfl, hbb, g1, g2, sb1, sb2⟩ := CB.out.first Q.out
            have hn2 : 1 ≤ n2 := by simp at l2; omega
            have hn2i : (0 : Int) < (n2 : Int) := by omega
            obtain ⟨ba, oa, rfl, hba, c1, c2, sa1, sa2⟩ := CA.out.first Q.out
            have hn1 : 1 ≤ n1 := by simp at l1; omega
            have hn1i : (0 : Int) < (n1 : Int) := by omega
            have NA := hide CA.out.next
            have K1 := cut1 (some ⟨ba, oa, none⟩) n1 ca hn1
            have NB := hide CB.out.next
            have K2 := cut1 (some ⟨bb, ob, none⟩) n2 cb hn2
            clear D
            clear hv heq
            generalize hpx : p.1 = x at *
            generalize hpy : p.2 = y at *
            generalize hqu : q.1 = u at *
            generalize hqv : q.2 = v at *
            clear l1 l2
            go_wp2
            go_quiet (fail)
            have Q_1 : Hid (Below w.heap.size w (wr.drewN nq)) := hide (edb_drewN Q.out nq)
            have O_1 : Hid (EOwn (wr.drewN nq) w.heap.size A2 cap2 d) := hide O.out
            have hq_1 : w.heap.size ≤ (wr.drewN nq).heap.size := hqs
            have c1_1 : (wr.drewN nq).cell? ⟨ba, oa, none⟩ = some (.string x) := c1
            have c2_1 : (wr.drewN nq).cell? ⟨ba, oa + 1, none⟩ = some (.string y) := c2
            have g1_1 : (wr.drewN nq).cell? ⟨bb, ob, none⟩ = some (.string u) := g1
            have g2_1 : (wr.drewN nq).cell? ⟨bb, ob + 1, none⟩ = some (.string v) := g2
            clear Q O hqs c1 c2 g1 g2
            generalize wr.drewN nq = W1 at *
            go_wp2
            go_quiet (fail)
            have Q_2 : Hid (Below w.heap.size w (W1.drewN nq)) := hide (edb_drewN Q_1.out nq)
            have O_2 : Hid (EOwn (W1.drewN nq) w.heap.size A2 cap2 d) := hide O_1.out
            have hq_2 : w.heap.size ≤ (W1.drewN nq).heap.size := hq_1
            have c1_2 : (W1.drewN nq).cell? ⟨ba, oa, none⟩ = some (.string x) := c1_1
            have c2_2 : (W1.drewN nq).cell? ⟨ba, oa + 1, none⟩ = some (.string y) := c2_1
            have g1_2 : (W1.drewN nq).cell? ⟨bb, ob, none⟩ = some (.string u) := g1_1
            have g2_2 : (W1.drewN nq).cell? ⟨bb, ob + 1, none⟩ = some (.string v) := g2_1
            clear Q_1 O_1 hq_1 c1_1 c2_1 g1_1 g2_1
            generalize W1.drewN nq = W2 at *
            go_wp2
            go_quiet (fail)
            have Q_3 : Hid (Below w.heap.size w (W2.drewN nq)) := hide (edb_drewN Q_2.out nq)
            have O_3 : Hid (EOwn (W2.drewN nq) w.heap.size A2 cap2 d) := hide O_2.out
            have hq_3 : w.heap.size ≤ (W2.drewN nq).heap.size := hq_2
            have c1_3 : (W2.drewN nq).cell? ⟨ba, oa, none⟩ = some (.string x) := c1_2
            have c2_3 : (W2.drewN nq).cell? ⟨ba, oa + 1, none⟩ = some (.string y) := c2_2
            have g1_3 : (W2.drewN nq).cell? ⟨bb, ob, none⟩ = some (.string u) := g1_2
            have g2_3 : (W2.drewN nq).cell? ⟨bb, ob + 1, none⟩ = some (.string v) := g2_2
            clear Q_2 O_2 hq_2 c1_2 c2_2 g1_2 g2_2
            generalize W2.drewN nq = W3 at *
            go_wp2
            go_quiet (fail)
            have Q4 : Hid (Below w.heap.size w (W3.drewN nq)) := hide (edb_drewN Q_3.out nq)
            have O4 : Hid (EOwn (W3.drewN nq) w.heap.size A2 cap2 d) := hide O_3.out
            go_wp2
            exact ⟨⟨a1, b1, n1 - 1, n2 - 1, _, _, _, _, A2, cap2, d, rfl, rfl, rfl, NA, NB, DS, hide (by have := L.out; omega), O4, Q4⟩, by simp [lenV]; omega⟩
          · have DS : Hid ((d ++ [turnC p q]) ++ difM a1 b1 = difM a b) := hide (by rw [← D.out, difM_turn heq hv, List.append_assoc]; rfl)
            have r3 := eqS_no hv
            have t2 : decide (0 < n2) = true := decide_eq_true (by simp at l2; omega)
            have u2 : ((n2 : Int) == 0) = false := by rw [beq_eq_false_iff_ne]; simp at l2; omega
            obtain ⟨bb, ob, rfl, hbb, g1, g2, sb1, sb2⟩ := CB.out.first Q.out
            have hn2 : 1 ≤ n2 := by simp at l2; omega
            have hn2i : (0 : Int) < (n2 : Int) := by omega
            obtain ⟨ba, oa, rfl, hba, c1, c2, sa1, sa2⟩ := CA.out.first Q.out
            have hn1 : 1 ≤ n1 := by simp at l1; omega
            have hn1i : (0 : Int) < (n1 : Int) := by omega
            have NA := hide CA.out.next
            have K1 := cut1 (some ⟨ba, oa, none⟩) n1 ca hn1
            have NB := hide CB.out.next
            have K2 := cut1 (some ⟨bb, ob, none⟩) n2 cb hn2
            have KC := hide (And.intro ((Q.out.cell (p := ⟨ba, oa, none⟩) hba).symm.trans c1) (And.intro ((Q.out.cell (p := ⟨ba, oa + 1, none⟩) hba).symm.trans c2) (And.intro ((Q.out.cell (p := ⟨bb, ob, none⟩) hbb).symm.trans g1) ((Q.out.cell (p := ⟨bb, ob + 1, none⟩) hbb).symm.trans g2))))
            have hp1 : 0 < n1 := hn1
            have hp2 : 0 < n2 := hn2
            have EV := hide (edV_turn p q heq)
            clear D
            clear hv heq
            generalize hpx : p.1 = x at *
            generalize hpy : p.2 = y at *
            generalize hqu : q.1 = u at *
            generalize hqv : q.2 = v at *
            clear l1 l2
            go_wp2
            go_quiet (fail)
            have Q_1 : Hid (Below w.heap.size w (wr.drewN nq)) := hide (edb_drewN Q.out nq)
            have O_1 : Hid (EOwn (wr.drewN nq) w.heap.size A2 cap2 d) := hide O.out
            have hq_1 : w.heap.size ≤ (wr.drewN nq).heap.size := hqs
            have c1_1 : (wr.drewN nq).cell? ⟨ba, oa, none⟩ = some (.string x) := c1
            have c2_1 : (wr.drewN nq).cell? ⟨ba, oa + 1, none⟩ = some (.string y) := c2
            have g1_1 : (wr.drewN nq).cell? ⟨bb, ob, none⟩ = some (.string u) := g1
            have g2_1 : (wr.drewN nq).cell? ⟨bb, ob + 1, none⟩ = some (.string v) := g2
            clear Q O hqs c1 c2 g1 g2
            generalize wr.drewN nq = W1 at *
            go_wp2
            go_quiet (fail)
            have Q_2 : Hid (Below w.heap.size w (W1.drewN nq)) := hide (edb_drewN Q_1.out nq)
            have O_2 : Hid (EOwn (W1.drewN nq) w.heap.size A2 cap2 d) := hide O_1.out
            have hq_2 : w.heap.size ≤ (W1.drewN nq).heap.size := hq_1
            have c1_2 : (W1.drewN nq).cell? ⟨ba, oa, none⟩ = some (.string x) := c1_1
            have c2_2 : (W1.drewN nq).cell? ⟨ba, oa + 1, none⟩ = some (.string y) := c2_1
            have g1_2 : (W1.drewN nq).cell? ⟨bb, ob, none⟩ = some (.string u) := g1_1
            have g2_2 : (W1.drewN nq).cell? ⟨bb, ob + 1, none⟩ = some (.string v) := g2_1
            clear Q_1 O_1 hq_1 c1_1 c2_1 g1_1 g2_1
            generalize W1.drewN nq = W2 at *
            go_wp2
            go_quiet (fail)
            have Q_3 : Hid (Below w.heap.size w (W2.drewN nq)) := hide (edb_drewN Q_2.out nq)
            have O_3 : Hid (EOwn (W2.drewN nq) w.heap.size A2 cap2 d) := hide O_2.out
            have hq_3 : w.heap.size ≤ (W2.drewN nq).heap.size := hq_2
            have c1_3 : (W2.drewN nq).cell? ⟨ba, oa, none⟩ = some (.string x) := c1_2
            have c2_3 : (W2.drewN nq).cell? ⟨ba, oa + 1, none⟩ = some (.string y) := c2_2
            have g1_3 : (W2.drewN nq).cell? ⟨bb, ob, none⟩ = some (.string u) := g1_2
            have g2_3 : (W2.drewN nq).cell? ⟨bb, ob + 1, none⟩ = some (.string v) := g2_2
            clear Q_2 O_2 hq_2 c1_2 c2_2 g1_2 g2_2
            generalize W2.drewN nq = W3 at *
            go_wp2
            have O4 : Hid (EOwn W3.drew w.heap.size A2 cap2 d) := hide O_3.out.drew
            have Q4 : Hid (Below w.heap.size w W3.drew) := hide Q_3.out.drew
            have hq4 : w.heap.size ≤ W3.drew.heap.size := hq_3
            have CE : Hid ((W3.drew.alloc (.cells #[.iface 121 (.agg #[.string x, .string y, .string u, .string v])] 74)).cell? ⟨W3.heap.size, 0, none⟩ = some (edV (turnC p q))) := hide (by rw [EV.out]; exact one_cell _ _ _ rfl)
            have C0 := hide (And.intro c1_3 (And.intro c2_3 (And.intro g1_3 g2_3)))
            go_region_held3 (fun w' => w'.cell? ⟨ba, oa, none⟩ = some (.string x) ∧ w'.cell? ⟨ba, oa + 1, none⟩ = some (.string y) ∧ w'.cell? ⟨bb, ob, none⟩ = some (.string u) ∧ w'.cell? ⟨bb, ob + 1, none⟩ = some (.string v)) (first | go_keep | exact ⟨cellB B3.out hba KC.out.1, cellB B3.out hba KC.out.2.1, cellB B3.out hbb KC.out.2.2.1, cellB B3.out hbb KC.out.2.2.2⟩)
              (first | (refine step_appE (n := d.length) (A := A2) (cap := cap2) (g := W3.heap.size) (l := d) (c := turnC p q) 71 Tryz.underlying71 rfl (.tmp 23) (.tmp 32) rfl (by simp [Act.eval]) (by simp [Act.eval]) rfl (O4.out.alloc _) CE.out (Nat.le_trans hq4 (by simp)) (by have := L.out; omega) ?_; intro A3 cap3 w3 own3 g3 r3; have B3 := hide (Q4.out.trans (((Below.refl _ W3.drew).alloc hq4 (.cells #[.iface 121 (.agg #[.string x, .string y, .string u, .string v])] 74)).trans ((O4.out.alloc (.cells #[.iface 121 (.agg #[.string x, .string y, .string u, .string v])] 74)).grownBelow (by rw [rowOf_own]; exact g3) (Nat.le_trans hq4 (by simp))))); have O3 := hide own3; clear own3 g3 r3))
            go_wp2
            go_quiet (fail)
            have Q5 : Hid (Below w.heap.size w (w3.drewN nq)) := hide (edb_drewN B3.out nq)
            have O5 : Hid (EOwn (w3.drewN nq) w.heap.size A3 cap3 (d ++ [turnC p q])) := hide O3.out
            go_wp2
            exact ⟨⟨a1, b1, n1 - 1, n2 - 1, _, _, _, _, A3, cap3, d ++ [turnC p q], rfl, rfl, by simp, NA, NB, DS, hide (by have := L.out; simp; omega), O5, Q5⟩, by simp [lenV]; omega⟩
        · have DS : Hid ((d ++ [gainC q]) ++ difM (p :: a1) b1 = difM a b) := hide (by rw [← D.out, difM_gt hgt, List.append_assoc]; rfl)
          have r1 : Op.bytesLess p.1.toList q.1.toList = false := ltB_asymm hgt
          have r2 : Op.bytesLess q.1.toList p.1.toList = true := hgt
          have t2 : decide (0 < n2) = true := decide_eq_true (by simp at l2; omega)
          have u2 : ((n2 : Int) == 0) = false := by rw [beq_eq_false_iff_ne]; simp at l2; omega
          obtain ⟨bb, ob, rfl, hbb, g1, g2, sb1, sb2⟩ := CB.out.first Q.out
          have hn2 : 1 ≤ n2 := by simp at l2; omega
          have hn2i : (0 : Int) < (n2 : Int) := by omega
          obtain ⟨ba, oa, rfl, hba, c1, c2, sa1, sa2⟩ := CA.out.first Q.out
          have hn1 : 1 ≤ n1 := by simp at l1; omega
          have hn1i : (0 : Int) < (n1 : Int) := by omega
          have NB := hide CB.out.next
          have K2 := cut1 (some ⟨bb, ob, none⟩) n2 cb hn2
          have EV := hide (edV_gain q)
          clear D
          clear hgt
          generalize hpx : p.1 = x at *
          generalize hpy : p.2 = y at *
          generalize hqu : q.1 = u at *
          generalize hqv : q.2 = v at *
          clear l1 l2
          go_wp2
          go_quiet (fail)
          have Q_1 : Hid (Below w.heap.size w (wr.drewN nq)) := hide (edb_drewN Q.out nq)
          have O_1 : Hid (EOwn (wr.drewN nq) w.heap.size A2 cap2 d) := hide O.out
          have hq_1 : w.heap.size ≤ (wr.drewN nq).heap.size := hqs
          have c1_1 : (wr.drewN nq).cell? ⟨ba, oa, none⟩ = some (.string x) := c1
          have c2_1 : (wr.drewN nq).cell? ⟨ba, oa + 1, none⟩ = some (.string y) := c2
          have g1_1 : (wr.drewN nq).cell? ⟨bb, ob, none⟩ = some (.string u) := g1
          have g2_1 : (wr.drewN nq).cell? ⟨bb, ob + 1, none⟩ = some (.string v) := g2
          clear Q O hqs c1 c2 g1 g2
          generalize wr.drewN nq = W1 at *
          go_wp2
          go_quiet (fail)
          have Q_2 : Hid (Below w.heap.size w (W1.drewN nq)) := hide (edb_drewN Q_1.out nq)
          have O_2 : Hid (EOwn (W1.drewN nq) w.heap.size A2 cap2 d) := hide O_1.out
          have hq_2 : w.heap.size ≤ (W1.drewN nq).heap.size := hq_1
          have c1_2 : (W1.drewN nq).cell? ⟨ba, oa, none⟩ = some (.string x) := c1_1
          have c2_2 : (W1.drewN nq).cell? ⟨ba, oa + 1, none⟩ = some (.string y) := c2_1
          have g1_2 : (W1.drewN nq).cell? ⟨bb, ob, none⟩ = some (.string u) := g1_1
          have g2_2 : (W1.drewN nq).cell? ⟨bb, ob + 1, none⟩ = some (.string v) := g2_1
          clear Q_1 O_1 hq_1 c1_1 c2_1 g1_1 g2_1
          generalize W1.drewN nq = W2 at *
          go_wp2_with (at_builtin; (refine wpList_appE (l := d) (c := gainC q) 71 Tryz.underlying71 rfl (.tmp 83) (.tmp 89) rfl rfl rfl rfl (O_2.out.alloc _) (by rw [EV.out]; exact one_cell _ _ _ (by simp)) (Nat.le_trans hq_2 (by simp)) (by have := L.out; omega) ?_; intro A3 cap3 w3 own3 g3 r3; have B3 := hide (Q_2.out.trans (((Below.refl _ _).alloc hq_2 (.cells #[.iface 119 (.agg #[.string u, .string v])] 74)).trans ((O_2.out.alloc (.cells #[.iface 119 (.agg #[.string u, .string v])] 74)).grownBelow (by rw [rowOf_own]; exact g3) (Nat.le_trans hq_2 (by simp))))); have O3 := hide own3; clear own3 g3 r3))
          have L3 : Hid ((d ++ [gainC q]).length + n1 + (n2 - 1) ≤ na + nb) := hide (by have := L.out; simp; omega)
          exact ⟨⟨_, b1, n1, n2 - 1, _, _, _, _, A3, cap3, d ++ [gainC q], rfl, rfl, by simp, CA, NB, DS, hide (by have := L3.out; omega), O3, B3⟩, by simp [lenV]; omega⟩
end Go.Proofs.YtaofemdhgfejjaaGreatDoor
/-
  What spec.l6Diff answers.
-/
namespace Go.Proofs.YtaofemdhgfejjaaGreatDoor
open Go.RowKit

theorem drop_cons {l : List Pr} {i : Nat} (h : i < l.length) : l.drop i = l[i] :: l.drop (i + 1) := List.drop_eq_getElem_cons h
theorem dif_end {a b : List Pr} {i k : Nat} (ha : a.length ≤ i) (hb : b.length ≤ k) : difM (a.drop i) (b.drop k) = [] := by rw [List.drop_of_length_le ha, List.drop_of_length_le hb, difM_nil]
theorem dif_loss {a b : List Pr} {i k : Nat} (hi : i < a.length) (h : ∀ (hk : k < b.length), ltB a[i].1 b[k].1 = true) : difM (a.drop i) (b.drop k) = lossC a[i] :: difM (a.drop (i + 1)) (b.drop k) := by
  rw [drop_cons hi]
  by_cases hk : k < b.length
  · rw [drop_cons hk, difM_lt (h hk)]
  · rw [List.drop_of_length_le (l := b) (by omega), difM_a]
theorem dif_gain {a b : List Pr} {i k : Nat} (hk : k < b.length) (h : ∀ (hi : i < a.length), ltB b[k].1 a[i].1 = true) : difM (a.drop i) (b.drop k) = gainC b[k] :: difM (a.drop i) (b.drop (k + 1)) := by
  rw [drop_cons hk]
  by_cases hi : i < a.length
  · rw [drop_cons hi, difM_gt (h hi)]
  · rw [List.drop_of_length_le (l := a) (by omega), difM_b]
theorem dif_same {a b : List Pr} {i k : Nat} (hi : i < a.length) (hk : k < b.length) (h : a[i].1 = b[k].1) (h' : a[i].2 = b[k].2) : difM (a.drop i) (b.drop k) = difM (a.drop (i + 1)) (b.drop (k + 1)) := by
  rw [drop_cons hi, drop_cons hk, difM_same h h']
theorem dif_turn {a b : List Pr} {i k : Nat} (hi : i < a.length) (hk : k < b.length) (h : a[i].1 = b[k].1) (h' : ¬ a[i].2 = b[k].2) : difM (a.drop i) (b.drop k) = turnC a[i] b[k] :: difM (a.drop (i + 1)) (b.drop (k + 1)) := by
  rw [drop_cons hi, drop_cons hk, difM_turn h h']

theorem below_drewN {B : Nat} {w w' : World} (h : Below B w w') (n : Nat) : Below B w (w'.drewN n) := h.trans (Quiet.below ⟨n, rfl⟩ _)
/-- the box of the change that a round makes -/
def Box (w : World) (g : Nat) (c : Ch) : Prop := w.heap[g]? = some (.cells (arrC c) 45 (0, 0))
theorem Box.cells {w : World} {g : Nat} {c : Ch} (h : Box w g c) : At5 w g 0 c := ⟨cell_of_row _ g 0 _ _ (0, 0) h, cell_of_row _ g 1 _ _ (0, 0) h, cell_of_row _ g 2 _ _ (0, 0) h, cell_of_row _ g 3 _ _ (0, 0) h, cell_of_row _ g 4 _ _ (0, 0) h⟩
theorem Box.frozen {w : World} {g : Nat} {c : Ch} (h : Box w g c) (j : Nat) : w.frozen? ⟨g, j, none⟩ = false := by simp [World.frozen?, show w.heap[g]? = _ from h]
theorem box_set {w : World} {g : Nat} {cs : Array Value} {t : TypeId} (h : w.heap[g]? = some (.cells cs t (0, 0))) (j : Nat) (u : Value) : (w.setCell ⟨g, j, none⟩ u).heap[g]? = some (.cells (cs.setIfInBounds j u) t (0, 0)) := by
  have hlt := lt_of_block h
  have h' : w.heap[g] = .cells cs t (0, 0) := by simpa [Array.getElem?_eq_getElem hlt] using h
  show (w.heap.modify g _)[g]? = _
  rw [Array.getElem?_eq_getElem (by simpa using hlt), Array.getElem_modify_self, h']
  rfl
theorem Box.five {w : World} {g : Nat} {c : Ch} (h : Box w g c) (x y z : ByteArray) (p q : Bool) : Box (((((w.setCell ⟨g, 0, none⟩ (.string x)).setCell ⟨g, 1, none⟩ (.string y)).setCell ⟨g, 2, none⟩ (.string z)).setCell ⟨g, 3, none⟩ (.bool p)).setCell ⟨g, 4, none⟩ (.bool q)) g (x, y, z, p, q) :=
  box_set (box_set (box_set (box_set (box_set h 0 _) 1 _) 2 _) 3 _) 4 _
end Go.Proofs.YtaofemdhgfejjaaGreatDoor
/-
  What the edits tell back; what impl.DiffOf and spec.DiffOf answer.
-/
namespace Go.Proofs.YtaofemdhgfejjaaGreatDoor
open Go.RowKit

set_option maxRecDepth 100000 in
set_option maxHeartbeats 1000000 in
theorem gainChange_any (x n : ByteArray) (w : World) :
    Calls Tryz.prog 132 #[.agg #[.string x, .string n]] w fun e w' => e = .returned (.agg #[.string x, .string ByteArray.empty, .string n, .bool false, .bool true]) ∧ Below w.heap.size w w' := by
  go_enter Tryz.func132, Tryz.ntmps132
  go_wp2
  exact bodyPost_ret (v := .agg #[.string x, .string ByteArray.empty, .string n, .bool false, .bool true]) (by simp [results, Tryz.results132, go_sem]; rfl) rfl ⟨rfl, ((Below.refl _ _).alloc (Nat.le_refl _) _).alloc (by simp) _⟩
theorem method_gain (x n : ByteArray) (w : World) : (method 314 119 (.agg #[.string x, .string n]) "loop.example/g00652/impl.change").run Tryz.prog w = .ok (132, .agg #[.string x, .string n]) w := by kernel_rfl
set_option maxRecDepth 100000 in
set_option maxHeartbeats 1000000 in
theorem lossChange_any (x o : ByteArray) (w : World) :
    Calls Tryz.prog 131 #[.agg #[.string x, .string o]] w fun e w' => e = .returned (.agg #[.string x, .string o, .string ByteArray.empty, .bool true, .bool false]) ∧ Below w.heap.size w w' := by
  go_enter Tryz.func131, Tryz.ntmps131
  go_wp2
  exact bodyPost_ret (v := .agg #[.string x, .string o, .string ByteArray.empty, .bool true, .bool false]) (by simp [results, Tryz.results131, go_sem]; rfl) rfl ⟨rfl, ((Below.refl _ _).alloc (Nat.le_refl _) _).alloc (by simp) _⟩
theorem method_loss (x o : ByteArray) (w : World) : (method 314 117 (.agg #[.string x, .string o]) "loop.example/g00652/impl.change").run Tryz.prog w = .ok (131, .agg #[.string x, .string o]) w := by kernel_rfl
set_option maxRecDepth 100000 in
set_option maxHeartbeats 1000000 in
theorem turnChange_any (x' o x n : ByteArray) (w : World) :
    Calls Tryz.prog 133 #[.agg #[.string x', .string o, .string x, .string n]] w fun e w' => e = .returned (.agg #[.string x, .string o, .string n, .bool true, .bool true]) ∧ Below w.heap.size w w' := by
  go_enter Tryz.func133, Tryz.ntmps133
  go_wp2
  exact bodyPost_ret (v := .agg #[.string x, .string o, .string n, .bool true, .bool true]) (by simp [results, Tryz.results133, go_sem]) rfl ⟨rfl, ((Below.refl _ _).alloc (Nat.le_refl _) _).alloc (by simp) _⟩
theorem method_turn (x' o x n : ByteArray) (w : World) : (method 314 121 (.agg #[.string x', .string o, .string x, .string n]) "loop.example/g00652/impl.change").run Tryz.prog w = .ok (133, .agg #[.string x', .string o, .string x, .string n]) w := by kernel_rfl
set_option maxRecDepth 100000 in
set_option maxHeartbeats 1000000 in
theorem idleChange_any (x : ByteArray) (w : World) :
    Calls Tryz.prog 134 #[.agg #[.string x]] w fun e w' => e = .returned (.agg #[.string x, .string ByteArray.empty, .string ByteArray.empty, .bool false, .bool false]) ∧ Below w.heap.size w w' := by
  go_enter Tryz.func134, Tryz.ntmps134
  go_wp2
  exact bodyPost_ret (v := .agg #[.string x, .string ByteArray.empty, .string ByteArray.empty, .bool false, .bool false]) (by simp [results, Tryz.results134, go_sem]; rfl) rfl ⟨rfl, ((Below.refl _ _).alloc (Nat.le_refl _) _).alloc (by simp) _⟩
theorem method_idle (x : ByteArray) (w : World) : (method 314 123 (.agg #[.string x]) "loop.example/g00652/impl.change").run Tryz.prog w = .ok (134, .agg #[.string x]) w := by kernel_rfl

/-- what an edit tells back of its change -/
def normC (c : Ch) : Ch := (c.1, if c.2.2.2.1 then c.2.1 else ByteArray.empty, if c.2.2.2.2 then c.2.2.1 else ByteArray.empty, c.2.2.2.1, c.2.2.2.2)
theorem norm_loss (p : Pr) : normC (lossC p) = lossC p := rfl
theorem norm_gain (p : Pr) : normC (gainC p) = gainC p := rfl
theorem norm_turn (p q : Pr) : normC (turnC p q) = turnC p q := rfl
theorem norm_dif : ∀ (n : Nat) (a b : List Pr), a.length + b.length ≤ n → ∀ c ∈ difM a b, normC c = c
  | n, [], [], _, c, h => by rw [difM_nil] at h; cases h
  | n, p :: a, [], hn, c, h => by
    rw [difM_a] at h
    rcases List.mem_cons.1 h with rfl | h
    · rfl
    · exact norm_dif (n - 1) a [] (by simp at hn ⊢; omega) c h
  | n, [], q :: b, hn, c, h => by
    rw [difM_b] at h
    rcases List.mem_cons.1 h with rfl | h
    · rfl
    · exact norm_dif (n - 1) [] b (by simp at hn ⊢; omega) c h
  | n, p :: a, q :: b, hn, c, h => by
    rcases ltB_tri p.1 q.1 with g | g | g
    · rw [difM_lt g] at h
      rcases List.mem_cons.1 h with rfl | h
      · rfl
      · exact norm_dif (n - 1) a (q :: b) (by simp at hn ⊢; omega) c h
    · by_cases g' : p.2 = q.2
      · rw [difM_same g g'] at h
        exact norm_dif (n - 1) a b (by simp at hn ⊢; omega) c h
      · rw [difM_turn g g'] at h
        rcases List.mem_cons.1 h with rfl | h
        · rfl
        · exact norm_dif (n - 1) a b (by simp at hn ⊢; omega) c h
    · rw [difM_gt g] at h
      rcases List.mem_cons.1 h with rfl | h
      · rfl
      · exact norm_dif (n - 1) (p :: a) b (by simp at hn ⊢; omega) c h
termination_by _ a b => a.length + b.length
theorem lens_tail {p : Pr} {l : List Pr} (h : lens (p :: l)) : lens l := fun i hi => by have := h (i + 1) (by simp; omega); simpa using this
theorem hlens_cons {c : Ch} {l : List Ch} (hc : cC c) (h : hlens l) : hlens (c :: l) := by
  intro i hi
  cases i with
  | zero => exact hc
  | succ i => exact h i (by simpa using hi)
/-- the texts of a change between two maps are theirs -/
theorem cC_dif : ∀ (n : Nat) (a b : List Pr), a.length + b.length ≤ n → lens a → lens b → hlens (difM a b)
  | n, [], [], _, _, _ => by rw [difM_nil]; exact hlens_nil
  | n, p :: a, [], hn, ha, hb => by
    rw [difM_a]
    exact hlens_cons ⟨(ha 0 (by simp)).1, (ha 0 (by simp)).2, by simp [lossC, maxLen]⟩ (cC_dif (n - 1) a [] (by simp at hn ⊢; omega) (lens_tail ha) hb)
  | n, [], q :: b, hn, ha, hb => by
    rw [difM_b]
    exact hlens_cons ⟨(hb 0 (by simp)).1, by simp [gainC, maxLen], (hb 0 (by simp)).2⟩ (cC_dif (n - 1) [] b (by simp at hn ⊢; omega) ha (lens_tail hb))
  | n, p :: a, q :: b, hn, ha, hb => by
    rcases ltB_tri p.1 q.1 with g | g | g
    · rw [difM_lt g]
      exact hlens_cons ⟨(ha 0 (by simp)).1, (ha 0 (by simp)).2, by simp [lossC, maxLen]⟩ (cC_dif (n - 1) a (q :: b) (by simp at hn ⊢; omega) (lens_tail ha) hb)
    · by_cases g' : p.2 = q.2
      · rw [difM_same g g']
        exact cC_dif (n - 1) a b (by simp at hn ⊢; omega) (lens_tail ha) (lens_tail hb)
      · rw [difM_turn g g']
        exact hlens_cons ⟨(hb 0 (by simp)).1, (ha 0 (by simp)).2, (hb 0 (by simp)).2⟩ (cC_dif (n - 1) a b (by simp at hn ⊢; omega) (lens_tail ha) (lens_tail hb))
    · rw [difM_gt g]
      exact hlens_cons ⟨(hb 0 (by simp)).1, by simp [gainC, maxLen], (hb 0 (by simp)).2⟩ (cC_dif (n - 1) (p :: a) b (by simp at hn ⊢; omega) ha (lens_tail hb))
termination_by _ a b => a.length + b.length

noncomputable def diffB (a b : List Pr) : Bool := mapB a && mapB b
noncomputable def diffL (a b : List Pr) : List Ch := if diffB a b = true then difM a b else []
/-- a list of changes of the call's own, and whether there is one -/
def RetChB (B : Nat) (l : List Ch) (b : Bool) (w : World) (e : Ending) (w' : World) : Prop := ∃ A cap, l.length ≤ cap ∧ e = .returned (.tuple #[.slice A l.length cap, .bool b]) ∧ HOwn w' B A cap l ∧ Below B w w'
theorem retChB_no {B : Nat} {l : List Ch} {b : Bool} {w w' : World} (hl : l = []) (hb : b = false) (h : Below B w w') : RetChB B l b w (.returned (.tuple #[.slice none 0 0, .bool false])) w' := by
  subst hl hb; exact ⟨none, 0, by simp, rfl, HOwn.nil _ _, h⟩
theorem diffL_no {a b : List Pr} (h : diffB a b = false) : diffL a b = [] := by unfold diffL; rw [h]; rfl
theorem diffL_yes {a b : List Pr} (h : diffB a b = true) : diffL a b = difM a b := by unfold diffL; rw [if_pos h]
theorem diffB_1 {a b : List Pr} (h : mapB a = false) : diffB a b = false := by unfold diffB; rw [h]; rfl
theorem diffB_2 {a b : List Pr} (h : mapB b = false) : diffB a b = false := by unfold diffB; rw [h, Bool.and_false]
theorem diffB_yes {a b : List Pr} (h : mapB a = true) (h' : mapB b = true) : diffB a b = true := by unfold diffB; rw [h, h']; rfl

set_option maxRecDepth 100000 in
set_option maxHeartbeats 4000000 in
theorem implDiffOf_any (A : Option Addr) (a : List Pr) (cap : Nat) (A' : Option Addr) (b : List Pr) (cap' : Nat) (w : World) (hla : a.length ≤ maxLen) (hlb : b.length ≤ maxLen) (hca : a.length ≤ cap) (hcb : b.length ≤ cap') (hin : PIn w w.heap.size A a) (hin' : PIn w w.heap.size A' b) :
    Calls Tryz.prog 19 #[.slice A a.length cap, .slice A' b.length cap'] w (RetChB w.heap.size (diffL a b) (diffB a b) w) := by
  cases ha : mapB a
  · have Z := hide (diffB_1 (b := b) ha)
    go_enter Tryz.func19, Tryz.ntmps19
    go_wp2_with fail
    refine (implMapOk_any A a cap _ hla hin).mono ?_
    rintro e w1 ⟨rfl, q1⟩
    rw [ha]
    go_wp2
    go_ret2
    exact retChB_no (diffL_no Z.out) Z.out q1
  · cases hb : mapB b
    · have Z := hide (diffB_2 (a := a) hb)
      go_enter Tryz.func19, Tryz.ntmps19
      go_wp2_with fail
      refine (implMapOk_any A a cap _ hla hin).mono ?_
      rintro e w1 ⟨rfl, q1⟩
      rw [ha]
      have in1 := (hin'.below q1).more q1.size
      go_wp2_with fail
      refine (implMapOk_any A' b cap' _ hlb in1).mono ?_
      rintro e w2 ⟨rfl, q2⟩
      rw [hb]
      have B2 := hide (q1.trans (q2.mono q1.size))
      clear q1 q2 in1
      go_wp2
      go_ret2
      exact retChB_no (diffL_no Z.out) Z.out B2.out
    · have Z := hide (diffB_yes ha hb)
      have h40 := (mapB_iff.1 ha).1
      have h41 := (mapB_iff.1 hb).1
      have NM := hide (norm_dif _ a b (Nat.le_refl _))
      have CD := hide (cC_dif _ a b (Nat.le_refl _) hin.1 hin'.1)
      have DL := hide (difM_len _ a b (Nat.le_refl _))
      have hme1 := method_gain
      have hme2 := method_loss
      have hme3 := method_turn
      have hme4 := method_idle
      go_enter Tryz.func19, Tryz.ntmps19
      go_wp2_with fail
      refine (implMapOk_any A a cap _ hla hin).mono ?_
      rintro e w1 ⟨rfl, q1⟩
      rw [ha]
      have in1 := (hin'.below q1).more q1.size
      go_wp2_with fail
      refine (implMapOk_any A' b cap' _ hlb in1).mono ?_
      rintro e w2 ⟨rfl, q2⟩
      rw [hb]
      have B2 := hide (q1.trans (q2.mono q1.size))
      clear q1 q2 in1
      go_wp2_with fail
      refine (editsBetween_any A a cap A' b cap' _ (by omega) (by omega) hca hcb ((hin.below B2.out).more B2.out.size) ((hin'.below B2.out).more B2.out.size)).mono ?_
      rintro e w3 ⟨A3, cap3, hc3, rfl, own3, b3⟩
      have B3 := hide (B2.out.trans (b3.mono B2.out.size))
      have E3 := hide own3
      have hdl : (difM a b).length ≤ 80 := by have := DL.out; omega
      have OZ := hide (HOwn.nil w3 w3.heap.size)
      have hdz := hide (show difM a b = difM a b from rfl)
      clear b3 own3 DL
      generalize hgd : difM a b = D at NM CD E3 hc3 hdl ⊢
      generalize hn : D.length = n at *
      have HN := hide hn
      have HD := hide hgd
      clear hn hgd hdz
      go_wp2
      go_loopw [6, 21] (fun ov iv wr => ∃ (k : Nat) (A2 : Option Addr) (cap2 : Nat) (d : List Ch), k ≤ n ∧ iv = .int .i64 k ∧ ov = .slice A2 d.length cap2 ∧ Hid (d = D.take k) ∧ Hid (d.length = k) ∧ Hid (HOwn wr w3.heap.size A2 cap2 d) ∧ Hid (Below w3.heap.size w3 wr)) (fun _ i _ => n - (intOf i).toNat)
      case atStart => exact ⟨0, _, 0, [], Nat.zero_le _, rfl, rfl, rfl, rfl, OZ, hide (Below.refl _ _)⟩
      case round =>
        clear OZ
        obtain ⟨k, A2, cap2, d, hk, rfl, rfl, HT, L, O, Q⟩ := hrel
        have hqs := Q.out.size
        by_cases hlt : k < n
        · have hkl : k < D.length := by rw [HN.out]; omega
          obtain ⟨g, rfl, hgl, hcell⟩ := (E3.out.below Q.out).cell hkl
          have sz := hide (CD.out k hkl)
          have DS : Hid (d ++ [D[k]'hkl] = D.take (k + 1)) := hide (by rw [HT.out, List.take_append_getElem])
          have NK := hide (NM.out _ (List.getElem_mem hkl))
          have L3 : Hid ((D.take (k + 1)).length = k + 1) := hide (by rw [List.length_take]; omega)
          have hki : (k : Int) < (n : Int) := by omega
          clear HT
          generalize D[k]'hkl = c at sz DS NK hcell
          obtain ⟨x, o, m, p, q⟩ := c
          have hw0 : w.heap.size ≤ w3.heap.size := B3.out.size
          rcases p with _ | _ <;> rcases q with _ | _
          · have NO := congrArg (fun z : Ch => z.2.1) NK.out
            have NN := congrArg (fun z : Ch => z.2.2.1) NK.out
            simp only [normC, Bool.false_eq_true, if_false] at NO NN
            subst NO
            subst NN
            simp only [edV, editV] at hcell
            clear NK
            go_wp2_with fail
            refine (idleChange_any x _).mono ?_
            rintro e w5 ⟨rfl, b5⟩
            have O5 := hide (O.out.below b5)
            have B5 := hide (Q.out.trans (b5.mono hqs))
            have hq5 := B5.out.size
            clear b5 O Q hcell
            go_wp2_with (at_builtin; (refine wpList_appC (l := d) (l' := [(x, ByteArray.empty, ByteArray.empty, false, false)]) 40 Tryz.underlying40 rfl (.tmp 25) (.tmp 28) rfl rfl rfl rfl rfl (O5.out.alloc _) (HIn.oneAt (x, ByteArray.empty, ByteArray.empty, false, false) sz.out _ (by simp)) (by simp) (Nat.le_trans hq5 (by simp)) (by have := L.out; simp; omega) ?_; intro A6 cap6 w6 own6 g6 r6; have B6 := hide (B5.out.trans (((Below.refl _ _).alloc hq5 (.cells (arrC (x, ByteArray.empty, ByteArray.empty, false, false)) 45)).trans ((O5.out.alloc (.cells (arrC (x, ByteArray.empty, ByteArray.empty, false, false)) 45)).grownBelow (by rw [rowOf_own]; exact g6) (Nat.le_trans hq5 (by simp))))); have O6 := hide own6; clear own6 g6 r6))
            rw [DS.out] at O6
            exact ⟨⟨k + 1, A6, cap6, D.take (k + 1), by omega, by go_num, by rw [← DS.out]; simp, rfl, L3, O6, B6⟩, by simp [intOf]; omega⟩
          · have NO := congrArg (fun z : Ch => z.2.1) NK.out
            have NN := congrArg (fun z : Ch => z.2.2.1) NK.out
            simp only [normC, if_true, Bool.false_eq_true, if_false] at NO NN
            subst NO
            simp only [edV, editV] at hcell
            clear NK
            go_wp2_with fail
            refine (gainChange_any x m _).mono ?_
            rintro e w5 ⟨rfl, b5⟩
            have O5 := hide (O.out.below b5)
            have B5 := hide (Q.out.trans (b5.mono hqs))
            have hq5 := B5.out.size
            clear b5 O Q hcell
            go_wp2_with (at_builtin; (refine wpList_appC (l := d) (l' := [(x, ByteArray.empty, m, false, true)]) 40 Tryz.underlying40 rfl (.tmp 25) (.tmp 28) rfl rfl rfl rfl rfl (O5.out.alloc _) (HIn.oneAt (x, ByteArray.empty, m, false, true) sz.out _ (by simp)) (by simp) (Nat.le_trans hq5 (by simp)) (by have := L.out; simp; omega) ?_; intro A6 cap6 w6 own6 g6 r6; have B6 := hide (B5.out.trans (((Below.refl _ _).alloc hq5 (.cells (arrC (x, ByteArray.empty, m, false, true)) 45)).trans ((O5.out.alloc (.cells (arrC (x, ByteArray.empty, m, false, true)) 45)).grownBelow (by rw [rowOf_own]; exact g6) (Nat.le_trans hq5 (by simp))))); have O6 := hide own6; clear own6 g6 r6))
            rw [DS.out] at O6
            exact ⟨⟨k + 1, A6, cap6, D.take (k + 1), by omega, by go_num, by rw [← DS.out]; simp, rfl, L3, O6, B6⟩, by simp [intOf]; omega⟩
          · have NO := congrArg (fun z : Ch => z.2.1) NK.out
            have NN := congrArg (fun z : Ch => z.2.2.1) NK.out
            simp only [normC, if_true, Bool.false_eq_true, if_false] at NO NN
            subst NN
            simp only [edV, editV] at hcell
            clear NK
            go_wp2_with fail
            refine (lossChange_any x o _).mono ?_
            rintro e w5 ⟨rfl, b5⟩
            have O5 := hide (O.out.below b5)
            have B5 := hide (Q.out.trans (b5.mono hqs))
            have hq5 := B5.out.size
            clear b5 O Q hcell
            go_wp2_with (at_builtin; (refine wpList_appC (l := d) (l' := [(x, o, ByteArray.empty, true, false)]) 40 Tryz.underlying40 rfl (.tmp 25) (.tmp 28) rfl rfl rfl rfl rfl (O5.out.alloc _) (HIn.oneAt (x, o, ByteArray.empty, true, false) sz.out _ (by simp)) (by simp) (Nat.le_trans hq5 (by simp)) (by have := L.out; simp; omega) ?_; intro A6 cap6 w6 own6 g6 r6; have B6 := hide (B5.out.trans (((Below.refl _ _).alloc hq5 (.cells (arrC (x, o, ByteArray.empty, true, false)) 45)).trans ((O5.out.alloc (.cells (arrC (x, o, ByteArray.empty, true, false)) 45)).grownBelow (by rw [rowOf_own]; exact g6) (Nat.le_trans hq5 (by simp))))); have O6 := hide own6; clear own6 g6 r6))
            rw [DS.out] at O6
            exact ⟨⟨k + 1, A6, cap6, D.take (k + 1), by omega, by go_num, by rw [← DS.out]; simp, rfl, L3, O6, B6⟩, by simp [intOf]; omega⟩
          · have NO := congrArg (fun z : Ch => z.2.1) NK.out
            have NN := congrArg (fun z : Ch => z.2.2.1) NK.out
            simp only [normC, if_true] at NO NN
            simp only [edV, editV] at hcell
            clear NK
            go_wp2_with fail
            refine (turnChange_any x o x m _).mono ?_
            rintro e w5 ⟨rfl, b5⟩
            have O5 := hide (O.out.below b5)
            have B5 := hide (Q.out.trans (b5.mono hqs))
            have hq5 := B5.out.size
            clear b5 O Q hcell
            go_wp2_with (at_builtin; (refine wpList_appC (l := d) (l' := [(x, o, m, true, true)]) 40 Tryz.underlying40 rfl (.tmp 25) (.tmp 28) rfl rfl rfl rfl rfl (O5.out.alloc _) (HIn.oneAt (x, o, m, true, true) sz.out _ (by simp)) (by simp) (Nat.le_trans hq5 (by simp)) (by have := L.out; simp; omega) ?_; intro A6 cap6 w6 own6 g6 r6; have B6 := hide (B5.out.trans (((Below.refl _ _).alloc hq5 (.cells (arrC (x, o, m, true, true)) 45)).trans ((O5.out.alloc (.cells (arrC (x, o, m, true, true)) 45)).grownBelow (by rw [rowOf_own]; exact g6) (Nat.le_trans hq5 (by simp))))); have O6 := hide own6; clear own6 g6 r6))
            rw [DS.out] at O6
            exact ⟨⟨k + 1, A6, cap6, D.take (k + 1), by omega, by go_num, by rw [← DS.out]; simp, rfl, L3, O6, B6⟩, by simp [intOf]; omega⟩
        · have E : Hid (d = D) := hide (by rw [HT.out, show k = D.length by rw [HN.out]; omega, List.take_length])
          have hgt : ¬ ((k : Int) < (n : Int)) := by omega
          have B6 := hide (B3.out.trans (Q.out.mono B3.out.size))
          have O6 := hide (O.out.more B3.out.size)
          clear hlt HT L O Q
          go_wp2
          go_ret2
          refine ⟨A2, cap2, ?_, ?_, ?_, B6.out⟩
          · rw [diffL_yes Z.out, HD.out, ← E.out]; exact O6.out.cap_le
          · rw [diffL_yes Z.out, Z.out, HD.out, ← E.out]; rfl
          · rw [diffL_yes Z.out, HD.out, ← E.out]; exact O6.out
end Go.Proofs.YtaofemdhgfejjaaGreatDoor
/-
  How many changes lead from one right map to another one.
-/
namespace Go.Proofs.YtaofemdhgfejjaaGreatDoor
open Go.RowKit
theorem diffL_len (a b : List Pr) : (diffL a b).length ≤ 80 := by
  cases h : diffB a b
  · rw [diffL_no h]; simp
  · rw [diffL_yes h]
    unfold diffB at h
    rw [Bool.and_eq_true] at h
    have h1 := (mapB_iff.1 h.1).1
    have h2 := (mapB_iff.1 h.2).1
    have := difM_len _ a b (Nat.le_refl _)
    omega
end Go.Proofs.YtaofemdhgfejjaaGreatDoor
/-
  Where a resolved merger is unlike the merger the key is told. Plain mathematics.
-/
namespace Go.Proofs.YtaofemdhgfejjaaGreatDoor
open Go.RowKit

theorem rs_dif {o a b : List Pr} {side : Int} (h : rsB o a b side = true) {c : Ch} (hc : c ∈ diffL (mgL o a b) (rsL o a b side)) : c.1 ∈ mgK o a b := by
  have h1 := mg_map (rs_mg h)
  have h2 := rs_map h
  rw [diffL_yes (diffB_yes h1 h2)] at hc
  exact rs_same h ((dif_char _ _ _ (Nat.le_refl _) (mapB_ris h1) (mapB_ris h2)).1 c hc).2
theorem dif_yes {a b : List Pr} (h1 : mapB a = true) (h2 : mapB b = true) : diffL a b = difM a b := diffL_yes (diffB_yes h1 h2)
end Go.Proofs.YtaofemdhgfejjaaGreatDoor
namespace Go.Proofs.YtaofemdhgfejjaaGreatDoor.LResolved
open Go.RowKit Go.ChangeShapes Go.WideShapes Go.ChangeAt
open Go.ChangeMaps (open_string shut_string)

set_option maxRecDepth 100000 in
set_option maxHeartbeats 2000000 in
theorem walk (A : Option Addr) (n : Nat) (cap : Nat) (a : Addr) (w : World) (hl : n ≤ maxLen) (hin : CIn w w.heap.size A n) (hE : Errs w a) :
    Calls Tryz.prog 4 #[.slice A n cap] w fun e w' => e = .returned (.bool true) ∧ Below w.heap.size w w' := by
  by_cases hbig : 1048576 < n
  · have d : decide (1048576 < n) = true := decide_eq_true hbig
    go_enter Tryz.func4, Tryz.ntmps4
    go_wp2_with (go_at_call 7; refine (big_any A n cap _ hl).mono ?_; rintro e w' ⟨rfl, rfl⟩)
    go_ret
    exact ⟨rfl, Below.refl _ _⟩
  have hn : n ≤ 1048576 := by omega
  have d : decide (1048576 < n) = false := decide_eq_false hbig
  have IN := hide hin
  have HE := hide hE
  have HZ := hide hE.2.2
  have B0 := hide (Below.refl w.heap.size w)
  clear hin hE
  go_enter Tryz.func4, Tryz.ntmps4
  go_wp2_with fail
  refine (big_any A n cap w hl).mono ?_
  rintro e w' ⟨rfl, rfl⟩
  go_wp2_with fail
  refine (drawResolved_any A n cap w hn IN.out).mono ?_
  rintro e w1 ⟨A0, c0, l0, A1, c1, l1, A2, c2, l2, side, rfl, hc0, hc1, hc2, m0, m1, m2, o0, o1, o2, b1⟩
  have B1 := hide (B0.out.trans (b1.mono B0.out.size))
  have O_1 := hide (o0.more B0.out.size)
  have P_1 := hide (o1.more B0.out.size)
  have R_1 := hide (o2.more B0.out.size)
  clear b1 B0 o0 o1 o2
  have n0 := (mapB_iff.1 m0).1
  have n1 := (mapB_iff.1 m1).1
  have n2 := (mapB_iff.1 m2).1
  have M0 := hide m0
  have M1 := hide m1
  have M2 := hide m2
  have MX : (40 : Nat) ≤ maxLen := by unfold maxLen; omega
  clear m0 m1 m2 IN
  have hk0 := rsL_len l0 l1 l2 side
  have hk1 := mgL_len l0 l1 l2
  have hk2 := mgK_len l0 l1 l2
  have es := eqL_self (rsL l0 l1 l2 side)
  have KM : (120 : Nat) ≤ maxLen := by unfold maxLen; omega
  go_wp2_with fail
  refine (implResolved_any A0 A1 A2 l0 l1 l2 c0 c1 c2 side a _ (by omega) (by omega) (by omega) O_1.out.pin P_1.out.pin R_1.out.pin (HE.out.belowB B1.out HZ.out.1 HZ.out.2)).mono ?_
  rintro e w2 ⟨AX, cX, hcX, rfl, oX, b2⟩
  have B2 := hide (B1.out.trans (b2.mono B1.out.size))
  have O_2 := hide (O_1.out.below b2)
  have P_2 := hide (P_1.out.below b2)
  have R_2 := hide (R_1.out.below b2)
  have X_2 := hide (oX.more B1.out.size)
  clear b2 B1 O_1 P_1 R_1 oX
  go_wp2_with fail
  refine (specResolved_any A0 A1 A2 l0 l1 l2 c0 c1 c2 side _ (by omega) (by omega) (by omega) O_2.out.pin P_2.out.pin R_2.out.pin).mono ?_
  rintro e w3 ⟨AV, cV, hcV, rfl, oV, b3⟩
  have B3 := hide (B2.out.trans (b3.mono B2.out.size))
  have O_3 := hide (O_2.out.below b3)
  have P_3 := hide (P_2.out.below b3)
  have R_3 := hide (R_2.out.below b3)
  have X_3 := hide (X_2.out.below b3)
  have V_3 := hide (oV.more B2.out.size)
  clear b3 B2 O_2 P_2 R_2 X_2 oV
  have ne : (rsB l0 l1 l2 side != rsB l0 l1 l2 side) = false := by simp
  have eqq : (rsB l0 l1 l2 side == rsB l0 l1 l2 side) = true := by simp
  go_wp2_with fail
  refine (sameMap_any AX AV (rsL l0 l1 l2 side) (rsL l0 l1 l2 side) cX cV _ _ _ (by omega) (by omega) X_3.out.pin V_3.out.pin).mono ?_
  rintro e w4 ⟨rfl, b4⟩
  replace b4 := b4.below w3.heap.size
  have B4 := hide (B3.out.trans (b4.mono B3.out.size))
  have O_4 := hide (O_3.out.below b4)
  have P_4 := hide (P_3.out.below b4)
  have R_4 := hide (R_3.out.below b4)
  have X_4 := hide (X_3.out.below b4)
  have V_4 := hide (V_3.out.below b4)
  clear b4 B3 O_3 P_3 R_3 X_3 V_3
  rw [es]
  cases hg : rsB l0 l1 l2 side
  · skip
    go_wp2_with fail
    refine (sameMap_any AX AV (rsL l0 l1 l2 side) (rsL l0 l1 l2 side) cX cV _ _ _ (by omega) (by omega) X_4.out.pin V_4.out.pin).mono ?_
    rintro e w5 ⟨rfl, b5⟩
    replace b5 := b5.below w4.heap.size
    have B5 := hide (B4.out.trans (b5.mono B4.out.size))
    have O_5 := hide (O_4.out.below b5)
    have P_5 := hide (P_4.out.below b5)
    have R_5 := hide (R_4.out.below b5)
    have X_5 := hide (X_4.out.below b5)
    have V_5 := hide (V_4.out.below b5)
    clear b5 B4 O_4 P_4 R_4 X_4 V_4
    rw [es]
    go_wp2
    go_ret
    exact ⟨rfl, B5.out⟩
  have HG := hide hg
  have HM := hide (rs_mg hg)
  have HS := hide (rsB_iff.1 hg).2.1
  clear hg ne eqq
  clear V_4
  have MG := hide (fun W x0 x1 x2 e => implMerged_any A0 A1 A2 l0 l1 l2 c0 c1 c2 a W (by omega) (by omega) (by omega) x0 x1 x2 e)
  rw [HM.out] at MG
  go_wp2_with fail
  refine (MG.out _ O_4.out.pin P_4.out.pin R_4.out.pin (HE.out.belowB B4.out HZ.out.1 HZ.out.2)).mono ?_
  rintro e w5 ⟨AM, cM, AK, cK, hcM, rfl, oM, zM, b5, _⟩
  have B5 := hide (B4.out.trans (b5.mono B4.out.size))
  have O_5 := hide (O_4.out.below b5)
  have P_5 := hide (P_4.out.below b5)
  have R_5 := hide (R_4.out.below b5)
  have X_5 := hide (X_4.out.below b5)
  have M_5 := hide (oM.more B4.out.size)
  have K_5 := hide (zM.more B4.out.size)
  clear b5 B4 O_4 P_4 R_4 X_4 oM zM
  clear MG
  clear O_5
  have hs := HS.out
  clear HS
  have hdl := diffL_len (mgL l0 l1 l2) (rsL l0 l1 l2 side)
  rcases hs with rfl | rfl
  · skip
    clear R_5
    go_wp2_with fail
    refine (implDiffOf_any AM (mgL l0 l1 l2) cM AX (rsL l0 l1 l2 1) cX _ (by omega) (by omega) hcM hcX M_5.out.pin X_5.out.pin).mono ?_
    rintro e w6 ⟨AD, cD, hcD, rfl, oD, b6⟩
    have B6 := hide (B5.out.trans (b6.mono B5.out.size))
    have P_6 := hide (P_5.out.below b6)
    have X_6 := hide (X_5.out.below b6)
    have M_6 := hide (M_5.out.below b6)
    have K_6 := hide (K_5.out.below b6)
    have D_6 := hide (oD.more B5.out.size)
    clear b6 B5 P_5 X_5 M_5 K_5 oD
    clear M_6
    go_wp2
    go_loopw [17] (fun i wr => ∃ j : Nat, j ≤ (diffL (mgL l0 l1 l2) (rsL l0 l1 l2 1)).length ∧ i = .int .i64 j ∧ Hid (Own wr w.heap.size AX cX (rsL l0 l1 l2 1)) ∧ Hid (Own wr w.heap.size A1 c1 l1) ∧ Hid (ZOwn wr w.heap.size AK cK (mgK l0 l1 l2)) ∧ Hid (HOwn wr w.heap.size AD cD (diffL (mgL l0 l1 l2) (rsL l0 l1 l2 1))) ∧ Hid (Below w.heap.size w wr)) (fun i _ => (diffL (mgL l0 l1 l2) (rsL l0 l1 l2 1)).length - (intOf i).toNat)
    case atStart => exact ⟨0, Nat.zero_le _, rfl, X_6, P_6, K_6, D_6, B6⟩
    case round =>
      clear B6 P_6 X_6 K_6 D_6
      obtain ⟨j, hj, rfl, X_, P_, K_, D_, Q⟩ := hrel
      have B106 := Q
      have X_106 := X_
      have P_106 := P_
      have K_106 := K_
      have D_106 := D_
      clear Q X_ P_ K_ D_
      by_cases hlt : j < (diffL (mgL l0 l1 l2) (rsL l0 l1 l2 1)).length
      · skip
        have hin1 := D_106.out.pin
        obtain ⟨bb, off, rfl, hbB, hc⟩ := hin1.2 (by omega)
        have x1 := (hc j hlt).1
        have FR := hide (hasK_yes (rs_dif HG.out (List.getElem_mem hlt)))
        generalize ((diffL (mgL l0 l1 l2) (rsL l0 l1 l2 1))[j]'hlt).1 = key at *
        clear hc hin1
        go_wp2_with fail
        refine (lawsHas_any AK (mgK l0 l1 l2) cK key _ _ (by omega) K_106.out.zin).mono ?_
        rintro e w' ⟨rfl, rfl⟩
        rw [FR.out]
        clear FR
        go_wp2
        go_roundw
        case rel => exact ⟨j + 1, by omega, by go_num, X_106, P_106, K_106, D_106, B106⟩
        case measure => simp [intOf]; omega
      · skip
        clear D_106
        have hge : ¬ ((j : Int) < ((diffL (mgL l0 l1 l2) (rsL l0 l1 l2 1)).length : Int)) := by omega
        go_wp2
        go_loopw [18] (fun i wr => ∃ j : Nat, j ≤ (mgK l0 l1 l2).length ∧ i = .int .i64 j ∧ Hid (Own wr w.heap.size AX cX (rsL l0 l1 l2 1)) ∧ Hid (Own wr w.heap.size A1 c1 l1) ∧ Hid (ZOwn wr w.heap.size AK cK (mgK l0 l1 l2)) ∧ Hid (Below w.heap.size w wr)) (fun i _ => (mgK l0 l1 l2).length - (intOf i).toNat)
        case atStart => exact ⟨0, Nat.zero_le _, rfl, X_106, P_106, K_106, B106⟩
        case round =>
          clear B106 X_106 P_106 K_106
          obtain ⟨j, hj, rfl, X_, P_, K_, Q⟩ := hrel
          have B206 := Q
          have X_206 := X_
          have P_206 := P_
          have K_206 := K_
          clear Q X_ P_ K_
          by_cases hlt2 : j < (mgK l0 l1 l2).length
          · skip
            have hin1 := K_206.out.zin
            obtain ⟨bb, off, rfl, hbB, hc⟩ := hin1 (by omega)
            have x1 := hc j hlt2
            have FR := hide (rs_bad HG.out (List.getElem_mem hlt2))
            have SL : Hid (sideL l1 l2 1 = l1) := hide rfl
            rw [SL.out] at FR
            clear SL
            generalize ((mgK l0 l1 l2)[j]'hlt2) = key at *
            clear hc hin1
            go_wp2_with fail
            refine (implGet_any A1 (l1) c1 key _ (by omega) P_206.out.pin).mono ?_
            rintro e w207 ⟨rfl, b207⟩
            rw [getV_yes (k := key) M1.out, getB_yes (k := key) M1.out]
            have B207 := hide (B206.out.trans (b207.mono B206.out.size))
            replace x1 := cellB b207 hbB x1
            replace hbB := Nat.lt_of_lt_of_le hbB b207.size
            have X_207 := hide (X_206.out.below b207)
            have P_207 := hide (P_206.out.below b207)
            have K_207 := hide (K_206.out.below b207)
            clear b207 B206 X_206 P_206 K_206
            go_wp2_with fail
            refine (implGet_any AX (rsL l0 l1 l2 1) cX key _ (by omega) X_207.out.pin).mono ?_
            rintro e w208 ⟨rfl, b208⟩
            rw [getV_yes (k := key) (rs_map HG.out), getB_yes (k := key) (rs_map HG.out), ← FR.out.1, ← FR.out.2]
            have B208 := hide (B207.out.trans (b208.mono B207.out.size))
            replace x1 := cellB b208 hbB x1
            replace hbB := Nat.lt_of_lt_of_le hbB b208.size
            have X_208 := hide (X_207.out.below b208)
            have P_208 := hide (P_207.out.below b208)
            have K_208 := hide (K_207.out.below b208)
            clear b208 B207 X_207 P_207 K_207
            generalize valOf l1 key = v0 at *
            generalize hasB l1 key = g0 at *
            have d1 : (v0.toList == v0.toList) = true := by simp
            have d2 : (g0 != g0) = false := by simp
            have d3 : (g0 == g0) = true := by simp
            clear FR
            go_wp2
            go_roundw
            case rel => exact ⟨j + 1, by omega, by go_num, X_208, P_208, K_208, B208⟩
            case measure => simp [intOf]; omega
          · skip
            have MM := rs_map HG.out
            go_wp2_with fail
            refine (implMapOk_any AX (rsL l0 l1 l2 1) cX _ (by omega) X_206.out.pin).mono ?_
            rintro e w207 ⟨rfl, b207⟩
            have B207 := hide (B206.out.trans (b207.mono B206.out.size))
            have X_207 := hide (X_206.out.below b207)
            have P_207 := hide (P_206.out.below b207)
            have K_207 := hide (K_206.out.below b207)
            clear b207 B206 X_206 P_206 K_206
            rw [MM]
            clear MM
            go_wp2
            go_ret
            exact ⟨rfl, B207.out⟩
  · skip
    clear P_5
    go_wp2_with fail
    refine (implDiffOf_any AM (mgL l0 l1 l2) cM AX (rsL l0 l1 l2 2) cX _ (by omega) (by omega) hcM hcX M_5.out.pin X_5.out.pin).mono ?_
    rintro e w6 ⟨AD, cD, hcD, rfl, oD, b6⟩
    have B6 := hide (B5.out.trans (b6.mono B5.out.size))
    have R_6 := hide (R_5.out.below b6)
    have X_6 := hide (X_5.out.below b6)
    have M_6 := hide (M_5.out.below b6)
    have K_6 := hide (K_5.out.below b6)
    have D_6 := hide (oD.more B5.out.size)
    clear b6 B5 R_5 X_5 M_5 K_5 oD
    clear M_6
    go_wp2
    go_loopw [17] (fun i wr => ∃ j : Nat, j ≤ (diffL (mgL l0 l1 l2) (rsL l0 l1 l2 2)).length ∧ i = .int .i64 j ∧ Hid (Own wr w.heap.size AX cX (rsL l0 l1 l2 2)) ∧ Hid (Own wr w.heap.size A2 c2 l2) ∧ Hid (ZOwn wr w.heap.size AK cK (mgK l0 l1 l2)) ∧ Hid (HOwn wr w.heap.size AD cD (diffL (mgL l0 l1 l2) (rsL l0 l1 l2 2))) ∧ Hid (Below w.heap.size w wr)) (fun i _ => (diffL (mgL l0 l1 l2) (rsL l0 l1 l2 2)).length - (intOf i).toNat)
    case atStart => exact ⟨0, Nat.zero_le _, rfl, X_6, R_6, K_6, D_6, B6⟩
    case round =>
      clear B6 R_6 X_6 K_6 D_6
      obtain ⟨j, hj, rfl, X_, R_, K_, D_, Q⟩ := hrel
      have B106 := Q
      have X_106 := X_
      have R_106 := R_
      have K_106 := K_
      have D_106 := D_
      clear Q X_ R_ K_ D_
      by_cases hlt : j < (diffL (mgL l0 l1 l2) (rsL l0 l1 l2 2)).length
      · skip
        have hin1 := D_106.out.pin
        obtain ⟨bb, off, rfl, hbB, hc⟩ := hin1.2 (by omega)
        have x1 := (hc j hlt).1
        have FR := hide (hasK_yes (rs_dif HG.out (List.getElem_mem hlt)))
        generalize ((diffL (mgL l0 l1 l2) (rsL l0 l1 l2 2))[j]'hlt).1 = key at *
        clear hc hin1
        go_wp2_with fail
        refine (lawsHas_any AK (mgK l0 l1 l2) cK key _ _ (by omega) K_106.out.zin).mono ?_
        rintro e w' ⟨rfl, rfl⟩
        rw [FR.out]
        clear FR
        go_wp2
        go_roundw
        case rel => exact ⟨j + 1, by omega, by go_num, X_106, R_106, K_106, D_106, B106⟩
        case measure => simp [intOf]; omega
      · skip
        clear D_106
        have hge : ¬ ((j : Int) < ((diffL (mgL l0 l1 l2) (rsL l0 l1 l2 2)).length : Int)) := by omega
        go_wp2
        go_loopw [18] (fun i wr => ∃ j : Nat, j ≤ (mgK l0 l1 l2).length ∧ i = .int .i64 j ∧ Hid (Own wr w.heap.size AX cX (rsL l0 l1 l2 2)) ∧ Hid (Own wr w.heap.size A2 c2 l2) ∧ Hid (ZOwn wr w.heap.size AK cK (mgK l0 l1 l2)) ∧ Hid (Below w.heap.size w wr)) (fun i _ => (mgK l0 l1 l2).length - (intOf i).toNat)
        case atStart => exact ⟨0, Nat.zero_le _, rfl, X_106, R_106, K_106, B106⟩
        case round =>
          clear B106 X_106 R_106 K_106
          obtain ⟨j, hj, rfl, X_, R_, K_, Q⟩ := hrel
          have B206 := Q
          have X_206 := X_
          have R_206 := R_
          have K_206 := K_
          clear Q X_ R_ K_
          by_cases hlt2 : j < (mgK l0 l1 l2).length
          · skip
            have hin1 := K_206.out.zin
            obtain ⟨bb, off, rfl, hbB, hc⟩ := hin1 (by omega)
            have x1 := hc j hlt2
            have FR := hide (rs_bad HG.out (List.getElem_mem hlt2))
            have SL : Hid (sideL l1 l2 2 = l2) := hide rfl
            rw [SL.out] at FR
            clear SL
            generalize ((mgK l0 l1 l2)[j]'hlt2) = key at *
            clear hc hin1
            go_wp2_with fail
            refine (implGet_any A2 (l2) c2 key _ (by omega) R_206.out.pin).mono ?_
            rintro e w207 ⟨rfl, b207⟩
            rw [getV_yes (k := key) M2.out, getB_yes (k := key) M2.out]
            have B207 := hide (B206.out.trans (b207.mono B206.out.size))
            replace x1 := cellB b207 hbB x1
            replace hbB := Nat.lt_of_lt_of_le hbB b207.size
            have X_207 := hide (X_206.out.below b207)
            have R_207 := hide (R_206.out.below b207)
            have K_207 := hide (K_206.out.below b207)
            clear b207 B206 X_206 R_206 K_206
            go_wp2_with fail
            refine (implGet_any AX (rsL l0 l1 l2 2) cX key _ (by omega) X_207.out.pin).mono ?_
            rintro e w208 ⟨rfl, b208⟩
            rw [getV_yes (k := key) (rs_map HG.out), getB_yes (k := key) (rs_map HG.out), ← FR.out.1, ← FR.out.2]
            have B208 := hide (B207.out.trans (b208.mono B207.out.size))
            replace x1 := cellB b208 hbB x1
            replace hbB := Nat.lt_of_lt_of_le hbB b208.size
            have X_208 := hide (X_207.out.below b208)
            have R_208 := hide (R_207.out.below b208)
            have K_208 := hide (K_207.out.below b208)
            clear b208 B207 X_207 R_207 K_207
            generalize valOf l2 key = v0 at *
            generalize hasB l2 key = g0 at *
            have d1 : (v0.toList == v0.toList) = true := by simp
            have d2 : (g0 != g0) = false := by simp
            have d3 : (g0 == g0) = true := by simp
            clear FR
            go_wp2
            go_roundw
            case rel => exact ⟨j + 1, by omega, by go_num, X_208, R_208, K_208, B208⟩
            case measure => simp [intOf]; omega
          · skip
            have MM := rs_map HG.out
            go_wp2_with fail
            refine (implMapOk_any AX (rsL l0 l1 l2 2) cX _ (by omega) X_206.out.pin).mono ?_
            rintro e w207 ⟨rfl, b207⟩
            have B207 := hide (B206.out.trans (b207.mono B206.out.size))
            have X_207 := hide (X_206.out.below b207)
            have R_207 := hide (R_206.out.below b207)
            have K_207 := hide (K_206.out.below b207)
            clear b207 B206 X_206 R_206 K_206
            rw [MM]
            clear MM
            go_wp2
            go_ret
            exact ⟨rfl, B207.out⟩

set_option maxRecDepth 100000 in
theorem contract (H : Type) (enc : TypeId × Value → H) (W : World) (base : Nat) (args : Array Value) (ds gs : List (DataW H)) (before : List MemPlace)
    (hval0 : ∀ (j : Nat) t v, Tryz.f4.params[j]? = some t → args[j]? = some v → Value.okWide Tryz.prog W .any base t v)
    (hW : DataW.Whole enc Tryz.prog Tryz.f4.params.toList Rows.fnResolvedSpec.vars false W args.toList ds gs before) (hL : laidMetH Tryz.prog Rows.fnResolvedRow.laid W) :
    Calls Tryz.prog 4 args W fun e W' => ∃ v, e = .returned v ∧ Rows.fnResolvedSpec.post enc Tryz.prog Tryz.f4 false true false false W args v W' := by
  have hval : ∀ (j : Nat) t v, Tryz.f4.params[j]? = some t → args[j]? = some v → Value.okWide Tryz.prog W .any base t v := hval0
  obtain ⟨a, hT, hvar⟩ := errs_of hL.1 hL.2
  have hW' := hW
  obtain ⟨p, q, hA0, hV0, rfl, hfz, hnd⟩ := hW
  have hA : DataW.TrodAll enc Tryz.prog W 0 (fun _ => true) true Tryz.f4.params.toList args.toList ds p := hA0
  have hV : DataW.TrodVars enc Tryz.prog W (fun _ => true) ["loop.example/g00652/impl.errNotRight"] gs q := hV0
  obtain ⟨rfl, rfl⟩ := hV.unique (vars_read1 enc gErr tErr Tryz.underlying52 hvar trivial _)
  rw [Tryz.params4] at hA hval
  obtain ⟨v0, vs0, d0, ds0, p0, q0, hargs, rfl, rfl, h0, r0⟩ := trodAll_cons hA
  obtain ⟨rfl, rfl, rfl⟩ := trodAll_nil r0
  obtain rfl : args = #[v0] := by cases args; simp_all
  obtain ⟨A0, n0, cap0, rfl⟩ := okWide_slice Tryz.underlying22 (hval 0 22 v0 rfl rfl)
  have lt0 : ∀ x ∈ p0, x.block < W.heap.size := by obtain ⟨m, hm⟩ := h0; exact DataW.trod_lt m _ _ _ hm
  obtain ⟨l0, rfl, hl0, hin0⟩ := open_code h0
  clear hA0 hval0
  refine (walk A0 n0 cap0 a W hl0 hin0 hT).mono fun e W' ⟨he, bel⟩ => ?_
  subst he
  exact ⟨_, rfl, _, _, _, [], _, _, hW', trodAll_mk1 (shut_bool Tryz.underlying4 _), (trodAll_cons_mk (Below.trod laidOut (by kernel_rfl) (of_decide_eq_true (by kernel_rfl)) h0 bel lt0) trodAll_mk0), vars_read1 enc gErr tErr Tryz.underlying52 (var?_below bel gErr (var_lt gErr hvar) hvar) trivial _, bel.frame _, fun h => by cases h⟩

/-- a world for the witness: the variables hold what their initialisers lay -/
noncomputable def laidWorld (os : Os) : World := layAll (World.holding Tryz.prog os ⟨#[], #[], []⟩)
theorem laid_met (os : Os) : laidMetH Tryz.prog Rows.fnResolvedRow.laid ((laidWorld os).forCall (fun _ _ => 0) ⟨#[], #[.slice none 0 0], []⟩).memory :=
  laidMetH_of_parts (laidMet_of_run' 8 (by kernel_rfl) (by kernel_rfl)) (by kernel_rfl)
theorem reads (os : Os) {H : Type} (enc : TypeId × Value → H) : ∃ x, DataW.whole enc Tryz.prog ((laidWorld os).forCall (fun _ _ => 0) ⟨#[], #[.slice none 0 0], []⟩).memory Tryz.f4.params.toList Rows.fnResolvedSpec.vars false (#[.slice none 0 0] : Array Value).toList 8 = some x :=
  Option.isSome_iff_exists.1 (by kernel_rfl)
set_option maxRecDepth 100000 in
theorem lifted (os : Os) (started : os.Started) (H : Type) (enc : TypeId × Value → H) (F : Stop.Interp) :
    ReturnsInHanded {} Tryz.checked os 4 .any ((OpenSpec.ofChange Rows.fnResolvedSpec).preRow enc Tryz.prog Tryz.f4 Rows.fnResolvedRow.domain false Rows.fnResolvedRow.laid) (((OpenSpec.ofChange Rows.fnResolvedSpec).at F).post enc Tryz.prog Tryz.f4 false true false false) := by
  obtain ⟨x, hx⟩ := reads os enc
  refine returnsInHanded_of_row (C := Tryz.checked) (s := OpenSpec.ofChange Rows.fnResolvedSpec) own started (by kernel_rfl) Tryz.func4
    (witness_row_at (enc := enc) (C := Tryz.checked) false (laidWorld os) #[.slice none 0 0] rfl (by kernel_rfl) (by kernel_rfl) (by kernel_rfl)
      (OpenSpec.preRow_of_cond 8 hx rfl (fun k hk => by cases hk) (by kernel_rfl) (laid_met os))) ?_
  intro W base args ds gs before hval hW _ _ _ hL _ _
  exact contract H enc W base args ds gs before hval hW hL
theorem said : Rows.FnResolvedSaid :=
  OpenClaim.holds_of_cond 4 Tryz.f4 rfl rfl rfl rfl rfl rfl rfl ⟨rfl, rfl, rfl, rfl, rfl⟩ rfl rfl rfl rfl rfl (by kernel_rfl) Tryz.func4 (by kernel_rfl)
    (of_decide_eq_true (by kernel_rfl)) (by unfold Func.isWrapper; first | (rw [if_pos (by decide +kernel)]; kernel_rfl) | (rw [if_neg (by decide +kernel)]; exact ⟨rfl, rfl⟩))
    (fun os started H enc _ F => by rw [OpenClaim.pre_eq_preRow]; exact lifted os started H enc F)
theorem plain (f : FuncId) (fn : Func) (hf : Tryz.pinned.checked.prog.funcNamed "loop.example/g00652/laws.FnResolved" = some f) (hfn : Tryz.pinned.checked.prog.funcs[f]? = some fn) :
    true = Tryz.pinned.checked.prog.looks [] ∧ ∀ (j : Nat) t, fn.params[j]? = some t → Tryz.pinned.checked.prog.wantsStandIn t = false := by
  obtain rfl : f = 4 := Option.some.inj ((show Tryz.prog.funcNamed "loop.example/g00652/laws.FnResolved" = some 4 by kernel_rfl).symm.trans hf) |>.symm
  obtain rfl : fn = Tryz.f4 := (Option.some.inj (Tryz.func4.symm.trans hfn)).symm
  refine ⟨by kernel_rfl, fun j t ht => ?_⟩
  rw [Tryz.params4] at ht
  have hm := Array.mem_of_getElem? ht
  simp only [List.mem_toArray, List.mem_cons, List.not_mem_nil, or_false] at hm
  subst hm
  exact (show Tryz.prog.wantsStandIn 22 = false by kernel_rfl)
theorem card : Rows.FnResolvedCardSaid :=
  Claim7.holds_tied_plain_at .later [] _ _ _ _ said (fun _ h => by cases h) (by kernel_rfl) (fun _ h => by cases h) fnResolved_row_tie rfl ⟨rfl, rfl⟩ (by kernel_rfl) rfl plain (by kernel_rfl)

end Go.Proofs.YtaofemdhgfejjaaGreatDoor.LResolved
namespace Go.Proofs.YtaofemdhgfejjaaGreatDoor
theorem fnResolved_proved : Rows.FnResolvedCardSaid := LResolved.card
end Go.Proofs.YtaofemdhgfejjaaGreatDoor
