/-
  Mergers with some keys as one side has them; what the promises on mergers say of right maps. Plain mathematics.
-/
import Derived.Test.YtaofemdhgfejjaaGreatDoorMMer
namespace Go.Proofs.YtaofemdhgfejjaaGreatDoor
open Go.RowKit

def takeOne (f m : List Pr) (k : ByteArray) : List Pr := if hasB f k = true then setL (delL m k) k (valOf f k) else delL m k
theorem takeOne_yes {f m : List Pr} {k : ByteArray} (h : hasB f k = true) : takeOne f m k = setL (delL m k) k (valOf f k) := by unfold takeOne; rw [if_pos h]
theorem takeOne_no {f m : List Pr} {k : ByteArray} (h : hasB f k = false) : takeOne f m k = delL m k := by unfold takeOne; rw [h]; rfl
def takeL (f m : List Pr) (ks : List ByteArray) : List Pr := ks.foldl (takeOne f) m
theorem takeL_succ (f m : List Pr) (ks : List ByteArray) (k : Nat) (h : k < ks.length) : takeL f m (ks.take (k + 1)) = takeOne f (takeL f m (ks.take k)) ks[k] := by
  unfold takeL
  rw [List.take_succ_eq_append_getElem h, List.foldl_append]
  rfl
theorem del_len (m : List Pr) (k : ByteArray) : (delL m k).length ≤ m.length := by
  unfold delL
  split
  · exact (List.eraseIdx_sublist _ _).length_le
  · exact Nat.le_refl _
theorem setL_len' (l : List Pr) (k v : ByteArray) : (setL l k v).length ≤ l.length + 1 := by
  unfold setL
  have := atN_le l k
  simp only [List.length_append, List.length_take, List.length_cons, List.length_drop]
  split <;> omega
theorem takeOne_len (f m : List Pr) (k : ByteArray) : (takeOne f m k).length ≤ m.length + 1 := by
  have h1 := del_len m k
  have h2 := setL_len' (delL m k) k (valOf f k)
  unfold takeOne
  split <;> omega
theorem takeL_len (f : List Pr) : ∀ (ks : List ByteArray) (m : List Pr), (takeL f m ks).length ≤ m.length + ks.length
  | [], m => Nat.le_refl _
  | k :: r, m => by
    have h1 := takeOne_len f m k
    have h2 := takeL_len f r (takeOne f m k)
    have e : takeL f m (k :: r) = takeL f (takeOne f m k) r := rfl
    rw [e, List.length_cons]
    omega
theorem ris_takeOne {m : List Pr} (h : Ris m) (f : List Pr) (k : ByteArray) : Ris (takeOne f m k) := by
  unfold takeOne
  split
  · exact ris_set (ris_del h k) k _
  · exact ris_del h k
theorem lk_takeOne {m : List Pr} (h : Ris m) (f : List Pr) (k k' : ByteArray) : lk (takeOne f m k) k' = if k' = k then lk f k else lk m k' := by
  cases hh : hasB f k
  · rw [takeOne_no hh, lk_del h, lk_no hh]
  · rw [takeOne_yes hh, lk_set (ris_del h k), lk_del h, lk_yes hh]
    by_cases e : k' = k
    · rw [if_pos e, if_pos e]
    · rw [if_neg e, if_neg e, if_neg e]
theorem takeL_ris (f : List Pr) : ∀ (ks : List ByteArray) {m : List Pr}, Ris m → Ris (takeL f m ks)
  | [], _, h => h
  | k :: r, _, h => takeL_ris f r (ris_takeOne h f k)
open Classical in
theorem lk_takeL (f : List Pr) : ∀ (ks : List ByteArray) {m : List Pr}, Ris m → ∀ k', lk (takeL f m ks) k' = if k' ∈ ks then lk f k' else lk m k'
  | [], m, _, k' => by simp [takeL]
  | k :: r, m, h, k' => by
    have e : takeL f m (k :: r) = takeL f (takeOne f m k) r := rfl
    rw [e, lk_takeL f r (ris_takeOne h f k), lk_takeOne h]
    by_cases h1 : k' ∈ r
    · rw [if_pos h1, if_pos (List.mem_cons_of_mem _ h1)]
    · rw [if_neg h1]
      by_cases h2 : k' = k
      · rw [if_pos h2, h2, if_pos (List.mem_cons_self ..)]
      · rw [if_neg h2, if_neg (by simp [h1, h2])]
theorem side_sub {base a b f : List Pr} (hf : f = base ∨ f = a ∨ f = b) (k : ByteArray) (h : lk f k ≠ none) : lk base k ≠ none ∨ lk a k ≠ none ∨ lk b k ≠ none := by
  rcases hf with rfl | rfl | rfl
  · exact .inl h
  · exact .inr (.inl h)
  · exact .inr (.inr h)
open Classical in
theorem take_mer {base a b f : List Pr} (h0 : Ris base) (h1 : Ris a) (h2 : Ris b) (hf : f = a ∨ f = b) : takeL f (merM base a b base) (badM base a b) = merM base a b f := by
  refine ext_lk (takeL_ris f _ (ris_mer ..)) (ris_mer ..) fun k => ?_
  rw [lk_takeL f _ (ris_mer ..), lk_mer h0 h1 h2 (side_sub (.inl rfl)), lk_mer h0 h1 h2 (side_sub (.inr hf))]
  by_cases hb : k ∈ badM base a b
  · rw [if_pos hb]
    have := (bad_iff h0 h1 h2 k).1 hb
    unfold pickM
    rw [this]
    rfl
  · rw [if_neg hb]
    have : oneM (lk base k) (lk a k) (lk b k) ≠ none := fun e => hb ((bad_iff h0 h1 h2 k).2 e)
    unfold pickM
    cases e : oneM (lk base k) (lk a k) (lk b k) with
    | none => exact absurd e this
    | some r => rfl
/-- the keys of a merger, told by what stands in the three maps -/
theorem merK_from {base a b : List Pr} {k : ByteArray} (h : k ∈ merK base a b) : ∃ p, (p ∈ base ∨ p ∈ a ∨ p ∈ b) ∧ p.1 = k := by
  unfold merK at h
  obtain ⟨p, hp, e⟩ := (mem_keys _ _).1 h
  rw [List.mem_append, List.mem_append] at hp
  exact ⟨p, by rcases hp with (h | h) | h; exact .inl h; exact .inr (.inl h); exact .inr (.inr h), e⟩
theorem keysM_len : ∀ (l : List Pr) (ks : List ByteArray), (l.foldl (fun ks p => putK ks p.1) ks).length ≤ ks.length + l.length
  | [], ks => Nat.le_refl _
  | p :: r, ks => by
    have h := keysM_len r (putK ks p.1)
    have h2 := putK_len ks p.1
    rw [List.foldl_cons, List.length_cons]
    omega
where
  putK_len : ∀ (ks : List ByteArray) (s : ByteArray), (putK ks s).length ≤ ks.length + 1
    | [], s => Nat.le_refl _
    | x :: r, s => by
      have := putK_len r s
      unfold putK
      split
      · rw [List.length_cons, List.length_cons]; omega
      · split
        · rw [List.length_cons]; omega
        · rw [List.length_cons, List.length_cons]; exact Nat.le_refl _
theorem merK_len (base a b : List Pr) : (merK base a b).length ≤ base.length + a.length + b.length := by
  have := keysM_len (base ++ a ++ b) []
  unfold merK keysM
  simp only [List.length_append, List.length_nil] at this
  omega
theorem merM_len (base a b side : List Pr) : (merM base a b side).length ≤ base.length + a.length + b.length := by
  have h := merK_len base a b
  have : (merM base a b side).length ≤ (merK base a b).length := by unfold merM; exact List.length_filterMap_le _ _
  omega
theorem badM_len (base a b : List Pr) : (badM base a b).length ≤ base.length + a.length + b.length := by
  have h := merK_len base a b
  have : (badM base a b).length ≤ (merK base a b).length := by unfold badM; exact List.length_filter_le _ _
  omega
theorem badM_ris (base a b : List Pr) : RisK (badM base a b) := List.Pairwise.sublist List.filter_sublist (risK_keys _)
/-- the answers of Merged and Resolved -/
noncomputable def mgB (base a b : List Pr) : Bool := mapB base && (mapB a && (mapB b && mapB (merM base a b base)))
theorem mgB_iff {base a b : List Pr} : mgB base a b = true ↔ mapB base = true ∧ mapB a = true ∧ mapB b = true ∧ mapB (merM base a b base) = true := by simp [mgB]
noncomputable def mgL (base a b : List Pr) : List Pr := if mgB base a b = true then merM base a b base else []
noncomputable def mgK (base a b : List Pr) : List ByteArray := if mgB base a b = true then badM base a b else []
theorem mgL_yes {base a b : List Pr} (h : mgB base a b = true) : mgL base a b = merM base a b base := by unfold mgL; rw [if_pos h]
theorem mgK_yes {base a b : List Pr} (h : mgB base a b = true) : mgK base a b = badM base a b := by unfold mgK; rw [if_pos h]
theorem mgL_no {base a b : List Pr} (h : mgB base a b = false) : mgL base a b = [] := by unfold mgL; rw [h]; rfl
theorem mgK_no {base a b : List Pr} (h : mgB base a b = false) : mgK base a b = [] := by unfold mgK; rw [h]; rfl
theorem mgB_not {base a b : List Pr} (h : ¬ (mapB base = true ∧ mapB a = true ∧ mapB b = true ∧ mapB (merM base a b base) = true)) : mgB base a b = false := by
  cases e : mgB base a b
  · rfl
  · exact absurd (mgB_iff.1 e) h
theorem mgL_len (base a b : List Pr) : (mgL base a b).length ≤ 40 := by
  cases h : mgB base a b
  · rw [mgL_no h]; simp
  · rw [mgL_yes h]; exact (mapB_iff.1 (mgB_iff.1 h).2.2.2).1
theorem mgK_len (base a b : List Pr) : (mgK base a b).length ≤ 120 := by
  cases h : mgB base a b
  · rw [mgK_no h]; simp
  · rw [mgK_yes h]
    obtain ⟨h0, h1, h2, _⟩ := mgB_iff.1 h
    have := badM_len base a b
    have := (mapB_iff.1 h0).1
    have := (mapB_iff.1 h1).1
    have := (mapB_iff.1 h2).1
    omega
/-- the side that is chosen -/
def sideL (a b : List Pr) (side : Int) : List Pr := if side = 2 then b else a
noncomputable def rsB (base a b : List Pr) (side : Int) : Bool := mgB base a b && (decide (side = 1 ∨ side = 2) && mapB (merM base a b (sideL a b side)))
theorem rsB_iff {base a b : List Pr} {side : Int} : rsB base a b side = true ↔ mgB base a b = true ∧ (side = 1 ∨ side = 2) ∧ mapB (merM base a b (sideL a b side)) = true := by simp [rsB]
noncomputable def rsL (base a b : List Pr) (side : Int) : List Pr := if rsB base a b side = true then merM base a b (sideL a b side) else []
theorem rsL_yes {base a b : List Pr} {side : Int} (h : rsB base a b side = true) : rsL base a b side = merM base a b (sideL a b side) := by unfold rsL; rw [if_pos h]
theorem rsL_no {base a b : List Pr} {side : Int} (h : rsB base a b side = false) : rsL base a b side = [] := by unfold rsL; rw [h]; rfl
theorem rsB_not {base a b : List Pr} {side : Int} (h : ¬ (mgB base a b = true ∧ (side = 1 ∨ side = 2) ∧ mapB (merM base a b (sideL a b side)) = true)) : rsB base a b side = false := by
  cases e : rsB base a b side
  · rfl
  · exact absurd (rsB_iff.1 e) h
theorem rsL_len (base a b : List Pr) (side : Int) : (rsL base a b side).length ≤ 40 := by
  cases h : rsB base a b side
  · rw [rsL_no h]; simp
  · rw [rsL_yes h]; exact (mapB_iff.1 (rsB_iff.1 h).2.2).1
end Go.Proofs.YtaofemdhgfejjaaGreatDoor
