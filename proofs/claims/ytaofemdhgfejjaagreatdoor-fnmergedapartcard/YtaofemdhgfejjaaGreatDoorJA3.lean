/-
  Texts that this proof leans on, joined: part 3.
-/
import Derived.BigQuiet
import Derived.IntWalk
import Derived.RegionTactic
import Derived.Test.YtaofemdhgfejjaaGreatDoorJA2
/-
  Mergers of right maps, key by key. Plain mathematics.
-/
namespace Go.Proofs.YtaofemdhgfejjaaGreatDoor
open Go.RowKit

/-- all keys of some pairs, rising -/
def keysM (l : List Pr) : List ByteArray := l.foldl (fun ks p => putK ks p.1) []
theorem keys_fold : ∀ (l : List Pr) (ks : List ByteArray), RisK ks → RisK (l.foldl (fun ks p => putK ks p.1) ks) ∧ ∀ t, t ∈ l.foldl (fun ks p => putK ks p.1) ks ↔ t ∈ ks ∨ ∃ p ∈ l, p.1 = t
  | [], ks, h => ⟨h, fun t => by simp⟩
  | p :: r, ks, h => by
    obtain ⟨h1, h2⟩ := keys_fold r (putK ks p.1) (risK_put h _)
    refine ⟨h1, fun t => ?_⟩
    rw [List.foldl_cons, h2, mem_putK]
    constructor
    · rintro ((h | h) | ⟨q, hq, e⟩)
      · exact .inl h
      · exact .inr ⟨p, List.mem_cons_self .., h.symm⟩
      · exact .inr ⟨q, List.mem_cons_of_mem _ hq, e⟩
    · rintro (h | ⟨q, hq, e⟩)
      · exact .inl (.inl h)
      · rcases List.mem_cons.1 hq with rfl | hq
        · exact .inl (.inr e.symm)
        · exact .inr ⟨q, hq, e⟩
theorem risK_keys (l : List Pr) : RisK (keysM l) := (keys_fold l [] List.Pairwise.nil).1
theorem mem_keys (l : List Pr) (t : ByteArray) : t ∈ keysM l ↔ ∃ p ∈ l, p.1 = t := by
  have := (keys_fold l [] List.Pairwise.nil).2 t
  unfold keysM
  rw [this]
  simp
theorem key_lk {l : List Pr} (h : Ris l) (k : ByteArray) : (∃ p ∈ l, p.1 = k) ↔ lk l k ≠ none := by
  constructor
  · rintro ⟨p, hp, rfl⟩
    rw [(lk_some h (k := p.1) (v := p.2)).2 hp]
    simp
  · intro hne
    cases e : lk l k with
    | none => exact absurd e hne
    | some v => exact ⟨(k, v), (lk_some h).1 e, rfl⟩
/-- what a key has in a merger, told by what the three maps have of it; none: both changed it, and not alike -/
def oneM (o x y : Option ByteArray) : Option (Option ByteArray) := if x = o then some y else if y = o ∨ x = y then some x else none
theorem oneM_swap (o x y : Option ByteArray) : oneM o x y = oneM o y x := by
  unfold oneM
  by_cases h1 : x = o
  · by_cases h2 : y = o
    · rw [if_pos h1, if_pos h2, h1, h2]
    · rw [if_pos h1, if_neg h2, if_pos (.inl h1)]
  · by_cases h2 : y = o
    · rw [if_neg h1, if_pos h2, if_pos (.inl h2)]
    · rw [if_neg h1, if_neg h2]
      by_cases h3 : x = y
      · rw [if_pos (.inr h3), if_pos (.inr h3.symm), h3]
      · rw [if_neg (by rintro (h | h); exact h2 h; exact h3 h), if_neg (by rintro (h | h); exact h1 h; exact h3 h.symm)]
/-- the value of a key in a merger, with this map where both changed it -/
def pickM (base a b side : List Pr) (k : ByteArray) : Option ByteArray := (oneM (lk base k) (lk a k) (lk b k)).getD (lk side k)
def merK (base a b : List Pr) : List ByteArray := keysM (base ++ a ++ b)
def merM (base a b side : List Pr) : List Pr := (merK base a b).filterMap fun k => (pickM base a b side k).map fun v => (k, v)
def badM (base a b : List Pr) : List ByteArray := (merK base a b).filter fun k => (oneM (lk base k) (lk a k) (lk b k)).isNone
theorem mem_merK {base a b : List Pr} (h0 : Ris base) (h1 : Ris a) (h2 : Ris b) (k : ByteArray) : k ∈ merK base a b ↔ lk base k ≠ none ∨ lk a k ≠ none ∨ lk b k ≠ none := by
  unfold merK
  rw [mem_keys, ← key_lk h0, ← key_lk h1, ← key_lk h2]
  constructor
  · rintro ⟨p, hp, e⟩
    rw [List.mem_append, List.mem_append] at hp
    rcases hp with (h | h) | h
    · exact .inl ⟨p, h, e⟩
    · exact .inr (.inl ⟨p, h, e⟩)
    · exact .inr (.inr ⟨p, h, e⟩)
  · rintro (⟨p, h, e⟩ | ⟨p, h, e⟩ | ⟨p, h, e⟩)
    · exact ⟨p, by simp [h], e⟩
    · exact ⟨p, by simp [h], e⟩
    · exact ⟨p, by simp [h], e⟩
theorem merK_swap {base a b : List Pr} (h0 : Ris base) (h1 : Ris a) (h2 : Ris b) : merK base a b = merK base b a :=
  RisK.ext (risK_keys _) (risK_keys _) fun k => by
    rw [mem_merK h0 h1 h2, mem_merK h0 h2 h1]
    constructor
    · rintro (h | h | h)
      · exact .inl h
      · exact .inr (.inr h)
      · exact .inr (.inl h)
    · rintro (h | h | h)
      · exact .inl h
      · exact .inr (.inr h)
      · exact .inr (.inl h)
theorem badM_swap {base a b : List Pr} (h0 : Ris base) (h1 : Ris a) (h2 : Ris b) : badM base a b = badM base b a := by
  unfold badM
  rw [merK_swap h0 h1 h2]
  congr 1
  funext k
  rw [oneM_swap]
theorem merM_swap {base a b : List Pr} (h0 : Ris base) (h1 : Ris a) (h2 : Ris b) (side : List Pr) : merM base a b side = merM base b a side := by
  unfold merM pickM
  rw [merK_swap h0 h1 h2]
  congr 1
  funext k
  rw [oneM_swap]
theorem ris_filterMap : ∀ {l : List ByteArray}, RisK l → ∀ (f : ByteArray → Option ByteArray), Ris (l.filterMap fun k => (f k).map fun v => (k, v))
  | [], _, _ => List.Pairwise.nil
  | x :: r, h, f => by
    have h' := List.pairwise_cons.1 h
    have ih := ris_filterMap h'.2 f
    rw [List.filterMap_cons]
    cases e : f x with
    | none => exact ih
    | some v =>
      refine List.pairwise_cons.2 ⟨fun p hp => ?_, ih⟩
      obtain ⟨k, hk, ek⟩ := List.mem_filterMap.1 hp
      cases e' : f k with
      | none => rw [e'] at ek; cases ek
      | some u =>
        rw [e'] at ek
        injection ek with ek
        rw [← ek]
        exact h'.1 k hk
theorem ris_mer (base a b side : List Pr) : Ris (merM base a b side) := ris_filterMap (risK_keys _) _
theorem lk_mer {base a b side : List Pr} (h0 : Ris base) (h1 : Ris a) (h2 : Ris b) (hs : ∀ k, lk side k ≠ none → lk base k ≠ none ∨ lk a k ≠ none ∨ lk b k ≠ none) (k : ByteArray) : lk (merM base a b side) k = pickM base a b side k := by
  apply Option.ext
  intro v
  rw [lk_some (ris_mer base a b side)]
  unfold merM
  rw [List.mem_filterMap]
  constructor
  · rintro ⟨k', _, e⟩
    cases e' : pickM base a b side k' with
    | none => rw [e'] at e; cases e
    | some u =>
      rw [e'] at e
      injection e with e
      injection e with e1 e2
      rw [← e1, ← e2]
      exact e'
  · intro e
    refine ⟨k, (mem_merK h0 h1 h2 k).2 ?_, by rw [e]; rfl⟩
    unfold pickM oneM at e
    split at e
    next hx =>
      right; right
      intro hb
      rw [hb] at e
      cases e
    next hx =>
      split at e
      next =>
        right; left
        intro ha
        rw [ha] at e
        cases e
      next =>
        exact hs k (fun x => by rw [x] at e; cases e)
theorem bad_iff {base a b : List Pr} (h0 : Ris base) (h1 : Ris a) (h2 : Ris b) (k : ByteArray) : k ∈ badM base a b ↔ oneM (lk base k) (lk a k) (lk b k) = none := by
  unfold badM
  rw [List.mem_filter, mem_merK h0 h1 h2, Option.isNone_iff_eq_none]
  constructor
  · exact fun h => h.2
  · intro h
    refine ⟨?_, h⟩
    by_cases x : lk a k = none
    · left
      intro y
      unfold oneM at h
      rw [if_pos (by rw [x, y])] at h
      cases h
    · exact .inr (.inl x)
end Go.Proofs.YtaofemdhgfejjaaGreatDoor
/-
  Mergers with some keys as one side has them; what the promises on mergers say of right maps. Plain mathematics.
-/
namespace Go.Proofs.YtaofemdhgfejjaaGreatDoor
open Go.RowKit

def takeOne (f m : List Pr) (k : ByteArray) : List Pr := if hasB f k = true then setL (delL m k) k (valOf f k) else delL m k
theorem takeOne_yes {f m : List Pr} {k : ByteArray} (h : hasB f k = true) : takeOne f m k = setL (delL m k) k (valOf f k) := by unfold takeOne; rw [if_pos h]
theorem takeOne_no {f m : List Pr} {k : ByteArray} (h : hasB f k = false) : takeOne f m k = delL m k := by unfold takeOne; rw [h]; rfl
def takeL (f m : List Pr) (ks : List ByteArray) : List Pr := ks.foldl (takeOne f) m
theorem takeL_succ (f m : List Pr) (ks : List ByteArray) (k : Nat) (h : k < ks.length) : takeL f m (ks.take (k + 1)) = takeOne f (takeL f m (ks.take k)) ks[k] := by
  unfold takeL
  rw [List.take_succ_eq_append_getElem h, List.foldl_append]
  rfl
theorem del_len (m : List Pr) (k : ByteArray) : (delL m k).length ≤ m.length := by
  unfold delL
  split
  · exact (List.eraseIdx_sublist _ _).length_le
  · exact Nat.le_refl _
theorem setL_len' (l : List Pr) (k v : ByteArray) : (setL l k v).length ≤ l.length + 1 := by
  unfold setL
  have := atN_le l k
  simp only [List.length_append, List.length_take, List.length_cons, List.length_drop]
  split <;> omega
theorem takeOne_len (f m : List Pr) (k : ByteArray) : (takeOne f m k).length ≤ m.length + 1 := by
  have h1 := del_len m k
  have h2 := setL_len' (delL m k) k (valOf f k)
  unfold takeOne
  split <;> omega
theorem takeL_len (f : List Pr) : ∀ (ks : List ByteArray) (m : List Pr), (takeL f m ks).length ≤ m.length + ks.length
  | [], m => Nat.le_refl _
  | k :: r, m => by
    have h1 := takeOne_len f m k
    have h2 := takeL_len f r (takeOne f m k)
    have e : takeL f m (k :: r) = takeL f (takeOne f m k) r := rfl
    rw [e, List.length_cons]
    omega
theorem ris_takeOne {m : List Pr} (h : Ris m) (f : List Pr) (k : ByteArray) : Ris (takeOne f m k) := by
  unfold takeOne
  split
  · exact ris_set (ris_del h k) k _
  · exact ris_del h k
theorem lk_takeOne {m : List Pr} (h : Ris m) (f : List Pr) (k k' : ByteArray) : lk (takeOne f m k) k' = if k' = k then lk f k else lk m k' := by
  cases hh : hasB f k
  · rw [takeOne_no hh, lk_del h, lk_no hh]
  · rw [takeOne_yes hh, lk_set (ris_del h k), lk_del h, lk_yes hh]
    by_cases e : k' = k
    · rw [if_pos e, if_pos e]
    · rw [if_neg e, if_neg e, if_neg e]
theorem takeL_ris (f : List Pr) : ∀ (ks : List ByteArray) {m : List Pr}, Ris m → Ris (takeL f m ks)
  | [], _, h => h
  | k :: r, _, h => takeL_ris f r (ris_takeOne h f k)
open Classical in
theorem lk_takeL (f : List Pr) : ∀ (ks : List ByteArray) {m : List Pr}, Ris m → ∀ k', lk (takeL f m ks) k' = if k' ∈ ks then lk f k' else lk m k'
  | [], m, _, k' => by simp [takeL]
  | k :: r, m, h, k' => by
    have e : takeL f m (k :: r) = takeL f (takeOne f m k) r := rfl
    rw [e, lk_takeL f r (ris_takeOne h f k), lk_takeOne h]
    by_cases h1 : k' ∈ r
    · rw [if_pos h1, if_pos (List.mem_cons_of_mem _ h1)]
    · rw [if_neg h1]
      by_cases h2 : k' = k
      · rw [if_pos h2, h2, if_pos (List.mem_cons_self ..)]
      · rw [if_neg h2, if_neg (by simp [h1, h2])]
theorem side_sub {base a b f : List Pr} (hf : f = base ∨ f = a ∨ f = b) (k : ByteArray) (h : lk f k ≠ none) : lk base k ≠ none ∨ lk a k ≠ none ∨ lk b k ≠ none := by
  rcases hf with rfl | rfl | rfl
  · exact .inl h
  · exact .inr (.inl h)
  · exact .inr (.inr h)
open Classical in
theorem take_mer {base a b f : List Pr} (h0 : Ris base) (h1 : Ris a) (h2 : Ris b) (hf : f = a ∨ f = b) : takeL f (merM base a b base) (badM base a b) = merM base a b f := by
  refine ext_lk (takeL_ris f _ (ris_mer ..)) (ris_mer ..) fun k => ?_
  rw [lk_takeL f _ (ris_mer ..), lk_mer h0 h1 h2 (side_sub (.inl rfl)), lk_mer h0 h1 h2 (side_sub (.inr hf))]
  by_cases hb : k ∈ badM base a b
  · rw [if_pos hb]
    have := (bad_iff h0 h1 h2 k).1 hb
    unfold pickM
    rw [this]
    rfl
  · rw [if_neg hb]
    have : oneM (lk base k) (lk a k) (lk b k) ≠ none := fun e => hb ((bad_iff h0 h1 h2 k).2 e)
    unfold pickM
    cases e : oneM (lk base k) (lk a k) (lk b k) with
    | none => exact absurd e this
    | some r => rfl
/-- the keys of a merger, told by what stands in the three maps -/
theorem merK_from {base a b : List Pr} {k : ByteArray} (h : k ∈ merK base a b) : ∃ p, (p ∈ base ∨ p ∈ a ∨ p ∈ b) ∧ p.1 = k := by
  unfold merK at h
  obtain ⟨p, hp, e⟩ := (mem_keys _ _).1 h
  rw [List.mem_append, List.mem_append] at hp
  exact ⟨p, by rcases hp with (h | h) | h; exact .inl h; exact .inr (.inl h); exact .inr (.inr h), e⟩
theorem keysM_len : ∀ (l : List Pr) (ks : List ByteArray), (l.foldl (fun ks p => putK ks p.1) ks).length ≤ ks.length + l.length
  | [], ks => Nat.le_refl _
  | p :: r, ks => by
    have h := keysM_len r (putK ks p.1)
    have h2 := putK_len ks p.1
    rw [List.foldl_cons, List.length_cons]
    omega
where
  putK_len : ∀ (ks : List ByteArray) (s : ByteArray), (putK ks s).length ≤ ks.length + 1
    | [], s => Nat.le_refl _
    | x :: r, s => by
      have := putK_len r s
      unfold putK
      split
      · rw [List.length_cons, List.length_cons]; omega
      · split
        · rw [List.length_cons]; omega
        · rw [List.length_cons, List.length_cons]; exact Nat.le_refl _
theorem merK_len (base a b : List Pr) : (merK base a b).length ≤ base.length + a.length + b.length := by
  have := keysM_len (base ++ a ++ b) []
  unfold merK keysM
  simp only [List.length_append, List.length_nil] at this
  omega
theorem merM_len (base a b side : List Pr) : (merM base a b side).length ≤ base.length + a.length + b.length := by
  have h := merK_len base a b
  have : (merM base a b side).length ≤ (merK base a b).length := by unfold merM; exact List.length_filterMap_le _ _
  omega
theorem badM_len (base a b : List Pr) : (badM base a b).length ≤ base.length + a.length + b.length := by
  have h := merK_len base a b
  have : (badM base a b).length ≤ (merK base a b).length := by unfold badM; exact List.length_filter_le _ _
  omega
theorem badM_ris (base a b : List Pr) : RisK (badM base a b) := List.Pairwise.sublist List.filter_sublist (risK_keys _)
/-- the answers of Merged and Resolved -/
noncomputable def mgB (base a b : List Pr) : Bool := mapB base && (mapB a && (mapB b && mapB (merM base a b base)))
theorem mgB_iff {base a b : List Pr} : mgB base a b = true ↔ mapB base = true ∧ mapB a = true ∧ mapB b = true ∧ mapB (merM base a b base) = true := by simp [mgB]
noncomputable def mgL (base a b : List Pr) : List Pr := if mgB base a b = true then merM base a b base else []
noncomputable def mgK (base a b : List Pr) : List ByteArray := if mgB base a b = true then badM base a b else []
theorem mgL_yes {base a b : List Pr} (h : mgB base a b = true) : mgL base a b = merM base a b base := by unfold mgL; rw [if_pos h]
theorem mgK_yes {base a b : List Pr} (h : mgB base a b = true) : mgK base a b = badM base a b := by unfold mgK; rw [if_pos h]
theorem mgL_no {base a b : List Pr} (h : mgB base a b = false) : mgL base a b = [] := by unfold mgL; rw [h]; rfl
theorem mgK_no {base a b : List Pr} (h : mgB base a b = false) : mgK base a b = [] := by unfold mgK; rw [h]; rfl
theorem mgB_not {base a b : List Pr} (h : ¬ (mapB base = true ∧ mapB a = true ∧ mapB b = true ∧ mapB (merM base a b base) = true)) : mgB base a b = false := by
  cases e : mgB base a b
  · rfl
  · exact absurd (mgB_iff.1 e) h
theorem mgL_len (base a b : List Pr) : (mgL base a b).length ≤ 40 := by
  cases h : mgB base a b
  · rw [mgL_no h]; simp
  · rw [mgL_yes h]; exact (mapB_iff.1 (mgB_iff.1 h).2.2.2).1
theorem mgK_len (base a b : List Pr) : (mgK base a b).length ≤ 120 := by
  cases h : mgB base a b
  · rw [mgK_no h]; simp
  · rw [mgK_yes h]
    obtain ⟨h0, h1, h2, _⟩ := mgB_iff.1 h
    have := badM_len base a b
    have := (mapB_iff.1 h0).1
    have := (mapB_iff.1 h1).1
    have := (mapB_iff.1 h2).1
    omega
/-- the side that is chosen -/
def sideL (a b : List Pr) (side : Int) : List Pr := if side = 2 then b else a
noncomputable def rsB (base a b : List Pr) (side : Int) : Bool := mgB base a b && (decide (side = 1 ∨ side = 2) && mapB (merM base a b (sideL a b side)))
theorem rsB_iff {base a b : List Pr} {side : Int} : rsB base a b side = true ↔ mgB base a b = true ∧ (side = 1 ∨ side = 2) ∧ mapB (merM base a b (sideL a b side)) = true := by simp [rsB]
noncomputable def rsL (base a b : List Pr) (side : Int) : List Pr := if rsB base a b side = true then merM base a b (sideL a b side) else []
theorem rsL_yes {base a b : List Pr} {side : Int} (h : rsB base a b side = true) : rsL base a b side = merM base a b (sideL a b side) := by unfold rsL; rw [if_pos h]
theorem rsL_no {base a b : List Pr} {side : Int} (h : rsB base a b side = false) : rsL base a b side = [] := by unfold rsL; rw [h]; rfl
theorem rsB_not {base a b : List Pr} {side : Int} (h : ¬ (mgB base a b = true ∧ (side = 1 ∨ side = 2) ∧ mapB (merM base a b (sideL a b side)) = true)) : rsB base a b side = false := by
  cases e : rsB base a b side
  · rfl
  · exact absurd (rsB_iff.1 e) h
theorem rsL_len (base a b : List Pr) (side : Int) : (rsL base a b side).length ≤ 40 := by
  cases h : rsB base a b side
  · rw [rsL_no h]; simp
  · rw [rsL_yes h]; exact (mapB_iff.1 (rsB_iff.1 h).2.2).1
end Go.Proofs.YtaofemdhgfejjaaGreatDoor
/-
  What spec.l1Put answers exactly: the rising list with one more; the row is the call's own or the argument's.
-/
namespace Go.Proofs.YtaofemdhgfejjaaGreatDoor
open Go.RowKit

def PutXRet (B : Nat) (l : List ByteArray) (w : World) (e : Ending) (w' : World) : Prop := ∃ A cap, e = .returned (.slice A l.length cap) ∧ ZOwn w' B A cap l ∧ Below w.heap.size w w'
set_option maxRecDepth 100000 in
set_option maxHeartbeats 2000000 in
theorem l1PutX_any (A : Option Addr) (l : List ByteArray) (cap : Nat) (s : ByteArray) (w : World) (B : Nat) (hl : l.length ≤ 1000) (hown : ZOwn w B A cap l) (hB : B ≤ w.heap.size) :
    Calls Tryz.prog 79 #[.slice A l.length cap, .string s] w (PutXRet B (putK l s) w) := by
  have O := hide hown
  have IN := hide hown.zin
  have hcap := hown.cap_le
  clear hown
  generalize hn : l.length = n at *
  have HN := hide hn
  clear hn
  go_enter Tryz.func79, Tryz.ntmps79
  go_wp2
  go_loop [5] (fun i => ∃ k : Nat, k ≤ n ∧ i = .int .i64 k ∧ Hid (∀ i (hi : i < l.length), i < k → ltB l[i] s = true)) (fun i => n - (intOf i).toNat)
  case atStart => exact ⟨0, Nat.zero_le _, rfl, hide (fun _ _ h => absurd h (by omega))⟩
  case round =>
    obtain ⟨k, hk, rfl, H⟩ := hrel
    have LAST : ∀ (A' : Option Addr), A = A' → True := fun _ _ => trivial
    by_cases hlt : k < n
    · have hkl : k < l.length := by rw [HN.out]; omega
      obtain ⟨b, off, rfl, hbB, hc⟩ := IN.out (by omega)
      have c1 := hc k hkl
      have hki : (k : Int) < (n : Int) := by omega
      have MM : Hid (l[k]'hkl ∈ l) := hide (List.getElem_mem hkl)
      have K1 := run_cutZ_h 27 Tryz.underlying27 (some ⟨b, off, none⟩) n cap k (by omega)
      have K2 := run_cutZ_l 27 Tryz.underlying27 (some ⟨b, off, none⟩) n cap k (by omega)
      have IN1 := hide (IN.out.take cap k)
      have IN2 := hide (IN.out.drop (cap := cap) (by rw [HN.out]; exact hcap) k)
      have E1 := hide (show (l.take k).length = k by rw [List.length_take]; omega)
      have E2 := hide (show (l.drop k).length = n - k by rw [List.length_drop, HN.out])
      have E3 : Hid ((([] ++ l.take k) ++ [s]) ++ l.drop k = l.take k ++ s :: l.drop k) := hide (by simp)
      have PT := hide (fun h => putK_there l s k hkl H.out h)
      have PN := hide (fun h => putK_new l s k (by omega) H.out h)
      have NX : Hid (ltB (l[k]'hkl) s = true → ∀ i (hi : i < l.length), i < k + 1 → ltB l[i] s = true) := hide (fun h i hi hik => by
        rcases Nat.lt_or_ge i k with g | g
        · exact H.out i hi g
        · obtain rfl : i = k := by omega
          exact h)
      have PN2 : Hid (ltB (l[k]'hkl) s = false → ¬ l[k]'hkl = s → putK l s = l.take k ++ s :: l.drop k) := hide (fun h1 h2 => PN.out (fun _ => ⟨h1, h2⟩))
      clear hc LAST PN H
      generalize l[k]'hkl = x at *
      cases hs : Op.bytesLess x.toList s.toList
      · by_cases he : x = s
        · have e1 := eqS_yes he
          have PE := hide (PT.out he)
          clear he
          go_wp2
          go_ret
          rw [PE.out]
          exact ⟨_, cap, by rw [HN.out]; rfl, O.out, Below.refl _ _⟩
        · have e1 := eqS_no he
          have PE := hide (PN2.out hs he)
          have O1 := hide (ZOwn.built w w.heap.size (Nat.le_refl _))
          have B2 := hide ((Below.refl w.heap.size w).alloc (Nat.le_refl _) (.cells #[] 9))
          clear he
          go_wp2_with (first
            | (at_builtin; refine wpList_appZ 27 Tryz.underlying27 rfl (.tmp 34) (.tmp 37) rfl rfl rfl rfl E1.out.symm O1.out (IN1.out.below B2.out) B2.out.size (by rw [E1.out]; simp; omega) ?_; intro A3 cap3 w3 own3 g3 r3; have B3 := hide (B2.out.trans (O1.out.grownBelow g3 B2.out.size)); have O3 := hide own3; clear own3 g3 r3)
            | (at_builtin; refine wpList_appZ (l' := [s]) 27 Tryz.underlying27 rfl (.tmp 39) (.tmp 41) rfl rfl rfl (by simp) rfl (O3.out.alloc _) (ZIn.one s _ rfl) (Nat.le_trans B3.out.size (by simp)) (by rw [List.length_append, E1.out]; simp; omega) ?_; intro A4 cap4 w4 own4 g4 r4; have b4 := (O3.out.alloc (.cells #[Value.string s] 9)).grownBelow g4 (Nat.le_trans B3.out.size (by simp)); have b4' := ((Below.refl w.heap.size w3).alloc B3.out.size (.cells #[Value.string s] 9)).trans b4; have B4 := hide (B3.out.trans b4'); have O4 := hide own4; clear own4 g4 r4 b4 b4')
            | (at_builtin; refine wpList_appZ 27 Tryz.underlying27 rfl (.tmp 43) (.tmp 46) rfl rfl rfl (by simp) E2.out.symm O4.out (IN2.out.below B4.out) B4.out.size (by rw [List.length_append, List.length_append, E1.out, E2.out]; simp; omega) ?_; intro A5 cap5 w5 own5 g5 r5; have b5 := O4.out.grownBelow g5 B4.out.size; have B5 := hide (B4.out.trans b5); have O5 := hide own5; clear own5 g5 r5 b5))
          go_ret
          have O6 := O5.out
          rw [E3.out] at O6
          rw [PE.out]
          exact ⟨A5, cap5, by rw [← E3.out]; simp, O6.more hB, B5.out⟩
      · have NX2 := hide (NX.out hs)
        clear IN1 IN2 K1 K2
        go_wp2
        go_round
        case rel => exact ⟨k + 1, by omega, by go_num, NX2⟩
        case measure => simp [intOf]; omega
    · obtain rfl : k = n := by omega
      have hkk : ¬ (k : Int) < (k : Int) := by omega
      have PE := hide (putK_new l s k (by rw [HN.out]; exact Nat.le_refl _) H.out (fun h => absurd h (by rw [HN.out]; omega)))
      have K1 := run_cutZ_h 27 Tryz.underlying27 A k cap k (by omega)
      have K2 := run_cutZ_l 27 Tryz.underlying27 A k cap k (by omega)
      have IN1 := hide (IN.out.take cap k)
      have IN2 := hide (IN.out.drop (cap := cap) (by rw [HN.out]; exact hcap) k)
      have E1 := hide (show (l.take k).length = k by rw [List.length_take]; rw [HN.out]; omega)
      have E2 := hide (show (l.drop k).length = k - k by rw [List.length_drop, HN.out])
      have E3 : Hid ((([] ++ l.take k) ++ [s]) ++ l.drop k = l.take k ++ s :: l.drop k) := hide (by simp)
      have O1 := hide (ZOwn.built w w.heap.size (Nat.le_refl _))
      have B2 := hide ((Below.refl w.heap.size w).alloc (Nat.le_refl _) (.cells #[] 9))
      clear hlt LAST
      go_wp2_with (first
        | (at_builtin; refine wpList_appZ 27 Tryz.underlying27 rfl (.tmp 34) (.tmp 37) rfl rfl rfl rfl E1.out.symm O1.out (IN1.out.below B2.out) B2.out.size (by rw [E1.out]; simp; omega) ?_; intro A3 cap3 w3 own3 g3 r3; have B3 := hide (B2.out.trans (O1.out.grownBelow g3 B2.out.size)); have O3 := hide own3; clear own3 g3 r3)
        | (at_builtin; refine wpList_appZ (l' := [s]) 27 Tryz.underlying27 rfl (.tmp 39) (.tmp 41) rfl rfl rfl (by simp) rfl (O3.out.alloc _) (ZIn.one s _ rfl) (Nat.le_trans B3.out.size (by simp)) (by rw [List.length_append, E1.out]; simp; omega) ?_; intro A4 cap4 w4 own4 g4 r4; have b4 := (O3.out.alloc (.cells #[Value.string s] 9)).grownBelow g4 (Nat.le_trans B3.out.size (by simp)); have b4' := ((Below.refl w.heap.size w3).alloc B3.out.size (.cells #[Value.string s] 9)).trans b4; have B4 := hide (B3.out.trans b4'); have O4 := hide own4; clear own4 g4 r4 b4 b4')
        | (at_builtin; refine wpList_appZ 27 Tryz.underlying27 rfl (.tmp 43) (.tmp 46) rfl rfl rfl (by simp) (by rw [E2.out]; simp) O4.out (IN2.out.below B4.out) B4.out.size (by rw [List.length_append, List.length_append, E1.out, E2.out]; simp; omega) ?_; intro A5 cap5 w5 own5 g5 r5; have b5 := O4.out.grownBelow g5 B4.out.size; have B5 := hide (B4.out.trans b5); have O5 := hide own5; clear own5 g5 r5 b5))
      go_ret
      have O6 := O5.out
      rw [E3.out] at O6
      rw [PE.out]
      exact ⟨A5, cap5, by rw [← E3.out]; simp, O6.more hB, B5.out⟩
end Go.Proofs.YtaofemdhgfejjaaGreatDoor
/-
  What spec's l7Keys and l7One answer.
-/
namespace Go.Proofs.YtaofemdhgfejjaaGreatDoor
open Go.RowKit

/-- a row of texts of the call's own comes back -/
def RetZ (B : Nat) (l : List ByteArray) (w : World) (e : Ending) (w' : World) : Prop := ∃ A cap, e = .returned (.slice A l.length cap) ∧ ZOwn w' B A cap l ∧ Below B w w'
theorem ZOwn.apart {w w' : World} {B : Nat} {A A' : Option Addr} {cap : Nat} {l : List ByteArray} (h : ZOwn w B A cap l) (hg : w.grownBy w' (rowOf A')) (hne : ∀ g, rowOf A = some g → rowOf A' ≠ some g) : ZOwn w' B A cap l := by
  refine World.ownsRow.kept h hg ?_
  rw [rowOf_own]
  cases e : rowOf A with
  | none => exact .inl rfl
  | some g => exact .inr (fun x => hne g e x.symm)
theorem keysM_take (l : List Pr) (k : Nat) (h : k < l.length) : keysM (l.take (k + 1)) = putK (keysM (l.take k)) l[k].1 := by
  unfold keysM
  rw [List.take_succ_eq_append_getElem h, List.foldl_append]
  rfl
theorem keysM_le (l : List Pr) (k : Nat) : (keysM (l.take k)).length ≤ l.length := by
  have := keysM_len (l.take k) []
  rw [List.length_take] at this
  unfold keysM
  simp only [List.length_nil] at this
  omega

set_option maxRecDepth 100000 in
set_option maxHeartbeats 2000000 in
theorem l7Keys_any (A0 A1 A2 : Option Addr) (l0 l1 l2 : List Pr) (c0 c1 c2 : Nat) (w : World) (h0 : l0.length ≤ 200) (h1 : l1.length ≤ 200) (h2 : l2.length ≤ 200) (i0 : PIn w w.heap.size A0 l0) (i1 : PIn w w.heap.size A1 l1) (i2 : PIn w w.heap.size A2 l2) :
    Calls Tryz.prog 57 #[.slice A0 l0.length c0, .slice A1 l1.length c1, .slice A2 l2.length c2] w (RetZ w.heap.size (merK l0 l1 l2) w) := by
  have OZ := hide (ZOwn.built w w.heap.size (Nat.le_refl _))
  have BZ := hide ((Below.refl w.heap.size w).alloc (Nat.le_refl _) (.cells #[] 9))
  have OP0 : Hid (Own ((w.alloc (.cells #[] 9)).alloc (.cells #[] 60)) w.heap.size (some ⟨w.heap.size + 1, 0, none⟩) 0 []) := hide (by have := Own.built (w.alloc (.cells #[] 9)) w.heap.size BZ.out.size; simpa using this)
  have B1 := hide (BZ.out.alloc BZ.out.size (.cells #[] 60))
  have Z1 := hide (OZ.out.alloc (.cells #[] 60))
  have I0 := hide i0
  have I1 := hide i1
  have I2 := hide i2
  have ZS : Hid (w.heap.size < (w.alloc (.cells #[] 9)).heap.size) := hide (by simp)
  clear i0 i1 i2 OZ BZ
  generalize hn0 : l0.length = n0 at *
  generalize hn1 : l1.length = n1 at *
  generalize hn2 : l2.length = n2 at *
  have N0 := hide hn0
  have N1 := hide hn1
  have N2 := hide hn2
  clear hn0 hn1 hn2
  go_enter Tryz.func57, Tryz.ntmps57
  go_wp2_with (first
    | (at_builtin; refine wpList_app 24 Tryz.underlying24 rfl (.tmp 11) (.tmp 12) rfl rfl rfl rfl N0.out.symm OP0.out (I0.out.below B1.out) B1.out.size (by rw [N0.out]; simp; omega) ?_; intro A3 cap3 w3 own3 g3 r3; have b3 := OP0.out.grownBelow (by rw [rowOf_own]; exact g3) B1.out.size; have B3 := hide (B1.out.trans b3); have O3 := hide own3; clear own3)
    | (at_builtin; refine wpList_app 24 Tryz.underlying24 rfl (.tmp 13) (.tmp 14) rfl rfl rfl (by simp) N1.out.symm O3.out (I1.out.below B3.out) B3.out.size (by rw [List.length_append, N0.out, N1.out]; simp; omega) ?_; intro A4 cap4 w4 own4 g4 r4; have b4 := O3.out.grownBelow (by rw [rowOf_own]; exact g4) B3.out.size; have B4 := hide (B3.out.trans b4); have O4 := hide own4; clear own4)
    | (at_builtin; refine wpList_app 24 Tryz.underlying24 rfl (.tmp 15) (.tmp 16) rfl rfl rfl (by simp) N2.out.symm O4.out (I2.out.below B4.out) B4.out.size (by rw [List.length_append, List.length_append, N0.out, N1.out, N2.out]; simp; omega) ?_; intro A5 cap5 w5 own5 g5 r5; have b5 := O4.out.grownBelow (by rw [rowOf_own]; exact g5) B4.out.size; have B5 := hide (B4.out.trans b5); have O5 := hide own5; clear own5))
  have E : Hid (([] ++ l0 ++ l1) ++ l2 = l0 ++ l1 ++ l2) := hide (by simp)
  have z3 : w.heap.size + 2 ≤ w3.heap.size := by have := b3.size; simpa using this
  have z4 := b4.size
  have ne1 : ∀ g, rowOf (some (⟨w.heap.size, 0, none⟩ : Addr)) = some g → rowOf (some (⟨w.heap.size + 1, 0, none⟩ : Addr)) ≠ some g := fun g h x => by simp [rowOf] at h x; omega
  have ne3 : ∀ g, rowOf (some (⟨w.heap.size, 0, none⟩ : Addr)) = some g → rowOf A3 ≠ some g := fun g h x => by
    rcases r3 with e | e
    · rw [e] at x; exact ne1 g h x
    · rw [e] at x; simp [rowOf] at h x; omega
  have ne4 : ∀ g, rowOf (some (⟨w.heap.size, 0, none⟩ : Addr)) = some g → rowOf A4 ≠ some g := fun g h x => by
    rcases r4 with e | e
    · rw [e] at x; exact ne3 g h x
    · rw [e] at x; simp [rowOf] at h x; omega
  have Z5 := hide (((Z1.out.apart g3 ne1).apart g4 ne3).apart g5 ne4)
  have O6 := O5.out
  rw [E.out] at O6
  have OA := hide O6
  have NL : Hid (l0.length + (l1.length + l2.length) = (l0 ++ l1 ++ l2).length) := hide (by simp)
  have LN : (l0 ++ l1 ++ l2).length ≤ 600 := by simp only [List.length_append, N0.out, N1.out, N2.out]; omega
  rw [NL.out]
  have MK : Hid (merK l0 l1 l2 = keysM (l0 ++ l1 ++ l2)) := hide rfl
  clear Z1 g3 r3 b3 B3 O3 g4 r4 b4 B4 O4 g5 r5 b5 O5 O6 ne1 ne3 ne4 z3 z4 E OP0 B1 I0 I1 I2
  generalize l0 ++ l1 ++ l2 = la at *
  generalize hn : la.length = n at *
  have HN := hide hn
  clear hn NL N0 N1 N2
  go_loopw [7, 9] (fun ks i wr => ∃ (k : Nat) (A : Option Addr) (cap : Nat), k ≤ n ∧ i = .int .i64 k ∧ ks = .slice A (keysM (la.take k)).length cap ∧ Hid (ZOwn wr w.heap.size A cap (keysM (la.take k))) ∧ Hid (Own wr w.heap.size A5 cap5 la) ∧ Hid (Below w.heap.size w wr)) (fun _ i _ => n - (intOf i).toNat)
  case atStart => exact ⟨0, _, _, Nat.zero_le _, rfl, rfl, Z5, OA, B5⟩
  case round =>
    clear Z5 OA B5
    obtain ⟨k, A, cap, hk, rfl, rfl, Z, O, Q⟩ := hrel
    have KL : Hid ((keysM (la.take k)).length ≤ 600) := hide (by have := keysM_le la k; rw [HN.out] at this; omega)
    by_cases hlt : k < n
    · have hkl : k < la.length := by rw [HN.out]; omega
      have hin := O.out.pin
      obtain ⟨b, off, rfl, hbB, hc⟩ := hin.2 (by omega)
      obtain ⟨c1, _⟩ := hc k hkl
      have E2 := hide (keysM_take la k hkl)
      clear hc hin
      generalize (la[k]'hkl).1 = s at *
      generalize keysM (la.take k) = ks at *
      go_wp2_with fail
      refine (l1PutX_any A ks cap s _ w.heap.size (by have := KL.out; omega) Z.out Q.out.size).mono ?_
      rintro e w2 ⟨A2, cap2, rfl, z2, b2⟩
      have O2 := hide (O.out.below b2)
      have Q2 := hide (Q.out.trans (b2.mono Q.out.size))
      rw [← E2.out] at z2
      have Z2 := hide z2
      rw [← E2.out]
      clear z2 b2 O Q Z c1
      go_wp2
      go_roundw
      case rel => exact ⟨k + 1, A2, cap2, by omega, by go_num, rfl, Z2, O2, Q2⟩
      case measure => simp [intOf]; omega
    · obtain rfl : k = n := by omega
      have E3 : Hid (keysM (la.take k) = merK l0 l1 l2) := hide (by rw [List.take_of_length_le (by rw [HN.out]; exact Nat.le_refl _), MK.out])
      rw [E3.out] at Z ⊢
      go_wp2
      go_ret
      exact ⟨A, cap, rfl, Z.out, Q.out⟩

/-- what l7One answers -/
def oneV (o x y : Option ByteArray) : ByteArray := ((oneM o x y).getD none).getD ByteArray.empty
def oneH (o x y : Option ByteArray) : Bool := ((oneM o x y).getD none).isSome
def oneOk (o x y : Option ByteArray) : Bool := (oneM o x y).isSome
theorem ret_one {s s' : ByteArray} {a a' b b' : Bool} (h : s = s') (h1 : a = a') (h2 : b = b') : Ending.returned (.tuple #[.string s, .bool a, .bool b]) = .returned (.tuple #[.string s', .bool a', .bool b']) := by rw [h, h1, h2]
theorem two_ne {a b c : Bool} (h1 : ¬ b = a) (h2 : ¬ c = a) : b = c := by cases a <;> cases b <;> cases c <;> simp_all
theorem eqB_yes {a b : Bool} (h : a = b) : (a == b) = true := by simp [h]
theorem eqB_no {a b : Bool} (h : ¬ a = b) : (a == b) = false := by simp [h]

set_option maxRecDepth 100000 in
set_option maxHeartbeats 4000000 in
theorem l7One_any (A0 A1 A2 : Option Addr) (l0 l1 l2 : List Pr) (c0 c1 c2 : Nat) (key : ByteArray) (w : World) (B : Nat) (h0 : l0.length ≤ maxLen) (h1 : l1.length ≤ maxLen) (h2 : l2.length ≤ maxLen) (i0 : PIn w B A0 l0) (i1 : PIn w B A1 l1) (i2 : PIn w B A2 l2) :
    Calls Tryz.prog 58 #[.slice A0 l0.length c0, .slice A1 l1.length c1, .slice A2 l2.length c2, .string key] w fun e w' => e = .returned (.tuple #[.string (oneV (lk l0 key) (lk l1 key) (lk l2 key)), .bool (oneH (lk l0 key) (lk l1 key) (lk l2 key)), .bool (oneOk (lk l0 key) (lk l1 key) (lk l2 key))]) ∧ w = w' := by
  have R0 := hide (l1Get_any A0 l0 c0 key w B h0 i0)
  have R1 := hide (l1Get_any A1 l1 c1 key w B h1 i1)
  have R2 := hide (l1Get_any A2 l2 c2 key w B h2 i2)
  have Q1 : Hid (lk l1 key = lk l0 key ↔ hasB l1 key = hasB l0 key ∧ valOf l1 key = valOf l0 key) := hide lk_eq
  have Q2 : Hid (lk l2 key = lk l0 key ↔ hasB l2 key = hasB l0 key ∧ valOf l2 key = valOf l0 key) := hide lk_eq
  have Q3 : Hid (lk l1 key = lk l2 key ↔ hasB l1 key = hasB l2 key ∧ valOf l1 key = valOf l2 key) := hide lk_eq
  have V1 := hide (lk_val l1 key)
  have V2 := hide (lk_val l2 key)
  have U1 := hide (lk_has l1 key)
  have U2 := hide (lk_has l2 key)
  generalize hx0 : valOf l0 key = x0 at *
  generalize hx1 : valOf l1 key = x1 at *
  generalize hx2 : valOf l2 key = x2 at *
  generalize hb0 : hasB l0 key = b0 at *
  generalize hb1 : hasB l1 key = b1 at *
  generalize hb2 : hasB l2 key = b2 at *
  clear hx0 hx1 hx2 hb0 hb1 hb2 i0 i1 i2
  have YES1 : Hid (lk l1 key = lk l0 key → oneV (lk l0 key) (lk l1 key) (lk l2 key) = x2 ∧ oneH (lk l0 key) (lk l1 key) (lk l2 key) = b2 ∧ oneOk (lk l0 key) (lk l1 key) (lk l2 key) = true) := hide (fun e => by
    unfold oneV oneH oneOk oneM
    rw [if_pos e, V2.out, U2.out]
    exact ⟨rfl, rfl, rfl⟩)
  have YES2 : Hid (¬ lk l1 key = lk l0 key → (lk l2 key = lk l0 key ∨ lk l1 key = lk l2 key) → oneV (lk l0 key) (lk l1 key) (lk l2 key) = x1 ∧ oneH (lk l0 key) (lk l1 key) (lk l2 key) = b1 ∧ oneOk (lk l0 key) (lk l1 key) (lk l2 key) = true) := hide (fun e e2 => by
    unfold oneV oneH oneOk oneM
    rw [if_neg e, if_pos e2, V1.out, U1.out]
    exact ⟨rfl, rfl, rfl⟩)
  have NO : Hid (¬ lk l1 key = lk l0 key → ¬ (lk l2 key = lk l0 key ∨ lk l1 key = lk l2 key) → oneV (lk l0 key) (lk l1 key) (lk l2 key) = ByteArray.empty ∧ oneH (lk l0 key) (lk l1 key) (lk l2 key) = false ∧ oneOk (lk l0 key) (lk l1 key) (lk l2 key) = false) := hide (fun e e2 => by
    unfold oneV oneH oneOk oneM
    rw [if_neg e, if_neg e2]
    exact ⟨rfl, rfl, rfl⟩)
  generalize hr1 : oneV (lk l0 key) (lk l1 key) (lk l2 key) = r1 at *
  generalize hr2 : oneH (lk l0 key) (lk l1 key) (lk l2 key) = r2 at *
  generalize hr3 : oneOk (lk l0 key) (lk l1 key) (lk l2 key) = r3 at *
  clear hr1 hr2 hr3
  have GO : ∀ (FIN : Hid (∀ s a b, s = r1 ∧ a = r2 ∧ b = r3 → Ending.returned (.tuple #[.string s, .bool a, .bool b]) = .returned (.tuple #[.string r1, .bool r2, .bool r3]))), Calls Tryz.prog 58 #[.slice A0 l0.length c0, .slice A1 l1.length c1, .slice A2 l2.length c2, .string key] w fun e w' => e = .returned (.tuple #[.string r1, .bool r2, .bool r3]) ∧ w = w' := by
    intro FIN
    generalize l0.length = n0 at *
    generalize l1.length = n1 at *
    generalize l2.length = n2 at *
    go_enter Tryz.func58, Tryz.ntmps58
    go_wp2_with fail
    refine R0.out.mono ?_
    rintro e w' ⟨rfl, rfl⟩
    go_wp2_with fail
    refine R1.out.mono ?_
    rintro e w' ⟨rfl, rfl⟩
    go_wp2_with fail
    refine R2.out.mono ?_
    rintro e w' ⟨rfl, rfl⟩
    clear R0 R1 R2
    by_cases e1 : b1 = b0
    · have d1 := eqB_yes e1
      by_cases e2 : x1 = x0
      · have d2 := eqS_yes e2
        obtain ⟨f1, f2, f3⟩ := YES1.out (Q1.out.2 ⟨e1, e2⟩)
        have F := hide (FIN.out _ _ _ ⟨f1.symm, f2.symm, f3.symm⟩)
        clear e1 e2 f1 f2 f3 Q1 Q2 Q3 YES1 YES2 NO V1 V2 U1 U2
        go_wp2
        go_ret3
        exact ⟨F.out, rfl⟩
      · have d2 := eqS_no e2
        have N1 : Hid (¬ lk l1 key = lk l0 key) := hide (fun h => e2 (Q1.out.1 h).2)
        clear e2
        by_cases e3 : b2 = b0
        · have d3 := eqB_yes e3
          by_cases e4 : x2 = x0
          · have d4 := eqS_yes e4
            obtain ⟨f1, f2, f3⟩ := YES2.out N1.out (.inl (Q2.out.2 ⟨e3, e4⟩))
            have F := hide (FIN.out _ _ _ ⟨f1.symm, f2.symm, f3.symm⟩)
            clear e1 e3 e4 f1 f2 f3 Q1 Q2 Q3 YES1 YES2 NO V1 V2 U1 U2
            go_wp2
            go_ret3
            exact ⟨F.out, rfl⟩
          · have d4 := eqS_no e4
            have N2 : Hid (¬ lk l2 key = lk l0 key) := hide (fun h => e4 (Q2.out.1 h).2)
            clear e4
            have d5 := eqB_yes (e1.trans e3.symm)
            by_cases e6 : x1 = x2
            · have d6 := eqS_yes e6
              obtain ⟨f1, f2, f3⟩ := YES2.out N1.out (.inr (Q3.out.2 ⟨e1.trans e3.symm, e6⟩))
              have F := hide (FIN.out _ _ _ ⟨f1.symm, f2.symm, f3.symm⟩)
              clear e1 e3 e6 f1 f2 f3 Q1 Q2 Q3 YES1 YES2 NO V1 V2 U1 U2
              go_wp2
              go_ret3
              exact ⟨F.out, rfl⟩
            · have d6 := eqS_no e6
              obtain ⟨f1, f2, f3⟩ := NO.out N1.out (by rintro (h | h); exact N2.out h; exact e6 (Q3.out.1 h).2)
              have F := hide (FIN.out _ _ _ ⟨f1.symm, f2.symm, f3.symm⟩)
              clear e1 e3 e6 f1 f2 f3 Q1 Q2 Q3 YES1 YES2 NO V1 V2 U1 U2
              go_wp2
              go_ret3
              exact ⟨F.out, rfl⟩
        · have d3 := eqB_no e3
          have d5 := eqB_no (fun h : b1 = b2 => e3 (h.symm.trans e1))
          obtain ⟨f1, f2, f3⟩ := NO.out N1.out (by rintro (h | h); exact e3 (Q2.out.1 h).1; exact e3 ((Q3.out.1 h).1.symm.trans e1))
          have F := hide (FIN.out _ _ _ ⟨f1.symm, f2.symm, f3.symm⟩)
          clear e1 e3 f1 f2 f3 Q1 Q2 Q3 YES1 YES2 NO V1 V2 U1 U2
          go_wp2
          go_ret3
          exact ⟨F.out, rfl⟩
    · have d1 := eqB_no e1
      have N1 : Hid (¬ lk l1 key = lk l0 key) := hide (fun h => e1 (Q1.out.1 h).1)
      by_cases e3 : b2 = b0
      · have d3 := eqB_yes e3
        have d5 := eqB_no (fun h : b1 = b2 => e1 (h.trans e3))
        by_cases e4 : x2 = x0
        · have d4 := eqS_yes e4
          obtain ⟨f1, f2, f3⟩ := YES2.out N1.out (.inl (Q2.out.2 ⟨e3, e4⟩))
          have F := hide (FIN.out _ _ _ ⟨f1.symm, f2.symm, f3.symm⟩)
          clear e1 e3 e4 f1 f2 f3 Q1 Q2 Q3 YES1 YES2 NO V1 V2 U1 U2
          go_wp2
          go_ret3
          exact ⟨F.out, rfl⟩
        · have d4 := eqS_no e4
          obtain ⟨f1, f2, f3⟩ := NO.out N1.out (by rintro (h | h); exact e4 (Q2.out.1 h).2; exact e1 ((Q3.out.1 h).1.trans e3))
          have F := hide (FIN.out _ _ _ ⟨f1.symm, f2.symm, f3.symm⟩)
          clear e1 e3 e4 f1 f2 f3 Q1 Q2 Q3 YES1 YES2 NO V1 V2 U1 U2
          go_wp2
          go_ret3
          exact ⟨F.out, rfl⟩
      · have d3 := eqB_no e3
        have d5 := eqB_yes (two_ne e1 e3)
        by_cases e6 : x1 = x2
        · have d6 := eqS_yes e6
          obtain ⟨f1, f2, f3⟩ := YES2.out N1.out (.inr (Q3.out.2 ⟨two_ne e1 e3, e6⟩))
          have F := hide (FIN.out _ _ _ ⟨f1.symm, f2.symm, f3.symm⟩)
          clear e1 e3 e6 f1 f2 f3 Q1 Q2 Q3 YES1 YES2 NO V1 V2 U1 U2
          go_wp2
          go_ret3
          exact ⟨F.out, rfl⟩
        · have d6 := eqS_no e6
          obtain ⟨f1, f2, f3⟩ := NO.out N1.out (by rintro (h | h); exact e3 (Q2.out.1 h).1; exact e6 (Q3.out.1 h).2)
          have F := hide (FIN.out _ _ _ ⟨f1.symm, f2.symm, f3.symm⟩)
          clear e1 e3 e6 f1 f2 f3 Q1 Q2 Q3 YES1 YES2 NO V1 V2 U1 U2
          go_wp2
          go_ret3
          exact ⟨F.out, rfl⟩
  exact GO (hide (fun s a b h => ret_one h.1 h.2.1 h.2.2))
end Go.Proofs.YtaofemdhgfejjaaGreatDoor
/-
  Three rows of the call's own side by side: pairs, keys that are told, all keys.
-/
namespace Go.Proofs.YtaofemdhgfejjaaGreatDoor
open Go.RowKit

structure Rows3 (w : World) (B : Nat) (Ao : Option Addr) (co : Nat) (lo : List Pr) (Ab : Option Addr) (cb : Nat) (lb : List ByteArray) (AK : Option Addr) (cK : Nat) (lK : List ByteArray) : Prop where
  o : Own w B Ao co lo
  b : ZOwn w B Ab cb lb
  k : ZOwn w B AK cK lK
  ob : ∀ g, rowOf Ao = some g → rowOf Ab ≠ some g
  ok : ∀ g, rowOf AK = some g → rowOf Ao ≠ some g
  bk : ∀ g, rowOf AK = some g → rowOf Ab ≠ some g
section
variable {w w' : World} {B : Nat} {Ao : Option Addr} {co : Nat} {lo : List Pr} {Ab : Option Addr} {cb : Nat} {lb : List ByteArray} {AK : Option Addr} {cK : Nat} {lK : List ByteArray}
theorem Rows3.below (h : Rows3 w B Ao co lo Ab cb lb AK cK lK) (q : Below w.heap.size w w') : Rows3 w' B Ao co lo Ab cb lb AK cK lK := ⟨h.o.below q, h.b.below q, h.k.below q, h.ob, h.ok, h.bk⟩
theorem Rows3.alloc (h : Rows3 w B Ao co lo Ab cb lb AK cK lK) (x : Obj) : Rows3 (w.alloc x) B Ao co lo Ab cb lb AK cK lK := h.below ((Below.refl _ _).alloc (Nat.le_refl _) x)
theorem Rows3.appO (h : Rows3 w B Ao co lo Ab cb lb AK cK lK) {A2 : Option Addr} {c2 : Nat} {l2 : List Pr} (own : Own w' B A2 c2 l2) (g : w.grownBy w' (rowOf Ao)) (r : rowOf A2 = rowOf Ao ∨ rowOf A2 = some w.heap.size) : Rows3 w' B A2 c2 l2 Ab cb lb AK cK lK := by
  refine ⟨own, h.b.apart g (fun x hx y => h.ob x y hx), h.k.apart g h.ok, fun x hx hy => ?_, fun x hx hy => ?_, h.bk⟩
  · rcases r with e | e
    · rw [e] at hx; exact h.ob x hx hy
    · rw [e] at hx; injection hx with hx; have := (h.b.row x hy).2; omega
  · rcases r with e | e
    · rw [e] at hy; exact h.ok x hx hy
    · rw [e] at hy; injection hy with hy; have := (h.k.row x hx).2; omega
theorem Rows3.appB (h : Rows3 w B Ao co lo Ab cb lb AK cK lK) {A2 : Option Addr} {c2 : Nat} {l2 : List ByteArray} (own : ZOwn w' B A2 c2 l2) (g : w.grownBy w' (rowOf Ab)) (r : rowOf A2 = rowOf Ab ∨ rowOf A2 = some w.heap.size) : Rows3 w' B Ao co lo A2 c2 l2 AK cK lK := by
  refine ⟨h.o.apart g h.ob, own, h.k.apart g h.bk, fun x hx hy => ?_, h.ok, fun x hx hy => ?_⟩
  · rcases r with e | e
    · rw [e] at hy; exact h.ob x hx hy
    · rw [e] at hy; injection hy with hy; have := (h.o.row x hx).2; omega
  · rcases r with e | e
    · rw [e] at hy; exact h.bk x hx hy
    · rw [e] at hy; injection hy with hy; have := (h.k.row x hx).2; omega
end
/-- pairs and keys come back, in rows of the call's own that lie apart -/
def RetMZ (B : Nat) (l : List Pr) (ks : List ByteArray) (w : World) (e : Ending) (w' : World) : Prop :=
  ∃ A cap A' cap', l.length ≤ cap ∧ e = .returned (.tuple #[.slice A l.length cap, .slice A' ks.length cap']) ∧ Own w' B A cap l ∧ ZOwn w' B A' cap' ks ∧ Below B w w' ∧ ∀ g, rowOf A = some g → rowOf A' ≠ some g
/-- the merger of the first k keys -/
def merT (base a b side : List Pr) (k : Nat) : List Pr := ((merK base a b).take k).filterMap fun x => (pickM base a b side x).map fun v => (x, v)
def badT (base a b : List Pr) (k : Nat) : List ByteArray := ((merK base a b).take k).filter fun x => (oneM (lk base x) (lk a x) (lk b x)).isNone
theorem merT_zero (base a b side : List Pr) : merT base a b side 0 = [] := rfl
theorem badT_zero (base a b : List Pr) : badT base a b 0 = [] := rfl
theorem merT_all (base a b side : List Pr) {k : Nat} (h : (merK base a b).length ≤ k) : merT base a b side k = merM base a b side := by unfold merT merM; rw [List.take_of_length_le h]
theorem badT_all (base a b : List Pr) {k : Nat} (h : (merK base a b).length ≤ k) : badT base a b k = badM base a b := by unfold badT badM; rw [List.take_of_length_le h]
theorem merT_yes {base a b side : List Pr} {k : Nat} (h : k < (merK base a b).length) {v : ByteArray} (hv : pickM base a b side (merK base a b)[k] = some v) : merT base a b side (k + 1) = merT base a b side k ++ [((merK base a b)[k], v)] := by
  unfold merT
  rw [List.take_succ_eq_append_getElem h, List.filterMap_append]
  simp [hv]
theorem merT_no {base a b side : List Pr} {k : Nat} (h : k < (merK base a b).length) (hv : pickM base a b side (merK base a b)[k] = none) : merT base a b side (k + 1) = merT base a b side k := by
  unfold merT
  rw [List.take_succ_eq_append_getElem h, List.filterMap_append]
  simp [hv]
theorem badT_yes {base a b : List Pr} {k : Nat} (h : k < (merK base a b).length) (hv : oneM (lk base (merK base a b)[k]) (lk a (merK base a b)[k]) (lk b (merK base a b)[k]) = none) : badT base a b (k + 1) = badT base a b k ++ [(merK base a b)[k]] := by
  unfold badT
  rw [List.take_succ_eq_append_getElem h, List.filter_append]
  simp [hv]
theorem badT_no {base a b : List Pr} {k : Nat} (h : k < (merK base a b).length) {r : Option ByteArray} (hv : oneM (lk base (merK base a b)[k]) (lk a (merK base a b)[k]) (lk b (merK base a b)[k]) = some r) : badT base a b (k + 1) = badT base a b k := by
  unfold badT
  rw [List.take_succ_eq_append_getElem h, List.filter_append]
  simp [hv]
theorem merT_len (base a b side : List Pr) (k : Nat) : (merT base a b side k).length ≤ (merK base a b).length := by
  have h1 : (merT base a b side k).length ≤ ((merK base a b).take k).length := List.length_filterMap_le _ _
  rw [List.length_take] at h1
  omega
theorem badT_len (base a b : List Pr) (k : Nat) : (badT base a b k).length ≤ (merK base a b).length := by
  have h1 : (badT base a b k).length ≤ ((merK base a b).take k).length := List.length_filter_le _ _
  rw [List.length_take] at h1
  omega
theorem valOf_max {l : List Pr} (h : lens l) (k : ByteArray) : (valOf l k).size ≤ maxLen := by
  cases hh : hasB l k
  · rw [valOf_no hh]; simp [maxLen]
  · obtain ⟨hlt, he⟩ := hasB_iff.1 hh
    rw [valOf_yes hlt he]
    exact (h _ hlt).2
theorem mem_max {l : List Pr} (h : lens l) {p : Pr} (hp : p ∈ l) : p.1.size ≤ maxLen := by
  obtain ⟨i, hi, rfl⟩ := List.mem_iff_getElem.1 hp
  exact (h i hi).1
theorem merK_max {base a b : List Pr} (h0 : lens base) (h1 : lens a) (h2 : lens b) {k : ByteArray} (h : k ∈ merK base a b) : k.size ≤ maxLen := by
  obtain ⟨p, hp, rfl⟩ := merK_from h
  rcases hp with hp | hp | hp
  · exact mem_max h0 hp
  · exact mem_max h1 hp
  · exact mem_max h2 hp
/-- what a map tells of a key, as the program reads it -/
theorem lk_shape (l : List Pr) (k : ByteArray) : (hasB l k = true ∧ lk l k = some (valOf l k)) ∨ (hasB l k = false ∧ lk l k = none) := by
  cases h : hasB l k
  · exact .inr ⟨rfl, lk_no h⟩
  · exact .inl ⟨rfl, lk_yes h⟩
theorem one_shape (base a b : List Pr) (k : ByteArray) : oneM (lk base k) (lk a k) (lk b k) = none ∨ oneM (lk base k) (lk a k) (lk b k) = some (lk a k) ∨ oneM (lk base k) (lk a k) (lk b k) = some (lk b k) := by
  unfold oneM
  split
  · exact .inr (.inr rfl)
  · split
    · exact .inr (.inl rfl)
    · exact .inl rfl
end Go.Proofs.YtaofemdhgfejjaaGreatDoor
/-
  What impl.keysOf answers.
-/
namespace Go.Proofs.YtaofemdhgfejjaaGreatDoor
open Go.RowKit Go.Lib

abbrev Tri := Option Addr × List Pr × Nat
def triV (t : Tri) : Value := .slice t.1 t.2.1.length t.2.2
def catK (Ls : List Tri) : List ByteArray := (Ls.flatMap fun t => t.2.1).map (·.1)
theorem catK_succ (Ls : List Tri) (k : Nat) (h : k < Ls.length) : catK (Ls.take (k + 1)) = catK (Ls.take k) ++ (Ls[k].2.1).map (·.1) := by
  unfold catK
  rw [List.take_succ_eq_append_getElem h, List.flatMap_append, List.map_append]
  simp
theorem keys_succ (l : List Pr) (k : Nat) (h : k < l.length) : (l.take (k + 1)).map (·.1) = (l.take k).map (·.1) ++ [l[k].1] := by
  rw [List.take_succ_eq_append_getElem h, List.map_append]
  rfl
theorem catK_len (Ls : List Tri) (h : ∀ t ∈ Ls, t.2.1.length ≤ 200) : ∀ k, k ≤ Ls.length → (catK (Ls.take k)).length ≤ 200 * k
  | 0, _ => by simp [catK]
  | k + 1, hk => by
    have ih := catK_len Ls h k (by omega)
    rw [catK_succ Ls k (by omega), List.length_append, List.length_map]
    have := h _ (List.getElem_mem (show k < Ls.length by omega))
    omega

set_option maxRecDepth 100000 in
set_option maxHeartbeats 2000000 in
theorem keysOf_any (g : Nat) (Ls : List Tri) (w : World) (hc : ∀ i (h : i < Ls.length), w.cell? ⟨g, i, none⟩ = some (triV Ls[i])) (hg : g < w.heap.size) (hin : ∀ t ∈ Ls, PIn w w.heap.size t.1 t.2.1) (hlen : ∀ t ∈ Ls, t.2.1.length ≤ 200) (hn : Ls.length ≤ 3) (ks : List ByteArray) (hk : RisK ks) (hm : ∀ x, x ∈ ks ↔ x ∈ catK Ls) :
    Calls Tryz.prog 49 #[.slice (some ⟨g, 0, none⟩) Ls.length Ls.length] w (RetZ w.heap.size ks w) := by
  have HC := hide hc
  have HI := hide hin
  have HL := hide hlen
  have UQ := hide (fun (w' : World) (A : Option Addr) (cap : Nat) => uniq_own (w := w') (B := w.heap.size) (A := A) (cap := cap) hk hm)
  clear hc hin hlen hk hm
  generalize hnn : Ls.length = n at hn ⊢
  have HN := hide hnn
  clear hnn
  go_enter Tryz.func49, Tryz.ntmps49
  go_wp2
  go_loopw [3, 10] (fun o i wr => ∃ (k : Nat) (A : Option Addr) (cap : Nat), k ≤ n ∧ i = .int .i64 k ∧ o = .slice A (catK (Ls.take k)).length cap ∧ Hid (ZOwn wr w.heap.size A cap (catK (Ls.take k))) ∧ Hid (Below w.heap.size w wr)) (fun _ i _ => n - (intOf i).toNat)
  case atStart => exact ⟨0, none, 0, Nat.zero_le _, rfl, rfl, ZOwn.nil _ _, Below.refl _ _⟩
  case round =>
    obtain ⟨k, A, cap, hk, rfl, rfl, Z, Q⟩ := hrel
    have KL : Hid ((catK (Ls.take k)).length ≤ 600) := hide (by have := catK_len Ls HL.out k (by rw [HN.out]; exact hk); omega)
    by_cases hlt : k < n
    · have hkl : k < Ls.length := by rw [HN.out]; exact hlt
      have c0 := cellB Q.out hg (HC.out k hkl)
      have IN := hide (HI.out _ (List.getElem_mem hkl))
      have L2 := HL.out _ (List.getElem_mem hkl)
      have CS := hide (catK_succ Ls k hkl)
      unfold triV at c0
      generalize (Ls[k]'hkl).1 = A1 at *
      generalize (Ls[k]'hkl).2.1 = l1 at *
      generalize (Ls[k]'hkl).2.2 = cap1 at *
      generalize hm1 : l1.length = m at *
      have HM := hide hm1
      clear hm1
      generalize catK (Ls.take k) = cs at *
      go_wp2
      go_loopw [3, 16] (fun o i w2 => ∃ (j : Nat) (A2 : Option Addr) (cap2 : Nat), j ≤ m ∧ i = .int .i64 j ∧ o = .slice A2 (cs ++ (l1.take j).map (·.1)).length cap2 ∧ Hid (ZOwn w2 w.heap.size A2 cap2 (cs ++ (l1.take j).map (·.1))) ∧ Hid (Below w.heap.size w w2)) (fun _ i _ => m - (intOf i).toNat)
      case atStart => exact ⟨0, A, cap, Nat.zero_le _, rfl, by simp, by simpa using Z, Q⟩
      case round =>
        clear Z Q c0
        obtain ⟨j, A2, cap2, hj, rfl, rfl, Z, Q⟩ := hrel
        by_cases hjt : j < m
        · have hjl : j < l1.length := by rw [HM.out]; exact hjt
          obtain ⟨b, off, rfl, hbB, hcc⟩ := (IN.out.below Q.out).2 (by omega)
          obtain ⟨c1, c2⟩ := hcc j hjl
          have KS : Hid (cs ++ (l1.take (j + 1)).map (·.1) = (cs ++ (l1.take j).map (·.1)) ++ [(l1[j]'hjl).1]) := hide (by rw [keys_succ l1 j hjl, List.append_assoc])
          have LL : Hid ((cs ++ (l1.take j).map (·.1)).length ≤ 800) := hide (by have := KL.out; simp; omega)
          clear hcc
          generalize (l1[j]'hjl).1 = key at *
          generalize (l1[j]'hjl).2 = vv at *
          generalize cs ++ (l1.take j).map (·.1) = xs at *
          have BA := hide ((Q.out.alloc Q.out.size (.cells #[.string key, .string vv] 60)).alloc (Nat.le_trans Q.out.size (by simp)) (.cells #[.string key] 9))
          have ZA := hide ((Z.out.alloc (.cells #[.string key, .string vv] 60)).alloc (.cells #[.string key] 9))
          have z1 : Hid (wr.heap.size + 1 = (wr.alloc (.cells #[.string key, .string vv] 60)).heap.size) := hide (by simp)
          go_wp2_with (at_builtin; refine wpList_appZ (l' := [key]) 27 Tryz.underlying27 rfl (.tmp 20) (.tmp 23) rfl rfl rfl rfl rfl ZA.out (ZIn.one (w := wr.alloc (.cells #[.string key, .string vv] 60)) key _ z1.out.symm) BA.out.size (by have := LL.out; simp; omega) ?_; intro A5 cap5 w5 own5 g5 r5; have b5 := ZA.out.grownBelow g5 BA.out.size; have Q5 := hide (BA.out.trans b5); have Z5 := hide own5; clear own5 g5 r5 b5 ZA BA)
          rw [← KS.out] at Z5
          go_roundw
          case rel => exact ⟨j + 1, A5, cap5, by omega, by go_num, by rw [KS.out]; simp, Z5, Q5⟩
          case measure => simp [intOf]; omega
        · obtain rfl : j = m := by omega
          have E : Hid (cs ++ (l1.take j).map (·.1) = catK (Ls.take (k + 1))) := hide (by rw [CS.out, List.take_of_length_le (by rw [HM.out]; exact Nat.le_refl _)])
          rw [E.out] at Z
          rw [E.out]
          go_wp2
          go_roundw
          case rel => exact ⟨k + 1, A2, cap2, by omega, by go_num, rfl, Z, Q⟩
          case measure => simp [intOf]; omega
    · obtain rfl : k = n := by omega
      have E : Hid (catK (Ls.take k) = catK Ls) := hide (by rw [List.take_of_length_le (by rw [HN.out]; exact Nat.le_refl _)])
      rw [E.out] at Z KL
      rw [E.out]
      have ZL := hide Z.out.toL
      have e1 := toLs_len (catK Ls)
      have e2 := sortL_len (toLs (catK Ls))
      have SO := hide (sort_any A (toLs (catK Ls)) cap wr w.heap.size ZL.out (by have := KL.out; omega))
      have CO := hide (fun W (h : LOwn W w.heap.size A cap (sortL (toLs (catK Ls)))) => compact_any A (sortL (toLs (catK Ls))) cap W w.heap.size h (by have := KL.out; omega))
      rw [e1] at SO
      rw [e2, e1] at CO
      have RW := hide Z.out.row
      clear e1 e2 ZL
      go_wp2_with fail
      refine SO.out.mono ?_
      rintro e w2 ⟨rfl, o2, g2⟩
      have Q2 := hide (Q.out.trans (Z.out.grownBelow g2 Q.out.size))
      have O2 := hide o2
      clear o2 g2 SO
      go_wp2_with fail
      refine (CO.out _ O2.out).mono ?_
      rintro e w3 ⟨rfl, o3, g3⟩
      have Q3 := hide (Q2.out.trans ((Below.refl w.heap.size w2).grown g3 Q2.out.size (fun x hx => (RW.out x hx).1)))
      obtain ⟨z3, e3⟩ := UQ.out w3 A cap o3
      have Z3 := hide z3
      rw [e3]
      clear z3 e3 o3 g3 CO
      go_wp2
      go_ret
      exact ⟨A, cap, rfl, Z3.out, Q3.out⟩
end Go.Proofs.YtaofemdhgfejjaaGreatDoor
/-
  What impl's holdingOf and chosen answer.
-/
namespace Go.Proofs.YtaofemdhgfejjaaGreatDoor
open Go.RowKit

theorem block_of_alloc {w w' : World} {x : Obj} (h : Below (w.alloc x).heap.size (w.alloc x) w') : w'.heap[w.heap.size]? = some x := (h.block _ (by simp)).trans (heap_alloc_new w x)

set_option maxRecDepth 100000 in
set_option maxHeartbeats 1000000 in
theorem holdingOf_any (A : Option Addr) (l : List Pr) (cap : Nat) (key : ByteArray) (w : World) (hl : l.length ≤ 65536) (hin : PIn w w.heap.size A l) (hr : risesTo l l.length) :
    Calls Tryz.prog 51 #[.slice A l.length cap, .string key] w fun e w' => e = .returned (.agg #[.string (valOf l key), .bool (hasB l key)]) ∧ Below w.heap.size w w' := by
  have B0 := hide ((Below.refl w.heap.size w).alloc (Nat.le_refl _) (.cells #[.string ByteArray.empty, .bool false] 91))
  have IN := hide ((hin.below B0.out).more B0.out.size)
  have HR := hide hr
  clear hin hr
  go_enter Tryz.func51, Tryz.ntmps51
  go_wp2_with fail
  refine (place_any A l cap key _ hl IN.out HR.out).mono ?_
  rintro e w1 ⟨rfl, b1⟩
  have q1 := block_of_alloc b1
  have B1 := hide (B0.out.trans (b1.mono B0.out.size))
  have I1 := hide (IN.out.below b1)
  have z0 : w1.cell? ⟨w.heap.size, 0, none⟩ = some (.string ByteArray.empty) := cell_of_row w1 _ 0 _ _ _ q1
  have z1 : w1.cell? ⟨w.heap.size, 1, none⟩ = some (.bool false) := cell_of_row w1 _ 1 _ _ _ q1
  have f0 := frozen_of_row w1 _ 0 _ _ q1
  have f1 := frozen_of_row w1 _ 1 _ _ q1
  clear b1 B0 IN q1
  cases hh : hasB l key
  · have Z := hide (valOf_no hh)
    go_wp2
    refine bodyPost_ret (v := .agg #[.string ⟨#[]⟩, .bool false]) (by simp [results, Tryz.results51, go_sem, z0, z1]) rfl ?_
    rw [Z.out, hh]
    exact ⟨rfl, (B1.out.setCell (p := ⟨w.heap.size, 0, none⟩) (Nat.le_refl _) _).setCell (p := ⟨w.heap.size, 1, none⟩) (Nat.le_refl _) _⟩
  · obtain ⟨hlt, he⟩ := hasB_iff.1 hh
    have Z := hide (valOf_yes hlt he)
    obtain ⟨b, off, rfl, hbB, hc⟩ := I1.out.2 (by omega)
    obtain ⟨c1, c2⟩ := hc (atN l key) hlt
    generalize (l[atN l key]'hlt).2 = v at *
    generalize atN l key = m at *
    clear hc he I1
    go_wp2
    refine bodyPost_ret (v := .agg #[.string v, .bool true]) (by simp [results, Tryz.results51, go_sem, z0, z1]) rfl ?_
    rw [Z.out, hh]
    exact ⟨rfl, (B1.out.setCell (p := ⟨w.heap.size, 0, none⟩) (Nat.le_refl _) _).setCell (p := ⟨w.heap.size, 1, none⟩) (Nat.le_refl _) _⟩

/-- the holding that a merger takes, and whether it takes one -/
def chV (x0 x1 x2 : ByteArray) (b0 b1 b2 : Bool) : ByteArray × Bool × Bool := if x1 = x0 ∧ b1 = b0 then (x2, b2, true) else if (x2 = x0 ∧ b2 = b0) ∨ (x1 = x2 ∧ b1 = b2) then (x1, b1, true) else (x0, b0, false)
theorem ret_ch {p : ByteArray × Bool × Bool} {s : ByteArray} {a c : Bool} (h : p = (s, a, c)) : Ending.returned (.tuple #[.agg #[.string s, .bool a], .bool c]) = .returned (.tuple #[.agg #[.string p.1, .bool p.2.1], .bool p.2.2]) := by rw [h]
theorem ch_same {x0 x1 x2 : ByteArray} {b0 b1 b2 : Bool} (h : x1 = x0 ∧ b1 = b0) : chV x0 x1 x2 b0 b1 b2 = (x2, b2, true) := by unfold chV; rw [if_pos h]
theorem ch_one {x0 x1 x2 : ByteArray} {b0 b1 b2 : Bool} (h : ¬ (x1 = x0 ∧ b1 = b0)) (h' : (x2 = x0 ∧ b2 = b0) ∨ (x1 = x2 ∧ b1 = b2)) : chV x0 x1 x2 b0 b1 b2 = (x1, b1, true) := by unfold chV; rw [if_neg h, if_pos h']
theorem ch_none {x0 x1 x2 : ByteArray} {b0 b1 b2 : Bool} (h : ¬ (x1 = x0 ∧ b1 = b0)) (h' : ¬ ((x2 = x0 ∧ b2 = b0) ∨ (x1 = x2 ∧ b1 = b2))) : chV x0 x1 x2 b0 b1 b2 = (x0, b0, false) := by unfold chV; rw [if_neg h, if_neg h']
theorem below4 (w : World) (a b c d : Obj) : Below w.heap.size w ((((w.alloc a).alloc b).alloc c).alloc d) := ((((Below.refl _ _).alloc (Nat.le_refl _) _).alloc (by simp) _).alloc (by simp; omega) _).alloc (by simp; omega) _

set_option maxRecDepth 100000 in
set_option maxHeartbeats 4000000 in
theorem chosen_any (x0 x1 x2 : ByteArray) (b0 b1 b2 : Bool) (w : World) :
    Calls Tryz.prog 50 #[.agg #[.string x0, .bool b0], .agg #[.string x1, .bool b1], .agg #[.string x2, .bool b2]] w fun e w' => e = .returned (.tuple #[.agg #[.string (chV x0 x1 x2 b0 b1 b2).1, .bool (chV x0 x1 x2 b0 b1 b2).2.1], .bool (chV x0 x1 x2 b0 b1 b2).2.2]) ∧ Below w.heap.size w w' := by
  have BB := hide (below4 w)
  have FF : Hid (∀ s a c, chV x0 x1 x2 b0 b1 b2 = (s, a, c) → Ending.returned (.tuple #[.agg #[.string s, .bool a], .bool c]) = .returned (.tuple #[.agg #[.string (chV x0 x1 x2 b0 b1 b2).1, .bool (chV x0 x1 x2 b0 b1 b2).2.1], .bool (chV x0 x1 x2 b0 b1 b2).2.2])) := hide (fun s a c h => ret_ch h)
  by_cases e1 : x1 = x0
  · have de1 := eqS_yes e1
    by_cases e2 : b1 = b0
    · have de2 := eqB_yes e2
      have F := hide (FF.out _ _ _ (ch_same ⟨e1, e2⟩))
      clear FF e1 e2
      go_enter Tryz.func50, Tryz.ntmps50
      go_wp2
      refine bodyPost_ret (v := .tuple #[.agg #[.string x2, .bool b2], .bool true]) (by simp [results, Tryz.results50, go_sem]) rfl ?_
      exact ⟨F.out, BB.out _ _ _ _⟩
    · have de2 := eqB_no e2
      by_cases e3 : x2 = x0
      · have de3 := eqS_yes e3
        by_cases e4 : b2 = b0
        · have de4 := eqB_yes e4
          have F := hide (FF.out _ _ _ (ch_one (fun h => e2 h.2) (.inl ⟨e3, e4⟩)))
          clear FF e1 e2 e3 e4
          go_enter Tryz.func50, Tryz.ntmps50
          go_wp2
          refine bodyPost_ret (v := .tuple #[.agg #[.string x1, .bool b1], .bool true]) (by simp [results, Tryz.results50, go_sem]) rfl ?_
          exact ⟨F.out, BB.out _ _ _ _⟩
        · have de4 := eqB_no e4
          by_cases e5 : x1 = x2
          · have de5 := eqS_yes e5
            by_cases e6 : b1 = b2
            · have de6 := eqB_yes e6
              have F := hide (FF.out _ _ _ (ch_one (fun h => e2 h.2) (.inr ⟨e5, e6⟩)))
              clear FF e1 e2 e3 e4 e5 e6
              go_enter Tryz.func50, Tryz.ntmps50
              go_wp2
              refine bodyPost_ret (v := .tuple #[.agg #[.string x1, .bool b1], .bool true]) (by simp [results, Tryz.results50, go_sem]) rfl ?_
              exact ⟨F.out, BB.out _ _ _ _⟩
            · have de6 := eqB_no e6
              have F := hide (FF.out _ _ _ (ch_none (fun h => e2 h.2) (by rintro (h | h); exact (fun h => e4 h.2) h; exact e6 h.2)))
              clear FF e1 e2 e3 e4 e5 e6
              go_enter Tryz.func50, Tryz.ntmps50
              go_wp2
              refine bodyPost_ret (v := .tuple #[.agg #[.string x0, .bool b0], .bool false]) (by simp [results, Tryz.results50, go_sem]) rfl ?_
              exact ⟨F.out, BB.out _ _ _ _⟩
          · have de5 := eqS_no e5
            have F := hide (FF.out _ _ _ (ch_none (fun h => e2 h.2) (by rintro (h | h); exact (fun h => e4 h.2) h; exact e5 h.1)))
            clear FF e1 e2 e3 e4 e5
            go_enter Tryz.func50, Tryz.ntmps50
            go_wp2
            refine bodyPost_ret (v := .tuple #[.agg #[.string x0, .bool b0], .bool false]) (by simp [results, Tryz.results50, go_sem]) rfl ?_
            exact ⟨F.out, BB.out _ _ _ _⟩
      · have de3 := eqS_no e3
        by_cases e5 : x1 = x2
        · have de5 := eqS_yes e5
          by_cases e6 : b1 = b2
          · have de6 := eqB_yes e6
            have F := hide (FF.out _ _ _ (ch_one (fun h => e2 h.2) (.inr ⟨e5, e6⟩)))
            clear FF e1 e2 e3 e5 e6
            go_enter Tryz.func50, Tryz.ntmps50
            go_wp2
            refine bodyPost_ret (v := .tuple #[.agg #[.string x1, .bool b1], .bool true]) (by simp [results, Tryz.results50, go_sem]) rfl ?_
            exact ⟨F.out, BB.out _ _ _ _⟩
          · have de6 := eqB_no e6
            have F := hide (FF.out _ _ _ (ch_none (fun h => e2 h.2) (by rintro (h | h); exact (fun h => e3 h.1) h; exact e6 h.2)))
            clear FF e1 e2 e3 e5 e6
            go_enter Tryz.func50, Tryz.ntmps50
            go_wp2
            refine bodyPost_ret (v := .tuple #[.agg #[.string x0, .bool b0], .bool false]) (by simp [results, Tryz.results50, go_sem]) rfl ?_
            exact ⟨F.out, BB.out _ _ _ _⟩
        · have de5 := eqS_no e5
          have F := hide (FF.out _ _ _ (ch_none (fun h => e2 h.2) (by rintro (h | h); exact (fun h => e3 h.1) h; exact e5 h.1)))
          clear FF e1 e2 e3 e5
          go_enter Tryz.func50, Tryz.ntmps50
          go_wp2
          refine bodyPost_ret (v := .tuple #[.agg #[.string x0, .bool b0], .bool false]) (by simp [results, Tryz.results50, go_sem]) rfl ?_
          exact ⟨F.out, BB.out _ _ _ _⟩
  · have de1 := eqS_no e1
    by_cases e3 : x2 = x0
    · have de3 := eqS_yes e3
      by_cases e4 : b2 = b0
      · have de4 := eqB_yes e4
        have F := hide (FF.out _ _ _ (ch_one (fun h => e1 h.1) (.inl ⟨e3, e4⟩)))
        clear FF e1 e3 e4
        go_enter Tryz.func50, Tryz.ntmps50
        go_wp2
        refine bodyPost_ret (v := .tuple #[.agg #[.string x1, .bool b1], .bool true]) (by simp [results, Tryz.results50, go_sem]) rfl ?_
        exact ⟨F.out, BB.out _ _ _ _⟩
      · have de4 := eqB_no e4
        by_cases e5 : x1 = x2
        · have de5 := eqS_yes e5
          by_cases e6 : b1 = b2
          · have de6 := eqB_yes e6
            have F := hide (FF.out _ _ _ (ch_one (fun h => e1 h.1) (.inr ⟨e5, e6⟩)))
            clear FF e1 e3 e4 e5 e6
            go_enter Tryz.func50, Tryz.ntmps50
            go_wp2
            refine bodyPost_ret (v := .tuple #[.agg #[.string x1, .bool b1], .bool true]) (by simp [results, Tryz.results50, go_sem]) rfl ?_
            exact ⟨F.out, BB.out _ _ _ _⟩
          · have de6 := eqB_no e6
            have F := hide (FF.out _ _ _ (ch_none (fun h => e1 h.1) (by rintro (h | h); exact (fun h => e4 h.2) h; exact e6 h.2)))
            clear FF e1 e3 e4 e5 e6
            go_enter Tryz.func50, Tryz.ntmps50
            go_wp2
            refine bodyPost_ret (v := .tuple #[.agg #[.string x0, .bool b0], .bool false]) (by simp [results, Tryz.results50, go_sem]) rfl ?_
            exact ⟨F.out, BB.out _ _ _ _⟩
        · have de5 := eqS_no e5
          have F := hide (FF.out _ _ _ (ch_none (fun h => e1 h.1) (by rintro (h | h); exact (fun h => e4 h.2) h; exact e5 h.1)))
          clear FF e1 e3 e4 e5
          go_enter Tryz.func50, Tryz.ntmps50
          go_wp2
          refine bodyPost_ret (v := .tuple #[.agg #[.string x0, .bool b0], .bool false]) (by simp [results, Tryz.results50, go_sem]) rfl ?_
          exact ⟨F.out, BB.out _ _ _ _⟩
    · have de3 := eqS_no e3
      by_cases e5 : x1 = x2
      · have de5 := eqS_yes e5
        by_cases e6 : b1 = b2
        · have de6 := eqB_yes e6
          have F := hide (FF.out _ _ _ (ch_one (fun h => e1 h.1) (.inr ⟨e5, e6⟩)))
          clear FF e1 e3 e5 e6
          go_enter Tryz.func50, Tryz.ntmps50
          go_wp2
          refine bodyPost_ret (v := .tuple #[.agg #[.string x1, .bool b1], .bool true]) (by simp [results, Tryz.results50, go_sem]) rfl ?_
          exact ⟨F.out, BB.out _ _ _ _⟩
        · have de6 := eqB_no e6
          have F := hide (FF.out _ _ _ (ch_none (fun h => e1 h.1) (by rintro (h | h); exact (fun h => e3 h.1) h; exact e6 h.2)))
          clear FF e1 e3 e5 e6
          go_enter Tryz.func50, Tryz.ntmps50
          go_wp2
          refine bodyPost_ret (v := .tuple #[.agg #[.string x0, .bool b0], .bool false]) (by simp [results, Tryz.results50, go_sem]) rfl ?_
          exact ⟨F.out, BB.out _ _ _ _⟩
      · have de5 := eqS_no e5
        have F := hide (FF.out _ _ _ (ch_none (fun h => e1 h.1) (by rintro (h | h); exact (fun h => e3 h.1) h; exact e5 h.1)))
        clear FF e1 e3 e5
        go_enter Tryz.func50, Tryz.ntmps50
        go_wp2
        refine bodyPost_ret (v := .tuple #[.agg #[.string x0, .bool b0], .bool false]) (by simp [results, Tryz.results50, go_sem]) rfl ?_
        exact ⟨F.out, BB.out _ _ _ _⟩
end Go.Proofs.YtaofemdhgfejjaaGreatDoor
/-
  What impl.mergerOf answers.
-/
namespace Go.Proofs.YtaofemdhgfejjaaGreatDoor
open Go.RowKit

theorem grown_cell {w w' : World} {row : Option Nat} (h : w.grownBy w' row) {b o : Nat} (hb : b < w.heap.size) (hne : row ≠ some b) : w'.cell? ⟨b, o, none⟩ = w.cell? ⟨b, o, none⟩ := by
  have := h.block b hb (fun e => hne e.symm)
  simp only [World.cell?, this]
theorem row_ne {w : World} {B : Nat} {A : Option Addr} {cap : Nat} {l : List ByteArray} (h : ZOwn w B A cap l) {b : Nat} (hb : w.heap.size ≤ b) : rowOf A ≠ some b := fun e => by have := (h.row b e).2; omega
theorem ch_pick (l0 l1 l2 : List Pr) (k : ByteArray) : chV (valOf l0 k) (valOf l1 k) (valOf l2 k) (hasB l0 k) (hasB l1 k) (hasB l2 k) = ((pickM l0 l1 l2 l0 k).getD ByteArray.empty, (pickM l0 l1 l2 l0 k).isSome, (oneM (lk l0 k) (lk l1 k) (lk l2 k)).isSome) := by
  have e1 : (valOf l1 k = valOf l0 k ∧ hasB l1 k = hasB l0 k) ↔ lk l1 k = lk l0 k := by rw [lk_eq, and_comm]
  have e2 : (valOf l2 k = valOf l0 k ∧ hasB l2 k = hasB l0 k) ↔ lk l2 k = lk l0 k := by rw [lk_eq, and_comm]
  have e3 : (valOf l1 k = valOf l2 k ∧ hasB l1 k = hasB l2 k) ↔ lk l1 k = lk l2 k := by rw [lk_eq, and_comm]
  unfold chV pickM oneM
  simp only [e1, e2, e3]
  split
  · rw [Option.getD_some, ← lk_val, ← lk_has]; rfl
  · split
    · rw [Option.getD_some, ← lk_val, ← lk_has]; rfl
    · rw [Option.getD_none, ← lk_val, ← lk_has]; rfl

/-- what mergerOf answers: a refusal of the sentinel; or the pairs, and nil or a clash of the keys that are told -/
def MgrRet (l0 l1 l2 : List Pr) (a : Addr) (w : World) (e : Ending) (w' : World) : Prop :=
  Below w.heap.size w w' ∧ ((mgB l0 l1 l2 = false ∧ ∃ p, e = .returned (.tuple #[.slice none 0 0, .iface 86 (.pointer (some ⟨p, 0, none⟩))]) ∧ w'.cell? ⟨p, 0 + 1, none⟩ = some (.iface 181 (.pointer (some a)))) ∨
    (mgB l0 l1 l2 = true ∧ ∃ A cap Ab cb, (merM l0 l1 l2 l0).length ≤ cap ∧ Own w' w.heap.size A cap (merM l0 l1 l2 l0) ∧ ZOwn w' w.heap.size Ab cb (badM l0 l1 l2) ∧ (∀ g, rowOf A = some g → rowOf Ab ≠ some g) ∧
      ((badM l0 l1 l2 = [] ∧ e = .returned (.tuple #[.slice A (merM l0 l1 l2 l0).length cap, .nilIface])) ∨
        (badM l0 l1 l2 ≠ [] ∧ ∃ p, p < w'.heap.size ∧ e = .returned (.tuple #[.slice A (merM l0 l1 l2 l0).length cap, .iface 95 (.pointer (some ⟨p, 0, none⟩))]) ∧ w'.cell? ⟨p, 0, none⟩ = some (.slice Ab (badM l0 l1 l2).length cb)))))
theorem cell_alloc_at (w : World) (cs : Array Value) (t : TypeId) (i : Nat) : (w.alloc (.cells cs t)).cell? ⟨w.heap.size, i, none⟩ = cs[i]? := cell_of_row _ w.heap.size i cs t (0, 0) (heap_alloc_new w (.cells cs t))

set_option maxRecDepth 100000 in
set_option maxHeartbeats 4000000 in
theorem mergerOf_bad (A0 A1 A2 : Option Addr) (l0 l1 l2 : List Pr) (c0 c1 c2 : Nat) (a : Addr) (w : World) (h0 : l0.length ≤ maxLen) (h1 : l1.length ≤ maxLen) (h2 : l2.length ≤ maxLen) (i0 : PIn w w.heap.size A0 l0) (i1 : PIn w w.heap.size A1 l1) (i2 : PIn w w.heap.size A2 l2) (hE : Errs w a)
    (hb : ¬ (mapB l0 = true ∧ mapB l1 = true ∧ mapB l2 = true)) :
    Calls Tryz.prog 25 #[.slice A0 l0.length c0, .slice A1 l1.length c1, .slice A2 l2.length c2] w (MgrRet l0 l1 l2 a w) := by
  have HG : Hid (mgB l0 l1 l2 = false) := hide (mgB_not (fun h => hb ⟨h.1, h.2.1, h.2.2.1⟩))
  have FIN : Hid (∀ (w1 : World) (x : ByteArray), Below w.heap.size w w1 → MgrRet l0 l1 l2 a w (.returned (.tuple #[.slice none 0 0, .iface 86 (.pointer (some ⟨w1.heap.size, 0, none⟩))])) (w1.alloc (.cells #[.string x, .iface 181 (.pointer (some a))] 88)).drew ∧ MgrRet l0 l1 l2 a w (.returned (.tuple #[.slice none 0 0, .iface 86 (.pointer (some ⟨w1.heap.size, 0, none⟩))])) (w1.drew.alloc (.cells #[.string x, .iface 181 (.pointer (some a))] 88))) := hide (fun w1 x b =>
    ⟨⟨(b.alloc b.size _).drew, .inl ⟨HG.out, w1.heap.size, rfl, cell_alloc_at w1 _ _ 1⟩⟩, ⟨b.drew.alloc b.drew.size _, .inl ⟨HG.out, w1.heap.size, rfl, cell_alloc_at w1.drew _ _ 1⟩⟩⟩)
  have I0 := hide i0
  have I1 := hide i1
  have I2 := hide i2
  have HE := hide hE
  have z0 := hE.2.2.1
  have x0 := hE.1
  have HB := hide hb
  clear i0 i1 i2 hE hb
  go_enter Tryz.func25, Tryz.ntmps25
  go_wp2_with fail
  refine (implMapOk_any A0 l0 c0 _ h0 I0.out).mono ?_
  rintro e w1 ⟨rfl, b1⟩
  have B1 := hide b1
  have x1 := cellB b1 z0 x0
  clear b1
  cases hm0 : mapB l0
  · clear HB
    go_wp2
    go_region
    all_goals
      go_wp2
      go_ret2
    all_goals
      first | exact (FIN.out _ _ B1.out).1 | exact (FIN.out _ _ B1.out).2
  go_wp2_with fail
  refine (implMapOk_any A1 l1 c1 _ h1 ((I1.out.below B1.out).more B1.out.size)).mono ?_
  rintro e w2 ⟨rfl, b2⟩
  have B2 := hide (B1.out.trans (b2.mono B1.out.size))
  have x2 := cellB B2.out z0 x0
  clear b2 B1 x1
  cases hm1 : mapB l1
  · clear HB hm0
    go_wp2
    go_region
    all_goals
      go_wp2
      go_ret2
    all_goals
      first | exact (FIN.out _ _ B2.out).1 | exact (FIN.out _ _ B2.out).2
  go_wp2_with fail
  refine (implMapOk_any A2 l2 c2 _ h2 ((I2.out.below B2.out).more B2.out.size)).mono ?_
  rintro e w3 ⟨rfl, b3⟩
  have B3 := hide (B2.out.trans (b3.mono B2.out.size))
  have x3 := cellB B3.out z0 x0
  clear b3 B2 x2
  cases hm2 : mapB l2
  · clear HB hm0 hm1
    go_wp2
    go_region
    all_goals
      go_wp2
      go_ret2
    all_goals
      first | exact (FIN.out _ _ B3.out).1 | exact (FIN.out _ _ B3.out).2
  · exact absurd ⟨hm0, hm1, hm2⟩ HB.out

theorem catK3 (A0 A1 A2 : Option Addr) (l0 l1 l2 : List Pr) (c0 c1 c2 : Nat) (x : ByteArray) : x ∈ merK l0 l1 l2 ↔ x ∈ catK [(A0, l0, c0), (A1, l1, c1), (A2, l2, c2)] := by
  unfold merK catK
  rw [mem_keys, List.mem_map]
  simp [List.flatMap_cons]
theorem pick_max (l0 l1 l2 : List Pr) (k : ByteArray) (h : (valOf l0 k).size ≤ maxLen ∧ (valOf l1 k).size ≤ maxLen ∧ (valOf l2 k).size ≤ maxLen) : ∀ v, pickM l0 l1 l2 l0 k = some v → v.size ≤ maxLen := by
  have hx : ∀ (l : List Pr), (valOf l k).size ≤ maxLen → ∀ v, lk l k = some v → v.size ≤ maxLen := fun l h v hv => by
    rcases lk_shape l k with ⟨_, e⟩ | ⟨_, e⟩
    · rw [e] at hv; injection hv with hv; rw [← hv]; exact h
    · rw [e] at hv; cases hv
  intro v hv
  unfold pickM at hv
  rcases one_shape l0 l1 l2 k with e | e | e
  · rw [e] at hv; exact hx l0 h.1 v hv
  · rw [e] at hv; exact hx l1 h.2.1 v hv
  · rw [e] at hv; exact hx l2 h.2.2 v hv
theorem isSome_of_none {r : Option (Option ByteArray)} (h : r = none) : r.isSome = false := by rw [h]; rfl

set_option maxRecDepth 100000 in
set_option maxHeartbeats 4000000 in
theorem mergerOf_good (A0 A1 A2 : Option Addr) (l0 l1 l2 : List Pr) (c0 c1 c2 : Nat) (a : Addr) (w : World) (i0 : PIn w w.heap.size A0 l0) (i1 : PIn w w.heap.size A1 l1) (i2 : PIn w w.heap.size A2 l2) (hE : Errs w a)
    (hm0 : mapB l0 = true) (hm1 : mapB l1 = true) (hm2 : mapB l2 = true) :
    Calls Tryz.prog 25 #[.slice A0 l0.length c0, .slice A1 l1.length c1, .slice A2 l2.length c2] w (MgrRet l0 l1 l2 a w) := by
  have n0 := (mapB_iff.1 hm0).1
  have n1 := (mapB_iff.1 hm1).1
  have n2 := (mapB_iff.1 hm2).1
  have R0 := hide (mapB_iff.1 hm0).2.2
  have R1 := hide (mapB_iff.1 hm1).2.2
  have R2 := hide (mapB_iff.1 hm2).2.2
  have hk := merK_len l0 l1 l2
  have KM : Hid (∀ x ∈ merK l0 l1 l2, x.size ≤ maxLen) := hide (fun x h => merK_max i0.1 i1.1 i2.1 h)
  have VM : Hid (∀ k, (valOf l0 k).size ≤ maxLen ∧ (valOf l1 k).size ≤ maxLen ∧ (valOf l2 k).size ≤ maxLen) := hide (fun k => ⟨valOf_max i0.1 k, valOf_max i1.1 k, valOf_max i2.1 k⟩)
  have I0 := hide i0
  have I1 := hide i1
  have I2 := hide i2
  have z0 := hE.2.2.1
  have x0 := hE.1
  have MX : (40 : Nat) ≤ maxLen := by unfold maxLen; omega
  have KEYS := hide (fun (W : World) (g : Nat) hc hg hin => keysOf_any g [(A0, l0, c0), (A1, l1, c1), (A2, l2, c2)] W hc hg hin (by simp; omega) (by simp) (merK l0 l1 l2) (risK_keys _) (catK3 A0 A1 A2 l0 l1 l2 c0 c1 c2))
  have M0 := hide (implMapOk_any A0 l0 c0 w (by omega) I0.out)
  have M1 := hide (fun W (b : Below w.heap.size w W) => implMapOk_any A1 l1 c1 W (by omega) ((I1.out.below b).more b.size))
  have M2 := hide (fun W (b : Below w.heap.size w W) => implMapOk_any A2 l2 c2 W (by omega) ((I2.out.below b).more b.size))
  rw [hm0] at M0
  rw [hm1] at M1
  rw [hm2] at M2
  clear i0 i1 i2 hE
  have FIN : Hid (∀ (w1 : World) (A : Option Addr) (cap : Nat) (Ab : Option Addr) (cb : Nat) (AK : Option Addr) (cK : Nat), Rows3 w1 w.heap.size A cap (merM l0 l1 l2 l0) Ab cb (badM l0 l1 l2) AK cK (merK l0 l1 l2) → Below w.heap.size w w1 →
      (mapB (merM l0 l1 l2 l0) = false → ∀ x : ByteArray, MgrRet l0 l1 l2 a w (.returned (.tuple #[.slice none 0 0, .iface 86 (.pointer (some ⟨w1.heap.size, 0, none⟩))])) (w1.alloc (.cells #[.string x, .iface 181 (.pointer (some a))] 88)).drew ∧ MgrRet l0 l1 l2 a w (.returned (.tuple #[.slice none 0 0, .iface 86 (.pointer (some ⟨w1.heap.size, 0, none⟩))])) (w1.drew.alloc (.cells #[.string x, .iface 181 (.pointer (some a))] 88))) ∧
      (mapB (merM l0 l1 l2 l0) = true → badM l0 l1 l2 = [] → MgrRet l0 l1 l2 a w (.returned (.tuple #[.slice A (merM l0 l1 l2 l0).length cap, .nilIface])) w1) ∧
      (mapB (merM l0 l1 l2 l0) = true → badM l0 l1 l2 ≠ [] → MgrRet l0 l1 l2 a w (.returned (.tuple #[.slice A (merM l0 l1 l2 l0).length cap, .iface 95 (.pointer (some ⟨w1.heap.size, 0, none⟩))])) (w1.alloc (.cells #[.slice Ab (badM l0 l1 l2).length cb] 97)))) := hide (fun w1 A cap Ab cb AK cK T b =>
    ⟨fun hm x => have hg := mgB_not (fun h => by rw [hm] at h; cases h.2.2.2); ⟨⟨(b.alloc b.size _).drew, .inl ⟨hg, w1.heap.size, rfl, cell_alloc_at w1 _ _ 1⟩⟩, ⟨b.drew.alloc b.drew.size _, .inl ⟨hg, w1.heap.size, rfl, cell_alloc_at w1.drew _ _ 1⟩⟩⟩,
     fun hm hb => ⟨b, .inr ⟨mgB_iff.2 ⟨hm0, hm1, hm2, hm⟩, A, cap, Ab, cb, T.o.cap_le, T.o, T.b, T.ob, .inl ⟨hb, rfl⟩⟩⟩,
     fun hm hb => ⟨b.alloc b.size _, .inr ⟨mgB_iff.2 ⟨hm0, hm1, hm2, hm⟩, A, cap, Ab, cb, T.o.cap_le, (T.alloc _).o, (T.alloc _).b, T.ob, .inr ⟨hb, w1.heap.size, by simp, rfl, cell_alloc_at w1 _ _ 0⟩⟩⟩⟩)
  clear hm0 hm1 hm2
  go_enter Tryz.func25, Tryz.ntmps25
  go_wp2_with fail
  refine M0.out.mono ?_
  rintro e w1 ⟨rfl, b1⟩
  have B1 := hide b1
  clear b1 M0
  go_wp2_with fail
  refine (M1.out _ B1.out).mono ?_
  rintro e w2 ⟨rfl, b2⟩
  have B2 := hide (B1.out.trans (b2.mono B1.out.size))
  clear b2 B1 M1
  go_wp2_with fail
  refine (M2.out _ B2.out).mono ?_
  rintro e w3 ⟨rfl, b3⟩
  have B3 := hide (B2.out.trans (b3.mono B2.out.size))
  clear b3 B2 M2
  have B4 := hide (B3.out.alloc B3.out.size (.cells #[.slice A0 l0.length c0, .slice A1 l1.length c1, .slice A2 l2.length c2] 24))
  have KC : Hid (∀ i (h : i < [(A0, l0, c0), (A1, l1, c1), (A2, l2, c2)].length), (w3.alloc (.cells #[.slice A0 l0.length c0, .slice A1 l1.length c1, .slice A2 l2.length c2] 24)).cell? ⟨w3.heap.size, i, none⟩ = some (triV ([(A0, l0, c0), (A1, l1, c1), (A2, l2, c2)][i]'h))) := hide (fun i h => by
    rw [cell_alloc_at]
    match i, h with
    | 0, _ => rfl
    | 1, _ => rfl
    | 2, _ => rfl)
  go_wp2_with fail
  refine (KEYS.out _ w3.heap.size KC.out (by simp) (by
    intro t ht
    simp only [List.mem_cons, List.not_mem_nil, or_false] at ht
    rcases ht with rfl | rfl | rfl
    · exact (I0.out.below B4.out).more B4.out.size
    · exact (I1.out.below B4.out).more B4.out.size
    · exact (I2.out.below B4.out).more B4.out.size)).mono ?_
  rintro e w4 ⟨AK, capK, rfl, zk, bk⟩
  have B5 := hide (B4.out.trans (bk.mono B4.out.size))
  have T0 : Hid (Rows3 w4 w.heap.size none 0 (merT l0 l1 l2 l0 0) none 0 (badT l0 l1 l2 0) AK capK (merK l0 l1 l2)) := hide ⟨Own.nil _ _, ZOwn.nil _ _, zk.more B4.out.size, fun g h => (by cases h), fun g h x => (by cases x), fun g h x => (by cases x)⟩
  clear zk bk B3 B4 KC KEYS
  generalize hn : (merK l0 l1 l2).length = n at hk ⊢
  have HN := hide hn
  clear hn
  go_wp2
  go_loopw [8, 9, 37] (fun o b i wr => ∃ (k : Nat) (Ao : Option Addr) (co : Nat) (Ab : Option Addr) (cb : Nat), k ≤ n ∧ i = .int .i64 k ∧ o = .slice Ao (merT l0 l1 l2 l0 k).length co ∧ b = .slice Ab (badT l0 l1 l2 k).length cb ∧ Hid (Rows3 wr w.heap.size Ao co (merT l0 l1 l2 l0 k) Ab cb (badT l0 l1 l2 k) AK capK (merK l0 l1 l2)) ∧ Hid (Below w.heap.size w wr)) (fun _ _ i _ => n - (intOf i).toNat)
  case atStart => exact ⟨0, none, 0, none, 0, Nat.zero_le _, rfl, rfl, rfl, T0, B5⟩
  case round =>
    clear T0 B5
    obtain ⟨k, Ao, co, Ab, cb, hkn, rfl, rfl, rfl, T, Q⟩ := hrel
    have L1 : Hid ((merT l0 l1 l2 l0 k).length ≤ n) := hide (by have := merT_len l0 l1 l2 l0 k; rw [HN.out] at this; exact this)
    have L2 : Hid ((badT l0 l1 l2 k).length ≤ n) := hide (by have := badT_len l0 l1 l2 k; rw [HN.out] at this; exact this)
    by_cases hlt : k < n
    · have hkl : k < (merK l0 l1 l2).length := by rw [HN.out]; exact hlt
      obtain ⟨gk, off, rfl, hbB, hc⟩ := T.out.k.zin (by omega)
      have cK := hc k hkl
      have KS := hide (KM.out _ (List.getElem_mem hkl))
      have MY : Hid (∀ v, pickM l0 l1 l2 l0 ((merK l0 l1 l2)[k]'hkl) = some v → merT l0 l1 l2 l0 (k + 1) = merT l0 l1 l2 l0 k ++ [((merK l0 l1 l2)[k]'hkl, v)]) := hide (fun v hv => merT_yes hkl hv)
      have MN : Hid (pickM l0 l1 l2 l0 ((merK l0 l1 l2)[k]'hkl) = none → merT l0 l1 l2 l0 (k + 1) = merT l0 l1 l2 l0 k) := hide (fun hv => merT_no hkl hv)
      have NY : Hid (oneM (lk l0 ((merK l0 l1 l2)[k]'hkl)) (lk l1 ((merK l0 l1 l2)[k]'hkl)) (lk l2 ((merK l0 l1 l2)[k]'hkl)) = none → badT l0 l1 l2 (k + 1) = badT l0 l1 l2 k ++ [(merK l0 l1 l2)[k]'hkl]) := hide (fun hv => badT_yes hkl hv)
      have NN : Hid (∀ r, oneM (lk l0 ((merK l0 l1 l2)[k]'hkl)) (lk l1 ((merK l0 l1 l2)[k]'hkl)) (lk l2 ((merK l0 l1 l2)[k]'hkl)) = some r → badT l0 l1 l2 (k + 1) = badT l0 l1 l2 k) := hide (fun r hv => badT_no hkl hv)
      have PK := hide (ch_pick l0 l1 l2 ((merK l0 l1 l2)[k]'hkl))
      have PV := hide (pick_max l0 l1 l2 ((merK l0 l1 l2)[k]'hkl) (VM.out _))
      clear hc
      generalize (merK l0 l1 l2)[k]'hkl = key at *
      have H0 := hide (fun W (b : Below w.heap.size w W) => holdingOf_any A0 l0 c0 key W (by omega) ((I0.out.below b).more b.size) R0.out)
      have H1 := hide (fun W (b : Below w.heap.size w W) => holdingOf_any A1 l1 c1 key W (by omega) ((I1.out.below b).more b.size) R1.out)
      have H2 := hide (fun W (b : Below w.heap.size w W) => holdingOf_any A2 l2 c2 key W (by omega) ((I2.out.below b).more b.size) R2.out)
      have CH := hide (fun W => chosen_any (valOf l0 key) (valOf l1 key) (valOf l2 key) (hasB l0 key) (hasB l1 key) (hasB l2 key) W)
      rw [PK.out] at CH
      clear PK
      generalize valOf l0 key = v0 at *
      generalize valOf l1 key = v1 at *
      generalize valOf l2 key = v2 at *
      generalize hasB l0 key = g0 at *
      generalize hasB l1 key = g1 at *
      generalize hasB l2 key = g2 at *
      go_wp2_with fail
      refine (H0.out _ Q.out).mono ?_
      rintro e w5 ⟨rfl, b5⟩
      have Q5 := hide (Q.out.trans (b5.mono Q.out.size))
      have T5 := hide (T.out.below b5)
      clear b5 Q T H0 cK
      go_wp2_with fail
      refine (H1.out _ Q5.out).mono ?_
      rintro e w6 ⟨rfl, b6⟩
      have Q6 := hide (Q5.out.trans (b6.mono Q5.out.size))
      have T6 := hide (T5.out.below b6)
      clear b6 Q5 T5 H1
      go_wp2_with fail
      refine (H2.out _ Q6.out).mono ?_
      rintro e w7 ⟨rfl, b7⟩
      have Q7 := hide (Q6.out.trans (b7.mono Q6.out.size))
      have T7 := hide (T6.out.below b7)
      clear b7 Q6 T6 H2
      go_wp2_with fail
      refine (CH.out _).mono ?_
      rintro e w8 ⟨rfl, b8⟩
      have Q8 := hide (Q7.out.trans (b8.mono Q7.out.size))
      have T8 := hide (T7.out.below b8)
      clear b8 Q7 T7 CH
      generalize hr : oneM (lk l0 key) (lk l1 key) (lk l2 key) = r at *
      generalize hp : pickM l0 l1 l2 l0 key = pk at *
      clear hr hp
      have NEW := hide (Nat.le_refl w8.heap.size)
      cases pk with
      | some v =>
        have NM := hide (MY.out v rfl)
        have vs := PV.out v rfl
        clear MY MN PV
        have QA := hide (Q8.out.alloc Q8.out.size (.cells #[.string v, .bool true] 91))
        have TA := hide (T8.out.alloc (.cells #[.string v, .bool true] 91))
        cases r with
        | none =>
          have NB := hide (NY.out rfl)
          clear NY NN
          have QB := hide (QA.out.alloc QA.out.size (.cells #[.string key] 9))
          have TB := hide (TA.out.alloc (.cells #[.string key] 9))
          have zb : (w8.alloc (.cells #[.string v, .bool true] 91)).heap.size = w8.heap.size + 1 := by simp
          have rn : rowOf Ab ≠ some w8.heap.size := row_ne T8.out.b (Nat.le_refl _)
          have y0 : ((w8.alloc (.cells #[.string v, .bool true] 91)).alloc (.cells #[.string key] 9)).cell? ⟨w8.heap.size, 0, none⟩ = some (.string v) := by rw [World.cell?_alloc_lt _ _ ⟨w8.heap.size, 0, none⟩ (by simp), cell_alloc_at]; rfl
          have y1 : ((w8.alloc (.cells #[.string v, .bool true] 91)).alloc (.cells #[.string key] 9)).cell? ⟨w8.heap.size, 1, none⟩ = some (.bool true) := by rw [World.cell?_alloc_lt _ _ ⟨w8.heap.size, 1, none⟩ (by simp), cell_alloc_at]; rfl
          have Y0 := hide y0
          have Y1 := hide y1
          have RN := hide rn
          clear y0 y1 rn
          go_wp2_with (at_builtin; refine wpList_appZ (l' := [key]) 27 Tryz.underlying27 rfl (.tmp 56) (.tmp 58) rfl rfl rfl rfl rfl TB.out.b (ZIn.one key _ zb) QB.out.size (by have := L2.out; simp; omega) ?_; intro A9 cap9 w9 own9 gr9 r9; have b9 := TB.out.b.grownBelow gr9 QB.out.size; have T9 := hide (TB.out.appB own9 gr9 r9); have Q9 := hide (QB.out.trans b9); have u0 := (grown_cell (o := 0) gr9 (b := w8.heap.size) (by simp; omega) RN.out).trans Y0.out; have u1 := (grown_cell (o := 1) gr9 (b := w8.heap.size) (by simp; omega) RN.out).trans Y1.out; clear own9 gr9 r9 b9 TB QB Y0 Y1 RN zb; go_wp2_with (at_builtin; refine wpList_app (l' := [(key, v)]) 24 Tryz.underlying24 rfl (.tmp 62) (.tmp 67) rfl rfl rfl rfl rfl (T9.out.alloc _).o (PIn.one w9 key v KS.out vs _) (Nat.le_trans Q9.out.size (by simp)) (by have := L1.out; simp; omega) ?_; intro A10 cap10 w10 own10 gr10 r10; have b10 := (T9.out.alloc (.cells #[.string key, .string v] 60)).o.grownBelow (by rw [rowOf_own]; exact gr10) (Nat.le_trans Q9.out.size (by simp)); have T10 := hide ((T9.out.alloc (.cells #[.string key, .string v] 60)).appO own10 gr10 r10); have Q10 := hide ((Q9.out.alloc Q9.out.size (.cells #[.string key, .string v] 60)).trans b10); clear own10 gr10 r10 b10))
          rw [← NM.out, ← NB.out] at T10
          go_roundw
          case rel => exact ⟨k + 1, A10, cap10, A9, cap9, by omega, by go_num, by rw [NM.out]; simp, by rw [NB.out]; simp, T10, Q10⟩
          case measure => simp [intOf]; omega
        | some r =>
          have NB := hide (NN.out r rfl)
          clear NY NN
          have P1 : Hid (PIn ((w8.alloc (.cells #[.string v, .bool true] 91)).alloc (.cells #[.string key, .string v] 60)) (w8.heap.size + 1 + 1) (some ⟨w8.heap.size + 1, 0, none⟩) [(key, v)]) := hide (by have := PIn.one (w8.alloc (.cells #[.string v, .bool true] 91)) key v KS.out vs 60; simpa using this)
          go_wp2_with (at_builtin; refine wpList_app (l' := [(key, v)]) 24 Tryz.underlying24 rfl (.tmp 62) (.tmp 67) rfl rfl rfl rfl rfl (TA.out.alloc _).o P1.out (Nat.le_trans QA.out.size (by simp)) (by have := L1.out; simp; omega) ?_; intro A10 cap10 w10 own10 gr10 r10; have b10 := (TA.out.alloc (.cells #[.string key, .string v] 60)).o.grownBelow (by rw [rowOf_own]; exact gr10) (Nat.le_trans QA.out.size (by simp)); have T10 := hide ((TA.out.alloc (.cells #[.string key, .string v] 60)).appO own10 gr10 r10); have Q10 := hide ((QA.out.alloc QA.out.size (.cells #[.string key, .string v] 60)).trans b10); clear own10 gr10 r10 b10)
          rw [← NM.out, ← NB.out] at T10
          go_roundw
          case rel => exact ⟨k + 1, A10, cap10, Ab, cb, by omega, by go_num, by rw [NM.out]; simp, by rw [NB.out], T10, Q10⟩
          case measure => simp [intOf]; omega
      | none =>
        have NM := hide (MN.out rfl)
        clear MY MN PV
        have QA := hide (Q8.out.alloc Q8.out.size (.cells #[.string ⟨#[]⟩, .bool false] 91))
        have TA := hide (T8.out.alloc (.cells #[.string ⟨#[]⟩, .bool false] 91))
        cases r with
        | none =>
          have NB := hide (NY.out rfl)
          clear NY NN
          have QB := hide (QA.out.alloc QA.out.size (.cells #[.string key] 9))
          have TB := hide (TA.out.alloc (.cells #[.string key] 9))
          have zb : (w8.alloc (.cells #[.string ⟨#[]⟩, .bool false] 91)).heap.size = w8.heap.size + 1 := by simp
          have rn : rowOf Ab ≠ some w8.heap.size := row_ne T8.out.b (Nat.le_refl _)
          have y1 : ((w8.alloc (.cells #[.string ⟨#[]⟩, .bool false] 91)).alloc (.cells #[.string key] 9)).cell? ⟨w8.heap.size, 1, none⟩ = some (.bool false) := by rw [World.cell?_alloc_lt _ _ ⟨w8.heap.size, 1, none⟩ (by simp), cell_alloc_at]; rfl
          have Y1 := hide y1
          have RN := hide rn
          clear y1 rn
          go_wp2_with (at_builtin; refine wpList_appZ (l' := [key]) 27 Tryz.underlying27 rfl (.tmp 56) (.tmp 58) rfl rfl rfl rfl rfl TB.out.b (ZIn.one key _ zb) QB.out.size (by have := L2.out; simp; omega) ?_; intro A9 cap9 w9 own9 gr9 r9; have b9 := TB.out.b.grownBelow gr9 QB.out.size; have T9 := hide (TB.out.appB own9 gr9 r9); have Q9 := hide (QB.out.trans b9); have u1 := (grown_cell (o := 1) gr9 (b := w8.heap.size) (by simp; omega) RN.out).trans Y1.out; clear own9 gr9 r9 b9 TB QB Y1 RN zb)
          rw [← NM.out, ← NB.out] at T9
          go_roundw
          case rel => exact ⟨k + 1, Ao, co, A9, cap9, by omega, by go_num, by rw [NM.out], by rw [NB.out]; simp, T9, Q9⟩
          case measure => simp [intOf]; omega
        | some r =>
          have NB := hide (NN.out r rfl)
          clear NY NN
          rw [← NM.out, ← NB.out] at TA
          go_wp2
          go_roundw
          case rel => exact ⟨k + 1, Ao, co, Ab, cb, by omega, by go_num, by rw [NM.out], by rw [NB.out], TA, QA⟩
          case measure => simp [intOf]; omega
    · obtain rfl : k = n := by omega
      have E1 := hide (merT_all l0 l1 l2 l0 (k := k) (by rw [HN.out]; exact Nat.le_refl _))
      have E2 := hide (badT_all l0 l1 l2 (k := k) (by rw [HN.out]; exact Nat.le_refl _))
      rw [E1.out, E2.out] at T
      have hlm : (merM l0 l1 l2 l0).length ≤ maxLen := by have := merM_len l0 l1 l2 l0; unfold maxLen; omega
      have x4 := cellB Q.out z0 x0
      rw [E1.out, E2.out]
      go_wp2_with fail
      refine (implMapOk_any Ao (merM l0 l1 l2 l0) co _ hlm T.out.o.pin).mono ?_
      rintro e w5 ⟨rfl, b5⟩
      have Q5 := hide (Q.out.trans (b5.mono Q.out.size))
      have T5 := hide (T.out.below b5)
      have x5 := cellB Q5.out z0 x0
      have F := hide (FIN.out w5 Ao co Ab cb AK capK T5.out Q5.out)
      clear b5 Q T x4 FIN L1 L2
      cases hm : mapB (merM l0 l1 l2 l0)
      · have G := hide (F.out.1 hm)
        generalize (merM l0 l1 l2 l0).length = nn at *
        clear F hm
        go_wp2
        go_region
        all_goals
          go_wp2
          go_ret2
        all_goals
          first | exact (G.out _).1 | exact (G.out _).2
      · by_cases hb : badM l0 l1 l2 = []
        · have G := hide (F.out.2.1 hm hb)
          have e0 : (badM l0 l1 l2).length = 0 := by rw [hb]; rfl
          rw [e0]
          clear F hm hb e0
          go_wp2
          go_ret2
          exact G.out
        · have G := hide (F.out.2.2 hm hb)
          have e0 : (0 : Int) < ((badM l0 l1 l2).length : Int) := by
            have : 0 < (badM l0 l1 l2).length := List.length_pos_iff.2 hb
            omega
          have d0 : decide ((0 : Int) < ((badM l0 l1 l2).length : Int)) = true := decide_eq_true e0
          clear F hm hb
          go_wp2
          go_ret2
          exact G.out

theorem mergerOf_any (A0 A1 A2 : Option Addr) (l0 l1 l2 : List Pr) (c0 c1 c2 : Nat) (a : Addr) (w : World) (h0 : l0.length ≤ maxLen) (h1 : l1.length ≤ maxLen) (h2 : l2.length ≤ maxLen) (i0 : PIn w w.heap.size A0 l0) (i1 : PIn w w.heap.size A1 l1) (i2 : PIn w w.heap.size A2 l2) (hE : Errs w a) :
    Calls Tryz.prog 25 #[.slice A0 l0.length c0, .slice A1 l1.length c1, .slice A2 l2.length c2] w (MgrRet l0 l1 l2 a w) := by
  by_cases hb : mapB l0 = true ∧ mapB l1 = true ∧ mapB l2 = true
  · exact mergerOf_good A0 A1 A2 l0 l1 l2 c0 c1 c2 a w i0 i1 i2 hE hb.1 hb.2.1 hb.2.2
  · exact mergerOf_bad A0 A1 A2 l0 l1 l2 c0 c1 c2 a w h0 h1 h2 i0 i1 i2 hE hb
end Go.Proofs.YtaofemdhgfejjaaGreatDoor
/-
  What errors.As answers at the program's own clash, and at nil: Go's own text is walked.
-/
namespace Go.Proofs.YtaofemdhgfejjaaGreatDoor
open Go.RowKit Go.Extern.Stop Go.Stop Go.Extern

theorem as_nil (t : Value) (w : World) :
    Calls Tryz.prog 54 #[.nilIface, t] w fun e w' => e = .returned (.bool false) ∧ w' = w := by
  go_enter Tryz.func54, Tryz.ntmps54
  go_wp2
  go_ret
  exact ⟨rfl, rfl⟩
theorem valueOfPP (t : Addr) (w : World) : (ReflectliteValue.unpack (.iface 103 (.pointer (some t)))).run Tryz.prog w
    = .ok (.agg #[.pointer (some ⟨3, 103, none⟩), .pointer (some ⟨w.heap.size, 0, none⟩), .int .u64 150]) (w.alloc (.cells #[.pointer (some t)] 103)) := by kernel_rfl
theorem typePP (a : Addr) (w : World) : (ReflectliteValue.methodAny (ReflectliteValue.valueError "reflectlite.Value.Type" 0) (fun t _ _ _ => ReflectliteType.toType t) #[.agg #[.pointer (some ⟨3, 103, none⟩), .pointer (some a), .int .u64 150]]).run Tryz.prog w
    = .ok (.iface 130 (.agg #[.pointer (some ⟨3, 103, none⟩)])) w := by kernel_rfl
theorem methodKind (h : Value) (w : World) : (Go.method 314 130 (.agg #[h]) "Kind").run Tryz.prog w = .ok (120, h) w := by kernel_rfl
theorem kindPP (w : World) : ((ReflectliteType.abiMethod fun t => (fun a : Nat => Value.int IntKind.u8 (a : Int)) <$> Rtype.kind t) #[.pointer (some ⟨3, 103, none⟩)]).run Tryz.prog w = .ok (.int .u8 22) w := by kernel_rfl
theorem kindP (w : World) : ((ReflectliteType.abiMethod fun t => (fun a : Nat => Value.int IntKind.u8 (a : Int)) <$> Rtype.kind t) #[.pointer (some ⟨3, 95, none⟩)]).run Tryz.prog w = .ok (.int .u8 22) w := by kernel_rfl
theorem rlm (z : Sem Value) (f : TypeId → Addr → Nat → Nat → Sem Value) (v : Value) :
    ReflectliteValue.method z f #[v] = (do match ← ReflectliteValue.parts v with | none => z | some (t, a, fl) => f t a fl (fl % 32)) := rfl
theorem partsPP (a : Addr) (w : World) : (ReflectliteValue.parts (.agg #[.pointer (some ⟨3, 103, none⟩), .pointer (some a), .int .u64 150])).run Tryz.prog w = .ok (some (103, a, 150)) w := by kernel_rfl
theorem isNilPP (a p : Addr) (W : World) (ha : W.cell? a = some (.pointer (some p))) :
    (ReflectliteValue.method (ReflectliteValue.valueError "reflectlite.Value.IsNil" 0) ReflectliteValue.isNil #[.agg #[.pointer (some ⟨3, 103, none⟩), .pointer (some a), .int .u64 150]]).run Tryz.prog W = .ok (.bool false) W := by
  rw [rlm]
  simp only [Sem.run_bind, partsPP, Result.andThen]
  simp [ReflectliteValue.isNil, loadVar, isAgg, underlying, Tryz.underlying103, ha, Result.andThen]
theorem methodElem (h : Value) (w : World) : (Go.method 314 130 (.agg #[h]) "Elem").run Tryz.prog w = .ok (138, .agg #[h]) w := by kernel_rfl
theorem methodImplements (h : Value) (w : World) : (Go.method 314 130 (.agg #[h]) "Implements").run Tryz.prog w = .ok (139, .agg #[h]) w := by kernel_rfl
theorem methodAssignableTo (h : Value) (w : World) : (Go.method 314 130 (.agg #[h]) "AssignableTo").run Tryz.prog w = .ok (136, .agg #[h]) w := by kernel_rfl
theorem elemPP (w : World) : (ReflectliteType.method ReflectliteType.elem #[.agg #[.pointer (some ⟨3, 103, none⟩)]]).run Tryz.prog w = .ok (.iface 130 (.agg #[.pointer (some ⟨3, 95, none⟩)])) w := by kernel_rfl
theorem implementsP (w : World) : (ReflectliteType.relation "Implements" ReflectliteType.implements_ #[.agg #[.pointer (some ⟨3, 95, none⟩)], .iface 130 (.agg #[.pointer (some ⟨3, 52, none⟩)])]).run Tryz.prog w = .ok (.bool true) w := by kernel_rfl
theorem typeOfP (v : Value) (w : World) : (ReflectliteType.typeOf #[.iface 95 v]).run Tryz.prog w = .ok (.iface 130 (.agg #[.pointer (some ⟨3, 95, none⟩)])) w := by kernel_rfl
theorem assignableP (w : World) : (ReflectliteType.relation "AssignableTo" ReflectliteType.assignableTo #[.agg #[.pointer (some ⟨3, 95, none⟩)], .iface 130 (.agg #[.pointer (some ⟨3, 95, none⟩)])]).run Tryz.prog w = .ok (.bool true) w := by kernel_rfl
theorem valueOfP (e : Addr) (w : World) : (ReflectliteValue.unpack (.iface 95 (.pointer (some e)))).run Tryz.prog w
    = .ok (.agg #[.pointer (some ⟨3, 95, none⟩), .pointer (some ⟨w.heap.size, 0, none⟩), .int .u64 150]) (w.alloc (.cells #[.pointer (some e)] 95)) := by kernel_rfl
theorem elemOfPP (w : World) : (Rtype.elem? 103).run Tryz.prog w = .ok (some 95) w := by kernel_rfl
theorem mkP (p : Addr) (w : World) : (ReflectliteValue.mk 95 p ReflectliteValue.flagAddr).run Tryz.prog w = .ok (.agg #[.pointer (some ⟨3, 95, none⟩), .pointer (some p), .int .u64 406]) w := by kernel_rfl
theorem elemVPP (a p : Addr) (W : World) (ha : W.cell? a = some (.pointer (some p))) :
    (ReflectliteValue.method (ReflectliteValue.valueError "reflectlite.Value.Elem" 0) ReflectliteValue.elem #[.agg #[.pointer (some ⟨3, 103, none⟩), .pointer (some a), .int .u64 150]]).run Tryz.prog W
      = .ok (.agg #[.pointer (some ⟨3, 95, none⟩), .pointer (some p), .int .u64 406]) W := by
  rw [rlm]
  simp only [Sem.run_bind, partsPP, Result.andThen]
  simp [ReflectliteValue.elem, loadVar, isAgg, underlying, Tryz.underlying103, ha, Result.andThen, elemOfPP, mkP]
theorem rls (v x : Value) : ReflectliteValue.set #[v, x] = (do
    let (some (dst, a, fl), some (src, b, _)) := (← ReflectliteValue.parts v, ← ReflectliteValue.parts x)
      | unsupported (.noEntry "extern/(internal/reflectlite.Value).Set.zeroValue")
    if fl / ReflectliteValue.flagAddr % 2 == 0 then unsupported (.noEntry "extern/(internal/reflectlite.Value).Set.unaddressable")
    let val ← loadVar src b
    if ← Rtype.directlyAssignable dst src then storeVar dst a val
    else if ← Rtype.implements dst src then
      if (← Rtype.kind src) == 20 then
        match val with
        | .nilIface => unsupported (.noEntry "extern/reflectlite: a nil value of one interface type handed on as a value of another")
        | _ => storeVar dst a val
      else storeVar dst a (.iface src val)
    else panicString ("reflectlite.Set: value of type " ++ (← Rtype.spelt src) ++ " is not assignable to type " ++ (← Rtype.spelt dst))
    pure (.tuple #[])) := rfl
theorem partsPa (a : Addr) (w : World) : (ReflectliteValue.parts (.agg #[.pointer (some ⟨3, 95, none⟩), .pointer (some a), .int .u64 406])).run Tryz.prog w = .ok (some (95, a, 406)) w := by kernel_rfl
theorem partsP (a : Addr) (w : World) : (ReflectliteValue.parts (.agg #[.pointer (some ⟨3, 95, none⟩), .pointer (some a), .int .u64 150])).run Tryz.prog w = .ok (some (95, a, 150)) w := by kernel_rfl
theorem directP (w : World) : (Rtype.directlyAssignable 95 95).run Tryz.prog w = .ok true w := by kernel_rfl
theorem setP (ta b e : Addr) (old : Value) (W : World) (hb : W.cell? b = some (.pointer (some e))) (ht : W.cell? ta = some old) (hf : W.frozen? ta = false) :
    (ReflectliteValue.set #[.agg #[.pointer (some ⟨3, 95, none⟩), .pointer (some ta), .int .u64 406], .agg #[.pointer (some ⟨3, 95, none⟩), .pointer (some b), .int .u64 150]]).run Tryz.prog W
      = .ok (.tuple #[]) (W.setCell ta (.pointer (some e))) := by
  rw [rls]
  simp only [Sem.run_bind, partsPa, partsP, Result.andThen]
  simp [ReflectliteValue.flagAddr, loadVar, isAgg, underlying, Tryz.underlying95, hb, Result.andThen, directP, storeVar, Value.cells, storeCells, Addr.add]
  rw [run_store Tryz.prog W ta _ _ (by rfl)]
  simp [ht, hf]

set_option maxHeartbeats 4000000 in
theorem as_hit (e t : Addr) (old : Value) (w : World) (hg : w.cell? ⟨1, 0, none⟩ = some (.iface 130 (.agg #[.pointer (some ⟨3, 52, none⟩)]))) (hlt : 1 < w.heap.size) (ht0 : w.cell? t = some old) (hf0 : w.frozen? t = false) :
    Calls Tryz.prog 54 #[.iface 95 (.pointer (some e)), .iface 103 (.pointer (some t))] w fun ev w' => ev = .returned (.bool true) ∧ w' = ((((w.alloc (.cells #[.pointer (some t)] 103)).alloc (.cells #[.pointer (some ⟨3, 103, none⟩), .pointer (some ⟨w.heap.size, 0, none⟩), .int .u64 150] 143)).alloc (.cells #[.pointer (some ⟨3, 103, none⟩), .pointer (some ⟨w.heap.size, 0, none⟩), .int .u64 150] 143)).alloc (.cells #[.pointer (some e)] 95)).setCell t (.pointer (some e)) := by
  have h6 := @run_callFunc_extern Tryz.prog 75 _ (fun args => ReflectliteValue.unpack (args.getD 0 (.tuple #[]))) Tryz.func75 (by kernel_rfl) (by kernel_rfl) (by kernel_rfl) (by kernel_rfl)
  have h7 := @run_callFunc_extern Tryz.prog 76 _ (ReflectliteValue.methodAny (ReflectliteValue.valueError "reflectlite.Value.Type" 0) (fun t _ _ _ => ReflectliteType.toType t)) Tryz.func76 (by kernel_rfl) (by kernel_rfl) (by kernel_rfl) (by kernel_rfl)
  have h8 := @run_callFunc_extern Tryz.prog 77 _ (ReflectliteValue.method (ReflectliteValue.valueError "reflectlite.Value.IsNil" 0) ReflectliteValue.isNil) Tryz.func77 (by kernel_rfl) (by kernel_rfl) (by kernel_rfl) (by kernel_rfl)
  have h27 := @run_callFunc_extern Tryz.prog 120 _ (ReflectliteType.abiMethod fun t => do pure (.int .u8 (← Rtype.kind t))) Tryz.func120 (by kernel_rfl) (by kernel_rfl) (by kernel_rfl) (by kernel_rfl)
  have h37 := @run_callFunc_extern Tryz.prog 138 _ (ReflectliteType.method ReflectliteType.elem) Tryz.func138 (by kernel_rfl) (by kernel_rfl) (by kernel_rfl) (by kernel_rfl)
  have h38 := @run_callFunc_extern Tryz.prog 139 _ (ReflectliteType.relation "Implements" ReflectliteType.implements_) Tryz.func139 (by kernel_rfl) (by kernel_rfl) (by kernel_rfl) (by kernel_rfl)
  have h10 := @run_callFunc_extern Tryz.prog 52 _ ReflectliteType.typeOf Tryz.func52 (by kernel_rfl) (by kernel_rfl) (by kernel_rfl) (by kernel_rfl)
  have h35 := @run_callFunc_extern Tryz.prog 136 _ (ReflectliteType.relation "AssignableTo" ReflectliteType.assignableTo) Tryz.func136 (by kernel_rfl) (by kernel_rfl) (by kernel_rfl) (by kernel_rfl)
  have h11 := @run_callFunc_extern Tryz.prog 85 _ (ReflectliteValue.method (ReflectliteValue.valueError "reflectlite.Value.Elem" 0) ReflectliteValue.elem) Tryz.func85 (by kernel_rfl) (by kernel_rfl) (by kernel_rfl) (by kernel_rfl)
  have h12 := @run_callFunc_extern Tryz.prog 86 _ ReflectliteValue.set Tryz.func86 (by kernel_rfl) (by kernel_rfl) (by kernel_rfl) (by kernel_rfl)
  have tO := typeOfP
  have mA := methodAssignableTo
  have a25 := assignableP
  have v25 := valueOfP
  have f6 := valueOfPP
  have f7 := typePP
  have mK := methodKind
  have mE := methodElem
  have mI := methodImplements
  have k27 := kindPP
  have k25 := kindP
  have e27 := elemPP
  have i25 := implementsP
  have n8 := isNilPP ⟨w.heap.size, 0, none⟩ t ((w.alloc (.cells #[.pointer (some t)] 103)).alloc (.cells #[.pointer (some ⟨3, 103, none⟩), .pointer (some ⟨w.heap.size, 0, none⟩), .int .u64 150] 143)) (by simp)
  have hg2 : ((w.alloc (.cells #[.pointer (some t)] 103)).alloc (.cells #[.pointer (some ⟨3, 103, none⟩), .pointer (some ⟨w.heap.size, 0, none⟩), .int .u64 150] 143)).cell? ⟨1, 0, none⟩ = some (.iface 130 (.agg #[.pointer (some ⟨3, 52, none⟩)])) := by
    rw [World.cell?_alloc_lt _ _ ⟨1, 0, none⟩ (by simp; omega), World.cell?_alloc_lt _ _ ⟨1, 0, none⟩ hlt]; exact hg
  have htl : t.block < w.heap.size := by
    rcases Nat.lt_or_ge t.block w.heap.size with h | h
    · exact h
    · simp [World.cell?, Array.getElem?_eq_none h] at ht0
  have el := elemVPP ⟨w.heap.size, 0, none⟩ t (((w.alloc (.cells #[.pointer (some t)] 103)).alloc (.cells #[.pointer (some ⟨3, 103, none⟩), .pointer (some ⟨w.heap.size, 0, none⟩), .int .u64 150] 143)).alloc (.cells #[.pointer (some ⟨3, 103, none⟩), .pointer (some ⟨w.heap.size, 0, none⟩), .int .u64 150] 143)) (by rw [World.cell?_alloc_lt _ _ ⟨w.heap.size, 0, none⟩ (by simp; omega)]; simp)
  have st := setP t ⟨w.heap.size + 1 + 1 + 1, 0, none⟩ e old ((((w.alloc (.cells #[.pointer (some t)] 103)).alloc (.cells #[.pointer (some ⟨3, 103, none⟩), .pointer (some ⟨w.heap.size, 0, none⟩), .int .u64 150] 143)).alloc (.cells #[.pointer (some ⟨3, 103, none⟩), .pointer (some ⟨w.heap.size, 0, none⟩), .int .u64 150] 143)).alloc (.cells #[.pointer (some e)] 95))
    (by rw [World.cell?_alloc_at _ _ _ _ (by simp)]; rfl)
    (by rw [World.cell?_alloc_lt _ _ t (by simp; omega), World.cell?_alloc_lt _ _ t (by simp; omega), World.cell?_alloc_lt _ _ t (by simp; omega), World.cell?_alloc_lt _ _ t htl]; exact ht0)
    (by rw [World.frozen?_alloc_old _ _ t (by simp; omega), World.frozen?_alloc_old _ _ t (by simp; omega), World.frozen?_alloc_old _ _ t (by simp; omega), World.frozen?_alloc_old _ _ t (Nat.ne_of_lt htl)]; exact hf0)
  go_enter Tryz.func54, Tryz.ntmps54
  go_wp2
  refine wp_loop_rounds 1 ?_
  rw [rounds_succ]
  go_wp2
  go_ret
  exact ⟨rfl, rfl⟩
end Go.Proofs.YtaofemdhgfejjaaGreatDoor
