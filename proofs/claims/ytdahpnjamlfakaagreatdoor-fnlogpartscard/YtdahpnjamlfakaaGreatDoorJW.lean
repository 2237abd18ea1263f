/-
  Texts that this proof leans on, joined: JW.
-/
import Derived.Test.YtdahpnjamlfakaaGreatDoorJC
import Derived.Test.YtdahpnjamlfakaaGreatDoorJO
import Derived.Sort.KeysCollected
import Derived.Maps.OwnSet
import Derived.Test.YtdahpnjamlfakaaGreatDoorQIter
import Derived.Test.YtdahpnjamlfakaaGreatDoorJR
import Derived.RangeFuncNested
import Derived.RangeFuncBound
import Derived.RangeFuncCalls
import Derived.RangeFuncLeaves
import Derived.Shelf.Abstract
import Derived.Shelf.RegionOpen
import Derived.WalkKit
import Derived.OwnWalkIn
import Derived.TacticsInMore
import Derived.LoopNIn
import Derived.LoopIn
import Derived.Maps.OwnIn
import Derived.Sort.EveryDepth
import Derived.BigQuiet
import Derived.IntWalk
import Derived.Test.YtdahpnjamlfakaaGreatDoorJM
import Derived.Deep.RegionWith
import Derived.Test.YtdahpnjamlfakaaGreatDoorChecked
import Derived.ProofKit
import Derived.OpenShut
import Derived.SliceStrings
/-
  What laws.markCommit and laws.heldCommit answer; rows that stay.
-/
namespace Go.Proofs.YtdahpnjamlfakaaGreatDoor
open Go.RowKit
theorem ZOwn.keptO {w w' : World} {B : Nat} {A : Option Addr} {cap : Nat} {l : List ByteArray} {r : Option Nat} (h : ZOwn w B A cap l) (hg : w.grownBy w' r) (hne : ∀ g, rowOf A = some g → some g ≠ r) : ZOwn w' B A cap l := by
  cases r with
  | none => exact ZOwn.kept h (r := w.heap.size) ⟨hg.os, hg.tape, hg.output, hg.size, fun k hk _ => hg.block k hk (by simp)⟩ (fun e => by have := (h.row _ e).2; omega)
  | some r => exact ZOwn.kept h hg (fun e => hne r e rfl)
theorem rd_parts (s : ByteArray) : (rdC s).2.1.length ≤ 2 ∧ ∀ p ∈ (rdC s).2.1, p.size = 16 := by
  by_cases h : ∃ c, isCom s c
  · obtain ⟨c, hc⟩ := h
    rw [(rd_yes hc).2]
    exact (com_parts hc.1).2
  · rw [(rd_no h).2]
    simp
end Go.Proofs.YtdahpnjamlfakaaGreatDoor
/-
  The map of texts by their ids, told by a rising list: what it tells, what a store makes of it, its keys in order.
-/
namespace Go.Proofs.YtdahpnjamlfakaaGreatDoor
open Go.RowKit Go.Maps

/-- the map D tells what the rising list l tells -/
def Rep (D : DataW Unit) (l : List Pr) : Prop := Ris l ∧ ∀ k, has D (keyL k) = hasB l k ∧ D.atKey (keyL k) (elD ByteArray.empty) = elD (valOf l k)
theorem rep_mapD {l : List Pr} (h : risesTo l l.length) : Rep (mapD l) l := ⟨ris_iff.1 h, fun k => mapD_look h k⟩
theorem rep_put {D : DataW Unit} {l : List Pr} (hD : IsMap D) (h : Rep D l) (k v : ByteArray) : Rep (D.put (keyL k) (elD v)) (setL l k v) := by
  refine ⟨ris_set h.1 k v, fun k' => ?_⟩
  by_cases e : k' = k
  · subst e
    rw [has_put_same hD (keyL_key _), atKey_put_same hD (keyL_key _), val_set h.1, (has_set h.1 k' v k').2 (.inl rfl)]
    exact ⟨rfl, rfl⟩
  · have hne : keyL k' ≠ keyL k := fun x => e (keyL_inj x)
    rw [has_put_other hne, atKey_put_other hne, val_set_ne h.1 v e, (h.2 k').1, (h.2 k').2]
    refine ⟨?_, rfl⟩
    cases e1 : hasB l k' <;> cases e2 : hasB (setL l k v) k'
    · rfl
    · rcases (has_set h.1 k v k').1 e2 with g | g
      · exact absurd g e
      · rw [e1] at g; cases g
    · rw [(has_set h.1 k v k').2 (.inr e1)] at e2; cases e2
    · rfl
/-- the block bm is a map that tells what l tells -/
def TRep (w : World) (bm : Nat) (n : Nat) (l : List Pr) : Prop := ∃ D, w.ownsMap Tryz.prog 9 (plainElem Tryz.prog 9) bm n D ∧ Rep D l
theorem TMap.rep {w : World} {bm n : Nat} {l : List Pr} (h : TMap w bm n l) (hr : risesTo l l.length) : TRep w bm n l := ⟨_, h, rep_mapD hr⟩
theorem TRep.lt {w : World} {bm n : Nat} {l : List Pr} (h : TRep w bm n l) : bm < w.heap.size := by obtain ⟨D, h, _⟩ := h; exact h.lt
theorem TRep.kept {w w' : World} {bm n : Nat} {l : List Pr} {row : Option Nat} (h : TRep w bm n l) (hg : w.grownBy w' row) (hne : some bm ≠ row) : TRep w' bm n l := by obtain ⟨D, h, r⟩ := h; exact ⟨D, h.kept hg hne, r⟩
theorem TRep.below {w w' : World} {bm n : Nat} {l : List Pr} (h : TRep w bm n l) (hb : Below w.heap.size w w') : TRep w' bm n l := h.kept (Below.toGrown hb none) (by simp)
theorem TRep.belowB {B : Nat} {w w' : World} {bm n : Nat} {l : List Pr} (h : TRep w bm n l) (hb : Below B w w') (hB : bm < B) : TRep w' bm n l := by
  obtain ⟨D, ⟨es, clock, hbk, F, hs, hD⟩, r⟩ := h
  exact ⟨D, ⟨es, clock, (hb.block bm hB).trans hbk, F, hs, hD⟩, r⟩
theorem TRep.perm {w : World} {bm n : Nat} {l : List Pr} {D : DataW Unit} (h : w.ownsMap Tryz.prog 9 (plainElem Tryz.prog 9) bm n D) (r : Rep D l) : (l.map fun p => p.1.data.toList).Perm (strKeys D) := by
  refine Collected.perm (left := fun _ => false) ⟨?_, fun x => ?_⟩ h lawS Tryz.underlying9 (fun _ => rfl)
  · refine List.pairwise_map.2 (r.1.imp fun {p q} hlt e => ?_)
    have : p.1 = q.1 := Go.WideShapes.bytes_inj e
    rw [this, ltB_irrefl] at hlt
    cases hlt
  · have hk := (r.2 ⟨x.toArray⟩).1
    have hx : keyL ⟨x.toArray⟩ = .string x := rfl
    rw [hx] at hk
    rw [hk, has_iff r.1, List.mem_map]
    constructor
    · rintro ⟨p, hp, rfl⟩
      exact ⟨⟨p.2, by simpa using hp⟩, rfl⟩
    · rintro ⟨⟨v, hv⟩, _⟩
      exact ⟨_, hv, rfl⟩
theorem TRep.size {w : World} {bm n : Nat} {l : List Pr} {D : DataW Unit} (h : w.ownsMap Tryz.prog 9 (plainElem Tryz.prog 9) bm n D) (r : Rep D l) : Maps.size D = l.length := by
  have hp := (TRep.perm h r).length_eq
  rw [List.length_map] at hp
  obtain ⟨es, rfl⟩ := World.ownsMap.isMap h
  rw [size_eq, hp]
  show es.length = (es.map _).length
  rw [List.length_map]
set_option maxRecDepth 100000 in
theorem TRep.look {w : World} {bm n : Nat} {l : List Pr} (h : TRep w bm n l) {key : ByteArray} (hk : key.size ≤ maxLen) :
    (Instr.lookup 43 (.map (some bm)) (.string key) true).run Tryz.prog w = .ok (.tuple #[.string (valOf l key), .bool (hasB l key)]) w := by
  obtain ⟨D, h, r⟩ := h
  obtain ⟨v, ps, hrun, hv⟩ := World.ownsMap.look_ok h lawS Tryz.underlying43 (zeroS w) (zd := elD ByteArray.empty) (zp := []) (plainElem_string Tryz.underlying9 (by simp [maxLen])) (Go.WideMaps.keyOf_string_mk Tryz.underlying9 hk)
  obtain ⟨c, rfl, hc, _⟩ := plainElem_string_inv Tryz.underlying9 hv
  obtain ⟨q1, q2⟩ := r.2 key
  have q2' : D.atKey (keyL key) (elD ByteArray.empty) = elD c := by injection hc
  have ec : c = valOf l key := by
    rw [q2] at q2'
    unfold elD at q2'
    injection q2' with q2'
    injection q2' with q2'
    exact (Go.WideShapes.bytes_inj q2').symm
  have q1' : Maps.has D (.string key.data.toList) = hasB l key := q1
  rw [q1', ec] at hrun
  exact hrun
set_option maxRecDepth 100000 in
theorem TRep.get {w : World} {bm n : Nat} {l : List Pr} (h : TRep w bm n l) {key : ByteArray} (hk : key.size ≤ maxLen) :
    (Instr.lookup 43 (.map (some bm)) (.string key) false).run Tryz.prog w = .ok (.string (valOf l key)) w := by
  obtain ⟨D, h, r⟩ := h
  obtain ⟨v, ps, hrun, hv⟩ := World.ownsMap.lookup h lawS Tryz.underlying43 (zeroS w) (zd := elD ByteArray.empty) (zp := []) (plainElem_string Tryz.underlying9 (by simp [maxLen])) (Go.WideMaps.keyOf_string_mk Tryz.underlying9 hk)
  obtain ⟨c, rfl, hc, _⟩ := plainElem_string_inv Tryz.underlying9 hv
  obtain ⟨_, q2⟩ := r.2 key
  have q2' : D.atKey (keyL key) (elD ByteArray.empty) = elD c := by injection hc
  have ec : c = valOf l key := by
    rw [q2] at q2'
    unfold elD at q2'
    injection q2' with q2'
    injection q2' with q2'
    exact (Go.WideShapes.bytes_inj q2').symm
  rw [ec] at hrun
  exact hrun
theorem TRep.len {w : World} {bm n : Nat} {l : List Pr} (h : TRep w bm n l) (ty : TypeId) : (Builtin.len_ #[43] ty #[.map (some bm)]).run Tryz.prog w = .ok (.int .i64 (l.length : Nat)) w := by
  obtain ⟨D, h, r⟩ := h
  rw [World.ownsMap.len h Tryz.underlying43 ty, TRep.size h r]
theorem TRep.store {w : World} {bm n : Nat} {l : List Pr} (h : TRep w bm n l) (hn : n < maxLen) {k v : ByteArray} (hk : k.size ≤ maxLen) (hv : v.size ≤ maxLen) :
    ∃ w', (Instr.mapUpdate 43 (.map (some bm)) (.string k) (.string v)).run Tryz.prog w = .ok () w' ∧ TRep w' bm (n + 1) (setL l k v) ∧ w.grownBy w' (some bm) := by
  obtain ⟨D, h, r⟩ := h
  obtain ⟨w', hrun, h1, h2⟩ := World.ownsMap.update h lawS Tryz.underlying43 hn (Go.WideMaps.keyOf_string_mk Tryz.underlying9 hk) (plainElem_string Tryz.underlying9 hv)
  exact ⟨w', hrun, ⟨_, h1, rep_put (World.ownsMap.isMap h) r k v⟩, h2⟩
/-- bytes in their order: what the sort goes by -/
theorem le_of_lt : ∀ {x y : List UInt8}, Op.bytesLess x y = true → x ≤ y
  | _, [], h => by simp [Op.bytesLess] at h
  | [], _ :: _, _ => List.nil_le _
  | a :: x, b :: y, h => by
    simp only [Op.bytesLess, Bool.or_eq_true, Bool.and_eq_true, decide_eq_true_eq, beq_iff_eq] at h
    rw [List.cons_le_cons_iff]
    rcases h with h | ⟨h, h'⟩
    · exact .inl h
    · exact .inr ⟨h, le_of_lt h'⟩
theorem sorted_keys {l : List Pr} (h : Ris l) {ss : List (List UInt8)} {D : DataW Unit} (hs : ss.Perm (strKeys D)) (hp : (l.map fun p => p.1.data.toList).Perm (strKeys D)) : ss.mergeSort (fun x y => decide (x ≤ y)) = l.map fun p => p.1.data.toList := by
  have e1 : ss.mergeSort leB = (l.map fun p => p.1.data.toList).mergeSort leB := mergeSort_of_perm (hs.trans hp.symm)
  have e2 : (l.map fun p => p.1.data.toList).mergeSort leB = l.map fun p => p.1.data.toList := by
    refine List.mergeSort_of_pairwise ?_
    refine List.pairwise_map.2 (h.imp fun {p q} hlt => ?_)
    unfold ltB at hlt
    rw [Go.ByteArray.toList_eq, Go.ByteArray.toList_eq] at hlt
    exact decide_eq_true (le_of_lt hlt)
  exact e1.trans e2
end Go.Proofs.YtdahpnjamlfakaaGreatDoor
/-
  What Add and Joined make of right objects. Plain mathematics.
-/
namespace Go.Proofs.YtdahpnjamlfakaaGreatDoor
open Go.RowKit

theorem objs_all {l : List Pr} : objsB l = true ↔ l.length ≤ 60 ∧ (∀ p ∈ l, p.2.size ≤ 2000 ∧ idL p.2 = p.1) ∧ Ris l := by
  rw [objsB_iff]
  constructor
  · rintro ⟨a, b, c⟩
    refine ⟨a, fun p hp => ?_, ris_iff.1 c⟩
    obtain ⟨i, hi, e⟩ := List.getElem_of_mem hp
    subst e
    exact b i hi hi
  · rintro ⟨a, b, c⟩
    exact ⟨a, fun i hi _ => b _ (List.getElem_mem _), ris_iff.2 c⟩
/-- each of the list has a short text, and its id -/
def Rt (l : List Pr) : Prop := (∀ p ∈ l, p.2.size ≤ 2000 ∧ idL p.2 = p.1) ∧ Ris l
theorem rt_of {l : List Pr} (h : objsB l = true) : Rt l := (objs_all.1 h).2
theorem rt_objs {l : List Pr} (h : Rt l) : objsB l = decide (l.length ≤ 60) := by
  cases e : objsB l
  · rw [eq_comm, decide_eq_false_iff_not]
    intro x
    rw [objs_all.2 ⟨x, h⟩] at e
    cases e
  · exact (decide_eq_true (objs_all.1 e).1).symm
theorem rt_set {l : List Pr} (h : Rt l) {t : ByteArray} (ht : t.size ≤ 2000) : Rt (setL l (idL t) t) := by
  refine ⟨fun p hp => ?_, ris_set h.2 _ _⟩
  rcases (mem_set h.2 _ _ p).1 hp with e | ⟨e, _⟩
  · subst e; exact ⟨ht, rfl⟩
  · exact h.1 p e
/-- can a text be added to right objects? -/
noncomputable def addOk (l : List Pr) (t : ByteArray) : Bool := decide (t.size ≤ 2000) && (stepOk l (idL t, t) && (hasB l (idL t) || decide (l.length < 60)))
noncomputable def addB (l : List Pr) (t : ByteArray) : Bool := objsB l && addOk l t
noncomputable def addL (l : List Pr) (t : ByteArray) : List Pr := if addB l t = true then setL l (idL t) t else []
noncomputable def adI (l : List Pr) (t : ByteArray) : ByteArray := if addB l t = true then idL t else ByteArray.empty
theorem addB_no {l : List Pr} {t : ByteArray} (h : objsB l = false) : addB l t = false := by unfold addB; rw [h]; rfl
theorem addB_of {l : List Pr} {t : ByteArray} (h : objsB l = true) : addB l t = addOk l t := by unfold addB; rw [h]; rfl
theorem addL_no {l : List Pr} {t : ByteArray} (h : addB l t = false) : addL l t = [] := by unfold addL; rw [h]; rfl
theorem addL_yes {l : List Pr} {t : ByteArray} (h : addB l t = true) : addL l t = setL l (idL t) t := by unfold addL; rw [if_pos h]
theorem adI_no {l : List Pr} {t : ByteArray} (h : addB l t = false) : adI l t = ByteArray.empty := by unfold adI; rw [h]; rfl
theorem adI_yes {l : List Pr} {t : ByteArray} (h : addB l t = true) : adI l t = idL t := by unfold adI; rw [if_pos h]
theorem addOk_long {l : List Pr} {t : ByteArray} (h : 2000 < t.size) : addOk l t = false := by unfold addOk; rw [decide_eq_false (by omega)]; rfl
theorem addOk_other {l : List Pr} {t : ByteArray} (h : stepOk l (idL t, t) = false) : addOk l t = false := by unfold addOk; rw [h]; simp
theorem addOk_full {l : List Pr} {t : ByteArray} (h : hasB l (idL t) = false) (h' : 60 ≤ l.length) : addOk l t = false := by unfold addOk; rw [h, decide_eq_false (show ¬ l.length < 60 by omega)]; simp
theorem addOk_same {l : List Pr} {t : ByteArray} (ht : t.size ≤ 2000) (h : hasB l (idL t) = true) (h' : valOf l (idL t) = t) : addOk l t = true := by unfold addOk; rw [decide_eq_true ht, stepOk_same h', h]; rfl
theorem addOk_new {l : List Pr} {t : ByteArray} (ht : t.size ≤ 2000) (h : hasB l (idL t) = false) (h' : l.length < 60) : addOk l t = true := by unfold addOk; rw [decide_eq_true ht, stepOk_new h, decide_eq_true h', Bool.or_true]; rfl
theorem addB_iff {l : List Pr} {t : ByteArray} : addB l t = true ↔ objsB l = true ∧ t.size ≤ 2000 ∧ stepOk l (idL t, t) = true ∧ (hasB l (idL t) = true ∨ l.length < 60) := by
  unfold addB addOk
  simp only [Bool.and_eq_true, Bool.or_eq_true, decide_eq_true_eq]
theorem add_objs {l : List Pr} {t : ByteArray} (h : addB l t = true) : objsB (setL l (idL t) t) = true := by
  obtain ⟨h1, h2, h3, h4⟩ := addB_iff.1 h
  rw [rt_objs (rt_set (rt_of h1) h2)]
  refine decide_eq_true ?_
  rw [len_set]
  have := (objs_all.1 h1).1
  split
  · omega
  · rcases h4 with g | g
    · rename_i x; exact absurd g x
    · omega
theorem addL_objs (l : List Pr) (t : ByteArray) : (addL l t).length ≤ 60 := by
  cases e : addB l t
  · rw [addL_no e]; simp
  · rw [addL_yes e]; exact (objs_all.1 (add_objs e)).1
/-- what l3Add makes -/
def l3L (l : List Pr) (t : ByteArray) : List Pr := if hasB l (idL t) = true then l else setL l (idL t) t
theorem l3L_set {l : List Pr} (h : Ris l) {t : ByteArray} (h' : stepOk l (idL t, t) = true) : l3L l t = setL l (idL t) t := by
  unfold l3L
  cases e : hasB l (idL t)
  · rfl
  · rw [if_pos rfl]
    refine (set_same h e ?_).symm
    exact (stepOk_iff h).1 h' _ (mem_val e)
theorem l3L_len (l : List Pr) (t : ByteArray) : (l3L l t).length ≤ l.length + 1 := by
  unfold l3L
  split
  · omega
  · exact (len_set_le l _ _).2
/-- what spec.Add asks at its end -/
theorem addB_spec {l : List Pr} {t : ByteArray} (h : objsB l = true) (ht : t.size ≤ 2000) (h' : stepOk l (idL t, t) = true) : addB l t = objsB (setL l (idL t) t) := by
  rw [rt_objs (rt_set (rt_of h) ht), addB_of h]
  unfold addOk
  rw [decide_eq_true ht, h', len_set]
  have := (objs_all.1 h).1
  cases e : hasB l (idL t)
  · simp; omega
  · simp; omega

/-- joinings -/
noncomputable def joinB (a b : List Pr) : Bool := by
  classical
  exact objsB a && (objsB b && decide (jokTo a b b.length ∧ (jl a b b.length).length ≤ 60))
noncomputable def joinL (a b : List Pr) : List Pr := if joinB a b = true then jl a b b.length else []
theorem joinB_iff {a b : List Pr} : joinB a b = true ↔ objsB a = true ∧ objsB b = true ∧ jokTo a b b.length ∧ (jl a b b.length).length ≤ 60 := by
  unfold joinB
  simp only [Bool.and_eq_true, decide_eq_true_eq]
theorem joinB_f {a b : List Pr} (h : ¬ (objsB a = true ∧ objsB b = true ∧ jokTo a b b.length ∧ (jl a b b.length).length ≤ 60)) : joinB a b = false := by
  cases e : joinB a b
  · rfl
  · exact absurd (joinB_iff.1 e) h
theorem joinB_a {a b : List Pr} (h : objsB a = false) : joinB a b = false := joinB_f fun x => by rw [h] at x; cases x.1
theorem joinB_b {a b : List Pr} (h : objsB b = false) : joinB a b = false := joinB_f fun x => by rw [h] at x; cases x.2.1
theorem joinB_step {a b : List Pr} {k : Nat} (hk : k < b.length) (h : stepOk (jl a b k) b[k] = false) : joinB a b = false := joinB_f fun x => by have := x.2.2.1 k hk hk; rw [h] at this; cases this
theorem joinB_full {a b : List Pr} {k : Nat} (hk : k < b.length) (h : hasB (jl a b k) b[k].1 = false) (h' : 60 ≤ (jl a b k).length) : joinB a b = false := joinB_f fun x => by
  have h1 := jl_mono a b (b.length - (k + 1)) (k + 1) (by omega)
  rw [show k + 1 + (b.length - (k + 1)) = b.length by omega] at h1
  have h2 : (jl a b (k + 1)).length = (jl a b k).length + 1 := by rw [jl_succ a b k hk, len_set, h]; rfl
  omega
theorem joinB_long {a b : List Pr} (h : 60 < (jl a b b.length).length) : joinB a b = false := joinB_f fun x => by omega
theorem joinL_no {a b : List Pr} (h : joinB a b = false) : joinL a b = [] := by unfold joinL; rw [h]; rfl
theorem joinL_yes {a b : List Pr} (h : joinB a b = true) : joinL a b = jl a b b.length := by unfold joinL; rw [if_pos h]
theorem jl_rt {a b : List Pr} (ha : Rt a) (hb : Rt b) : ∀ k, k ≤ b.length → Rt (jl a b k)
  | 0, _ => ha
  | k + 1, h => by
    rw [jl_succ a b k (by omega)]
    obtain ⟨h1, h2⟩ := hb.1 _ (List.getElem_mem (show k < b.length by omega))
    have := rt_set (jl_rt ha hb k (by omega)) h1
    rw [h2] at this
    exact this
theorem join_objs {a b : List Pr} (h : joinB a b = true) : objsB (jl a b b.length) = true := by
  obtain ⟨h1, h2, _, h4⟩ := joinB_iff.1 h
  rw [rt_objs (jl_rt (rt_of h1) (rt_of h2) b.length (Nat.le_refl _))]
  exact decide_eq_true h4
theorem joinL_len (a b : List Pr) : (joinL a b).length ≤ 60 := by
  cases e : joinB a b
  · rw [joinL_no e]; simp
  · rw [joinL_yes e]; exact (joinB_iff.1 e).2.2.2
theorem join_mem {a b : List Pr} (h : joinB a b = true) (p : Pr) : p ∈ jl a b b.length ↔ p ∈ a ∨ p ∈ b := by
  obtain ⟨h1, h2, h3, _⟩ := joinB_iff.1 h
  rw [jl_mem (rt_of h1).2 b.length (Nat.le_refl _) h3, List.take_length]
end Go.Proofs.YtdahpnjamlfakaaGreatDoor
/-
  What spec.l3Add and spec.Add make of a list of objects and a text.
-/
namespace Go.Proofs.YtdahpnjamlfakaaGreatDoor
open Go.RowKit

theorem idL_max (t : ByteArray) : (idL t).size ≤ maxLen := by rw [idL_size]; simp [maxLen]
theorem set_new {l : List Pr} {k : ByteArray} (v : ByteArray) (h : hasB l k = false) : (([] ++ l.take (atN l k)) ++ [(k, v)]) ++ l.drop (atN l k) = setL l k v := by unfold setL; rw [h]; simp

set_option maxRecDepth 100000 in
set_option maxHeartbeats 1000000 in
theorem l3Add_any (A : Option Addr) (l : List Pr) (cap : Nat) (t : ByteArray) (w : World) (hl : l.length ≤ 100000) (hc : l.length ≤ cap) (hin : PIn w w.heap.size A l) (ht : t.size ≤ 2000) :
    Calls Tryz.prog 103 #[.slice A l.length cap, .string t] w (RetOwnB w.heap.size (l3L l t) (stepOk l (idL t, t)) w) := by
  have hlm : l.length ≤ maxLen := by unfold maxLen; omega
  have hle := atN_le l (idL t)
  have hks := idL_max t
  have hvs : t.size ≤ maxLen := by unfold maxLen; omega
  have IN := hide hin
  have L2 := hide (l2Id_any t w ht)
  clear hin
  cases hh : hasB l (idL t)
  · have HM : Hid ((([] ++ l.take (atN l (idL t))) ++ [(idL t, t)]) ++ l.drop (atN l (idL t)) = l3L l t) := hide (by unfold l3L; rw [hh]; exact set_new t hh)
    have ST : Hid (stepOk l (idL t, t) = true) := hide (stepOk_new hh)
    go_enter Tryz.func103, Tryz.ntmps103
    go_wp2_with fail
    refine L2.out.mono ?_
    rintro e w1 ⟨rfl, b1⟩
    have B1 := hide b1
    have in1 := IN.out.below b1
    have F1 := hide (l3Find_any A l cap (idL t) w1 w.heap.size hlm in1)
    rw [hh] at F1
    have A1 := hide (l3At_any A l cap (idL t) w1 w.heap.size hlm in1)
    have K1 := run_cut_h 24 Tryz.underlying24 A l.length cap (atN l (idL t)) (by omega)
    have K2 := run_cut_l 24 Tryz.underlying24 A l.length cap (atN l (idL t)) (by omega)
    have IN1 := hide (in1.take cap (atN l (idL t)))
    have IN2 := hide (in1.drop hc (atN l (idL t)))
    have E1 := hide (show (l.take (atN l (idL t))).length = atN l (idL t) by rw [List.length_take]; omega)
    have E2 := hide (show (l.drop (atN l (idL t))).length = l.length - (atN l (idL t)) by rw [List.length_drop])
    have O1 := hide (Own.built w1 w1.heap.size (Nat.le_refl _))
    have B2 := hide ((Below.refl w1.heap.size w1).alloc (Nat.le_refl _) (.cells #[] 83))
    have hs1 := b1.size
    have IN1b := hide (IN1.out.below (B2.out.mono hs1))
    clear b1 in1 hh L2
    generalize valOf l (idL t) = vv at *
    generalize l.take (atN l (idL t)) = la at *
    generalize l.drop (atN l (idL t)) = lb at *
    generalize atN l (idL t) = m at *
    generalize idL t = k at *
    generalize hnn : l.length = n at *
    have HNN := hide hnn
    clear hnn
    go_wp2_with (first
      | (go_at_call 98; refine F1.out.mono ?_; rintro e w' ⟨rfl, rfl⟩)
      | (go_at_call 29; refine A1.out.mono ?_; rintro e w' ⟨rfl, rfl⟩)
      | (at_builtin; refine wpList_app 24 Tryz.underlying24 rfl (.tmp 29) (.tmp 32) rfl rfl rfl rfl E1.out.symm O1.out IN1b.out B2.out.size (by rw [E1.out]; simp; omega) ?_; intro A3 cap3 w3 own3 g3 r3; have b3 := O1.out.grownBelow (by rw [rowOf_own]; exact g3) B2.out.size; have B3 := hide (B2.out.trans b3); have O3 := hide own3; have IN3 := hide (IN2.out.below (B3.out.mono hs1)); clear own3 g3 b3)
      | (at_builtin; refine wpList_app 24 Tryz.underlying24 rfl (.tmp 34) (.tmp 38) rfl rfl rfl (by simp) rfl (O3.out.alloc _) (PIn.one w3 k t hks hvs _) (Nat.le_trans B3.out.size (by simp)) (by rw [List.length_append, E1.out]; simp; omega) ?_; intro A4 cap4 w4 own4 g4 r4; have b4 := (O3.out.alloc (.cells #[.string k, .string t] 83)).grownBelow (by rw [rowOf_own]; exact g4) (Nat.le_trans B3.out.size (by simp)); have b4' := ((Below.refl w1.heap.size w3).alloc B3.out.size (.cells #[.string k, .string t] 83)).trans b4; have B4 := hide (B3.out.trans b4'); have O4 := hide own4; have IN4 := hide (IN3.out.below (b4'.mono hs1)); clear own4 g4 b4 b4')
      | (at_builtin; refine wpList_app 24 Tryz.underlying24 rfl (.tmp 40) (.tmp 43) rfl rfl rfl (by simp) E2.out.symm O4.out IN4.out B4.out.size (by rw [List.length_append, List.length_append, E1.out, E2.out]; simp; omega) ?_; intro A5 cap5 w5 own5 g5 r5; have b5 := O4.out.grownBelow (by rw [rowOf_own]; exact g5) B4.out.size; have B5 := hide (B4.out.trans b5); have O5 := hide own5; clear own5 g5 b5))
    go_ret2
    have O6 := O5.out
    rw [HM.out] at O6
    exact ⟨A5, cap5, O6.cap_le, by rw [← HM.out, ST.out]; simp, O6.more B1.out.size, B1.out.trans (B5.out.mono B1.out.size)⟩
  · have HM : Hid ([] ++ l = l3L l t) := hide (by unfold l3L; rw [hh]; simp)
    have ST : Hid (((valOf l (idL t)).toList == t.toList) = stepOk l (idL t, t)) := hide (by
      by_cases e : valOf l (idL t) = t
      · rw [eqS_yes e, stepOk_same e]
      · rw [eqS_no e, stepOk_no hh e])
    go_enter Tryz.func103, Tryz.ntmps103
    go_wp2_with fail
    refine L2.out.mono ?_
    rintro e w1 ⟨rfl, b1⟩
    have B1 := hide b1
    have in1 := IN.out.below b1
    have F1 := hide (l3Find_any A l cap (idL t) w1 w.heap.size hlm in1)
    rw [hh] at F1
    have O1 := hide (Own.built w1 w1.heap.size (Nat.le_refl _))
    have B2 := hide ((Below.refl w1.heap.size w1).alloc (Nat.le_refl _) (.cells #[] 83))
    have hs1 := b1.size
    have IN1b := hide (in1.below (B2.out.mono hs1))
    clear b1 in1 hh L2
    generalize valOf l (idL t) = vv at *
    generalize stepOk l (idL t, t) = so at *
    generalize idL t = k at *
    generalize hnn : l.length = n at *
    have HNN := hide hnn
    clear hnn
    go_wp2_with (first
      | (go_at_call 98; refine F1.out.mono ?_; rintro e w' ⟨rfl, rfl⟩)
      | (at_builtin; refine wpList_app 24 Tryz.underlying24 rfl (.tmp 20) (.tmp 21) rfl rfl rfl rfl HNN.out.symm O1.out IN1b.out B2.out.size (by rw [HNN.out]; simp; omega) ?_; intro A3 cap3 w3 own3 g3 r3; have b3 := O1.out.grownBelow (by rw [rowOf_own]; exact g3) B2.out.size; have B3 := hide (B2.out.trans b3); have O3 := hide own3; clear own3 g3 b3))
    go_ret2
    have O6 := O3.out
    rw [HM.out] at O6
    exact ⟨A3, cap3, O6.cap_le, by rw [← HM.out, ← ST.out]; simp, O6.more B1.out.size, B1.out.trans (B3.out.mono B1.out.size)⟩

set_option maxRecDepth 100000 in
set_option maxHeartbeats 1000000 in
theorem specAdd_any (A : Option Addr) (l : List Pr) (cap : Nat) (t : ByteArray) (w : World) (hl : l.length ≤ maxLen) (hc : l.length ≤ cap) (hin : PIn w w.heap.size A l) (hts : t.size ≤ maxLen) :
    Calls Tryz.prog 58 #[.slice A l.length cap, .string t] w (RetOwnI w.heap.size (addL l t) (adI l t) (addB l t) w) := by
  have R := hide (specObjsOk_any A l cap w hl hin)
  have IN := hide hin
  unfold maxLen at hts
  clear hin
  cases hm : objsB l
  · have Z := hide (addB_no (t := t) hm)
    go_enter Tryz.func58, Tryz.ntmps58
    go_wp2_with (go_at_call 96; refine R.out.mono ?_; rintro e w1 ⟨rfl, b1⟩)
    go_ret3
    exact retOwnI_no (addL_no Z.out) (adI_no Z.out) Z.out b1
  · have h60 := (objsB_iff.1 hm).1
    by_cases ht : t.size ≤ 2000
    · have hb : ¬ (2000 : Int) < (t.size : Int) := by omega
      have hb2 : decide ((2000 : Int) < (t.size : Int)) = false := decide_eq_false hb
      go_enter Tryz.func58, Tryz.ntmps58
      go_wp2_with fail
      refine R.out.mono ?_
      rintro e w1 ⟨rfl, b1⟩
      have in1 := (IN.out.below b1).more b1.size
      have B1 := hide b1
      clear b1 R
      go_wp2_with fail
      refine (l3Add_any A l cap t w1 (by omega) hc in1 ht).mono ?_
      rintro e w2 ⟨A2, cap2, hc2, rfl, own2, b2⟩
      have B2 := hide (B1.out.trans (b2.mono B1.out.size))
      have O2 := hide own2
      have hl3 := l3L_len l t
      clear b2 own2 in1
      cases hs : stepOk l (idL t, t)
      · have Z : Hid (addB l t = false) := hide (by rw [addB_of hm]; exact addOk_other hs)
        go_wp2
        go_ret3
        exact retOwnI_no (addL_no Z.out) (adI_no Z.out) Z.out B2.out
      · have E := hide (l3L_set (objs_all.1 hm).2.2 hs)
        have Z := hide (addB_spec hm ht hs)
        rw [E.out] at hc2 O2 hl3 ⊢
        go_wp2_with fail
        refine (specObjsOk_any A2 (setL l (idL t) t) cap2 w2 (by unfold maxLen; omega) O2.out.pin).mono ?_
        rintro e w3 ⟨rfl, b3⟩
        have B3 := hide (B2.out.trans (b3.mono B2.out.size))
        have O3 := hide (O2.out.below b3)
        have hs2 := B1.out.size
        clear b3 B2 O2
        rw [← Z.out]
        cases hz : addB l t
        · have Z := hide hz
          go_wp2
          go_ret3
          exact retOwnI_no (addL_no Z.out) (adI_no Z.out) Z.out B3.out
        · have Z2 := hide hz
          go_wp2_with fail
          refine (l2Id_any t w3 ht).mono ?_
          rintro e w4 ⟨rfl, b4⟩
          have B4 := hide (B3.out.trans (b4.mono B3.out.size))
          have O4 := hide ((O3.out.below b4).more hs2)
          clear b4 B3 O3
          go_wp2
          go_ret3
          refine ⟨A2, cap2, ?_, ?_, ?_, B4.out⟩
          · rw [addL_yes Z2.out]; exact hc2
          · rw [addL_yes Z2.out, adI_yes Z2.out, Z2.out]; rfl
          · rw [addL_yes Z2.out]; exact O4.out
    · have Z : Hid (addB l t = false) := hide (by rw [addB_of hm]; exact addOk_long (by omega))
      have hb : (2000 : Int) < (t.size : Int) := by omega
      have hb2 : decide ((2000 : Int) < (t.size : Int)) = true := decide_eq_true hb
      go_enter Tryz.func58, Tryz.ntmps58
      go_wp2_with (go_at_call 96; refine R.out.mono ?_; rintro e w1 ⟨rfl, b1⟩)
      go_ret3
      exact retOwnI_no (addL_no Z.out) (adI_no Z.out) Z.out b1
end Go.Proofs.YtdahpnjamlfakaaGreatDoor
/-
  What impl's map of texts does: add, objs.
-/
namespace Go.Proofs.YtdahpnjamlfakaaGreatDoor
open Go.RowKit Go.Maps

set_option maxRecDepth 100000 in
set_option maxHeartbeats 1000000 in
theorem add_any (bm n : Nat) (l : List Pr) (t : ByteArray) (w : World) (hm : TRep w bm n l) (hn : n ≤ 1000) (hl : l.length ≤ 1000) (hts : t.size ≤ maxLen) (hT : Tabs w) :
    Calls Tryz.prog 49 #[.map (some bm), .string t] w fun e w' => w.grownBy w' (some bm) ∧
      ((addOk l t = false ∧ e = .returned (.tuple #[.string ByteArray.empty, .bool false])) ∨ (addOk l t = true ∧ e = .returned (.tuple #[.string (idL t), .bool true]) ∧ TRep w' bm (n + 1) (setL l (idL t) t))) := by
  have HM := hide hm
  have HS := hide hts
  have hks := idL_max t
  unfold maxLen at hts
  clear hm
  by_cases ht : t.size ≤ 2000
  · have hb : ¬ (2000 : Int) < (t.size : Int) := by omega
    have I := hide (idI_any t w ht hT)
    clear hT
    go_enter Tryz.func49, Tryz.ntmps49
    go_wp2_with fail
    refine I.out.mono ?_
    rintro e w1 ⟨rfl, b1⟩
    have G1 := hide (Below.toGrown b1 (some bm))
    have M1 := hide (HM.out.below b1)
    have hlook := M1.out.look hks
    have hlen := M1.out.len 3
    clear b1 I HM
    cases hh : hasB l (idL t)
    · rw [hh] at hlook
      by_cases h60 : l.length < 60
      · have c : decide ((60 : Int) ≤ (l.length : Int)) = false := decide_eq_false (by omega)
        have OK := hide (addOk_new ht hh h60)
        obtain ⟨w2, hst, m2, g2⟩ := M1.out.store (by unfold maxLen; omega) hks HS.out
        have M2 := hide m2
        have G2 := hide (G1.out.trans g2)
        clear m2 g2 M1 G1 hh
        generalize valOf l (idL t) = vv at hlook
        generalize l.length = n0 at hlen c
        generalize hkk : idL t = k at hlook hst ⊢
        have HK := hide hkk
        clear hkk
        go_wp2
        go_ret2
        exact ⟨G2.out, .inr ⟨OK.out, by rw [HK.out]; rfl, M2.out⟩⟩
      · have c : decide ((60 : Int) ≤ (l.length : Int)) = true := decide_eq_true (by omega)
        have OK := hide (addOk_full hh (by omega))
        clear M1 hh
        generalize valOf l (idL t) = vv at *
        generalize l.length = n0 at *
        generalize setL l (idL t) t = l2 at *
        generalize idL t = k at *
        go_wp2
        go_ret2
        exact ⟨G1.out, .inl ⟨OK.out, rfl⟩⟩
    · rw [hh] at hlook
      by_cases he : valOf l (idL t) = t
      · have c := eqS_yes he
        have c2 := neS_no he
        have OK := hide (addOk_same ht hh he)
        obtain ⟨w2, hst, m2, g2⟩ := M1.out.store (by unfold maxLen; omega) hks HS.out
        have M2 := hide m2
        have G2 := hide (G1.out.trans g2)
        clear m2 g2 M1 G1 hh hlen he
        generalize valOf l (idL t) = vv at hlook c c2
        generalize hkk : idL t = k at hlook hst ⊢
        have HK := hide hkk
        clear hkk
        go_wp2
        go_ret2
        exact ⟨G2.out, .inr ⟨OK.out, by rw [HK.out]; rfl, M2.out⟩⟩
      · have c := eqS_no he
        have c2 := neS_yes he
        have OK := hide (addOk_other (stepOk_no hh he))
        clear M1 hh hlen he
        generalize valOf l (idL t) = vv at *
        generalize setL l (idL t) t = l2 at *
        generalize idL t = k at *
        go_wp2
        go_ret2
        exact ⟨G1.out, .inl ⟨OK.out, rfl⟩⟩
  · have hb : (2000 : Int) < (t.size : Int) := by omega
    have OK := hide (addOk_long (l := l) (t := t) (by omega))
    go_enter Tryz.func49, Tryz.ntmps49
    go_wp2
    go_ret2
    exact ⟨World.grownBy.refl _ _, .inl ⟨OK.out, rfl⟩⟩

/-- the ids of l, in a row of the call's own -/
def KOwn (w : World) (B : Nat) (v : Value) (l : List Pr) : Prop := w.ownsRow B 9 1 v l.length (l.map fun p => Value.string p.1)
theorem KOwn.form {w : World} {B : Nat} {v : Value} {l : List Pr} (h : KOwn w B v l) : ∃ A cap, v = .slice A l.length cap ∧ (∀ g, rowOf A = some g → B ≤ g ∧ g < w.heap.size) := by
  have hlt := h.lt
  rcases h.2 with ⟨e, e'⟩ | ⟨g, c, cur, e, hb, hg, _⟩
  · exact ⟨none, 0, by rw [e, e'], fun g hg => by cases hg⟩
  · refine ⟨_, _, e, fun g' hg' => ?_⟩
    subst e
    exact hlt g' (by rw [rowOf_own]; exact hg')
theorem KOwn.cell {w : World} {B : Nat} {A : Option Addr} {cap : Nat} {l : List Pr} (h : KOwn w B (.slice A l.length cap) l) {i : Nat} (hi : i < l.length) : ∃ g, A = some ⟨g, 0, none⟩ ∧ g < w.heap.size ∧ w.cell? ⟨g, i, none⟩ = some (.string l[i].1) := by
  have h' := h
  rcases h.2 with ⟨e, e'⟩ | ⟨g, c, cur, e, hb, hg, _⟩
  · omega
  · injection e with e1 e2 e3
    subst e1
    refine ⟨g, rfl, (Array.getElem?_eq_some_iff.1 hg).1, ?_⟩
    have := h'.cellAt i (by omega)
    rw [List.getElem?_map, List.getElem?_eq_getElem hi] at this
    exact this
theorem KOwn.kept {w w' : World} {B : Nat} {A A' : Option Addr} {cap : Nat} {l : List Pr} (h : KOwn w B (.slice A l.length cap) l) (hg : w.grownBy w' (rowOf A')) (hne : ∀ g, rowOf A = some g → rowOf A' ≠ some g) : KOwn w' B (.slice A l.length cap) l := by
  refine World.ownsRow.kept h hg ?_
  rw [rowOf_own]
  cases e : rowOf A with
  | none => exact .inl rfl
  | some g => exact .inr (fun x => hne g e x.symm)
theorem encs (l : List Pr) : (l.map fun p => p.1.data.toList).map encStr = l.map fun p => Value.string p.1 := by
  rw [List.map_map]
  refine List.map_congr_left fun p _ => ?_
  simp [encStr]

set_option maxRecDepth 100000 in
set_option maxHeartbeats 1000000 in
/-- the ids of the map, sorted -/
theorem sorted_any (bm n : Nat) (l : List Pr) (w : World) (hm : TRep w bm n l) (hl : l.length ≤ 1000) :
    Calls Tryz.prog 94 #[.func (.func 134) #[] #[.pointer (some ⟨w.heap.size, 0, none⟩)]] (w.alloc (.cells #[.map (some bm)] 43)) fun e w' => ∃ A cap, e = .returned (.slice A l.length cap) ∧ KOwn w' (w.heap.size + 1) (.slice A l.length cap) l ∧ Below (w.heap.size + 1) (w.alloc (.cells #[.map (some bm)] 43)) w' := by
  obtain ⟨D, h, r⟩ := hm
  have hsz := TRep.size h r
  refine (callsIn_wide.1 (Tryz.slices_Sorted_keys_94_95 bm n D _ w h (by rw [hsz]; unfold maxLen; omega) (by rw [hsz]; omega))).mono ?_
  rintro e w' ⟨v, ss, rfl, hS, hrow, _, hb⟩
  have hk := sorted_keys r.1 hS (TRep.perm h r)
  have hlen : ss.length = l.length := by rw [hS.length_eq, ← (TRep.perm h r).length_eq, List.length_map]
  rw [hk, hlen, encs] at hrow
  have e1 : (w.alloc (.cells #[.map (some bm)] 43)).heap.size = w.heap.size + 1 := by simp
  rw [e1] at hrow hb
  have hK : KOwn w' (w.heap.size + 1) v l := hrow
  obtain ⟨A, cap, rfl, _⟩ := hK.form
  exact ⟨A, cap, rfl, hK, hb⟩

set_option maxRecDepth 100000 in
set_option maxHeartbeats 1000000 in
theorem objs_any (bm n : Nat) (l : List Pr) (w : World) (hm : TRep w bm n l) (hl : l.length ≤ 1000) (hlens : lens l) :
    Calls Tryz.prog 51 #[.map (some bm)] w (RetOwn w.heap.size l w) := by
  obtain ⟨i0, hi, hz0, hz1, hz2⟩ := info_parts infoP
  have HM := hide hm
  have hlen := hm.len 3
  have hbm := hm.lt
  have HL := hide hlens
  have HR := hide (show Ris l by obtain ⟨D, _, r⟩ := hm; exact r.1)
  clear hm hlens
  generalize hn0 : l.length = n0 at *
  have HN := hide hn0
  clear hn0
  go_enter Tryz.func51, Tryz.ntmps51
  go_wp2_with (at_make; refine wpList_make_own _ rfl _ _ 24 rfl w.heap.size 83 i0 _ 2 Tryz.underlying24 hi hz0 hz1 _ _ _ n0 rfl rfl (by omega) (by rw [hz2]; omega) (by unfold maxLen; omega) (Nat.le_refl _) ?_)
  intro w1 own1 g1
  have O1 := hide (Own.made own1)
  have B1 := hide ((Below.refl w.heap.size w).grown g1 (Nat.le_refl _) (by simp))
  have M1 := hide (HM.out.kept g1 (by simp))
  have row1 := (Own.made own1).row
  have R1 := hide row1
  clear own1 g1 HM hlen row1
  go_wp2_with fail
  refine (callsIn_wide.1 (Tryz.maps_Keys_95 (some bm) w1)).mono ?_
  rintro e w2 ⟨rfl, rfl⟩
  go_wp2_with fail
  refine (sorted_any bm n l w1 M1.out (by rw [HN.out]; omega)).mono ?_
  rintro e w3 ⟨AS, capS, rfl, k3, b3⟩
  have b3' := ((Below.refl w1.heap.size w1).alloc (Nat.le_refl _) (.cells #[.map (some bm)] 43)).trans (b3.mono (Nat.le_succ _))
  have O3 := hide (O1.out.below b3')
  have M3 := hide (M1.out.below b3')
  have B3 := hide (B1.out.trans (b3'.mono B1.out.size))
  obtain ⟨AS', capS', eS, hrow⟩ := k3.form
  have eS1 : AS' = AS := by injection eS with e1 e2 e3; exact e1.symm
  rw [eS1] at hrow
  have N3 : Hid (∀ g, rowOf AS = some g → rowOf (some (⟨w.heap.size, 0, none⟩ : Addr)) ≠ some g) := hide (fun g hg h => by
    have h1 := (hrow g hg).1
    have h2 : w.heap.size = g := by simpa [rowOf] using h
    have h3 := B1.out.size
    omega)
  have K3 := hide (show KOwn w3 w.heap.size (.slice AS l.length capS) l by
    refine ⟨k3.1, ?_⟩
    rcases k3.2 with e | ⟨g, c, cur, e, hb, r⟩
    · exact .inl e
    · exact .inr ⟨g, c, cur, e, by have := B1.out.size; omega, r⟩)
  clear eS eS1 hrow k3 b3 b3' O1 M1
  rw [HN.out]
  go_wp2
  go_loopw [3, 13] (fun ov iv wr => ∃ (k : Nat) (d : List Pr) (A : Option Addr) (cap : Nat), k ≤ n0 ∧ Hid (d.length = k) ∧ iv = .int .i64 k ∧ ov = .slice A d.length cap ∧ Hid (d = l.take k) ∧ Hid (Own wr w.heap.size A cap d) ∧ Hid (KOwn wr w.heap.size (.slice AS l.length capS) l) ∧ Hid (TRep wr bm n l) ∧ Hid (∀ g, rowOf AS = some g → rowOf A ≠ some g) ∧ Hid (Below w.heap.size w wr)) (fun _ i _ => n0 - (intOf i).toNat)
  case atStart => exact ⟨0, [], _, n0, Nat.zero_le _, rfl, rfl, rfl, rfl, O3, K3, M3, N3, B3⟩
  case round =>
    clear O3 K3 M3 N3 B3
    obtain ⟨k, d, A, cap, hk, hdk, rfl, rfl, D, O, S, M, N, Q⟩ := hrel
    by_cases hlt : k < n0
    · have hkl : k < l.length := by rw [HN.out]; omega
      obtain ⟨g, rfl, hg, c⟩ := S.out.cell hkl
      obtain ⟨s1, s2⟩ := HL.out k hkl
      have hget := M.out.get s1
      have HT : Hid (d ++ [((l[k]'hkl).1, (l[k]'hkl).2)] = l.take (k + 1)) := hide (by rw [D.out, List.take_succ_eq_append_getElem hkl])
      rw [val_of HR.out (show ((l[k]'hkl).1, (l[k]'hkl).2) ∈ l from List.getElem_mem hkl)] at hget
      clear D
      generalize (l[k]'hkl).1 = y at *
      generalize (l[k]'hkl).2 = v at *
      go_wp2_with (at_builtin; refine wpList_app (l := d) (l' := [(y, v)]) 24 Tryz.underlying24 rfl (.tmp 17) (.tmp 23) rfl rfl rfl rfl rfl (O.out.alloc _) (PIn.one wr y v s1 s2 _) (Nat.le_trans Q.out.size (by simp)) (by have := hdk.out; simp; omega) ?_; intro A3 cap3 w3 own3 g3 r3; have B3 := hide (Q.out.trans (((Below.refl _ wr).alloc Q.out.size (.cells #[.string y, .string v] 83)).trans ((O.out.alloc (.cells #[.string y, .string v] 83)).grownBelow (by rw [rowOf_own]; exact g3) (Nat.le_trans Q.out.size (by simp))))); have O3 := hide own3; have S3 := hide (KOwn.kept (World.ownsRow.kept S.out (World.grownBy_alloc wr (.cells #[.string y, .string v] 83) none) (by rw [rowOf_own]; exact .inr (by simp [rowOf]))) g3 N.out); have M3 := hide ((M.out.kept (World.grownBy_alloc wr (.cells #[.string y, .string v] 83) none) (by simp)).kept g3 (fun x => by have h9 := (O.out.row bm x.symm).1; omega)); have N3 : Hid (∀ g', rowOf (some (⟨g, 0, none⟩ : Addr)) = some g' → rowOf A3 ≠ some g') := hide (fun g' hg' x => r3.elim (fun r3 => N.out g' hg' (by rw [← r3]; exact x)) (fun r3 => by have h8 := rowOf_some hg'; rw [r3] at x; injection x with x; simp at x; omega)); clear own3 g3 r3)
      go_roundw
      case rel => exact ⟨k + 1, d ++ [(y, v)], A3, cap3, by omega, hide (by rw [List.length_append, hdk.out]; rfl), by go_num, by rw [show (d ++ [(y, v)]).length = d.length + 1 by simp], HT, O3, S3, M3, N3, B3⟩
      case measure => simp [intOf]; omega
    · have E : Hid (d = l) := hide (by rw [D.out, show k = l.length by rw [HN.out]; omega, List.take_length])
      have ek : Hid (k = n0) := hide (by omega)
      have hgt : ¬ ((k : Int) < (n0 : Int)) := by omega
      clear hlt D N S M
      go_wp2
      go_ret
      refine ⟨A, cap, ?_, ?_, ?_, Q.out⟩
      · rw [← E.out]; exact O.out.cap_le
      · rw [← E.out]; rfl
      · rw [← E.out]; exact O.out
end Go.Proofs.YtdahpnjamlfakaaGreatDoor
/-
  What is behind a commit: reached from it by parents; what a walk with a set of what was seen adds.
-/
namespace Go.Proofs.YtdahpnjamlfakaaGreatDoor
open Go.RowKit

/-- the parents of the commit at a key -/
noncomputable def parK (l : List Pr) (k : ByteArray) : List ByteArray := if rdOk (valOf l k) = true then (rdC (valOf l k)).2.1 else []
noncomputable def treK (l : List Pr) (k : ByteArray) : ByteArray := if rdOk (valOf l k) = true then (rdC (valOf l k)).1 else ByteArray.empty
noncomputable def notK (l : List Pr) (k : ByteArray) : ByteArray := if rdOk (valOf l k) = true then (rdC (valOf l k)).2.2 else ByteArray.empty
theorem parK_no {l : List Pr} {k : ByteArray} (h : rdOk (valOf l k) = false) : parK l k = [] := by unfold parK; rw [h]; rfl
theorem parK_len (l : List Pr) (k : ByteArray) : (parK l k).length ≤ 2 := by
  cases h : rdOk (valOf l k)
  · rw [parK_no h]; simp
  · unfold parK; rw [if_pos h]; exact (rd_size h).2.1
theorem parK_size {l : List Pr} {k q : ByteArray} (h : q ∈ parK l k) : q.size = 16 := by
  cases hr : rdOk (valOf l k)
  · rw [parK_no hr] at h; cases h
  · unfold parK at h; rw [if_pos hr] at h; exact (rd_size hr).2.2 q h
theorem has_rd {l : List Pr} {k : ByteArray} (h : rdOk (valOf l k) = true) : hasB l k = true := by
  cases e : hasB l k
  · rw [valOf_no e, rdOk_empty] at h; cases h
  · rfl
theorem parK_com {l : List Pr} (hl : repoB l = true) {k q : ByteArray} (h : q ∈ parK l k) : rdOk (valOf l q) = true := by
  cases hr : rdOk (valOf l k)
  · rw [parK_no hr] at h; cases h
  · unfold parK at h
    rw [if_pos hr] at h
    obtain ⟨ho, hf⟩ := repoB_iff.1 hl
    obtain ⟨i, hi, e⟩ := has_at (has_rd hr)
    have h2 := (valOf_at (objsB_iff.1 ho).2.2 hi).2
    rw [e] at h2
    rw [h2] at h hr
    exact ((hf i hi hi).2 hr).2 q h |>.1
/-- reached from one by parents, itself too -/
inductive Reach (l : List Pr) (a : ByteArray) : ByteArray → Prop
  | self : Reach l a a
  | next {x q : ByteArray} : Reach l a x → q ∈ parK l x → Reach l a q
theorem Reach.trans {l : List Pr} {a b c : ByteArray} (h : Reach l a b) (k : Reach l b c) : Reach l a c := by
  induction k with
  | self => exact h
  | next _ hq ih => exact ih.next hq
theorem Reach.com {l : List Pr} (hl : repoB l = true) {a b : ByteArray} (h : Reach l a b) (ha : rdOk (valOf l a) = true) : rdOk (valOf l b) = true := by
  cases h with
  | self => exact ha
  | next _ hq => exact parK_com hl hq
/-- no rings -/
def Acy (l : List Pr) : Prop := ∃ rk : ByteArray → Nat, ∀ k, ∀ q ∈ parK l k, rk q < rk k
theorem reach_rk {l : List Pr} {rk : ByteArray → Nat} (h : ∀ k, ∀ q ∈ parK l k, rk q < rk k) {a b : ByteArray} (hr : Reach l a b) : b = a ∨ rk b < rk a := by
  induction hr with
  | self => exact .inl rfl
  | next _ hq ih =>
    have := h _ _ hq
    rcases ih with e | e
    · subst e; exact .inr this
    · exact .inr (by omega)
/-- what is behind one isn't its child -/
theorem Acy.up {l : List Pr} (h : Acy l) {a z : ByteArray} (hr : Reach l a z) : ¬ a ∈ parK l z := fun hq => by
  obtain ⟨rk, hrk⟩ := h
  have h1 := hrk _ _ hq
  rcases reach_rk hrk hr with e | e
  · subst e; omega
  · omega
/-- parents stand ahead -/
def OrdK (l : List Pr) (S ext : List ByteArray) : Prop := ∀ i (h : i < ext.length), ∀ q ∈ parK l ext[i], q ∈ S ∨ q ∈ ext.take i
theorem OrdK.nil (l : List Pr) (S : List ByteArray) : OrdK l S [] := fun i h => absurd h (by simp)
theorem OrdK.app {l : List Pr} {S S' ext ext2 : List ByteArray} (h : OrdK l S ext) (h2 : OrdK l S' ext2) (hs : ∀ q ∈ S', (∃ z ∈ ext2, q ∈ parK l z) → q ∈ S ∨ q ∈ ext) : OrdK l S (ext ++ ext2) := fun i hi q hq => by
  by_cases hlt : i < ext.length
  · rw [List.getElem_append_left hlt] at hq
    rw [List.take_append_of_le_length (Nat.le_of_lt hlt)]
    exact h i hlt q hq
  · have hi2 : i - ext.length < ext2.length := by rw [List.length_append] at hi; omega
    rw [List.getElem_append_right (by omega)] at hq
    have ht : (ext ++ ext2).take i = ext ++ ext2.take (i - ext.length) := by rw [List.take_append, List.take_of_length_le (by omega)]
    rw [ht, List.mem_append]
    rcases h2 (i - ext.length) hi2 q hq with h3 | h3
    · rcases hs q h3 ⟨_, List.getElem_mem hi2, hq⟩ with h4 | h4
      · exact .inl h4
      · exact .inr (.inl h4)
    · exact .inr (.inr h3)
theorem nodup_len {α : Type} : ∀ {S T : List α}, S.Nodup → (∀ z ∈ S, z ∈ T) → S.length ≤ T.length
  | [], _, _, _ => Nat.zero_le _
  | a :: r, T, hn, hs => by
    obtain ⟨u, v, rfl⟩ := List.append_of_mem (hs a (List.mem_cons_self ..))
    rw [List.nodup_cons] at hn
    have := nodup_len (T := u ++ v) hn.2 (fun z hz => by
      have := hs z (List.mem_cons_of_mem _ hz)
      rcases List.mem_append.1 this with h | h
      · exact List.mem_append.2 (.inl h)
      · rcases List.mem_cons.1 h with h | h
        · subst h; exact absurd hz hn.1
        · exact List.mem_append.2 (.inr h))
    simp only [List.length_cons, List.length_append] at this ⊢
    omega
/-- a set of commits, each once -/
def SetC (l : List Pr) (S : List ByteArray) : Prop := S.Nodup ∧ ∀ z ∈ S, rdOk (valOf l z) = true
theorem setC_len {l : List Pr} (ho : objsB l = true) {S : List ByteArray} (h : SetC l S) : S.length ≤ 60 := by
  have hs : ∀ z ∈ S, z ∈ l.map Prod.fst := by
    intro z hz
    obtain ⟨i, hi, e⟩ := has_at (has_rd (h.2 z hz))
    exact List.mem_map.2 ⟨l[i], List.getElem_mem hi, e⟩
  have h1 := nodup_len h.1 hs
  rw [List.length_map] at h1
  exact Nat.le_trans h1 (objsB_iff.1 ho).1
/-- what a walk from id adds: new ones, each once, reached; with all parents of them -/
structure Walked (l : List Pr) (S : List ByteArray) (id : ByteArray) (ext S' : List ByteArray) : Prop where
  set : SetC l S'
  mem : ∀ z, z ∈ S' ↔ z ∈ S ∨ z ∈ ext
  nod : ext.Nodup
  new : ∀ z ∈ ext, z ∉ S
  rch : ∀ z ∈ ext, Reach l id z
  clo : ∀ z ∈ ext, ∀ q ∈ parK l z, q ∈ S'
  has : rdOk (valOf l id) = true → id ∈ S'
  ord : Acy l → OrdK l S ext
theorem walked_none {l : List Pr} {S : List ByteArray} {id : ByteArray} (hS : SetC l S) (h : rdOk (valOf l id) = true → id ∈ S) : Walked l S id [] S :=
  ⟨hS, by simp, .nil, by simp, by simp, by simp, h, fun _ => OrdK.nil l S⟩
/-- the walk at id, its first k parents behind it -/
structure Walking (l : List Pr) (S : List ByteArray) (id : ByteArray) (k : Nat) (ext S' : List ByteArray) : Prop where
  set : SetC l S'
  mem : ∀ z, z ∈ S' ↔ z ∈ S ∨ z = id ∨ z ∈ ext
  nod : ext.Nodup
  new : ∀ z ∈ ext, z ∉ S ∧ z ≠ id
  rch : ∀ z ∈ ext, Reach l id z
  clo : ∀ z ∈ ext, ∀ q ∈ parK l z, q ∈ S'
  par : ∀ i (h : i < (parK l id).length), i < k → (parK l id)[i] ∈ S'
  ord : Acy l → OrdK l S ext
theorem walking_start {l : List Pr} {S : List ByteArray} {id : ByteArray} (hS : SetC l S) (hr : rdOk (valOf l id) = true) (hn : id ∉ S) : Walking l S id 0 [] (S ++ [id]) := by
  refine ⟨⟨?_, ?_⟩, by simp, .nil, by simp, by simp, by simp, fun i h hk => absurd hk (by omega), fun _ => OrdK.nil l S⟩
  · rw [List.nodup_append]
    refine ⟨hS.1, by simp, ?_⟩
    intro x hx y hy e
    rw [List.mem_singleton] at hy
    subst hy e
    exact hn hx
  · intro z hz
    rw [List.mem_append, List.mem_singleton] at hz
    rcases hz with h | h
    · exact hS.2 z h
    · rw [h]; exact hr
theorem walking_step {l : List Pr} (hl : repoB l = true) {S : List ByteArray} {id : ByteArray} {k : Nat} {ext S' ext2 S2 : List ByteArray} (h : Walking l S id k ext S') (hk : k < (parK l id).length) (w : Walked l S' ((parK l id)[k]) ext2 S2) : Walking l S id (k + 1) (ext ++ ext2) S2 := by
  have hq : (parK l id)[k] ∈ parK l id := List.getElem_mem hk
  refine ⟨w.set, fun z => ?_, ?_, fun z hz => ?_, fun z hz => ?_, fun z hz q hqz => ?_, fun i hi hik => ?_, fun hA => (h.ord hA).app (w.ord hA) fun q hq2 ⟨z, hz, hqz⟩ => ?_⟩
  · rw [w.mem z, h.mem z, List.mem_append]
    constructor
    · rintro ((h1 | h1 | h1) | h1)
      · exact .inl h1
      · exact .inr (.inl h1)
      · exact .inr (.inr (.inl h1))
      · exact .inr (.inr (.inr h1))
    · rintro (h1 | h1 | h1 | h1)
      · exact .inl (.inl h1)
      · exact .inl (.inr (.inl h1))
      · exact .inl (.inr (.inr h1))
      · exact .inr h1
  · rw [List.nodup_append]
    refine ⟨h.nod, w.nod, ?_⟩
    intro x hx y hy e
    subst e
    exact w.new x hy ((h.mem x).2 (.inr (.inr hx)))
  · rcases List.mem_append.1 hz with h1 | h1
    · exact h.new z h1
    · have h2 := w.new z h1
      refine ⟨fun h3 => h2 ((h.mem z).2 (.inl h3)), fun h3 => h2 ((h.mem z).2 (.inr (.inl h3)))⟩
  · rcases List.mem_append.1 hz with h1 | h1
    · exact h.rch z h1
    · exact (Reach.self.next hq).trans (w.rch z h1)
  · rcases List.mem_append.1 hz with h1 | h1
    · exact (w.mem q).2 (.inl (h.clo z h1 q hqz))
    · exact w.clo z h1 q hqz
  · by_cases e : i = k
    · subst e
      exact w.has (parK_com hl hq)
    · exact (w.mem _).2 (.inl (h.par i hi (by omega)))
  · rcases (h.mem q).1 hq2 with h1 | h1 | h1
    · exact .inl h1
    · subst h1
      exact absurd hqz (hA.up ((Reach.self.next hq).trans (w.rch z hz)))
    · exact .inr h1
theorem walking_end {l : List Pr} {S : List ByteArray} {id : ByteArray} {ext S' : List ByteArray} (h : Walking l S id (parK l id).length ext S') (hn : id ∉ S) : Walked l S id (ext ++ [id]) S' := by
  refine ⟨h.set, fun z => ?_, ?_, fun z hz => ?_, fun z hz => ?_, fun z hz q hq => ?_, fun _ => (h.mem id).2 (.inr (.inl rfl)), fun hA => (h.ord hA).app (S' := S') (fun i hi q hq => .inl ?_) fun q hq2 ⟨z, hz, hqz⟩ => ?_⟩
  · rw [h.mem z, List.mem_append, List.mem_singleton]
    constructor
    · rintro (h1 | h1 | h1)
      · exact .inl h1
      · exact .inr (.inr h1)
      · exact .inr (.inl h1)
    · rintro (h1 | h1 | h1)
      · exact .inl h1
      · exact .inr (.inr h1)
      · exact .inr (.inl h1)
  · rw [List.nodup_append]
    refine ⟨h.nod, by simp, ?_⟩
    intro x hx y hy e
    rw [List.mem_singleton] at hy
    subst hy e
    exact (h.new _ hx).2 rfl
  · rcases List.mem_append.1 hz with h1 | h1
    · exact (h.new z h1).1
    · rw [List.mem_singleton] at h1; subst h1; exact hn
  · rcases List.mem_append.1 hz with h1 | h1
    · exact h.rch z h1
    · rw [List.mem_singleton] at h1; subst h1; exact .self
  · rcases List.mem_append.1 hz with h1 | h1
    · exact h.clo z h1 q hq
    · rw [List.mem_singleton] at h1
      subst h1
      obtain ⟨i, hi, rfl⟩ := List.getElem_of_mem hq
      exact h.par i hi hi
  · have e : i = 0 := by simp at hi; omega
    subst e
    obtain ⟨j, hj, rfl⟩ := List.getElem_of_mem hq
    exact h.par j hj hj
  · rw [List.mem_singleton] at hz
    subst hz
    rcases (h.mem q).1 hq2 with h1 | h1 | h1
    · exact .inl h1
    · subst h1
      exact absurd hqz (hA.up .self)
    · exact .inr h1
/-- from nothing a walk adds just what is reached -/
theorem walked_all {l : List Pr} {id : ByteArray} {ext S' : List ByteArray} (h : Walked l [] id ext S') : ext.Nodup ∧ (∀ z ∈ ext, rdOk (valOf l z) = true) ∧ ∀ z, z ∈ ext ↔ rdOk (valOf l id) = true ∧ Reach l id z := by
  have hm : ∀ z, z ∈ S' ↔ z ∈ ext := fun z => by rw [h.mem z]; simp
  have hin : rdOk (valOf l id) = true → ∀ z, Reach l id z → z ∈ ext := fun hr z hz => by
    induction hz with
    | self => exact (hm id).1 (h.has hr)
    | next _ hq ih => exact (hm _).1 (h.clo _ ih _ hq)
  refine ⟨h.nod, fun z hz => h.set.2 z ((hm z).2 hz), fun z => ⟨fun hz => ⟨?_, h.rch z hz⟩, fun ⟨hr, hz⟩ => hin hr z hz⟩⟩
  · cases hr : rdOk (valOf l id)
    · have h1 := h.rch z hz
      have h2 : ∀ y, Reach l id y → y = id := by
        intro y hy
        induction hy with
        | self => rfl
        | next _ hq ih => rw [ih, parK_no hr] at hq; cases hq
      have h3 := h.set.2 z ((hm z).2 hz)
      rw [h2 z h1, hr] at h3
      cases h3
    · rfl
end Go.Proofs.YtdahpnjamlfakaaGreatDoor
/-
  What a round of a range over behind keeps; the set of what was seen, in memory; the repository's commits as one function of their ids.
-/
namespace Go.Proofs.YtdahpnjamlfakaaGreatDoor
open Go.RowKit Go.Maps

/-- boxes of repositories and of commits -/
def isBox (o : Obj) : Prop := (∃ c f, o = .cells c 47 f) ∨ (∃ c f, o = .cells c 30 f)
/-- nothing below block n₀ has turned, and no box -/
structure KB (n₀ : Nat) (W W' : World) : Prop where
  bel : Below n₀ W W'
  box : ∀ (k : Nat) (o : Obj), W.heap[k]? = some o → isBox o → W'.heap[k]? = some o
theorem KB.refl (n₀ : Nat) (W : World) : KB n₀ W W := ⟨Below.refl _ _, fun _ _ h _ => h⟩
theorem KB.trans {n₀ : Nat} {A B C : World} (h : KB n₀ A B) (k : KB n₀ B C) : KB n₀ A C := ⟨h.bel.trans k.bel, fun i o ho hk => k.box i o (h.box i o ho hk) hk⟩
theorem KB.alloc {n₀ : Nat} {W : World} (h : n₀ ≤ W.heap.size) (o : Obj) : KB n₀ W (W.alloc o) := ⟨(Below.refl _ _).alloc h o, fun k _ hk _ => (Below.heap_alloc W o k (Array.getElem?_eq_some_iff.1 hk).1).trans hk⟩
theorem KB.grown {n₀ r : Nat} {W W' : World} (hg : W.grownBy W' (some r)) (hr : n₀ ≤ r) (hs : n₀ ≤ W.heap.size) (ho : ∀ o, W.heap[r]? = some o → ¬ isBox o) : KB n₀ W W' := by
  refine ⟨⟨hg.os, hg.tape, hg.output, hg.size, fun k hk => hg.block k (by omega) (fun e => by injection e with e; omega)⟩, fun k o hk hk2 => ?_⟩
  refine (hg.block k (Array.getElem?_eq_some_iff.1 hk).1 (fun e => ?_)).trans hk
  injection e with e
  subst e
  exact ho o hk hk2
/-- what a round keeps: so, and maps from block n₁ on -/
structure Keep (n₀ n₁ : Nat) (W W' : World) : Prop extends KB n₀ W W' where
  mp : ∀ (k : Nat) (o : Obj), n₁ ≤ k → W.heap[k]? = some o → o.isWalk = true → W'.heap[k]? = some o
theorem Keep.refl (n₀ n₁ : Nat) (W : World) : Keep n₀ n₁ W W := ⟨KB.refl _ _, fun _ _ _ h _ => h⟩
theorem Keep.trans {n₀ n₁ : Nat} {A B C : World} (h : Keep n₀ n₁ A B) (k : Keep n₀ n₁ B C) : Keep n₀ n₁ A C := ⟨h.toKB.trans k.toKB, fun i o hi ho hw => k.mp i o hi (h.mp i o hi ho hw) hw⟩
theorem Keep.alloc {n₀ n₁ : Nat} {W : World} (h : n₀ ≤ W.heap.size) (o : Obj) : Keep n₀ n₁ W (W.alloc o) := ⟨KB.alloc h o, fun k _ _ hk _ => (Below.heap_alloc W o k (Array.getElem?_eq_some_iff.1 hk).1).trans hk⟩
theorem not_box {o : Obj} (h : o.isCells = false) : ¬ isBox o := by
  rintro (⟨c, f, rfl⟩ | ⟨c, f, rfl⟩) <;> cases h
theorem Keep.putObj {n₀ n₁ : Nat} (W : World) (l : Nat) (o o' : Obj) (hn : n₀ ≤ l) (hl : W.heap[l]? = some o) (hc : o.isCells = false) (hw : o.isWalk = false) : Keep n₀ n₁ W (W.putObj l o') := by
  have hg := grownBy_putObj' W l o'
  refine ⟨KB.grown hg hn (Nat.le_trans hn (Nat.le_of_lt (Array.getElem?_eq_some_iff.1 hl).1)) (fun o2 h => by rw [hl] at h; injection h with h; subst h; exact not_box hc), fun k o2 _ hk hk2 => ?_⟩
  by_cases e : k = l
  · subst e
    rw [hl] at hk
    injection hk with hk
    subst hk
    rw [hw] at hk2
    cases hk2
  · exact (hg.block k (Array.getElem?_eq_some_iff.1 hk).1 (fun e' => by injection e' with e'; exact e e')).trans hk
/-- a step that turns one block of cells, no box -/
theorem Keep.grown {n₀ n₁ r : Nat} {W W' : World} (hg : W.grownBy W' (some r)) (hr : n₀ ≤ r) (hs : n₀ ≤ W.heap.size) (ho : ∀ o, W.heap[r]? = some o → ¬ isBox o ∧ o.isCells = true) : Keep n₀ n₁ W W' := by
  refine ⟨KB.grown hg hr hs (fun o h => (ho o h).1), fun k o _ hk hw => ?_⟩
  refine (hg.block k (Array.getElem?_eq_some_iff.1 hk).1 (fun e => ?_)).trans hk
  injection e with e
  subst e
  have h1 := (ho o hk).2
  rw [Obj.not_cells_of_walk hw] at h1
  cases h1

/-- the set of what was seen -/
structure Seen (W : World) (bs : Nat) (S : List ByteArray) : Prop where
  map : HMap W bs S.length (S.map fun k => (k, .bool true))
  nod : S.Nodup
theorem seen_apart {S : List ByteArray} (h : S.Nodup) : (S.map fun k => (k, Value.bool true)).Pairwise fun x y => x.1 ≠ y.1 := List.pairwise_map.2 (h.imp fun hne e => hne e)
set_option maxRecDepth 100000 in
theorem Seen.look {W : World} {bs : Nat} {S : List ByteArray} (h : Seen W bs S) {k : ByteArray} (hk : k.size ≤ maxLen) :
    (Instr.lookup 133 (.map (some bs)) (.string k) false).run Tryz.prog W = .ok (.bool (memK S k)) W := by
  obtain ⟨v, h1, h2⟩ := h.map.get Tryz.underlying133 (z := .bool false) (by kernel_rfl) hk
  have e : v = .bool (memK S k) := by
    by_cases hm : k ∈ S
    · have h3 := (hD_hit (seen_apart h.nod) (show (k, Value.bool true) ∈ _ from List.mem_map.2 ⟨k, hm, rfl⟩)).2 (.held (.bool false))
      rw [h3] at h2
      injection h2 with h2
      rw [← h2, memK_iff.2 hm]
    · have h3 := (hD_miss (L := S.map fun k => (k, Value.bool true)) (k := k) (fun x hx e => by
        obtain ⟨z, hz, rfl⟩ := List.mem_map.1 hx
        exact hm (e ▸ hz))).2 (.held (.bool false))
      rw [h3] at h2
      injection h2 with h2
      rw [← h2, memK_no hm]
  rw [← e]
  exact h1
set_option maxRecDepth 100000 in
theorem Seen.store {W : World} {bs : Nat} {S : List ByteArray} (h : Seen W bs S) (hn : S.length < maxLen) {k : ByteArray} (hk : k.size ≤ maxLen) (hm : k ∉ S) :
    ∃ W', (Instr.mapUpdate 133 (.map (some bs)) (.string k) (.bool true)).run Tryz.prog W = .ok () W' ∧ Seen W' bs (S ++ [k]) ∧ W.grownBy W' (some bs) := by
  obtain ⟨W', h1, h2, h3⟩ := h.map.store Tryz.underlying133 hn hk (.bool true)
  refine ⟨W', h1, ⟨?_, ?_⟩, h3⟩
  · rw [List.map_append, List.length_append]
    exact h2
  · rw [List.nodup_append]
    refine ⟨h.nod, by simp, ?_⟩
    intro x hx y hy e
    rw [List.mem_singleton] at hy
    subst hy e
    exact hm hx
theorem Seen.obj {W : World} {bs : Nat} {S : List ByteArray} (h : Seen W bs S) : ∃ o : Obj, W.heap[bs]? = some o ∧ o.isWalk = true := by
  obtain ⟨⟨es, clock, hb, _⟩, _⟩ := h
  exact ⟨_, hb, rfl⟩
theorem Seen.same {W W' : World} {bs : Nat} {S : List ByteArray} (h : Seen W bs S) (hs : ∀ o, W.heap[bs]? = some o → W'.heap[bs]? = some o) : Seen W' bs S := by
  obtain ⟨⟨es, clock, hb, r⟩, n⟩ := h
  exact ⟨⟨es, clock, hs _ hb, r⟩, n⟩
theorem Seen.keep {n₀ n₁ : Nat} {W W' : World} {bs : Nat} {S : List ByteArray} (h : Seen W bs S) (hk : Keep n₀ n₁ W W') (hb : n₁ ≤ bs) : Seen W' bs S :=
  h.same fun o ho => by
    obtain ⟨o', ho', hw⟩ := h.obj
    rw [ho] at ho'
    injection ho' with e
    subst e
    exact hk.mp bs o hb ho hw

/-- a repository's commits, as one function of their ids -/
structure RepoW (w₀ : World) (B bm bc : Nat) (l : List Pr) (vs : List Value) (rA : ByteArray → Option Addr) (rC : ByteArray → Nat) : Prop where
  rep : repoB l = true
  mem : RepoM w₀ B bm bc 60 l vs
  com : ∀ W, Below w₀.heap.size w₀ W → ∀ k, k.size ≤ maxLen → (Instr.lookup 45 (.map (some bc)) (.string k) true).run Tryz.prog W = .ok (.tuple #[.agg #[.string (treK l k), .slice (rA k) (parK l k).length (rC k), .string (notK l k)], .bool (rdOk (valOf l k))]) W
  row : ∀ k, ZOwn w₀ B (rA k) (rC k) (parK l k)
set_option maxRecDepth 100000 in
theorem com_ex {w : World} {B bm bc n : Nat} {l : List Pr} {vs : List Value} (h : RepoM w B bm bc n l vs) (k : ByteArray) :
    ∃ A cap, (hD (comsE l vs)).atKey (keyL k) (.held (.agg #[.string ByteArray.empty, .slice none 0 0, .string ByteArray.empty])) = .held (.agg #[.string (treK l k), .slice A (parK l k).length cap, .string (notK l k)]) ∧ ZOwn w B A cap (parK l k) := by
  have hv : ∃ v, (hD (comsE l vs)).atKey (keyL k) (.held (.agg #[.string ByteArray.empty, .slice none 0 0, .string ByteArray.empty])) = .held v := by
    cases hh : has (hD (comsE l vs)) (keyL k)
    · exact ⟨_, atKey_of_not_has hh _⟩
    · obtain ⟨v, hm⟩ := hD_has hh
      exact ⟨v, (hD_hit (comsE_apart h.ris vs) hm).2 _⟩
  obtain ⟨v, hv⟩ := hv
  obtain ⟨A, cap, e, o⟩ := h.com k hv
  exact ⟨A, cap, by rw [hv, e]; rfl, o⟩
set_option maxRecDepth 100000 in
theorem RepoM.toW {w : World} {B bm bc : Nat} {l : List Pr} {vs : List Value} (h : RepoM w B bm bc 60 l vs) (hr : repoB l = true) : ∃ rA rC, RepoW w B bm bc l vs rA rC := by
  refine ⟨fun k => Classical.choose (com_ex h k), fun k => Classical.choose (Classical.choose_spec (com_ex h k)), hr, h, fun W hb k hk => ?_, fun k => (Classical.choose_spec (Classical.choose_spec (com_ex h k))).2⟩
  obtain ⟨v, h1, h2⟩ := (h.below hb).co.look Tryz.underlying45 (zeroC W) hk
  have h3 := (Classical.choose_spec (Classical.choose_spec (com_ex h k))).1
  rw [h3] at h2
  injection h2 with h2
  rw [has_coms h.ris h.len k, ← h2] at h1
  exact h1
end Go.Proofs.YtdahpnjamlfakaaGreatDoor
/-
  What impl.repo's walk does with the rounds of a range over behind.
-/
namespace Go.Proofs.YtdahpnjamlfakaaGreatDoor
open Go.RowKit Go.Shelf Go.Maps

attribute [local go_sem] Oper.semAt_some

theorem roomN {F : Fence} (hd : F.depth = none) (k : Nat) : F.room k := fun d h => by rw [hd] at h; cases h
theorem roundAny {F : Fence} (hd : F.depth = none) {m m' : Nat} {P : Program} {l : Nat} {f : FuncId} {tmps : Array Value} {assign body : Code} {w : World} {R : Ending → World → Prop}
    (h : RoundIn F m P l f tmps assign body w R) : RoundIn F m' P l f tmps assign body w R := ⟨h.1, fun c cs _ => h.2 c cs (roomN hd _)⟩
theorem yieldAny {F : Fence} (hd : F.depth = none) {m : Nat} (m' : Nat) {P : Program} {l : Nat} {args : Array Value} {W : World} {R : Ending → World → Prop} (h : YieldAt F m P l args W R) : YieldAt F m' P l args W R := by
  obtain ⟨fn, tmps, assign, body, hy, hR⟩ := h
  exact ⟨fn, tmps, assign, body, hy, roundAny hd hR⟩

/-- the commits of a repository, as rounds are handed them -/
abbrev ComI (l : List Pr) : Type := { k : ByteArray // rdOk (valOf l k) = true ∧ k.size ≤ maxLen }
def encC (l : List Pr) (tr nt : ByteArray → ByteArray) (pn : ByteArray → Nat) (rA : ByteArray → Option Addr) (rC : ByteArray → Nat) (x : ComI l) : Array Value := #[.string x.1, .agg #[.string (tr x.1), .slice (rA x.1) (pn x.1) (rC x.1), .string (nt x.1)]]
noncomputable def lenK (l : List Pr) (k : ByteArray) : Nat := (parK l k).length

set_option maxRecDepth 100000 in
set_option maxHeartbeats 2000000 in
theorem walk_in {w₀ : World} {B bm bc : Nat} {l : List Pr} {vs : List Value} {rA : ByteArray → Option Addr} {rC : ByteArray → Nat} (bt : Nat) (R : RepoW w₀ B bm bc l vs rA rC) (F : Fence) (hd : F.depth = none) (hf : F.fn 108) (hro : F.round = none) (lr n₁ base bs : Nat) (hn : w₀.heap.size ≤ n₁) (hnb : n₁ ≤ base) (hbs : base ≤ bs)
    (J Jx : List (ComI l) → World → Prop) (hJ : AbidesFrom base J)
    (hY : ∀ m pre x W, J pre W → pre.length < 60 → YieldAt F m Tryz.prog lr (encC l (treK l) (notK l) (lenK l) rA rC x) W fun e W' => (e = .returned (.bool true) ∧ J (pre ++ [x]) W' ∧ Keep w₀.heap.size n₁ W W') ∨ (e = .returned (.bool false) ∧ Jx (pre ++ [x]) W')) :
    ∀ (fuel n : Nat) (id : ByteArray) (S : List ByteArray) (pre : List (ComI l)) (W : World), 61 ≤ fuel + S.length → id.size ≤ maxLen → SetC l S → Seen W bs S → (pre.map fun z => z.1).Nodup → (∀ z ∈ pre, z.1 ∈ S) → base ≤ W.heap.size → Below w₀.heap.size w₀ W → J pre W →
      CallsIn F n Tryz.prog 108 #[.agg #[.map (some bt), .map (some bm), .map (some bc)], .string id, .map (some bs), .func (.yield lr) #[] #[]] W fun e W' =>
        (e = .returned (.bool true) ∧ ∃ ext S', Walked l S id (ext.map fun z => z.1) S' ∧ J (pre ++ ext) W' ∧ Seen W' bs S' ∧ KB w₀.heap.size W W') ∨ (e = .returned (.bool false) ∧ ∃ q : List (ComI l), (∀ z ∈ q, Reach l id z.1) ∧ Jx (pre ++ q) W') := by
  have hdd : ∀ k : Nat, (F.depth.isSome = true → 1 ≤ k) := fun k h => by rw [hd] at h; cases h
  have ho := (repoB_iff.1 R.rep).1
  intro fuel
  induction fuel with
  | zero =>
    intro n id S pre W hfu _ hS
    have := setC_len ho hS
    omega
  | succ fuel ih =>
    intro n id S pre W hfu hid hS hSe hpn hps hbW hbel hJ0
    have hbx : Below w₀.heap.size w₀ ((W.alloc (.cells #[.map (some bt), .map (some bm), .map (some bc)] 47))) := hbel.alloc hbel.size _
    have hlk := R.com _ hbx id hid
    have XR := hide (heap_alloc_new W (.cells #[.map (some bt), .map (some bm), .map (some bc)] 47))
    have x2 := cell_of_row _ _ 2 _ _ _ XR.out
    have bx := boxC_below (W.alloc (.cells #[.map (some bt), .map (some bm), .map (some bc)] 47)) (.string (treK l id)) (.slice (rA id) (parK l id).length (rC id)) (.string (notK l id))
    have XC := hide (boxC (W.alloc (.cells #[.map (some bt), .map (some bm), .map (some bc)] 47)) (treK l id) (notK l id) (rA id) (parK l id).length (rC id))
    have G2 : Hid (W.grownBy ((W.alloc (.cells #[.map (some bt), .map (some bm), .map (some bc)] 47)).alloc (.cells #[.string (treK l id), .slice (rA id) (parK l id).length (rC id), .string (notK l id)] 30)) none) := hide ((World.grownBy_alloc _ _ none).trans (World.grownBy_alloc _ _ none))
    have K2 : Hid (KB w₀.heap.size W ((W.alloc (.cells #[.map (some bt), .map (some bm), .map (some bc)] 47)).alloc (.cells #[.string (treK l id), .slice (rA id) (parK l id).length (rC id), .string (notK l id)] 30))) := hide ((KB.alloc hbel.size _).trans (KB.alloc hbx.size _))
    have J2 := hide (hJ _ _ _ none hJ0 G2.out (fun r e => by cases e))
    have SE2 : Hid (Seen ((W.alloc (.cells #[.map (some bt), .map (some bm), .map (some bc)] 47)).alloc (.cells #[.string (treK l id), .slice (rA id) (parK l id).length (rC id), .string (notK l id)] 30)) bs S) := hide (hSe.same fun o h => (G2.out.block bs (Array.getElem?_eq_some_iff.1 h).1 (by simp)).trans h)
    have hsl := SE2.out.look hid
    have hz := (R.row id).zin
    have PSZ := hide (fun (q : ByteArray) (h : q ∈ parK l id) => parK_size h)
    cases hr : rdOk (valOf l id)
    · have WN : Hid (Walked l S id [] S) := hide (walked_none hS (fun h => by rw [hr] at h; cases h))
      rw [hr] at hlk
      clear ih hY hz PSZ bx hbx XR XC G2 hsl
      generalize treK l id = tr at *
      generalize notK l id = nt at *
      generalize (parK l id).length = np at *
      refine callsIn_of_wp Tryz.func108 rfl hf ?_ hro
      simp only [Tryz.ntmps108, List.size_toArray, List.length_cons, List.length_nil, Nat.reduceAdd, Nat.reduceSub, Array.replicate_succ, Array.replicate_zero, List.push_toArray, List.append_toArray, List.nil_append, List.cons_append]
      gi_wp2
      go_ret
      exact .inl ⟨rfl, [], S, WN.out, by rw [List.append_nil]; exact J2.out, SE2.out, K2.out⟩
    · cases hm : memK S id
      · have hnin : id ∉ S := fun h => by rw [memK_iff.2 h] at hm; cases hm
        obtain ⟨W3, hst, se3, g3⟩ := SE2.out.store (by have := setC_len ho hS; unfold maxLen; omega) hid hnin
        have g3box : ∀ o, ((W.alloc (.cells #[.map (some bt), .map (some bm), .map (some bc)] 47)).alloc (.cells #[.string (treK l id), .slice (rA id) (parK l id).length (rC id), .string (notK l id)] 30)).heap[bs]? = some o → ¬ isBox o := fun o h => by
          obtain ⟨o', h', hw⟩ := SE2.out.obj
          rw [h] at h'
          injection h' with e
          subst e
          exact not_box (Obj.not_cells_of_walk hw)
        have KG := KB.grown (n₀ := w₀.heap.size) g3 (by omega) (Nat.le_trans hbel.size K2.out.bel.size) g3box
        have K3 := hide (K2.out.trans KG)
        have J3 := hide (hJ _ _ _ (some bs) J2.out g3 (fun r e => by injection e with e; subst e; exact ⟨hbs, SE2.out.obj⟩))
        have XR3 := hide (((KB.alloc hbx.size _).trans KG).box _ _ XR.out (.inl ⟨_, _, rfl⟩))
        have XC3 := hide (KG.box _ _ XC.out (.inr ⟨_, _, rfl⟩))
        have SE3 := hide se3
        have B3 := hide (hbel.trans K3.out.bel)
        have hs3 : base ≤ W3.heap.size := Nat.le_trans hbW K3.out.bel.size
        have WK0 := hide (walking_start hS hr hnin)
        have HN := hide hnin
        have YI : Hid (∀ m pre W, J pre W → pre.length < 60 → YieldAt F m Tryz.prog lr #[.string id, .agg #[.string (treK l id), .slice (rA id) (parK l id).length (rC id), .string (notK l id)]] W fun e W' => (e = .returned (.bool true) ∧ J (pre ++ [⟨id, hr, hid⟩]) W' ∧ Keep w₀.heap.size n₁ W W') ∨ (e = .returned (.bool false) ∧ Jx (pre ++ [⟨id, hr, hid⟩]) W')) := hide (fun m pre W h1 h2 => hY m pre ⟨id, hr, hid⟩ W h1 h2)
        have IH := hide ih
        have HS := hide hS
        have HPN := hide hpn
        have HPS := hide hps
        rw [hr] at hlk
        rw [hm] at hsl
        clear ih hY bx hbx XC XR G2 SE2 K2 J2 g3 se3 g3box KG hm hnin hbel hS hpn hps hJ0 hSe
        generalize treK l id = tr at *
        generalize notK l id = nt at *
        generalize rA id = A at *
        generalize rC id = c at *
        generalize hnp : (parK l id).length = np at hlk hsl hst K3 XR3 XC3 YI J3 B3 SE3 ⊢
        have NP := hide hnp
        clear hnp
        rw [World.size_alloc] at XC3
        have np2 : np ≤ 2 := by rw [← NP.out]; exact parK_len l id
        have z1 := cell_of_row _ _ 1 _ _ _ XC3.out
        refine callsIn_of_wp Tryz.func108 rfl hf ?_ hro
        simp only [Tryz.ntmps108, List.size_toArray, List.length_cons, List.length_nil, Nat.reduceAdd, Nat.reduceSub, Array.replicate_succ, Array.replicate_zero, List.push_toArray, List.append_toArray, List.nil_append, List.cons_append]
        gi_wp2
        gi_loopw [32] (fun iv wr => ∃ (k : Nat) (ext : List (ComI l)) (S' : List ByteArray), k ≤ np ∧ iv = .int .i64 k ∧ Hid (Walking l S id k (ext.map fun z => z.1) S') ∧ Hid (J (pre ++ ext) wr) ∧ Hid (Seen wr bs S') ∧ Hid (KB w₀.heap.size W3 wr)) (fun i _ => np - (intOf i).toNat)
        case atStart => exact ⟨0, [], S ++ [id], Nat.zero_le _, rfl, WK0, hide (by rw [List.append_nil]; exact J3.out), SE3, hide (KB.refl _ _)⟩
        case round =>
          obtain ⟨k, ext, S', hk, rfl, WK, JJ, SE, KK⟩ := hrel
          have belr := hide (B3.out.trans KK.out.bel)
          have hsr : base ≤ wr.heap.size := Nat.le_trans hs3 KK.out.bel.size
          have HPE : Hid (((pre ++ ext).map fun z => z.1).Nodup) := hide (by
            rw [List.map_append, List.nodup_append]
            refine ⟨HPN.out, WK.out.nod, ?_⟩
            intro x hx y hy e
            subst e
            obtain ⟨z, hz1, hz2⟩ := List.mem_map.1 hx
            exact (WK.out.new _ hy).1 (hz2 ▸ HPS.out z hz1))
          have HPM : Hid (∀ z ∈ pre ++ ext, z.1 ∈ S') := hide (fun z hz => by
            rcases List.mem_append.1 hz with h | h
            · exact (WK.out.mem _).2 (.inl (HPS.out z h))
            · exact (WK.out.mem _).2 (.inr (.inr (List.mem_map.2 ⟨z, h, rfl⟩))))
          have HL : S.length + 1 ≤ S'.length := by
            have h := nodup_len (S := S ++ [id]) (T := S') WK0.out.set.1 (fun z hz => by
              rcases List.mem_append.1 hz with h | h
              · exact (WK.out.mem _).2 (.inl h)
              · rw [List.mem_singleton] at h; exact (WK.out.mem _).2 (.inr (.inl h)))
            simpa using h
          by_cases hlt : k < np
          · have hkl : k < (parK l id).length := by rw [NP.out]; exact hlt
            obtain ⟨b, off, eA, hb, hc⟩ := hz (by omega)
            subst eA
            have c1 := (belr.out.cell (p := ⟨b, off + k, none⟩) hb).trans (hc k hkl)
            have XRr := hide (KK.out.box _ _ XR3.out (.inl ⟨_, _, rfl⟩))
            have x0 := cell_of_row _ _ 0 _ _ _ XRr.out
            have x1 := cell_of_row _ _ 1 _ _ _ XRr.out
            have x2' := cell_of_row _ _ 2 _ _ _ XRr.out
            have WS : Hid (∀ ext2 S2, Walked l S' ((parK l id)[k]'hkl) ext2 S2 → Walking l S id (k + 1) ((ext.map fun z => z.1) ++ ext2) S2) := hide (fun ext2 S2 h => walking_step R.rep WK.out hkl h)
            have qs := PSZ.out _ (List.getElem_mem hkl)
            have I1 := hide (IH.out (n - 1) ((parK l id)[k]'hkl) S' (pre ++ ext) wr (by omega) (by unfold maxLen; omega) WK.out.set SE.out HPE.out HPM.out hsr belr.out JJ.out)
            have RQ : Hid (∀ z, Reach l ((parK l id)[k]'hkl) z → Reach l id z) := hide (fun z h => (Reach.self.next (List.getElem_mem hkl)).trans h)
            have RE := hide WK.out.rch
            have HK1 := hide (show k + 1 ≤ np from hlt)
            clear hc WK HPE HPM IH SE JJ
            generalize (parK l id)[k]'hkl = q at *
            gi_wp2_with ((try refine ⟨hdd _, ?_⟩); gi_at_call 108; refine I1.out.mono ?_; rintro e W5 (⟨rfl, ext2, S2, hw5, hj5, se5, kb5⟩ | ⟨rfl, q2, hq2, hx5⟩))
            · have WW := hide (WS.out _ _ hw5)
              have J5 := hide hj5
              have SE5 := hide se5
              have KK5 := hide (KK.out.trans kb5)
              clear hw5 hj5 se5 kb5 I1
              go_roundw
              case rel => exact ⟨k + 1, ext ++ ext2, S2, HK1.out, by have := HK1.out; go_num, hide (by rw [List.map_append]; exact WW.out), hide (by rw [← List.append_assoc]; exact J5.out), SE5, KK5⟩
              case measure => have := HK1.out; simp [intOf]; omega
            · go_ret
              refine .inr ⟨rfl, ext ++ q2, fun z hz => ?_, by rw [← List.append_assoc]; exact hx5⟩
              rcases List.mem_append.1 hz with h | h
              · exact RE.out _ (List.mem_map.2 ⟨z, h, rfl⟩)
              · exact RQ.out _ (hq2 z h)
          · have ek : k = (parK l id).length := by rw [NP.out]; omega
            have WE : Hid (Walked l S id ((ext ++ [⟨id, hr, hid⟩] : List (ComI l)).map fun z => z.1) S') := hide (by
              rw [List.map_append]
              exact walking_end (by rw [← ek]; exact WK.out) HN.out)
            have hlen : (pre ++ ext).length < 60 := by
              have h1 : (((pre ++ ext).map fun z => z.1) ++ [id]).Nodup := by
                rw [List.nodup_append]
                refine ⟨HPE.out, by simp, ?_⟩
                intro x hx y hy e
                rw [List.mem_singleton] at hy
                subst hy e
                rw [List.map_append] at hx
                rcases List.mem_append.1 hx with h | h
                · obtain ⟨z, hz1, hz2⟩ := List.mem_map.1 h
                  exact HN.out (hz2 ▸ HPS.out z hz1)
                · exact (WK.out.new _ h).2 rfl
              have h2 := nodup_len (T := S') h1 (fun z hz => by
                rcases List.mem_append.1 hz with h | h
                · obtain ⟨y, hy1, hy2⟩ := List.mem_map.1 h
                  exact hy2 ▸ HPM.out y hy1
                · rw [List.mem_singleton] at h; rw [h]; exact (WK.out.mem _).2 (.inr (.inl rfl)))
              have h3 := setC_len ho WK.out.set
              rw [List.length_append, List.length_map, List.length_singleton] at h2
              omega
            have hgt : ¬ ((k : Int) < (np : Int)) := by omega
            have XCr := hide (KK.out.box _ _ XC3.out (.inr ⟨_, _, rfl⟩))
            have y0 := cell_of_row _ _ 0 _ _ _ XCr.out
            have y1 := cell_of_row _ _ 1 _ _ _ XCr.out
            have y2 := cell_of_row _ _ 2 _ _ _ XCr.out
            obtain ⟨fn, tmps, assign, body, hy, hR⟩ := YI.out (n - 1) (pre ++ ext) wr JJ.out hlen
            have RE := hide WK.out.rch
            have SEr := hide SE.out
            clear ek hlt YI IH WK HPE HPM JJ SE
            gi_wp2_with ((try refine ⟨hdd _, ?_⟩); refine hR.mono ?_; rintro e W5 (⟨rfl, hj5, kp5⟩ | ⟨rfl, hx5⟩))
            · go_ret
              exact .inl ⟨rfl, ext ++ [⟨id, hr, hid⟩], S', WE.out, by rw [← List.append_assoc]; exact hj5, SEr.out.keep kp5 (by omega), (K3.out.trans KK.out).trans kp5.toKB⟩
            · go_ret
              refine .inr ⟨rfl, ext ++ [⟨id, hr, hid⟩], fun z hz => ?_, by rw [← List.append_assoc]; exact hx5⟩
              rcases List.mem_append.1 hz with h | h
              · exact RE.out _ (List.mem_map.2 ⟨z, h, rfl⟩)
              · rw [List.mem_singleton] at h; subst h; exact .self
      · have WN : Hid (Walked l S id [] S) := hide (walked_none hS (fun _ => memK_iff.1 hm))
        rw [hr] at hlk
        rw [hm] at hsl
        clear ih hY hz PSZ bx hbx XR XC G2
        generalize treK l id = tr at *
        generalize notK l id = nt at *
        generalize (parK l id).length = np at *
        refine callsIn_of_wp Tryz.func108 rfl hf ?_ hro
        simp only [Tryz.ntmps108, List.size_toArray, List.length_cons, List.length_nil, Nat.reduceAdd, Nat.reduceSub, Array.replicate_succ, Array.replicate_zero, List.push_toArray, List.append_toArray, List.nil_append, List.cons_append]
        gi_wp2
        go_ret
        exact .inl ⟨rfl, [], S, WN.out, by rw [List.append_nil]; exact J2.out, SE2.out, K2.out⟩
end Go.Proofs.YtdahpnjamlfakaaGreatDoor
/-
  What impl.repo's behind hands back: a value that ranges over what is behind a commit.
-/
namespace Go.Proofs.YtdahpnjamlfakaaGreatDoor
open Go.RowKit Go.Shelf Go.Maps

attribute [local go_sem] Oper.semAt_some

/-- all have come · some of them have -/
def SAll (l : List Pr) (id : ByteArray) (xs : List (ComI l)) : Prop := (xs.map fun z => z.1).Nodup ∧ ∀ z, z ∈ (xs.map fun z => z.1) ↔ rdOk (valOf l id) = true ∧ Reach l id z
/-- all have come, parents ahead where there are no rings -/
def SAllO (l : List Pr) (id : ByteArray) (xs : List (ComI l)) : Prop := SAll l id xs ∧ (Acy l → OrdK l [] (xs.map fun z => z.1))
def SPart (l : List Pr) (id : ByteArray) (xs : List (ComI l)) : Prop := ∀ z ∈ xs, Reach l id z.1

set_option maxRecDepth 100000 in
set_option maxHeartbeats 1000000 in
theorem behind1_in {w₀ : World} {B bm bc : Nat} {l : List Pr} {vs : List Value} {rA : ByteArray → Option Addr} {rC : ByteArray → Nat} (bt : Nat) (R : RepoW w₀ B bm bc l vs rA rC) (F : Fence) (hd : F.depth = none) (h1 : F.fn 107) (hf : F.fn 108) (hro : F.round = none) (n lr n₁ br bi : Nat) (id : ByteArray) (hid : id.size ≤ maxLen) (W : World) (hn : w₀.heap.size ≤ n₁) (hnb : n₁ ≤ W.heap.size)
    (J Jx : List (ComI l) → World → Prop) (hJ : AbidesFrom W.heap.size J)
    (hY : ∀ pre x W, J pre W → pre.length < 60 → YieldAt F (n - 1) Tryz.prog lr (encC l (treK l) (notK l) (lenK l) rA rC x) W fun e W' => (e = .returned (.bool true) ∧ J (pre ++ [x]) W' ∧ Keep w₀.heap.size n₁ W W') ∨ (e = .returned (.bool false) ∧ Jx (pre ++ [x]) W'))
    (hbel : Below w₀.heap.size w₀ W) (hX : W.heap[br]? = some (.cells #[.map (some bt), .map (some bm), .map (some bc)] 47 (0, 0))) (hI : W.heap[bi]? = some (.cells #[.string id] 9 (0, 0))) (h0 : J [] W) :
    CallsIn F n Tryz.prog 107 #[.func (.yield lr) #[] #[], .pointer (some ⟨br, 0, none⟩), .pointer (some ⟨bi, 0, none⟩)] W fun e W' => (∃ v, e = .returned v) ∧ ((∃ xs, SAllO l id xs ∧ J xs W') ∨ (∃ pre, SPart l id pre ∧ Jx pre W')) := by
  have hdd : ∀ k : Nat, (F.depth.isSome = true → 1 ≤ k) := fun k h => by rw [hd] at h; cases h
  have SE : Seen (W.alloc (.map #[] 0)) W.heap.size [] := ⟨hmap_made W, .nil⟩
  have hj1 := hJ _ _ _ none h0 (World.grownBy_alloc W (.map #[] 0) none) (fun r e => by cases e)
  have WK := hide (walk_in bt R F hd hf hro lr n₁ W.heap.size W.heap.size hn hnb (Nat.le_refl _) J Jx hJ (fun m pre x W hj hl => yieldAny hd m (hY pre x W hj hl)) 61 (n - 1) id [] [] (W.alloc (.map #[] 0)) (by simp) hid ⟨.nil, by simp⟩ SE .nil (by simp) (by simp) (hbel.alloc hbel.size _) hj1)
  have hmk := @run_makeMap Tryz.prog
  have x0 := cell_of_row _ _ 0 _ _ _ hX
  have x1 := cell_of_row _ _ 1 _ _ _ hX
  have x2 := cell_of_row _ _ 2 _ _ _ hX
  have y0 := cell_of_row _ _ 0 _ _ _ hI
  clear hY hJ hj1 h0 SE
  refine callsIn_of_wp Tryz.func107 rfl h1 ?_ hro
  simp only [Tryz.ntmps107, List.size_toArray, List.length_cons, List.length_nil, Nat.reduceAdd, Nat.reduceSub, Array.replicate_succ, Array.replicate_zero, List.push_toArray, List.append_toArray, List.nil_append, List.cons_append]
  gi_wp2_with ((try refine ⟨hdd _, ?_⟩); gi_at_call 108; refine WK.out.mono ?_; clear WK; rintro e W1 (⟨rfl, ext, S', hw, hj, _⟩ | ⟨rfl, q, hq, hx⟩))
  · go_end0
    obtain ⟨a1, _, a3⟩ := walked_all hw
    exact ⟨⟨_, rfl⟩, .inl ⟨ext, ⟨⟨a1, a3⟩, hw.ord⟩, by simpa using hj⟩⟩
  · go_end0
    exact ⟨⟨_, rfl⟩, .inr ⟨q, hq, by simpa using hx⟩⟩

set_option maxRecDepth 100000 in
set_option maxHeartbeats 1000000 in
theorem behind_in (F : Fence) (hf : F.fn 64) (hro : F.round = none) (n bt bm bc : Nat) (id : ByteArray) (w : World) :
    CallsIn F n Tryz.prog 64 #[.agg #[.map (some bt), .map (some bm), .map (some bc)], .string id] w fun e w' => e = .returned (.func (.func 107) #[] #[.pointer (some ⟨w.heap.size, 0, none⟩), .pointer (some ⟨w.heap.size + 1, 0, none⟩)]) ∧ w' = (w.alloc (.cells #[.map (some bt), .map (some bm), .map (some bc)] 47)).alloc (.cells #[.string id] 9) := by
  refine callsIn_of_wp Tryz.func64 rfl hf ?_ hro
  simp only [Tryz.ntmps64, List.size_toArray, List.length_cons, List.length_nil, Nat.reduceAdd, Nat.reduceSub, Array.replicate_succ, Array.replicate_zero, List.push_toArray, List.append_toArray, List.nil_append, List.cons_append]
  gi_wp2
  go_ret
  exact ⟨rfl, rfl⟩

theorem behind_stops {w₀ : World} {B bm bc : Nat} {l : List Pr} {vs : List Value} {rA : ByteArray → Option Addr} {rC : ByteArray → Nat} (bt : Nat) (R : RepoW w₀ B bm bc l vs rA rC) (F : Fence) (hd : F.depth = none) (h1 : F.fn 107) (hf : F.fn 108) (hro : F.round = none) (n n₁ br bi : Nat) (id : ByteArray) (hid : id.size ≤ maxLen) (w : World) (hn : w₀.heap.size ≤ n₁) (hnb : n₁ ≤ w.heap.size) (hbel : Below w₀.heap.size w₀ w)
    (hX : w.heap[br]? = some (.cells #[.map (some bt), .map (some bm), .map (some bc)] 47 (0, 0))) (hI : w.heap[bi]? = some (.cells #[.string id] 9 (0, 0))) :
    SeqStopsK F n Tryz.prog 107 #[.pointer (some ⟨br, 0, none⟩), .pointer (some ⟨bi, 0, none⟩)] (encC l (treK l) (notK l) (lenK l) rA rC) (Keep w₀.heap.size n₁) (SAll l id) (SPart l id) 60 w := fun lr J Jx W hW hJ _ hY h0 =>
  (behind1_in bt R F hd h1 hf hro n lr n₁ br bi id hid W hn (Nat.le_trans hnb hW.size) J Jx hJ hY (hbel.trans (hW.mono hbel.size)) ((hW.block br (Array.getElem?_eq_some_iff.1 hX).1).trans hX) ((hW.block bi (Array.getElem?_eq_some_iff.1 hI).1).trans hI) h0).mono fun _ _ ⟨e, k⟩ => ⟨e, k.imp (fun ⟨xs, ha, hj⟩ => ⟨xs, ha.1, hj⟩) (fun k => k)⟩
theorem behind_stopsO {w₀ : World} {B bm bc : Nat} {l : List Pr} {vs : List Value} {rA : ByteArray → Option Addr} {rC : ByteArray → Nat} (bt : Nat) (R : RepoW w₀ B bm bc l vs rA rC) (F : Fence) (hd : F.depth = none) (h1 : F.fn 107) (hf : F.fn 108) (hro : F.round = none) (n n₁ br bi : Nat) (id : ByteArray) (hid : id.size ≤ maxLen) (w : World) (hn : w₀.heap.size ≤ n₁) (hnb : n₁ ≤ w.heap.size) (hbel : Below w₀.heap.size w₀ w)
    (hX : w.heap[br]? = some (.cells #[.map (some bt), .map (some bm), .map (some bc)] 47 (0, 0))) (hI : w.heap[bi]? = some (.cells #[.string id] 9 (0, 0))) :
    SeqStopsK F n Tryz.prog 107 #[.pointer (some ⟨br, 0, none⟩), .pointer (some ⟨bi, 0, none⟩)] (encC l (treK l) (notK l) (lenK l) rA rC) (Keep w₀.heap.size n₁) (SAllO l id) (SPart l id) 60 w := fun lr J Jx W hW hJ _ hY h0 =>
  behind1_in bt R F hd h1 hf hro n lr n₁ br bi id hid W hn (Nat.le_trans hnb hW.size) J Jx hJ hY (hbel.trans (hW.mono hbel.size)) ((hW.block br (Array.getElem?_eq_some_iff.1 hX).1).trans hX) ((hW.block bi (Array.getElem?_eq_some_iff.1 hI).1).trans hI) h0
end Go.Proofs.YtdahpnjamlfakaaGreatDoor
/-
  What the reference makes of what is behind: a rising list that grows till nothing is new.
-/
namespace Go.Proofs.YtdahpnjamlfakaaGreatDoor
open Go.RowKit

noncomputable def stepK (l : List Pr) (out : List ByteArray) : List ByteArray := (out.flatMap (parK l)).foldl putK out
noncomputable def growK (l : List Pr) (ids : List ByteArray) : Nat → List ByteArray
  | 0 => ids
  | n + 1 => stepK l (growK l ids n)
theorem mem_puts : ∀ (L out : List ByteArray) (t : ByteArray), t ∈ L.foldl putK out ↔ t ∈ out ∨ t ∈ L
  | [], out, t => by simp
  | s :: L, out, t => by
    rw [List.foldl_cons, mem_puts L, mem_putK, List.mem_cons]
    constructor
    · rintro ((h | h) | h)
      · exact .inl h
      · exact .inr (.inl h)
      · exact .inr (.inr h)
    · rintro (h | h | h)
      · exact .inl (.inl h)
      · exact .inl (.inr h)
      · exact .inr h
theorem risK_puts : ∀ (L : List ByteArray) {out : List ByteArray}, RisK out → RisK (L.foldl putK out)
  | [], _, h => h
  | s :: L, _, h => risK_puts L (risK_put h s)
theorem risK_nodup {l : List ByteArray} (h : RisK l) : l.Nodup := h.imp fun {a b} hlt e => by subst e; rw [ltB_irrefl] at hlt; cases hlt
theorem mem_step {l : List Pr} {out : List ByteArray} {t : ByteArray} : t ∈ stepK l out ↔ t ∈ out ∨ ∃ k ∈ out, t ∈ parK l k := by
  unfold stepK
  rw [mem_puts, List.mem_flatMap]
/-- rising commits -/
def RisC (l : List Pr) (out : List ByteArray) : Prop := RisK out ∧ ∀ z ∈ out, rdOk (valOf l z) = true
theorem RisC.set {l : List Pr} {out : List ByteArray} (h : RisC l out) : SetC l out := ⟨risK_nodup h.1, h.2⟩
theorem RisC.len {l : List Pr} (ho : objsB l = true) {out : List ByteArray} (h : RisC l out) : out.length ≤ 60 := setC_len ho h.set
theorem setC_le {l : List Pr} {S : List ByteArray} (h : SetC l S) : S.length ≤ l.length := by
  have h1 := nodup_len h.1 (fun z hz => by
    obtain ⟨i, hi, e⟩ := has_at (has_rd (h.2 z hz))
    exact List.mem_map.2 ⟨l[i], List.getElem_mem hi, e⟩ : ∀ z ∈ S, z ∈ l.map Prod.fst)
  rw [List.length_map] at h1
  exact h1
theorem risC_puts {l : List Pr} {L out : List ByteArray} (h : RisC l out) (hL : ∀ z ∈ L, rdOk (valOf l z) = true) : RisC l (L.foldl putK out) :=
  ⟨risK_puts L h.1, fun z hz => ((mem_puts L out z).1 hz).elim (h.2 z) (hL z)⟩
theorem risC_step {l : List Pr} (hl : repoB l = true) {out : List ByteArray} (h : RisC l out) : RisC l (stepK l out) := risC_puts h (fun z hz => by
  obtain ⟨k, _, hk⟩ := List.mem_flatMap.1 hz
  exact parK_com hl hk)
theorem risC_grow {l : List Pr} (hl : repoB l = true) {ids : List ByteArray} (h : RisC l ids) : ∀ n, RisC l (growK l ids n)
  | 0 => h
  | n + 1 => risC_step hl (risC_grow hl h n)
def ClosedK (l : List Pr) (out : List ByteArray) : Prop := ∀ k ∈ out, ∀ q ∈ parK l k, q ∈ out
theorem step_longer {l : List Pr} {out : List ByteArray} (h : RisC l out) : ClosedK l out ∨ out.length + 1 ≤ (stepK l out).length := by
  by_cases hc : ClosedK l out
  · exact .inl hc
  · right
    have hx : ∃ k, k ∈ out ∧ ∃ q, q ∈ parK l k ∧ q ∉ out := by
      apply Classical.byContradiction
      intro hn
      refine hc fun k hk q hq => ?_
      apply Classical.byContradiction
      intro hq2
      exact hn ⟨k, hk, q, hq, hq2⟩
    obtain ⟨k, hk, q, hq, hn⟩ := hx
    have h1 : (q :: out).Nodup := List.nodup_cons.2 ⟨hn, risK_nodup h.1⟩
    have h2 := nodup_len (T := stepK l out) h1 (fun z hz => by
      rcases List.mem_cons.1 hz with e | e
      · subst e; exact mem_step.2 (.inr ⟨k, hk, hq⟩)
      · exact mem_step.2 (.inl e))
    simpa using h2
theorem closed_step {l : List Pr} {out : List ByteArray} (h : ClosedK l out) : ClosedK l (stepK l out) := by
  intro k hk q hq
  rcases mem_step.1 hk with h1 | ⟨x, hx, h1⟩
  · exact mem_step.2 (.inl (h k h1 q hq))
  · exact mem_step.2 (.inl (h k (h x hx k h1) q hq))
theorem grow_closed {l : List Pr} (hl : repoB l = true) {id : ByteArray} (hr : rdOk (valOf l id) = true) : ∀ n, ClosedK l (growK l [id] n) ∨ n + 1 ≤ (growK l [id] n).length
  | 0 => .inr (Nat.le_refl _)
  | n + 1 => by
    have h0 : RisC l [id] := ⟨List.pairwise_singleton .., fun z hz => by rw [List.mem_singleton] at hz; subst hz; exact hr⟩
    rcases grow_closed hl hr n with h | h
    · exact .inl (closed_step h)
    · rcases step_longer (risC_grow hl h0 n) with h1 | h1
      · exact .inl (closed_step h1)
      · exact .inr (Nat.le_trans (Nat.succ_le_succ h) h1)
theorem grow_reach {l : List Pr} {id : ByteArray} : ∀ n, ∀ z ∈ growK l [id] n, Reach l id z
  | 0, z, hz => by
    have : z = id := by simpa [growK] using hz
    subst this
    exact .self
  | n + 1, z, hz => by
    rcases mem_step.1 hz with h | ⟨k, hk, h⟩
    · exact grow_reach n z h
    · exact (grow_reach n k hk).next h
theorem grow_has {l : List Pr} {id : ByteArray} : ∀ n, id ∈ growK l [id] n
  | 0 => by simp [growK]
  | n + 1 => mem_step.2 (.inl (grow_has n))
theorem grow_mem {l : List Pr} (hl : repoB l = true) {id : ByteArray} (hr : rdOk (valOf l id) = true) (z : ByteArray) : z ∈ growK l [id] (l.length + 1) ↔ Reach l id z := by
  refine ⟨grow_reach _ z, fun h => ?_⟩
  have h0 : RisC l [id] := ⟨List.pairwise_singleton .., fun z hz => by rw [List.mem_singleton] at hz; subst hz; exact hr⟩
  have hc : ClosedK l (growK l [id] (l.length + 1)) := by
    rcases grow_closed hl hr (l.length + 1) with h1 | h1
    · exact h1
    · have := setC_le (risC_grow hl h0 (l.length + 1)).set
      omega
  induction h with
  | self => exact grow_has _
  | next _ hq ih => exact hc _ ih _ hq
/-- what is behind a commit, rising -/
noncomputable def ancK (l : List Pr) (id : ByteArray) : List ByteArray := if repoB l = true ∧ rdOk (valOf l id) = true then growK l [id] (l.length + 1) else []
theorem ancK_yes {l : List Pr} {id : ByteArray} (hl : repoB l = true) (hr : rdOk (valOf l id) = true) : ancK l id = growK l [id] (l.length + 1) := if_pos ⟨hl, hr⟩
theorem ancK_no {l : List Pr} {id : ByteArray} (h : ¬ (repoB l = true ∧ rdOk (valOf l id) = true)) : ancK l id = [] := if_neg h
theorem ancK_ris (l : List Pr) (id : ByteArray) : RisC l (ancK l id) := by
  by_cases h : repoB l = true ∧ rdOk (valOf l id) = true
  · rw [ancK_yes h.1 h.2]
    exact risC_grow h.1 ⟨List.pairwise_singleton .., fun z hz => by rw [List.mem_singleton] at hz; subst hz; exact h.2⟩ _
  · rw [ancK_no h]
    exact ⟨.nil, by simp⟩
theorem ancK_mem {l : List Pr} {id z : ByteArray} : z ∈ ancK l id ↔ repoB l = true ∧ rdOk (valOf l id) = true ∧ Reach l id z := by
  by_cases h : repoB l = true ∧ rdOk (valOf l id) = true
  · rw [ancK_yes h.1 h.2, grow_mem h.1 h.2]
    exact ⟨fun h1 => ⟨h.1, h.2, h1⟩, fun h1 => h1.2.2⟩
  · rw [ancK_no h]
    exact ⟨(fun h1 => by cases h1), fun h1 => absurd ⟨h1.1, h1.2.1⟩ h⟩
theorem ancK_len (l : List Pr) (id : ByteArray) : (ancK l id).length ≤ 60 := by
  by_cases h : repoB l = true ∧ rdOk (valOf l id) = true
  · exact (ancK_ris l id).len (repoB_iff.1 h.1).1
  · rw [ancK_no h]; simp
end Go.Proofs.YtdahpnjamlfakaaGreatDoor
/-
  What spec.l4Commit answers.
-/
namespace Go.Proofs.YtdahpnjamlfakaaGreatDoor
open Go.RowKit

set_option maxRecDepth 100000 in
set_option maxHeartbeats 1000000 in
theorem l4Commit_sz (A : Option Addr) (l : List Pr) (cap : Nat) (key : ByteArray) (w : World) (B : Nat) (hB : B ≤ w.heap.size) (hz : (valOf l key).size ≤ 1048576) (hl : l.length ≤ maxLen) (hin : PIn w B A l) :
    Calls Tryz.prog 54 #[.slice A l.length cap, .string key] w (RetCom (valOf l key) w) := by
  have b0 := (Below.refl w.heap.size w).alloc (Nat.le_refl _) (.cells #[.string ByteArray.empty, .slice none 0 0, .string ByteArray.empty] 30)
  have B0 := hide b0
  have X0 : Hid ((w.alloc (.cells #[.string ByteArray.empty, .slice none 0 0, .string ByteArray.empty] 30)).heap[w.heap.size]? = some (C3 ByteArray.empty none 0 0 ByteArray.empty)) := hide (heap_alloc_new w _)
  have S0 : Hid ((w.alloc (.cells #[.string ByteArray.empty, .slice none 0 0, .string ByteArray.empty] 30)).heap.size = w.heap.size + 1) := hide (by simp)
  have IN := hide ((hin.more hB).below b0)
  have F := hide (l3Find_any A l cap key _ w.heap.size hl IN.out)
  have Z : Hid (hasB l key = false → valOf l key = ByteArray.empty) := hide (fun h => valOf_no h)
  clear b0 hin
  generalize hn : l.length = n at *
  go_enter Tryz.func54, Tryz.ntmps54
  go_wp2_with fail
  refine F.out.mono ?_
  rintro e w1 ⟨rfl, hw1⟩
  have B1 : Hid (Below w.heap.size w w1) := hide (by rw [← hw1]; exact B0.out)
  have X1 : Hid (w1.heap[w.heap.size]? = some (C3 ByteArray.empty none 0 0 ByteArray.empty)) := hide (by rw [← hw1]; exact X0.out)
  have hs1 : w.heap.size + 1 ≤ w1.heap.size := by rw [← hw1, S0.out]; exact Nat.le_refl _
  clear hw1 F IN B0 X0 S0
  cases hb : hasB l key
  · have ZE := hide (Z.out hb)
    have g0 := cell_of_row _ _ 0 _ _ _ X1.out
    have g1 := cell_of_row _ _ 1 _ _ _ X1.out
    have g2 := cell_of_row _ _ 2 _ _ _ X1.out
    have k0 := frozen_of_row _ _ 0 _ _ X1.out
    have k1 := frozen_of_row _ _ 1 _ _ X1.out
    have k2 := frozen_of_row _ _ 2 _ _ X1.out
    have N : Hid (RetCom (valOf l key) w (.returned (.tuple #[.agg #[.string ByteArray.empty, .slice none 0 0, .string ByteArray.empty], .bool false])) (((w1.setCell ⟨w.heap.size, 0, none⟩ (.string ByteArray.empty)).setCell ⟨w.heap.size, 1, none⟩ (.slice none 0 0)).setCell ⟨w.heap.size, 2, none⟩ (.string ByteArray.empty))) := hide (by
      rw [ZE.out]
      obtain ⟨e1, e2⟩ := rd_no com_empty
      exact ⟨none, 0, by rw [e2, e1]; rfl, by rw [e2]; exact ZOwn.nil _ _, ((B1.out.setCell (p := ⟨w.heap.size, 0, none⟩) (Nat.le_refl _) _).setCell (p := ⟨w.heap.size, 1, none⟩) (Nat.le_refl _) _).setCell (p := ⟨w.heap.size, 2, none⟩) (Nat.le_refl _) _⟩)
    generalize valOf l key = t at *
    go_wp2
    exact bodyPost_ret (v := .tuple #[.agg #[.string ByteArray.empty, .slice none 0 0, .string ByteArray.empty], .bool false]) (by simp [results, Tryz.results54, go_sem, g0, g1, g2]; rfl) rfl N.out
  · generalize valOf l key = t at *
    go_wp2_with fail
    refine (specReadCommit_any t w1 (by omega)).mono ?_
    rintro e w2 ⟨A2, cap2, rfl, own2, b2⟩
    have X2 := hide ((b2.block w.heap.size (by omega)).trans X1.out)
    have B2 := hide (B1.out.trans (b2.mono (by omega)))
    have r2 := own2.row
    have O2 := hide own2
    have g0 := cell_of_row _ _ 0 _ _ _ X2.out
    have g1 := cell_of_row _ _ 1 _ _ _ X2.out
    have g2 := cell_of_row _ _ 2 _ _ _ X2.out
    have k0 := frozen_of_row _ _ 0 _ _ X2.out
    have k1 := frozen_of_row _ _ 1 _ _ X2.out
    have k2 := frozen_of_row _ _ 2 _ _ X2.out
    clear own2 b2
    have N : Hid (RetCom t w (.returned (.tuple #[.agg #[.string (rdC t).1, .slice A2 (rdC t).2.1.length cap2, .string (rdC t).2.2], .bool (rdOk t)])) (((w2.setCell ⟨w.heap.size, 0, none⟩ (.string (rdC t).1)).setCell ⟨w.heap.size, 1, none⟩ (.slice A2 (rdC t).2.1.length cap2)).setCell ⟨w.heap.size, 2, none⟩ (.string (rdC t).2.2))) := hide (by
      refine ⟨A2, cap2, rfl, ?_, ((B2.out.setCell (p := ⟨w.heap.size, 0, none⟩) (Nat.le_refl _) _).setCell (p := ⟨w.heap.size, 1, none⟩) (Nat.le_refl _) _).setCell (p := ⟨w.heap.size, 2, none⟩) (Nat.le_refl _) _⟩
      have hne : rowOf A2 ≠ some w.heap.size := fun e => by have := (r2 _ e).1; omega
      have gs : ∀ (W : World) (o : Nat) (v : Value), W.grownBy (W.setCell ⟨w.heap.size, o, none⟩ v) (some w.heap.size) := fun W o v => ⟨rfl, rfl, rfl, by simp [World.setCell], fun k _ hk => Below.heap_setCell W ⟨w.heap.size, o, none⟩ v k (fun e => hk (by rw [e]))⟩
      exact ((((O2.out.kept (gs _ _ _) hne).kept (gs _ _ _) hne).kept (gs _ _ _) hne)).more (by omega))
    generalize (rdC t).1 = c1 at *
    generalize (rdC t).2.2 = c3 at *
    generalize (rdC t).2.1.length = c2 at *
    generalize rdOk t = ok at *
    go_wp2
    exact bodyPost_ret (v := .tuple #[.agg #[.string c1, .slice A2 c2 cap2, .string c3], .bool ok]) (by simp [results, Tryz.results54, go_sem, g0, g1, g2]) rfl N.out
theorem l4Commit_any (A : Option Addr) (l : List Pr) (cap : Nat) (key : ByteArray) (w : World) (B : Nat) (hB : B ≤ w.heap.size) (ho : objsB l = true) (hl : l.length ≤ maxLen) (hin : PIn w B A l) :
    Calls Tryz.prog 54 #[.slice A l.length cap, .string key] w (RetCom (valOf l key) w) := l4Commit_sz A l cap key w B hB (by have := valOf_size ho key; omega) hl hin
end Go.Proofs.YtdahpnjamlfakaaGreatDoor
/-
  What spec.l1Put answers exactly: the rising list with one more; the row is the call's own or the argument's.
-/
namespace Go.Proofs.YtdahpnjamlfakaaGreatDoor
open Go.RowKit

def PutXRet (B : Nat) (l : List ByteArray) (w : World) (e : Ending) (w' : World) : Prop := ∃ A cap, e = .returned (.slice A l.length cap) ∧ ZOwn w' B A cap l ∧ Below w.heap.size w w'
set_option maxRecDepth 100000 in
set_option maxHeartbeats 2000000 in
theorem l1PutX_any (A : Option Addr) (l : List ByteArray) (cap : Nat) (s : ByteArray) (w : World) (B : Nat) (hl : l.length ≤ 1000) (hown : ZOwn w B A cap l) (hB : B ≤ w.heap.size) :
    Calls Tryz.prog 40 #[.slice A l.length cap, .string s] w (PutXRet B (putK l s) w) := by
  have O := hide hown
  have IN := hide hown.zin
  have hcap := hown.cap_le
  clear hown
  generalize hn : l.length = n at *
  have HN := hide hn
  clear hn
  go_enter Tryz.func40, Tryz.ntmps40
  go_wp2
  go_loop [5] (fun i => ∃ k : Nat, k ≤ n ∧ i = .int .i64 k ∧ Hid (∀ i (hi : i < l.length), i < k → ltB l[i] s = true)) (fun i => n - (intOf i).toNat)
  case atStart => exact ⟨0, Nat.zero_le _, rfl, hide (fun _ _ h => absurd h (by omega))⟩
  case round =>
    obtain ⟨k, hk, rfl, H⟩ := hrel
    have LAST : ∀ (A' : Option Addr), A = A' → True := fun _ _ => trivial
    by_cases hlt : k < n
    · have hkl : k < l.length := by rw [HN.out]; omega
      obtain ⟨b, off, rfl, hbB, hc⟩ := IN.out (by omega)
      have c1 := hc k hkl
      have hki : (k : Int) < (n : Int) := by omega
      have MM : Hid (l[k]'hkl ∈ l) := hide (List.getElem_mem hkl)
      have K1 := run_cutZ_h 28 Tryz.underlying28 (some ⟨b, off, none⟩) n cap k (by omega)
      have K2 := run_cutZ_l 28 Tryz.underlying28 (some ⟨b, off, none⟩) n cap k (by omega)
      have IN1 := hide (IN.out.take cap k)
      have IN2 := hide (IN.out.drop (cap := cap) (by rw [HN.out]; exact hcap) k)
      have E1 := hide (show (l.take k).length = k by rw [List.length_take]; omega)
      have E2 := hide (show (l.drop k).length = n - k by rw [List.length_drop, HN.out])
      have E3 : Hid ((([] ++ l.take k) ++ [s]) ++ l.drop k = l.take k ++ s :: l.drop k) := hide (by simp)
      have PT := hide (fun h => putK_there l s k hkl H.out h)
      have PN := hide (fun h => putK_new l s k (by omega) H.out h)
      have NX : Hid (ltB (l[k]'hkl) s = true → ∀ i (hi : i < l.length), i < k + 1 → ltB l[i] s = true) := hide (fun h i hi hik => by
        rcases Nat.lt_or_ge i k with g | g
        · exact H.out i hi g
        · obtain rfl : i = k := by omega
          exact h)
      have PN2 : Hid (ltB (l[k]'hkl) s = false → ¬ l[k]'hkl = s → putK l s = l.take k ++ s :: l.drop k) := hide (fun h1 h2 => PN.out (fun _ => ⟨h1, h2⟩))
      clear hc LAST PN H
      generalize l[k]'hkl = x at *
      cases hs : Op.bytesLess x.toList s.toList
      · by_cases he : x = s
        · have e1 := eqS_yes he
          have PE := hide (PT.out he)
          clear he
          go_wp2
          go_ret
          rw [PE.out]
          exact ⟨_, cap, by rw [HN.out]; rfl, O.out, Below.refl _ _⟩
        · have e1 := eqS_no he
          have PE := hide (PN2.out hs he)
          have O1 := hide (ZOwn.built w w.heap.size (Nat.le_refl _))
          have B2 := hide ((Below.refl w.heap.size w).alloc (Nat.le_refl _) (.cells #[] 9))
          clear he
          go_wp2_with (first
            | (at_builtin; refine wpList_appZ 28 Tryz.underlying28 rfl (.tmp 34) (.tmp 37) rfl rfl rfl rfl E1.out.symm O1.out (IN1.out.below B2.out) B2.out.size (by rw [E1.out]; simp; omega) ?_; intro A3 cap3 w3 own3 g3 r3; have B3 := hide (B2.out.trans (O1.out.grownBelow g3 B2.out.size)); have O3 := hide own3; clear own3 g3 r3)
            | (at_builtin; refine wpList_appZ (l' := [s]) 28 Tryz.underlying28 rfl (.tmp 39) (.tmp 41) rfl rfl rfl (by simp) rfl (O3.out.alloc _) (ZIn.one s _ rfl) (Nat.le_trans B3.out.size (by simp)) (by rw [List.length_append, E1.out]; simp; omega) ?_; intro A4 cap4 w4 own4 g4 r4; have b4 := (O3.out.alloc (.cells #[Value.string s] 9)).grownBelow g4 (Nat.le_trans B3.out.size (by simp)); have b4' := ((Below.refl w.heap.size w3).alloc B3.out.size (.cells #[Value.string s] 9)).trans b4; have B4 := hide (B3.out.trans b4'); have O4 := hide own4; clear own4 g4 r4 b4 b4')
            | (at_builtin; refine wpList_appZ 28 Tryz.underlying28 rfl (.tmp 43) (.tmp 46) rfl rfl rfl (by simp) E2.out.symm O4.out (IN2.out.below B4.out) B4.out.size (by rw [List.length_append, List.length_append, E1.out, E2.out]; simp; omega) ?_; intro A5 cap5 w5 own5 g5 r5; have b5 := O4.out.grownBelow g5 B4.out.size; have B5 := hide (B4.out.trans b5); have O5 := hide own5; clear own5 g5 r5 b5))
          go_ret
          have O6 := O5.out
          rw [E3.out] at O6
          rw [PE.out]
          exact ⟨A5, cap5, by rw [← E3.out]; simp, O6.more hB, B5.out⟩
      · have NX2 := hide (NX.out hs)
        clear IN1 IN2 K1 K2
        go_wp2
        go_round
        case rel => exact ⟨k + 1, by omega, by go_num, NX2⟩
        case measure => simp [intOf]; omega
    · obtain rfl : k = n := by omega
      have hkk : ¬ (k : Int) < (k : Int) := by omega
      have PE := hide (putK_new l s k (by rw [HN.out]; exact Nat.le_refl _) H.out (fun h => absurd h (by rw [HN.out]; omega)))
      have K1 := run_cutZ_h 28 Tryz.underlying28 A k cap k (by omega)
      have K2 := run_cutZ_l 28 Tryz.underlying28 A k cap k (by omega)
      have IN1 := hide (IN.out.take cap k)
      have IN2 := hide (IN.out.drop (cap := cap) (by rw [HN.out]; exact hcap) k)
      have E1 := hide (show (l.take k).length = k by rw [List.length_take]; rw [HN.out]; omega)
      have E2 := hide (show (l.drop k).length = k - k by rw [List.length_drop, HN.out])
      have E3 : Hid ((([] ++ l.take k) ++ [s]) ++ l.drop k = l.take k ++ s :: l.drop k) := hide (by simp)
      have O1 := hide (ZOwn.built w w.heap.size (Nat.le_refl _))
      have B2 := hide ((Below.refl w.heap.size w).alloc (Nat.le_refl _) (.cells #[] 9))
      clear hlt LAST
      go_wp2_with (first
        | (at_builtin; refine wpList_appZ 28 Tryz.underlying28 rfl (.tmp 34) (.tmp 37) rfl rfl rfl rfl E1.out.symm O1.out (IN1.out.below B2.out) B2.out.size (by rw [E1.out]; simp; omega) ?_; intro A3 cap3 w3 own3 g3 r3; have B3 := hide (B2.out.trans (O1.out.grownBelow g3 B2.out.size)); have O3 := hide own3; clear own3 g3 r3)
        | (at_builtin; refine wpList_appZ (l' := [s]) 28 Tryz.underlying28 rfl (.tmp 39) (.tmp 41) rfl rfl rfl (by simp) rfl (O3.out.alloc _) (ZIn.one s _ rfl) (Nat.le_trans B3.out.size (by simp)) (by rw [List.length_append, E1.out]; simp; omega) ?_; intro A4 cap4 w4 own4 g4 r4; have b4 := (O3.out.alloc (.cells #[Value.string s] 9)).grownBelow g4 (Nat.le_trans B3.out.size (by simp)); have b4' := ((Below.refl w.heap.size w3).alloc B3.out.size (.cells #[Value.string s] 9)).trans b4; have B4 := hide (B3.out.trans b4'); have O4 := hide own4; clear own4 g4 r4 b4 b4')
        | (at_builtin; refine wpList_appZ 28 Tryz.underlying28 rfl (.tmp 43) (.tmp 46) rfl rfl rfl (by simp) (by rw [E2.out]; simp) O4.out (IN2.out.below B4.out) B4.out.size (by rw [List.length_append, List.length_append, E1.out, E2.out]; simp; omega) ?_; intro A5 cap5 w5 own5 g5 r5; have b5 := O4.out.grownBelow g5 B4.out.size; have B5 := hide (B4.out.trans b5); have O5 := hide own5; clear own5 g5 r5 b5))
      go_ret
      have O6 := O5.out
      rw [E3.out] at O6
      rw [PE.out]
      exact ⟨A5, cap5, by rw [← E3.out]; simp, O6.more hB, B5.out⟩
end Go.Proofs.YtdahpnjamlfakaaGreatDoor
/-
  What the laws' own szPairS tells of each text's size.
-/
namespace Go.Proofs.YtdahpnjamlfakaaGreatDoor
open Go.RowKit
/-- each text is short enough -/
def eachSz (l : List Pr) (k : Nat) : Prop := ∀ i (h : i < l.length), i < k → l[i].2.size ≤ 1048576
theorem eachSz_succ {l : List Pr} {k : Nat} (hk : k < l.length) (h : eachSz l k) (h1 : l[k].2.size ≤ 1048576) : eachSz l (k + 1) := by
  intro i hi hik
  by_cases e : i = k
  · subst e; exact h1
  · exact h i hi (by omega)
end Go.Proofs.YtdahpnjamlfakaaGreatDoor
/-
  What spec.l1Has, spec.l5Grow, spec.l5Is, spec.Ancestors answer.
-/
namespace Go.Proofs.YtdahpnjamlfakaaGreatDoor
open Go.RowKit

set_option maxRecDepth 100000 in
set_option maxHeartbeats 1000000 in
theorem l1Has_any (A : Option Addr) (l : List ByteArray) (cap : Nat) (s : ByteArray) (w : World) (B : Nat) (hl : l.length ≤ maxLen) (hin : ZIn w B A l) :
    Calls Tryz.prog 77 #[.slice A l.length cap, .string s] w fun e w' => e = .returned (.bool (memK l s)) ∧ w = w' := by
  unfold maxLen at hl
  have IN := hide hin
  clear hin
  generalize hn : l.length = n at *
  have HN := hide hn
  clear hn
  go_enter Tryz.func77, Tryz.ntmps77
  go_wp2
  go_loop [5] (fun iv => ∃ k : Nat, k ≤ n ∧ iv = .int .i64 k ∧ Hid (∀ i (h : i < l.length), i < k → ¬ l[i] = s)) (fun i => n - (intOf i).toNat)
  case atStart => exact ⟨0, Nat.zero_le _, rfl, hide (fun _ _ h => absurd h (by omega))⟩
  case round =>
    obtain ⟨k, hk, rfl, H⟩ := hrel
    by_cases hlt : k < n
    · have hkl : k < l.length := by rw [HN.out]; omega
      obtain ⟨b, off, rfl, _, hc⟩ := IN.out (by omega)
      have c1 := hc k hkl
      by_cases he : l[k]'hkl = s
      · have Z : Hid (memK l s = true) := hide (memK_iff.2 (he ▸ List.getElem_mem hkl))
        have d1 := eqS_yes he
        generalize l[k]'hkl = x at *
        clear hc he H
        go_wp2
        go_ret
        exact ⟨ret_bool Z.out.symm, rfl⟩
      · have d1 := eqS_no he
        have H2 : Hid (∀ i (h : i < l.length), i < k + 1 → ¬ l[i] = s) := hide (fun i hi hik => by
          rcases Nat.lt_or_ge i k with g | g
          · exact H.out i hi g
          · obtain rfl : i = k := by omega
            exact he)
        generalize l[k]'hkl = x at *
        clear hc he H
        go_wp2
        go_round
        case rel => exact ⟨k + 1, by omega, by go_num, H2⟩
        case measure => simp [intOf]; omega
    · have Z : Hid (memK l s = false) := hide (memK_no (fun hm => by
        obtain ⟨i, hi, hx⟩ := List.mem_iff_getElem.1 hm
        exact absurd hx (H.out i hi (by rw [HN.out] at hi; omega))))
      have hgt : ¬ ((k : Int) < (n : Int)) := by omega
      clear hlt
      go_wp2
      go_ret
      exact ⟨ret_bool Z.out.symm, rfl⟩

/-- a row of texts of the call's own comes back -/
def RetZ (B : Nat) (l : List ByteArray) (w : World) (e : Ending) (w' : World) : Prop := ∃ A cap, e = .returned (.slice A l.length cap) ∧ ZOwn w' B A cap l ∧ Below B w w'
/-- the list when k of it have given their parents, and j of the next one's -/
noncomputable def midK (l : List Pr) (out : List ByteArray) (k j : Nat) : List ByteArray := ((out.take k).flatMap (parK l) ++ (parK l (out.getD k ByteArray.empty)).take j).foldl putK out
theorem midK_start (l : List Pr) (out : List ByteArray) : midK l out 0 0 = out := by simp [midK]
theorem midK_end (l : List Pr) (out : List ByteArray) : midK l out out.length 0 = stepK l out := by simp [midK, stepK]
theorem midK_par {l : List Pr} {out : List ByteArray} {k j : Nat} (hk : k < out.length) (hj : j < (parK l out[k]).length) : midK l out k (j + 1) = putK (midK l out k j) ((parK l out[k])[j]) := by
  unfold midK
  have e : out.getD k ByteArray.empty = out[k] := by simp [hk]
  rw [e, List.take_succ_eq_append_getElem hj, ← List.append_assoc, List.foldl_append]
  rfl
theorem midK_next {l : List Pr} {out : List ByteArray} {k : Nat} (hk : k < out.length) : midK l out k (parK l out[k]).length = midK l out (k + 1) 0 := by
  unfold midK
  have e : out.getD k ByteArray.empty = out[k] := by simp [hk]
  rw [e, List.take_length, List.take_succ_eq_append_getElem hk, List.flatMap_append]
  simp
theorem risC_mid {l : List Pr} (hl : repoB l = true) {out : List ByteArray} (h : RisC l out) (k j : Nat) : RisC l (midK l out k j) := risC_puts h (fun z hz => by
  rcases List.mem_append.1 hz with h1 | h1
  · obtain ⟨x, _, hx⟩ := List.mem_flatMap.1 h1
    exact parK_com hl hx
  · exact parK_com hl (List.mem_of_mem_take h1))
theorem rd_par (l : List Pr) (k : ByteArray) : (rdC (valOf l k)).2.1 = parK l k := by
  cases hr : rdOk (valOf l k)
  · rw [parK_no hr]
    by_cases hc : ∃ c, isCom (valOf l k) c
    · obtain ⟨c, hc⟩ := hc
      rw [(rd_yes hc).1] at hr
      cases hr
    · rw [(rd_no hc).2]
  · unfold parK
    rw [if_pos hr]

set_option maxRecDepth 100000 in
set_option maxHeartbeats 2000000 in
theorem l5Grow_any (A : Option Addr) (l : List Pr) (cap : Nat) (Ai : Option Addr) (ids : List ByteArray) (capi : Nat) (w : World) (hl : l.length ≤ maxLen) (hin : PIn w w.heap.size A l) (hrep : repoB l = true) (hids : RisC l ids) (hini : ZIn w w.heap.size Ai ids) :
    Calls Tryz.prog 74 #[.slice A l.length cap, .slice Ai ids.length capi] w (RetZ w.heap.size (growK l ids (l.length + 1)) w) := by
  have ho := (repoB_iff.1 hrep).1
  have h60 := (objsB_iff.1 ho).1
  have HG := hide (fun n => risC_grow hrep hids n)
  have HM := hide (fun out (h : RisC l out) k j => risC_mid hrep h k j)
  have HL := hide (fun out (h : RisC l out) => h.len ho)
  have LC : Hid (∀ k W, Below w.heap.size w W → Calls Tryz.prog 54 #[.slice A l.length cap, .string k] W (RetCom (valOf l k) W)) := hide (fun k W hb => l4Commit_any A l cap k W w.heap.size hb.size ho hl (hin.below hb))
  have IN := hide hini
  have hidl := hids.len ho
  have G0 : Hid (growK l ids 0 = [] ++ ids) := hide (by simp [growK])
  clear hin hini hids hl ho
  generalize hn : l.length = n at *
  generalize hni : ids.length = ni at *
  have HNI := hide hni
  clear hn hni
  go_enter Tryz.func74, Tryz.ntmps74
  have O0 := hide (ZOwn.built w w.heap.size (Nat.le_refl _))
  have B0 := hide ((Below.refl w.heap.size w).alloc (Nat.le_refl _) (.cells #[] 9))
  go_wp2_with (at_builtin; refine wpList_appZ 28 Tryz.underlying28 rfl (.tmp 12) (.tmp 13) rfl rfl rfl rfl HNI.out.symm O0.out (IN.out.below B0.out) B0.out.size (by rw [HNI.out]; simp; omega) ?_; intro A1 cap1 w1 own1 g1 r1; have B1 := hide (B0.out.trans (O0.out.grownBelow g1 B0.out.size)); have O1 := hide own1; clear own1 g1 r1)
  rw [← G0.out] at O1
  go_loopw [5, 6] (fun ov iv wr => ∃ (i : Nat) (A : Option Addr) (cap : Nat), i ≤ n + 1 ∧ iv = .int .i64 i ∧ ov = .slice A (growK l ids i).length cap ∧ Hid (ZOwn wr w.heap.size A cap (growK l ids i)) ∧ Hid (Below w.heap.size w wr)) (fun _ i _ => n + 1 - (intOf i).toNat)
  case atStart => exact ⟨0, A1, cap1, Nat.zero_le _, rfl, rfl, O1, B1⟩
  case round =>
    clear O0 B0 O1 B1
    obtain ⟨i, A5, cap5, hi, rfl, rfl, O5, Q5⟩ := hrel
    have RC := hide (HG.out i)
    have GS : Hid (growK l ids (i + 1) = stepK l (growK l ids i)) := hide rfl
    have ho60 := HL.out _ RC.out
    by_cases hlt : i < n + 1
    · have hli : (i : Int) ≤ (n : Int) := by omega
      generalize growK l ids i = out at *
      have M0 : Hid (ZOwn wr w.heap.size A5 cap5 (midK l out 0 0)) := hide (by rw [midK_start]; exact O5.out)
      have ML : Hid ((midK l out 0 0).length = out.length) := hide (by rw [midK_start])
      obtain ⟨w5, hw5⟩ : ∃ w5, w5 = wr := ⟨wr, rfl⟩
      subst hw5
      generalize hon : out.length = on at *
      have ON := hide hon
      clear hon
      go_wp2_with fail
      go_loopw [7, 8] (fun nv kv wr => ∃ (k : Nat) (A : Option Addr) (cap : Nat), k ≤ on ∧ kv = .int .i64 k ∧ nv = .slice A (midK l out k 0).length cap ∧ Hid (ZOwn wr w.heap.size A cap (midK l out k 0)) ∧ Hid (Below w5.heap.size w5 wr)) (fun _ i _ => on - (intOf i).toNat)
      case atStart => exact ⟨0, A5, cap5, Nat.zero_le _, rfl, by rw [ML.out], M0, hide (Below.refl _ _)⟩
      case round =>
        clear M0
        obtain ⟨k, A7, cap7, hk, rfl, rfl, O7, Q7⟩ := hrel
        have hm60 := HL.out _ (HM.out _ RC.out k 0)
        have Q := hide (Q5.out.trans (Q7.out.mono Q5.out.size))
        by_cases hltk : k < on
        · have hkl : k < out.length := by rw [ON.out]; exact hltk
          obtain ⟨b, off, e5, hb, hc⟩ := (O5.out.zin.below Q7.out) (by omega)
          subst e5
          have c1 := hc k hkl
          have MN := hide (midK_next (l := l) hkl)
          have MP := hide (fun j => midK_par (l := l) (j := j) hkl)
          have PL := parK_len l (out[k]'hkl)
          have PR := hide (rd_par l (out[k]'hkl))
          have HMk := hide (fun j => HL.out _ (HM.out _ RC.out k j))
          clear hc
          generalize out[k]'hkl = q at *
          go_wp2_with fail
          refine (LC.out q _ Q.out).mono ?_
          rintro e w8 ⟨A8, cap8, rfl, own8, b8⟩
          rw [PR.out] at own8 ⊢
          have bx := boxC_below w8 (.string (rdC (valOf l q)).1) (.slice A8 (parK l q).length cap8) (.string (rdC (valOf l q)).2.2)
          have X9 := hide (boxC w8 (rdC (valOf l q)).1 (rdC (valOf l q)).2.2 A8 (parK l q).length cap8)
          have B9 := hide (b8.trans (bx.mono b8.size))
          have O9 := hide (O7.out.below B9.out)
          have P9 := hide (own8.zin.below bx)
          have S9 : Hid ((w8.alloc (.cells #[.string (rdC (valOf l q)).1, .slice A8 (parK l q).length cap8, .string (rdC (valOf l q)).2.2] 30)).heap.size = w8.heap.size + 1) := hide (by simp)
          clear own8 b8 bx
          generalize (rdC (valOf l q)).1 = q1 at *
          generalize (rdC (valOf l q)).2.2 = q3 at *
          generalize hpn : (parK l q).length = pn at PL X9 B9 O9 P9 S9 MN ⊢
          have PN := hide hpn
          clear hpn
          obtain ⟨w9, hw9⟩ : ∃ w9, w9 = w8.alloc (.cells #[.string q1, .slice A8 pn cap8, .string q3] 30) := ⟨_, rfl⟩
          rw [← hw9] at X9 B9 O9 P9 S9
          go_wp2_with fail
          rw [← hw9]
          clear hw9
          go_loopw [7, 11] (fun nv jv wr => ∃ (j : Nat) (A : Option Addr) (cap : Nat), j ≤ pn ∧ jv = .int .i64 j ∧ nv = .slice A (midK l out k j).length cap ∧ Hid (ZOwn wr w.heap.size A cap (midK l out k j)) ∧ Hid (Below w9.heap.size w9 wr)) (fun _ i _ => pn - (intOf i).toNat)
          case atStart => exact ⟨0, A7, cap7, Nat.zero_le _, rfl, rfl, O9, hide (Below.refl _ _)⟩
          case round =>
            clear O9 O7
            obtain ⟨j, A7, cap7, hj, rfl, rfl, O7, Q9⟩ := hrel
            have hs9 := S9.out
            have X10 := hide ((Q9.out.block w8.heap.size (by omega)).trans X9.out)
            have g1 := cell_of_row _ _ 1 _ _ _ X10.out
            have hmj := HMk.out j
            by_cases hltj : j < pn
            · have hjl : j < (parK l q).length := by rw [PN.out]; exact hltj
              obtain ⟨b', off', e8, hb', hc'⟩ := P9.out (by omega)
              subst e8
              have c2 := (Q9.out.cell (p := ⟨b', off' + j, none⟩) (by show b' < _; omega)).trans (hc' j hjl)
              have MPj := hide (MP.out j hjl)
              have hwr : w.heap.size ≤ wr.heap.size := Nat.le_trans Q.out.size (Nat.le_trans B9.out.size Q9.out.size)
              have PU := hide (l1PutX_any A7 (midK l out k j) cap7 ((parK l q)[j]'hjl) wr w.heap.size (by omega) O7.out hwr)
              rw [← MPj.out] at PU
              clear hc' MPj
              generalize (parK l q)[j]'hjl = p at *
              generalize (midK l out k j).length = mn at *
              go_wp2_with fail
              refine PU.out.mono ?_
              rintro e w11 ⟨A11, cap11, rfl, own11, b11⟩
              have O11 := hide own11
              have Q11 := hide (Q9.out.trans (b11.mono Q9.out.size))
              clear own11 b11 PU
              go_wp2_with fail
              go_roundw
              case rel => exact ⟨j + 1, A11, cap11, by omega, by go_num, rfl, O11, Q11⟩
              case measure => simp [intOf]; omega
            · have ej : j = pn := by omega
              have O12 : Hid (ZOwn wr w.heap.size A7 cap7 (midK l out (k + 1) 0)) := hide (by rw [← MN.out, ← ej]; exact O7.out)
              have L12 : Hid ((midK l out k j).length = (midK l out (k + 1) 0).length) := hide (by rw [← MN.out, ← ej])
              have Q12 := hide (Q7.out.trans ((B9.out.trans (Q9.out.mono B9.out.size)).mono Q7.out.size))
              have hgt : ¬ ((j : Int) < (pn : Int)) := by omega
              clear hltj
              go_wp2_with fail
              go_roundw
              case rel => exact ⟨k + 1, A7, cap7, by omega, by go_num, by rw [L12.out], O12, Q12⟩
              case measure => simp [intOf]; omega
        · have ek : k = out.length := by rw [ON.out]; omega
          have O8 : Hid (ZOwn wr w.heap.size A7 cap7 (growK l ids (i + 1))) := hide (by rw [GS.out, ← midK_end, ← ek]; exact O7.out)
          have L8 : Hid ((midK l out k 0).length = (growK l ids (i + 1)).length) := hide (by rw [GS.out, ← midK_end, ← ek])
          have hgt : ¬ ((k : Int) < (on : Int)) := by omega
          clear hltk ek
          go_wp2_with fail
          go_roundw
          case rel => exact ⟨i + 1, A7, cap7, by omega, by go_num, by rw [L8.out], O8, Q⟩
          case measure => simp [intOf]; omega
    · have ei : i = n + 1 := by omega
      have hgt : ¬ ((i : Int) ≤ (n : Int)) := by omega
      have R : Hid (RetZ w.heap.size (growK l ids (n + 1)) w (.returned (.slice A5 (growK l ids i).length cap5)) wr) := hide ⟨A5, cap5, by rw [ei], by rw [← ei]; exact O5.out, Q5.out⟩
      clear hlt ei
      go_wp2_with fail
      go_ret
      exact R.out

theorem valOf_each {l : List Pr} (h : eachSz l l.length) (k : ByteArray) : (valOf l k).size ≤ 1048576 := by
  cases hb : hasB l k
  · rw [valOf_no hb]; simp
  · obtain ⟨h1, h2⟩ := hasB_iff.1 hb
    rw [valOf_yes h1 h2]
    exact h _ h1 h1
set_option maxRecDepth 100000 in
set_option maxHeartbeats 1000000 in
theorem l5Is_any (A : Option Addr) (l : List Pr) (cap : Nat) (id : ByteArray) (w : World) (hl : l.length ≤ maxLen) (hin : PIn w w.heap.size A l) (hz : (valOf l id).size ≤ 1048576) :
    Calls Tryz.prog 27 #[.slice A l.length cap, .string id] w fun e w' => e = .returned (.bool (rdOk (valOf l id) && repoB l)) ∧ Below w.heap.size w w' := by
  have C := hide (l4Commit_sz A l cap id w w.heap.size (Nat.le_refl _) hz hl hin)
  have RO : Hid (∀ W, Below w.heap.size w W → Calls Tryz.prog 52 #[.slice A l.length cap] W fun e w' => e = .returned (.bool (repoB l)) ∧ Below W.heap.size W w') := hide (fun W hb => specRepoOk_any A l cap W hl ((hin.below hb).more hb.size))
  have Z : Hid (∀ x, (rdOk (valOf l id) && repoB l) = x → x = (rdOk (valOf l id) && repoB l)) := hide (fun x h => h.symm)
  clear hin hl hz
  generalize l.length = n at *
  go_enter Tryz.func27, Tryz.ntmps27
  go_wp2_with fail
  refine C.out.mono ?_
  rintro e w1 ⟨A1, cap1, rfl, _, b1⟩
  have bx := boxC_below w1 (.string (rdC (valOf l id)).1) (.slice A1 (rdC (valOf l id)).2.1.length cap1) (.string (rdC (valOf l id)).2.2)
  have B2 := hide (b1.trans (bx.mono b1.size))
  have R2 := hide (RO.out _ B2.out)
  clear b1 bx C RO
  generalize (rdC (valOf l id)).1 = c1 at *
  generalize (rdC (valOf l id)).2.2 = c3 at *
  generalize (rdC (valOf l id)).2.1.length = c2 at *
  clear Z
  cases hok : rdOk (valOf l id)
  · have HK := hide hok
    clear hok
    go_wp2_with fail
    go_ret
    exact ⟨ret_bool (by rw [HK.out]; rfl), B2.out⟩
  · have HK := hide hok
    clear hok
    go_wp2_with fail
    refine R2.out.mono ?_
    rintro e w3 ⟨rfl, b3⟩
    have B3 := hide (B2.out.trans (b3.mono B2.out.size))
    clear b3 R2
    go_wp2_with fail
    go_ret
    exact ⟨ret_bool (by rw [HK.out, Bool.true_and]), B3.out⟩

set_option maxRecDepth 100000 in
set_option maxHeartbeats 1000000 in
theorem specAncestors_any (A : Option Addr) (l : List Pr) (cap : Nat) (id : ByteArray) (w : World) (hl : l.length ≤ maxLen) (hin : PIn w w.heap.size A l) (hz : (valOf l id).size ≤ 1048576) :
    Calls Tryz.prog 34 #[.slice A l.length cap, .string id] w (RetZ w.heap.size (ancK l id) w) := by
  have I := hide (l5Is_any A l cap id w hl hin hz)
  have NO : Hid ((rdOk (valOf l id) && repoB l) = false → ∀ w', Below w.heap.size w w' → RetZ w.heap.size (ancK l id) w (.returned (.slice (some ⟨w'.heap.size, 0, none⟩) 0 0)) (w'.alloc (.cells #[] 9))) := hide (fun h w' hb => by
    rw [ancK_no (fun x => by rw [x.1, x.2] at h; cases h)]
    exact ⟨_, 0, rfl, ZOwn.built w' w.heap.size hb.size, hb.alloc hb.size _⟩)
  have G : Hid ((rdOk (valOf l id) && repoB l) = true → ∀ W, Below w.heap.size w W → Calls Tryz.prog 74 #[.slice A l.length cap, .slice (some ⟨W.heap.size, 0, none⟩) 1 1] (W.alloc (.cells #[.string id] 9)) (RetZ w.heap.size (ancK l id) w)) := hide (fun h W hb => by
    simp only [Bool.and_eq_true] at h
    have hbx := hb.alloc hb.size (.cells #[.string id] 9)
    refine (l5Grow_any A l cap (some ⟨W.heap.size, 0, none⟩) [id] 1 _ hl ((hin.below hbx).more hbx.size) h.2 ⟨List.pairwise_singleton .., fun z hz => by rw [List.mem_singleton] at hz; subst hz; exact h.1⟩ ((ZIn.one id 9 rfl).more (by simp))).mono ?_
    rintro e w' ⟨A2, cap2, rfl, o2, b2⟩
    rw [ancK_yes h.2 h.1]
    exact ⟨A2, cap2, rfl, o2.more hbx.size, hbx.trans (b2.mono hbx.size)⟩)
  clear hin hl hz
  generalize l.length = n at *
  go_enter Tryz.func34, Tryz.ntmps34
  go_wp2_with fail
  refine I.out.mono ?_
  rintro e w1 ⟨rfl, b1⟩
  have B1 := hide b1
  clear b1 I
  cases hi : (rdOk (valOf l id) && repoB l)
  · have Z := hide (NO.out hi _ B1.out)
    clear NO G hi
    go_wp2_with fail
    go_ret
    exact Z.out
  · have GG := hide (G.out hi _ B1.out)
    clear NO G hi
    go_wp2_with fail
    refine GG.out.mono ?_
    rintro e w2 ⟨A2, cap2, rfl, o2, b2⟩
    have F : Hid (RetZ w.heap.size (ancK l id) w (.returned (.slice A2 (ancK l id).length cap2)) w2) := hide ⟨A2, cap2, rfl, o2, b2⟩
    clear o2 b2 GG
    generalize (ancK l id).length = an at *
    go_wp2_with fail
    go_ret
    exact F.out

open Classical in
/-- is a behind b, in a repository? -/
noncomputable def isAncV (l : List Pr) (a b : ByteArray) : Bool := memK (ancK l b) a
end Go.Proofs.YtdahpnjamlfakaaGreatDoor
/-
  What a commit leaves, and that it leaves a repository.
-/
namespace Go.Proofs.YtdahpnjamlfakaaGreatDoor
open Go.RowKit

/-- the text of a map's tree, and of the commit -/
def treeT (m : List Pr) : ByteArray := mapW ++ M.textOf m
def comT (m : List Pr) (ps : List ByteArray) (note : ByteArray) : ByteArray := textC (idL (treeT m)) ps note
def cmP (l m : List Pr) (ps : List ByteArray) (note : ByteArray) : Prop :=
  repoB l = true ∧ mapB m = true ∧ (∀ p ∈ ps, rdOk (valOf l p) = true) ∧ comB (idL (treeT m)) ps note = true ∧ addB l (treeT m) = true ∧ addB (addL l (treeT m)) (comT m ps note) = true
open Classical in
noncomputable def cmB (l m : List Pr) (ps : List ByteArray) (note : ByteArray) : Bool := decide (cmP l m ps note)
noncomputable def cmL (l m : List Pr) (ps : List ByteArray) (note : ByteArray) : List Pr := if cmB l m ps note = true then addL (addL l (treeT m)) (comT m ps note) else []
noncomputable def cmI (l m : List Pr) (ps : List ByteArray) (note : ByteArray) : ByteArray := if cmB l m ps note = true then idL (comT m ps note) else ByteArray.empty
open Classical in
theorem cmB_iff {l m : List Pr} {ps : List ByteArray} {note : ByteArray} : cmB l m ps note = true ↔ cmP l m ps note := by unfold cmB; exact decide_eq_true_iff
theorem cmB_no {l m : List Pr} {ps : List ByteArray} {note : ByteArray} (h : ¬ cmP l m ps note) : cmB l m ps note = false ∧ cmL l m ps note = [] ∧ cmI l m ps note = ByteArray.empty := by
  have e : cmB l m ps note = false := by
    cases e : cmB l m ps note
    · rfl
    · exact absurd (cmB_iff.1 e) h
  refine ⟨e, ?_, ?_⟩
  · unfold cmL; rw [e]; rfl
  · unfold cmI; rw [e]; rfl
theorem cmB_yes {l m : List Pr} {ps : List ByteArray} {note : ByteArray} (h : cmP l m ps note) : cmB l m ps note = true ∧ cmL l m ps note = addL (addL l (treeT m)) (comT m ps note) ∧ cmI l m ps note = idL (comT m ps note) := by
  have e := cmB_iff.2 h
  refine ⟨e, ?_, ?_⟩
  · unfold cmL; rw [if_pos e]
  · unfold cmI; rw [if_pos e]
theorem cmL_len (l m : List Pr) (ps : List ByteArray) (note : ByteArray) : (cmL l m ps note).length ≤ 60 := by
  unfold cmL
  split
  · exact addL_objs _ _
  · simp

theorem has_of_rd {l : List Pr} {k : ByteArray} (h : rdOk (valOf l k) = true) : hasB l k = true := by
  cases e : hasB l k
  · rw [valOf_no e, rdOk_empty] at h; cases h
  · rfl
theorem has_of_tree {l : List Pr} {k : ByteArray} (h : treeB (valOf l k) = true) : hasB l k = true := by
  cases e : hasB l k
  · rw [valOf_no e, tree_empty] at h; cases h
  · rfl
/-- what was there stays as it was -/
theorem add_keeps {l : List Pr} {t k : ByteArray} (h : addB l t = true) (hk : hasB l k = true) : hasB (addL l t) k = true ∧ valOf (addL l t) k = valOf l k := by
  obtain ⟨ho, _, hs, _⟩ := addB_iff.1 h
  have hr : Ris l := ris_iff.1 (objsB_iff.1 ho).2.2
  rw [addL_yes h]
  refine ⟨(has_set hr _ _ _).2 (.inr hk), ?_⟩
  by_cases e : k = idL t
  · subst e
    rw [val_set hr]
    unfold stepOk at hs
    rw [hk] at hs
    simp only [Bool.not_true, Bool.false_or, decide_eq_true_eq] at hs
    exact hs.symm
  · exact val_set_ne hr _ e
theorem add_there {l : List Pr} {t : ByteArray} (h : addB l t = true) : hasB (addL l t) (idL t) = true ∧ valOf (addL l t) (idL t) = t ∧ objsB (addL l t) = true := by
  obtain ⟨ho, _⟩ := addB_iff.1 h
  have hr : Ris l := ris_iff.1 (objsB_iff.1 ho).2.2
  have := add_objs h
  rw [addL_yes h]
  exact ⟨(has_set hr _ _ _).2 (.inl rfl), val_set hr _ _, this⟩
theorem add_mem {l : List Pr} {t : ByteArray} (h : addB l t = true) {p : Pr} (hp : p ∈ addL l t) : p = (idL t, t) ∨ p ∈ l := by
  obtain ⟨ho, _⟩ := addB_iff.1 h
  have hr : Ris l := ris_iff.1 (objsB_iff.1 ho).2.2
  rw [addL_yes h] at hp
  rcases (mem_set hr _ _ _).1 hp with e | ⟨e, _⟩
  · exact .inl e
  · exact .inr e
theorem fine_grows {l l' : List Pr} {p : Pr} (h : fine l p) (hg : ∀ k, hasB l k = true → valOf l' k = valOf l k) : fine l' p := by
  refine ⟨h.1, fun hr => ?_⟩
  obtain ⟨h1, h2⟩ := h.2 hr
  refine ⟨by rw [hg _ (has_of_tree h1)]; exact h1, fun q hq => ?_⟩
  obtain ⟨h3, h4⟩ := h2 q hq
  exact ⟨by rw [hg _ (has_of_rd h3)]; exact h3, h4⟩
theorem tree_text {m : List Pr} (hm : mapB m = true) : treeB (treeT m) = true ∧ treeL (treeT m) = m := by
  have hp : mapW.data.toList <+: (treeT m).data.toList := by
    unfold treeT
    rw [ByteArray.data_append, Array.toList_append]
    exact List.prefix_append _ _
  have he : (treeT m).extract 4 (treeT m).size = M.textOf m := by
    refine (ext_front (r := treeT m) (want := mapW) (r' := M.textOf m) ?_).2.2
    unfold treeT
    rw [ByteArray.data_append, Array.toList_append]
  obtain ⟨h1, h2⟩ := M.text_read hm
  rw [treeB_yes hp, treeL_yes hp, he]
  exact ⟨h1, h2⟩
theorem comT_text {m : List Pr} {ps : List ByteArray} {note : ByteArray} (h : comB (idL (treeT m)) ps note = true) : rdOk (comT m ps note) = true ∧ rdC (comT m ps note) = (idL (treeT m), ps, note) :=
  rd_yes (c := (idL (treeT m), ps, note)) ⟨h, rfl⟩
/-- what is committed leaves a repository -/
theorem repo_cm {l m : List Pr} {ps : List ByteArray} {note : ByteArray} (h : cmP l m ps note) : repoB (addL (addL l (treeT m)) (comT m ps note)) = true := by
  obtain ⟨h1, h2, h3, h4, h5, h6⟩ := h
  obtain ⟨ho, hf⟩ := repoB_iff.1 h1
  obtain ⟨t1, t2, t3⟩ := add_there h5
  obtain ⟨c1, c2, c3⟩ := add_there h6
  obtain ⟨tr, _⟩ := tree_text h2
  obtain ⟨cr, cc⟩ := comT_text h4
  have g1 : ∀ k, hasB l k = true → hasB (addL l (treeT m)) k = true ∧ valOf (addL l (treeT m)) k = valOf l k := fun k hk => add_keeps h5 hk
  have g2 : ∀ k, hasB (addL l (treeT m)) k = true → hasB (addL (addL l (treeT m)) (comT m ps note)) k = true ∧ valOf (addL (addL l (treeT m)) (comT m ps note)) k = valOf (addL l (treeT m)) k := fun k hk => add_keeps h6 hk
  have g : ∀ k, hasB l k = true → valOf (addL (addL l (treeT m)) (comT m ps note)) k = valOf l k := fun k hk => (g2 k (g1 k hk).1).2.trans (g1 k hk).2
  have hr : risesTo l l.length := (objsB_iff.1 ho).2.2
  refine repoB_iff.2 ⟨c3, fun i hi _ => ?_⟩
  have hmem := List.getElem_mem hi
  rcases add_mem h6 hmem with e | hm1
  · rw [e]
    refine ⟨.inr cr, fun _ => ?_⟩
    rw [cc]
    refine ⟨?_, fun q hq => ⟨?_, ?_⟩⟩
    · show treeB (valOf _ (idL (treeT m))) = true
      rw [(g2 _ t1).2, t2]
      exact tr
    · rw [g q (has_of_rd (h3 q hq))]
      exact h3 q hq
    · intro e2
      have e3 : q = idL (comT m ps note) := e2
      have hq1 := has_of_rd (h3 q hq)
      have e4 : valOf l q = comT m ps note := by rw [← g q hq1, e3]; exact c2
      obtain ⟨j, hj, ej⟩ := has_at hq1
      have e5 := (valOf_at hr hj).2
      rw [ej, e4] at e5
      have hfj := hf j hj hj
      have := (hfj.2 (by rw [← e5]; exact cr)).2 q (by rw [← e5, cc]; exact hq)
      exact this.2 ej.symm
  · rcases add_mem h5 hm1 with e | hm2
    · rw [e]
      exact ⟨.inl tr, fun hx => by rw [tree_com tr] at hx; cases hx⟩
    · obtain ⟨j, hj, ej⟩ := List.getElem_of_mem hm2
      rw [← ej]
      exact fine_grows (hf j hj hj) g
end Go.Proofs.YtdahpnjamlfakaaGreatDoor
/-
  What spec.Committed answers.
-/
namespace Go.Proofs.YtdahpnjamlfakaaGreatDoor
open Go.RowKit

/-- a list of objects of the call's own, an id, a bool: what a commit leaves -/
theorem cm_no {l m : List Pr} {ps : List ByteArray} {note : ByteArray} {B : Nat} {w w' : World} (h : ¬ cmP l m ps note) (hb : Below B w w') : RetOwnI B (cmL l m ps note) (cmI l m ps note) (cmB l m ps note) w (.returned (.tuple #[.slice none 0 0, .string ByteArray.empty, .bool false])) w' := by
  obtain ⟨h1, h2, h3⟩ := cmB_no h
  exact retOwnI_no h2 h3 h1 hb
theorem treeT_size {m : List Pr} (hm : mapB m = true) : (treeT m).size ≤ 1000 := by
  have h := M.textOf_size (mapB_iff.1 hm).2.1 m.length (Nat.le_refl _)
  rw [List.take_length] at h
  have h40 := (mapB_iff.1 hm).1
  unfold treeT
  rw [ByteArray.size_append]
  have : mapW.size = 4 := rfl
  omega
theorem comT_size {m : List Pr} {ps : List ByteArray} {note : ByteArray} (h : comB (idL (treeT m)) ps note = true) : (comT m ps note).size ≤ maxLen := by
  obtain ⟨h1, h2, h3, h4⟩ := comSz_of h
  have h5 := headTo_size h1 h3 ps.length
  unfold comT textC maxLen
  rw [ByteArray.size_append, ByteArray.size_append]
  have : (⟨#[10]⟩ : ByteArray).size = 1 := rfl
  omega
theorem pins {w : World} {B : Nat} {A : Option Addr} {l : List ByteArray} (h : SIn w B A l) : ZIn w B A l := h.2
/-- the first j parents are there -/
def parsTo (l : List Pr) (ps : List ByteArray) (j : Nat) : Prop := ∀ i (h : i < ps.length), i < j → rdOk (valOf l ps[i]) = true
theorem parsTo_succ {l : List Pr} {ps : List ByteArray} {j : Nat} (hj : j < ps.length) (h : parsTo l ps j) (h1 : rdOk (valOf l ps[j]) = true) : parsTo l ps (j + 1) := by
  intro i hi hik
  by_cases e : i = j
  · subst e; exact h1
  · exact h i hi (by omega)
theorem parsTo_all {l : List Pr} {ps : List ByteArray} (h : parsTo l ps ps.length) : ∀ q ∈ ps, rdOk (valOf l q) = true := by
  intro q hq
  obtain ⟨i, hi, rfl⟩ := List.getElem_of_mem hq
  exact h i hi hi

set_option maxRecDepth 100000 in
set_option maxHeartbeats 2000000 in
theorem specCommitted_any (A0 : Option Addr) (l : List Pr) (cap0 : Nat) (A1 : Option Addr) (m : List Pr) (cap1 : Nat) (A2 : Option Addr) (ps : List ByteArray) (cap2 : Nat) (note : ByteArray) (w : World) (hl : l.length ≤ maxLen) (hc : l.length ≤ cap0) (hin : PIn w w.heap.size A0 l) (hl1 : m.length ≤ maxLen) (hin1 : PIn w w.heap.size A1 m) (hl2 : ps.length ≤ maxLen) (hin2 : SIn w w.heap.size A2 ps) (hn : note.size ≤ maxLen) :
    Calls Tryz.prog 22 #[.slice A0 l.length cap0, .slice A1 m.length cap1, .slice A2 ps.length cap2, .string note] w (RetOwnI w.heap.size (cmL l m ps note) (cmI l m ps note) (cmB l m ps note) w) := by
  have R := hide (specRepoOk_any A0 l cap0 w hl hin)
  have NO : Hid (¬ cmP l m ps note → ∀ w', Below w.heap.size w w' → RetOwnI w.heap.size (cmL l m ps note) (cmI l m ps note) (cmB l m ps note) w (.returned (.tuple #[.slice none 0 0, .string ByteArray.empty, .bool false])) w') := hide (fun h w' hb => cm_no h hb)
  have YES : Hid (cmP l m ps note → ∀ A cap w', (addL (addL l (treeT m)) (comT m ps note)).length ≤ cap → Own w' w.heap.size A cap (addL (addL l (treeT m)) (comT m ps note)) → Below w.heap.size w w' → RetOwnI w.heap.size (cmL l m ps note) (cmI l m ps note) (cmB l m ps note) w (.returned (.tuple #[.slice A (addL (addL l (treeT m)) (comT m ps note)).length cap, .string (idL (comT m ps note)), .bool true])) w') := hide (fun h A cap w' hcap ho hb => by
    obtain ⟨h1, h2, h3⟩ := cmB_yes h
    rw [h1, h2, h3]
    exact ⟨A, cap, hcap, rfl, ho, hb⟩)
  cases hr : repoB l
  · have Z := hide (NO.out (fun h => by rw [h.1] at hr; cases hr))
    clear hin hin1 hin2 hl hl1 hl2 NO YES
    generalize l.length = n0 at *
    generalize m.length = n1 at *
    generalize ps.length = n2 at *
    rw [hr] at R
    go_enter Tryz.func22, Tryz.ntmps22
    go_wp2_with fail
    refine R.out.mono ?_
    rintro e w1 ⟨rfl, b1⟩
    have B1 := hide b1
    clear b1 R
    go_wp2_with fail
    go_ret3
    exact Z.out _ B1.out
  · have HR := hide hr
    have HO := hide (repoB_iff.1 hr).1
    rw [hr] at R
    have MK : Hid (∀ W, Below w.heap.size w W → Calls Tryz.prog 53 #[.slice A1 m.length cap1] W fun e w' => e = .returned (.bool (mapB m)) ∧ Quiet W w') := hide (fun W hb => M.specMapOk_any A1 m cap1 W w.heap.size hl1 (hin1.below hb))
    cases hm : mapB m
    · have Z := hide (NO.out (fun h => by rw [h.2.1] at hm; cases hm))
      rw [hm] at MK
      clear hin hin1 hin2 hl hl1 hl2 NO YES hr
      generalize l.length = n0 at *
      generalize m.length = n1 at *
      generalize ps.length = n2 at *
      go_enter Tryz.func22, Tryz.ntmps22
      go_wp2_with fail
      refine R.out.mono ?_
      rintro e w1 ⟨rfl, b1⟩
      have B1 := hide b1
      clear b1 R
      go_wp2_with fail
      refine (MK.out _ B1.out).mono ?_
      rintro e w2 ⟨rfl, q2⟩
      have B2 := hide (B1.out.trans (q2.below _))
      clear q2
      go_wp2_with fail
      go_ret3
      exact Z.out _ B2.out
    · have HM := hide hm
      rw [hm] at MK
      have PN : Hid (∀ j (h : j < ps.length), rdOk (valOf l ps[j]) = false → ¬ cmP l m ps note) := hide (fun j h hf hc => by have := hc.2.2.1 _ (List.getElem_mem h); rw [hf] at this; cases this)
      have LC : Hid (∀ k W, Below w.heap.size w W → Calls Tryz.prog 54 #[.slice A0 l.length cap0, .string k] W (RetCom (valOf l k) W)) := hide (fun k W hb => l4Commit_any A0 l cap0 k W w.heap.size hb.size HO.out hl (hin.below hb))
      have TX : Hid (∀ W, Below w.heap.size w W → Calls Tryz.prog 55 #[.slice A1 m.length cap1] W fun e w' => e = .returned (.string (M.textOf m)) ∧ Quiet W w') := hide (fun W hb => M.l1Text_any A1 m cap1 W w.heap.size (mapB_iff.1 HM.out).1 (mapB_iff.1 HM.out).2.1 (hin1.below hb))
      have hts := treeT_size HM.out
      have TI := hide (fun W => l2Id_any (treeT m) W (by omega))
      have CO : Hid (∀ W, Below w.heap.size w W → Calls Tryz.prog 57 #[.agg #[.string (idL (treeT m)), .slice A2 ps.length cap2, .string note]] W fun e w' => e = .returned (.bool (comB (idL (treeT m)) ps note)) ∧ Below W.heap.size W w') := hide (fun W hb => specCommitOk_any (idL (treeT m)) note A2 ps cap2 W (idL_max _) hn hl2 ((hin2.below hb).more hb.size))
      have L4 : Hid (comB (idL (treeT m)) ps note = true → ∀ W, Below w.heap.size w W → Calls Tryz.prog 59 #[.agg #[.string (idL (treeT m)), .slice A2 ps.length cap2, .string note]] W fun e w' => e = .returned (.string (comT m ps note)) ∧ Below W.heap.size W w') := hide (fun h W hb => l4Text_any (idL (treeT m)) note A2 ps cap2 W (comSz_of h) ((hin2.below hb).more hb.size))
      have A1' : Hid (∀ W, Below w.heap.size w W → Calls Tryz.prog 58 #[.slice A0 l.length cap0, .string (treeT m)] W (RetOwnI W.heap.size (addL l (treeT m)) (adI l (treeT m)) (addB l (treeT m)) W)) := hide (fun W hb => specAdd_any A0 l cap0 (treeT m) W hl hc ((hin.below hb).more hb.size) (by unfold maxLen; omega))
      have P0 : Hid ((∀ q ∈ ps, rdOk (valOf l q) = true) → comB (idL (treeT m)) ps note = true → addB l (treeT m) = true → addB (addL l (treeT m)) (comT m ps note) = true → cmP l m ps note) := hide (fun h1 h2 h3 h4 => ⟨HR.out, HM.out, h1, h2, h3, h4⟩)
      have N2 : Hid (comB (idL (treeT m)) ps note = false → ¬ cmP l m ps note) := hide (fun h hc => by have := hc.2.2.2.1; rw [h] at this; cases this)
      have N3 : Hid (addB l (treeT m) = false → ¬ cmP l m ps note) := hide (fun h hc => by have := hc.2.2.2.2.1; rw [h] at this; cases this)
      have N4 : Hid (addB (addL l (treeT m)) (comT m ps note) = false → ¬ cmP l m ps note) := hide (fun h hc => by have := hc.2.2.2.2.2; rw [h] at this; cases this)
      have CZ := hide (fun h => comT_size (m := m) (ps := ps) (note := note) h)
      have IN2 := hide hin2
      have TT : Hid ((⟨#[109, 97, 112, 10]⟩ : ByteArray) ++ M.textOf m = treeT m) := hide rfl
      have hsm : (M.textOf m).size ≤ 1000 := by
        unfold treeT at hts
        rw [ByteArray.size_append] at hts
        omega
      have hl2' := hl2
      unfold maxLen at hl2'
      clear hin hin1 hin2 hl hl1 hr hm
      generalize l.length = n0 at *
      generalize m.length = n1 at *
      generalize hpn : ps.length = n2 at hl2' CO L4 ⊢
      have PL := hide hpn
      clear hpn hl2
      go_enter Tryz.func22, Tryz.ntmps22
      go_wp2_with fail
      refine R.out.mono ?_
      rintro e w1 ⟨rfl, b1⟩
      have B1 := hide b1
      clear b1 R
      go_wp2_with fail
      refine (MK.out _ B1.out).mono ?_
      rintro e w2 ⟨rfl, q2⟩
      have B2 := hide (B1.out.trans (q2.below _))
      clear q2 MK B1
      go_wp2_with fail
      go_loopw [11] (fun iv wr => ∃ k : Nat, k ≤ n2 ∧ iv = .int .i64 k ∧ Hid (parsTo l ps k) ∧ Hid (Below w.heap.size w wr)) (fun i _ => n2 - (intOf i).toNat)
      case atStart => exact ⟨0, Nat.zero_le _, rfl, hide (fun _ _ h => absurd h (by omega)), B2⟩
      case round =>
        clear B2
        obtain ⟨k, hk, rfl, H, Q⟩ := hrel
        by_cases hlt : k < n2
        · have hkl : k < ps.length := by rw [PL.out]; omega
          obtain ⟨b, off, rfl, hb, hc'⟩ := (IN2.out.below Q.out).2 (by omega)
          have c1 := hc' k hkl
          have Z1 := hide (PN.out k hkl)
          have Z2 := hide (parsTo_succ hkl H.out)
          clear hc' PN H
          generalize ps[k]'hkl = q at *
          go_wp2_with fail
          refine (LC.out q _ Q.out).mono ?_
          rintro e w4 ⟨A4, cap4, rfl, _, b4⟩
          have bx := boxC_below w4 (.string (rdC (valOf l q)).1) (.slice A4 (rdC (valOf l q)).2.1.length cap4) (.string (rdC (valOf l q)).2.2)
          have B5 := hide (Q.out.trans ((b4.trans (bx.mono b4.size)).mono Q.out.size))
          clear bx b4
          generalize (rdC (valOf l q)).1 = q1 at *
          generalize (rdC (valOf l q)).2.2 = q3 at *
          generalize (rdC (valOf l q)).2.1.length = q2 at *
          cases hrq : rdOk (valOf l q)
          · have Z := hide (NO.out (Z1.out hrq))
            clear hrq Z1 Z2 YES TI CO L4 A1' P0 N2 N3 N4 TX LC NO
            go_wp2_with fail
            go_ret3
            exact Z.out _ B5.out
          · have Z := hide (Z2.out hrq)
            clear hrq Z1 Z2
            go_wp2_with fail
            go_roundw
            case rel => exact ⟨k + 1, by omega, by go_num, Z, B5⟩
            case measure => simp [intOf]; omega
        · have HA := hide (parsTo_all (show parsTo l ps ps.length by rw [PL.out, ← show k = n2 by omega]; exact H.out))
          have hgt : ¬ ((k : Int) < (n2 : Int)) := by omega
          clear hlt PN LC H
          go_wp2_with fail
          refine (TX.out _ Q.out).mono ?_
          rintro e w4 ⟨rfl, q4⟩
          have B4 := hide (Q.out.trans (q4.below _))
          have hadd : ¬ ((9223372036854775807 : Nat) < (⟨#[109, 97, 112, 10]⟩ : ByteArray).size + (M.textOf m).size) := by
            have : (⟨#[109, 97, 112, 10]⟩ : ByteArray).size = 4 := rfl
            omega
          clear q4 Q TX
          have TE := TT.out
          go_wp2_with fail
          try rw [TE]
          refine (TI.out w4).mono ?_
          rintro e w5 ⟨rfl, b5⟩
          have B5 := hide (B4.out.trans (b5.mono B4.out.size))
          clear b5 B4 TI
          have bx := boxC_below w5 (.string (idL (treeT m))) (.slice A2 n2 cap2) (.string note)
          have B6 := hide (B5.out.trans (bx.mono B5.out.size))
          have X6 := hide (boxC w5 (idL (treeT m)) note A2 n2 cap2)
          have S6 : Hid ((w5.alloc (.cells #[.string (idL (treeT m)), .slice A2 n2 cap2, .string note] 30)).heap.size = w5.heap.size + 1) := hide (by simp)
          have g0 := cell_of_row _ _ 0 _ _ _ X6.out
          have g1 := cell_of_row _ _ 1 _ _ _ X6.out
          have g2 := cell_of_row _ _ 2 _ _ _ X6.out
          have CC := hide (CO.out _ B6.out)
          clear bx CO TE
          generalize idL (treeT m) = ti at *
          go_wp2_with fail
          refine CC.out.mono ?_
          rintro e w6 ⟨rfl, b6⟩
          have B7 := hide (B6.out.trans (b6.mono B6.out.size))
          have X7 := hide ((b6.block w5.heap.size (by rw [S6.out]; omega)).trans X6.out)
          have hs7 : w5.heap.size < w6.heap.size := by have := b6.size; rw [S6.out] at this; exact this
          clear b6 CC X6 S6 g0 g1 g2 B6 B5
          cases hcb : comB ti ps note
          · have Z := hide (NO.out (N2.out hcb))
            clear hcb NO YES L4 A1' P0 N2 N3 N4
            go_wp2_with fail
            go_ret3
            exact Z.out _ B7.out
          · have LT := hide (L4.out hcb)
            have P1 := hide (P0.out HA.out hcb)
            have HCT := hide (CZ.out hcb)
            clear hcb N2 P0 L4
            go_wp2_with fail
            refine (A1'.out _ B7.out).mono ?_
            rintro e w7 ⟨A7, cap7, hc7, rfl, own7, b7⟩
            have B8 := hide (B7.out.trans (b7.mono B7.out.size))
            have X8 := hide ((b7.block w5.heap.size hs7).trans X7.out)
            have O8 := hide own7
            have hs8 : w5.heap.size < w7.heap.size := Nat.lt_of_lt_of_le hs7 b7.size
            have h60 := addL_objs l (treeT m)
            have g0 := cell_of_row _ _ 0 _ _ _ X8.out
            have g1 := cell_of_row _ _ 1 _ _ _ X8.out
            have g2 := cell_of_row _ _ 2 _ _ _ X8.out
            clear b7 own7 A1' X7 B7
            generalize hone : addL l (treeT m) = one at *
            generalize hon : one.length = on at h60 hc7 ⊢
            have ON := hide hon
            clear hon
            have HONE := hide hone
            clear hone
            generalize adI l (treeT m) = ai at *
            go_wp2_with fail
            refine (LT.out _ B8.out).mono ?_
            rintro e w8 ⟨rfl, b8⟩
            have B9 := hide (B8.out.trans (b8.mono B8.out.size))
            have O9 := hide (O8.out.below b8)
            clear b8 LT B8 O8 X8 g0 g1 g2
            have hct := HCT.out
            have AD := hide (specAdd_any A7 one cap7 (comT m ps note) w8 (by rw [ON.out]; unfold maxLen; omega) (by rw [ON.out]; exact hc7) O9.out.pin hct)
            rw [ON.out] at AD
            go_wp2_with fail
            refine AD.out.mono ?_
            rintro e w9 ⟨A10, cap10, hc10, rfl, own10, b10⟩
            have B11 := hide (B9.out.trans (b10.mono B9.out.size))
            have O11 := hide (own10.more (show w.heap.size ≤ w8.heap.size by have := B9.out.size; omega))
            have hl11 := addL_objs one (comT m ps note)
            have hp11 := own10.pin
            clear own10 b10 AD B9 O9 hc7
            cases hb1 : addB l (treeT m)
            · have Z := hide (NO.out (N3.out hb1))
              clear hb1 NO YES P1 N3 N4 hp11 hl11 hc10
              generalize (addL one (comT m ps note)).length = tn at *
              generalize adI one (comT m ps note) = aj at *
              generalize addB one (comT m ps note) = ab at *
              go_wp2_with fail
              go_ret3
              exact Z.out _ B11.out
            · cases hb2 : addB one (comT m ps note)
              · have Z := hide (NO.out (N4.out hb2))
                clear hb1 hb2 NO YES P1 N3 N4 hp11 hl11 hc10
                generalize (addL one (comT m ps note)).length = tn at *
                generalize adI one (comT m ps note) = aj at *
                go_wp2_with fail
                go_ret3
                exact Z.out _ B11.out
              · have P2 := hide (P1.out hb1 hb2)
                have RO := hide (specRepoOk_any A10 (addL one (comT m ps note)) cap10 w9 (by unfold maxLen; omega) hp11)
                have HRT : repoB (addL one (comT m ps note)) = true := by rw [← HONE.out]; exact repo_cm P2.out
                have FIN : Hid (∀ w', Below w9.heap.size w9 w' → RetOwnI w.heap.size (cmL l m ps note) (cmI l m ps note) (cmB l m ps note) w (.returned (.tuple #[.slice A10 (addL one (comT m ps note)).length cap10, .string (adI one (comT m ps note)), .bool true])) w') := hide (fun w' hb => by
                  rw [adI_yes hb2]
                  exact YES.out P2.out A10 cap10 w' hc10 (O11.out.below hb) (B11.out.trans (hb.mono B11.out.size)))
                rw [HRT] at RO
                clear hb1 hb2 NO YES P1 N3 N4 hp11 hl11 hc10 HRT
                generalize (addL one (comT m ps note)).length = tn at *
                generalize adI one (comT m ps note) = aj at *
                go_wp2_with fail
                refine RO.out.mono ?_
                rintro e w12 ⟨rfl, b12⟩
                have FF := hide (FIN.out _ b12)
                clear b12 RO FIN
                go_wp2_with fail
                go_ret3
                exact FF.out
end Go.Proofs.YtdahpnjamlfakaaGreatDoor
/-
  What impl.CommitText answers.
-/
namespace Go.Proofs.YtdahpnjamlfakaaGreatDoor
open Go.RowKit

theorem head_bytes0 (t : ByteArray) (l : List ByteArray) : (([] : List Value) ++ Lib.strCells ⟨#[99, 111, 109, 109, 105, 116, 32]⟩) ++ Lib.strCells t = Lib.byteCells (headTo t l 0).data.toList := by
  rw [headTo]
  simp [Lib.byteCells, Lib.strCells, ByteArray.data_append]
theorem head_bytes1 {t : ByteArray} {l : List ByteArray} {k : Nat} (h : k < l.length) : (Lib.byteCells (headTo t l k).data.toList ++ [Value.int .u8 32]) ++ Lib.strCells l[k] = Lib.byteCells (headTo t l (k + 1)).data.toList := by
  rw [headTo_next h]
  simp [Lib.byteCells, Lib.strCells, ByteArray.data_append]
theorem head_bytes2 (t : ByteArray) (l : List ByteArray) (m : ByteArray) : (Lib.byteCells (headTo t l l.length).data.toList ++ [Value.int .u8 10]) ++ Lib.strCells m = Lib.byteCells (textC t l m).data.toList := by
  unfold textC
  simp [Lib.byteCells, Lib.strCells, ByteArray.data_append]
theorem textC_ne (t : ByteArray) (l : List ByteArray) (m : ByteArray) : (textC t l m).data.toList ≠ [] := by
  intro e
  have h2 : (textC t l m).size = 0 := by
    show (textC t l m).data.size = 0
    rw [← Array.length_toList, e]
    rfl
  unfold textC at h2
  rw [ByteArray.size_append, ByteArray.size_append] at h2
  have e2 : (ByteArray.mk #[10]).size = 1 := rfl
  omega

set_option maxRecDepth 100000 in
set_option maxHeartbeats 2000000 in
theorem implCommitText_any (t m : ByteArray) (A : Option Addr) (l : List ByteArray) (cap : Nat) (w : World) (ht : t.size ≤ maxLen) (hm : m.size ≤ maxLen) (hl : l.length ≤ maxLen) (hin : SIn w w.heap.size A l) :
    Calls Tryz.prog 50 #[.agg #[.string t, .slice A l.length cap, .string m]] w fun e w' => e = .returned (.string (comTextS t l m)) ∧ Below w.heap.size w w' := by
  have B1 : Hid (Below w.heap.size w (w.alloc (.cells #[.string t, .slice A l.length cap, .string m] 30))) := hide ((Below.refl _ w).alloc (Nat.le_refl _) _)
  have X := hide (box3 w (.string t) (.slice A l.length cap) (.string m) 30)
  have R := hide (implCommitOk_any t m A l cap _ ht hm hl ((hin.below B1.out).more B1.out.size))
  have IN := hide hin
  clear hin
  cases hc : comB t l m
  · rw [hc] at R
    have Z := hide (comText_no hc)
    go_enter Tryz.func50, Tryz.ntmps50
    go_wp2_with fail
    refine R.out.mono ?_
    rintro e w1 ⟨rfl, b1⟩
    have BB := hide (B1.out.trans (b1.mono B1.out.size))
    clear b1
    go_wp2
    go_ret
    exact ⟨ret_str Z.out.symm, BB.out⟩
  · rw [hc] at R
    have Z := hide (comText_yes hc)
    obtain ⟨g1, g2, g3, g4⟩ := comSz_of hc
    have SZ := hide (headTo_size g1 g3)
    have G3 := hide g3
    have E0 := hide (head_bytes0 t l)
    have E2 := hide (head_bytes2 t l m)
    have e7 : (ByteArray.mk #[99, 111, 109, 109, 105, 116, 32]).size = 7 := rfl
    clear g3 hc
    go_enter Tryz.func50, Tryz.ntmps50
    go_wp2_with fail
    refine R.out.mono ?_
    rintro e w1 ⟨rfl, b1⟩
    have lt : w.heap.size < (w.alloc (.cells #[.string t, .slice A l.length cap, .string m] 30)).heap.size := by simp
    have Y0 := hide (cellB b1 lt X.out.1)
    have Y1 := hide (cellB b1 lt X.out.2.1)
    have Y2 := hide (cellB b1 lt X.out.2.2)
    have lt1 : w.heap.size < w1.heap.size := Nat.lt_of_lt_of_le lt b1.size
    have BB := hide (B1.out.trans (b1.mono B1.out.size))
    have IN1 := hide ((IN.out.below BB.out).more BB.out.size)
    have I0 := hide (Lib.fresh_isBuilder 117 5 w1)
    have Q0 := hide ((Below.refl w1.heap.size w1).alloc (Nat.le_refl _) (.cells #[.pointer none, .slice none 0 0] 117))
    clear b1 R X B1 lt IN
    go_wp2_with fail
    refine (writeString_any w1.heap.size w1.heap.size [] ⟨#[99, 111, 109, 109, 105, 116, 32]⟩ _ I0.out (by rw [e7]; simp) Q0.out.size).mono ?_
    rintro e w2 ⟨rfl, i2, b2, _⟩
    have I2 := hide i2
    have Q2 := hide (Q0.out.trans b2)
    have x0 := cellB Q2.out lt1 Y0.out
    clear i2 b2 I0 Q0
    go_wp2_with fail
    refine (writeString_any w1.heap.size w1.heap.size _ t _ I2.out (by rw [List.length_append, Lib.strCells_length, e7]; simp; omega) Q2.out.size).mono ?_
    rintro e w3 ⟨rfl, i3, b3, _⟩
    rw [E0.out] at i3
    have I3 := hide i3
    have Q3 := hide (Q2.out.trans b3)
    have x1 := cellB Q3.out lt1 Y1.out
    clear i3 b3 I2 Q2 x0
    generalize hn : l.length = n at *
    have HN := hide hn
    clear hn
    clear E0 Y0 Y1 ht hm hl e7
    go_wp2_with fail
    go_loopw [16] (fun i wr => ∃ k : Nat, k ≤ n ∧ i = .int .i64 k ∧ Hid (IsBld w1.heap.size w1.heap.size (Lib.byteCells (headTo t l k).data.toList) wr) ∧ Hid (Below w1.heap.size w1 wr)) (fun i _ => n - (intOf i).toNat)
    case atStart => exact ⟨0, Nat.zero_le _, rfl, I3, Q3⟩
    case round =>
      clear I3 Q3 x1
      obtain ⟨k, hk, rfl, I, Q⟩ := hrel
      have s0 := SZ.out k
      have s0' : (Lib.byteCells (headTo t l k).data.toList).length ≤ 23 + 17 * k := by rw [Lib.byteCells_length]; exact s0
      by_cases hlt : k < n
      · have hkl : k < l.length := by rw [HN.out]; omega
        have in1 := IN1.out.below Q.out
        obtain ⟨b, off, rfl, hbB, hc⟩ := in1.2 (by omega)
        have c1 := hc k hkl
        have s1 := G3.out k hkl
        have E := hide (head_bytes1 (t := t) hkl)
        generalize l[k] = x at *
        generalize Lib.byteCells (headTo t l k).data.toList = bs at *
        clear in1 hc s0
        go_wp2_with fail
        refine (writeByte_any w1.heap.size w1.heap.size bs 32 _ I.out (by omega) Q.out.size).mono ?_
        rintro e w4 ⟨rfl, i4, b4, _⟩
        have I4 := hide i4
        have Q4 := hide (Q.out.trans b4)
        clear i4 b4 I Q c1
        go_wp2_with fail
        refine (writeString_any w1.heap.size w1.heap.size _ x _ I4.out (by rw [List.length_append]; simp; omega) Q4.out.size).mono ?_
        rintro e w5 ⟨rfl, i5, b5, _⟩
        rw [E.out] at i5
        have I5 := hide i5
        have Q5 := hide (Q4.out.trans b5)
        clear i5 b5 I4 Q4
        go_wp2
        go_roundw
        case rel => exact ⟨k + 1, by omega, by go_num, I5, Q5⟩
        case measure => simp [intOf]; omega
      · obtain rfl : k = n := by omega
        generalize Lib.byteCells (headTo t l k).data.toList = bs at *
        go_wp2_with fail
        refine (writeByte_any w1.heap.size w1.heap.size bs 10 _ I.out (by omega) Q.out.size).mono ?_
        rintro e w4 ⟨rfl, i4, b4, _⟩
        have I4 := hide i4
        have Q4 := hide (Q.out.trans b4)
        have x2 := cellB Q4.out lt1 Y2.out
        clear i4 b4 I Q
        go_wp2_with fail
        refine (writeString_any w1.heap.size w1.heap.size _ m _ I4.out (by rw [List.length_append]; simp; omega) Q4.out.size).mono ?_
        rintro e w5 ⟨rfl, i5, b5, _⟩
        rw [E2.out] at i5
        have I5 := hide i5
        have Q5 := hide (Q4.out.trans b5)
        clear i5 b5 I4 Q4 x2
        go_wp2_with fail
        refine (string_some w1.heap.size w1.heap.size (textC t l m).data.toList w5 I5.out (textC_ne t l m)).mono ?_
        rintro e w6 ⟨rfl, b6⟩
        have B6 := hide (BB.out.trans ((Q5.out.trans b6).mono BB.out.size))
        clear b6 I5 Q5
        go_wp2
        go_ret
        exact ⟨ret_str Z.out.symm, B6.out⟩
end Go.Proofs.YtdahpnjamlfakaaGreatDoor
/-
  What impl.treeText and impl.Committed answer.
-/
namespace Go.Proofs.YtdahpnjamlfakaaGreatDoor
open Go.RowKit Go.Maps

set_option maxRecDepth 100000 in
set_option maxHeartbeats 1000000 in
theorem treeText_any (A : Option Addr) (m : List Pr) (cap : Nat) (w : World) (hl : m.length ≤ maxLen) (hm : mapB m = true) (hin : PIn w w.heap.size A m) :
    Calls Tryz.prog 46 #[.slice A m.length cap] w fun e w' => e = .returned (.string (treeT m)) ∧ Below w.heap.size w w' := by
  have MT := hide (M.implMapText_any A m cap w hl hin)
  rw [M.mapText_yes hm] at MT
  have TT : Hid ((⟨#[109, 97, 112, 10]⟩ : ByteArray) ++ M.textOf m = treeT m) := hide rfl
  have hts := treeT_size hm
  have hadd : ¬ ((9223372036854775807 : Nat) < (⟨#[109, 97, 112, 10]⟩ : ByteArray).size + (M.textOf m).size) := by
    unfold treeT at hts
    rw [ByteArray.size_append] at hts
    have : (⟨#[109, 97, 112, 10]⟩ : ByteArray).size = 4 := rfl
    have : mapW.size = 4 := rfl
    omega
  clear hin hm hts
  generalize m.length = n at *
  go_enter Tryz.func46, Tryz.ntmps46
  go_wp2_with fail
  refine MT.out.mono ?_
  rintro e w1 ⟨rfl, b1⟩
  have B1 := hide b1
  clear b1 MT
  go_wp2_with fail
  go_ret
  exact ⟨rfl, B1.out⟩
theorem lens_objs {l : List Pr} (h : objsB l = true) : lens l := fun i hi => by
  obtain ⟨h1, h2⟩ := (objsB_iff.1 h).2.1 i hi hi
  refine ⟨?_, by unfold maxLen; omega⟩
  rw [← h2, idL_size]
  simp [maxLen]

set_option maxRecDepth 100000 in
set_option maxHeartbeats 2000000 in
theorem implCommitted_any (A0 : Option Addr) (l : List Pr) (cap0 : Nat) (A1 : Option Addr) (m : List Pr) (cap1 : Nat) (A2 : Option Addr) (ps : List ByteArray) (cap2 : Nat) (note : ByteArray) (a : Addr) (w : World) (hl : l.length ≤ maxLen) (hin : PIn w w.heap.size A0 l) (hl1 : m.length ≤ maxLen) (hin1 : PIn w w.heap.size A1 m) (hl2 : ps.length ≤ maxLen) (hin2 : SIn w w.heap.size A2 ps) (hn : note.size ≤ maxLen) (hT : Tabs w) (hE : ErrC w a) :
    Calls Tryz.prog 21 #[.slice A0 l.length cap0, .slice A1 m.length cap1, .slice A2 ps.length cap2, .string note] w (RetOwnI w.heap.size (cmL l m ps note) (cmI l m ps note) (cmB l m ps note) w) := by
  have R := hide (repoOf_any A0 l cap0 a w hl hin hT hE)
  have NO : Hid (¬ cmP l m ps note → ∀ w', Below w.heap.size w w' → RetOwnI w.heap.size (cmL l m ps note) (cmI l m ps note) (cmB l m ps note) w (.returned (.tuple #[.slice none 0 0, .string ByteArray.empty, .bool false])) w') := hide (fun h w' hb => cm_no h hb)
  have YES : Hid (cmP l m ps note → ∀ A cap w', (addL (addL l (treeT m)) (comT m ps note)).length ≤ cap → Own w' w.heap.size A cap (addL (addL l (treeT m)) (comT m ps note)) → Below w.heap.size w w' → RetOwnI w.heap.size (cmL l m ps note) (cmI l m ps note) (cmB l m ps note) w (.returned (.tuple #[.slice A (addL (addL l (treeT m)) (comT m ps note)).length cap, .string (idL (comT m ps note)), .bool true])) w') := hide (fun h A cap w' hcap ho hb => by
    obtain ⟨h1, h2, h3⟩ := cmB_yes h
    rw [h1, h2, h3]
    exact ⟨A, cap, hcap, rfl, ho, hb⟩)
  have MK : Hid (∀ W, Below w.heap.size w W → Calls Tryz.prog 44 #[.slice A1 m.length cap1] W fun e w' => e = .returned (.bool (mapB m)) ∧ Below W.heap.size W w') := hide (fun W hb => M.implMapOk_any A1 m cap1 W hl1 ((hin1.below hb).more hb.size))
  have HC : Hid (∀ W bt bm bc B vs, Below w.heap.size w W → RepoM W B bm bc 60 l vs → Calls Tryz.prog 45 #[.agg #[.map (some bt), .map (some bm), .map (some bc)], .slice A2 ps.length cap2] W fun e w' => e = .returned (.bool (comsAll l ps)) ∧ Below W.heap.size W w') := hide (fun W bt bm bc B vs hb hR => hasCommits_any bt bm bc B 60 l vs A2 ps cap2 W hl2 (fun p hp => by obtain ⟨i, hi, rfl⟩ := List.getElem_of_mem hp; exact hin2.1 i hi) ((pins (hin2.below hb)).more hb.size) hR)
  have TX : Hid (mapB m = true → ∀ W, Below w.heap.size w W → Calls Tryz.prog 46 #[.slice A1 m.length cap1] W fun e w' => e = .returned (.string (treeT m)) ∧ Below W.heap.size W w') := hide (fun hm W hb => treeText_any A1 m cap1 W hl1 hm ((hin1.below hb).more hb.size))
  have HT := hide hT
  have CO : Hid (∀ W, Below w.heap.size w W → Calls Tryz.prog 48 #[.agg #[.string (idL (treeT m)), .slice A2 ps.length cap2, .string note]] W fun e w' => e = .returned (.bool (comB (idL (treeT m)) ps note)) ∧ Below W.heap.size W w') := hide (fun W hb => implCommitOk_any (idL (treeT m)) note A2 ps cap2 W (idL_max _) hn hl2 ((hin2.below hb).more hb.size))
  have CT : Hid (comB (idL (treeT m)) ps note = true → ∀ W, Below w.heap.size w W → Calls Tryz.prog 50 #[.agg #[.string (idL (treeT m)), .slice A2 ps.length cap2, .string note]] W fun e w' => e = .returned (.string (comT m ps note)) ∧ Below W.heap.size W w') := hide (fun hc W hb => by
    have h := implCommitText_any (idL (treeT m)) note A2 ps cap2 W (idL_max _) hn hl2 ((hin2.below hb).more hb.size)
    rw [comText_yes hc] at h
    exact h)
  have CZ := hide (fun h => comT_size (m := m) (ps := ps) (note := note) h)
  have N1 : Hid (repoB l = false → ¬ cmP l m ps note) := hide (fun h hc => by rw [hc.1] at h; cases h)
  have N2 : Hid (mapB m = false → ¬ cmP l m ps note) := hide (fun h hc => by rw [hc.2.1] at h; cases h)
  have N3 : Hid (comsAll l ps = false → ¬ cmP l m ps note) := hide (fun h hc => by rw [comsAll_iff.2 hc.2.2.1] at h; cases h)
  have N4 : Hid (comB (idL (treeT m)) ps note = false → ¬ cmP l m ps note) := hide (fun h hc => by rw [hc.2.2.2.1] at h; cases h)
  have N5 : Hid (objsB l = true → addOk l (treeT m) = false → ¬ cmP l m ps note) := hide (fun h h1 hc => by have := hc.2.2.2.2.1; rw [addB_of h, h1] at this; cases this)
  have N6 : Hid (objsB l = true → addOk l (treeT m) = true → addOk (setL l (idL (treeT m)) (treeT m)) (comT m ps note) = false → ¬ cmP l m ps note) := hide (fun h h1 h2 hc => by
    have h3 : addB l (treeT m) = true := by rw [addB_of h, h1]
    have := hc.2.2.2.2.2
    rw [addL_yes h3, addB_of (add_objs h3), h2] at this
    cases this)
  have P6 : Hid (repoB l = true → mapB m = true → comsAll l ps = true → comB (idL (treeT m)) ps note = true → addOk l (treeT m) = true → addOk (setL l (idL (treeT m)) (treeT m)) (comT m ps note) = true → cmP l m ps note ∧ addL (addL l (treeT m)) (comT m ps note) = setL (setL l (idL (treeT m)) (treeT m)) (idL (comT m ps note)) (comT m ps note) ∧ objsB (setL (setL l (idL (treeT m)) (treeT m)) (idL (comT m ps note)) (comT m ps note)) = true) := hide (fun h1 h2 h3 h4 h5 h6 => by
    have ho := (repoB_iff.1 h1).1
    have h7 : addB l (treeT m) = true := by rw [addB_of ho, h5]
    have h8 : addB (addL l (treeT m)) (comT m ps note) = true := by rw [addL_yes h7, addB_of (add_objs h7), h6]
    have h9 := add_objs h8
    refine ⟨⟨h1, h2, comsAll_iff.1 h3, h4, h7, h8⟩, by rw [addL_yes h8, addL_yes h7], ?_⟩
    rw [addL_yes h7] at h9
    exact h9)
  clear hin hin1 hin2 hl hl1 hl2 hT hE
  generalize hn0 : l.length = n0 at R ⊢
  have HN0 := hide hn0
  clear hn0
  generalize m.length = n1 at *
  generalize ps.length = n2 at *
  go_enter Tryz.func21, Tryz.ntmps21
  go_wp2_with fail
  refine R.out.mono ?_
  rintro e w1 ⟨b1, ⟨hf, rfl⟩ | ⟨hf, bt, bm, bc, B, vs, rfl, h1, h2, h3, h4, h5, tm, rm⟩⟩
  · have Z := hide (NO.out (N1.out hf))
    have B1 := hide (b1.alloc b1.size (.cells #[.map none, .map none, .map none] 47))
    clear b1 hf R NO YES MK HC TX HT CO CT CZ N1 N2 N3 N4 N5 N6 P6
    go_wp2_with fail
    go_ret3
    exact Z.out _ B1.out
  · have HR := hide hf
    have HO := hide (repoB_iff.1 hf).1
    have b2 := (Below.refl w1.heap.size w1).alloc (Nat.le_refl _) (.cells #[.map (some bt), .map (some bm), .map (some bc)] 47)
    have B2 := hide (b1.trans (b2.mono b1.size))
    have XR := hide (heap_alloc_new w1 (.cells #[.map (some bt), .map (some bm), .map (some bc)] 47))
    have S2 : Hid ((w1.alloc (.cells #[.map (some bt), .map (some bm), .map (some bc)] 47)).heap.size = w1.heap.size + 1) := hide (by simp)
    have TR := hide ((TMap.rep tm (objsB_iff.1 HO.out).2.2).below b2)
    have RM := hide (rm.below b2)
    have hbt1 : bt < w1.heap.size := by omega
    have MM := hide (MK.out _ B2.out)
    rw [HN0.out] at TR
    clear b1 b2 hf R tm rm MK N1
    go_wp2_with fail
    refine MM.out.mono ?_
    rintro e w3 ⟨rfl, b3⟩
    have B3 := hide (B2.out.trans (b3.mono B2.out.size))
    have X3 := hide ((b3.block w1.heap.size (by rw [S2.out]; omega)).trans XR.out)
    have hs3 : w1.heap.size < w3.heap.size := by have := b3.size; rw [S2.out] at this; exact this
    have T3 := hide (TR.out.below b3)
    have R3 := hide (RM.out.below b3)
    clear b3 MM XR S2 TR RM B2
    cases hm : mapB m
    · have Z := hide (NO.out (N2.out hm))
      clear hm NO YES HC TX HT CO CT CZ N2 N3 N4 N5 N6 P6 R3 T3 X3
      go_wp2_with fail
      go_ret3
      exact Z.out _ B3.out
    · have HM := hide hm
      have HCC := hide (HC.out w3 bt bm bc B vs B3.out R3.out)
      have x0 := cell_of_row _ _ 0 _ _ _ X3.out
      have x1 := cell_of_row _ _ 1 _ _ _ X3.out
      have x2 := cell_of_row _ _ 2 _ _ _ X3.out
      clear HC R3 N2 hm
      go_wp2_with fail
      refine HCC.out.mono ?_
      rintro e w4 ⟨rfl, b4⟩
      have B4 := hide (B3.out.trans (b4.mono B3.out.size))
      have X4 := hide ((b4.block w1.heap.size hs3).trans X3.out)
      have hs4 : w1.heap.size < w4.heap.size := Nat.lt_of_lt_of_le hs3 b4.size
      have T4 := hide (T3.out.below b4)
      clear b4 HCC x0 x1 x2 X3 T3 B3
      cases hca : comsAll l ps
      · have Z := hide (NO.out (N3.out hca))
        clear hca NO YES TX HT CO CT CZ N3 N4 N5 N6 P6 T4 X4
        go_wp2_with fail
        go_ret3
        exact Z.out _ B4.out
      · have HCA := hide hca
        have hts := treeT_size HM.out
        have TT := hide (TX.out HM.out _ B4.out)
        clear hca N3 TX
        generalize treeT m = tt at *
        go_wp2_with fail
        refine TT.out.mono ?_
        rintro e w5 ⟨rfl, b5⟩
        have B5 := hide (B4.out.trans (b5.mono B4.out.size))
        have X5 := hide ((b5.block w1.heap.size hs4).trans X4.out)
        have hs5 : w1.heap.size < w5.heap.size := Nat.lt_of_lt_of_le hs4 b5.size
        have T5 := hide (T4.out.below b5)
        have ID := hide (idI_any tt w5 (by omega) (HT.out.below B5.out HT.out.1))
        clear b5 TT X4 T4 B4
        go_wp2_with fail
        refine ID.out.mono ?_
        rintro e w6 ⟨rfl, b6⟩
        have bx := boxC_below w6 (.string (idL tt)) (.slice A2 n2 cap2) (.string note)
        have XC := hide (boxC w6 (idL tt) note A2 n2 cap2)
        have B7 := hide (B5.out.trans ((b6.trans (bx.mono b6.size)).mono B5.out.size))
        have hs6 : w1.heap.size < w6.heap.size := Nat.lt_of_lt_of_le hs5 b6.size
        have X7 := hide ((bx.block w1.heap.size hs6).trans ((b6.block w1.heap.size hs5).trans X5.out))
        have T7 := hide ((T5.out.below b6).below bx)
        have S7 : Hid ((w6.alloc (.cells #[.string (idL tt), .slice A2 n2 cap2, .string note] 30)).heap.size = w6.heap.size + 1) := hide (by simp)
        have CC := hide (CO.out _ B7.out)
        have y0 := cell_of_row _ _ 0 _ _ _ XC.out
        have y1 := cell_of_row _ _ 1 _ _ _ XC.out
        have y2 := cell_of_row _ _ 2 _ _ _ XC.out
        clear b6 bx ID X5 T5 B5 CO
        go_wp2_with fail
        refine CC.out.mono ?_
        rintro e w8 ⟨rfl, b8⟩
        have B8 := hide (B7.out.trans (b8.mono B7.out.size))
        have X8 := hide ((b8.block w1.heap.size (by rw [S7.out]; omega)).trans X7.out)
        have XC8 := hide ((b8.block w6.heap.size (by rw [S7.out]; omega)).trans XC.out)
        have hs8 : w6.heap.size < w8.heap.size := by have := b8.size; rw [S7.out] at this; exact this
        have T8 := hide (T7.out.below b8)
        clear b8 CC X7 XC T7 B7 S7 y0 y1 y2
        cases hcb : comB (idL tt) ps note
        · have Z := hide (NO.out (N4.out hcb))
          clear hcb NO YES HT CT CZ N4 N5 N6 P6 T8 X8 XC8
          go_wp2_with fail
          go_ret3
          exact Z.out _ B8.out
        · have HCB := hide hcb
          have h60 := (objsB_iff.1 HO.out).1
          have AD := hide (add_any bt n0 l tt w8 T8.out (by rw [← HN0.out]; omega) (by omega) (by unfold maxLen; omega) (HT.out.below B8.out HT.out.1))
          have x0 := cell_of_row _ _ 0 _ _ _ X8.out
          clear hcb N4
          go_wp2_with fail
          refine AD.out.mono ?_
          rintro e w9 ⟨g9, ⟨ha, rfl⟩ | ⟨ha, rfl, t9⟩⟩
          · have Z := hide (NO.out (N5.out HO.out ha))
            have B9 := hide (B8.out.grown g9 B8.out.size (fun j hj => by injection hj with hj; omega))
            clear ha g9 NO YES HT CT CZ N5 N6 P6 T8 X8 XC8 AD x0
            go_wp2_with fail
            go_ret3
            exact Z.out _ B9.out
          · have HA := hide ha
            have B9 := hide (B8.out.grown g9 B8.out.size (fun j hj => by injection hj with hj; omega))
            have X9 := hide ((g9.block w1.heap.size (by omega) (by intro e; injection e with e; omega)).trans X8.out)
            have XC9 := hide ((g9.block w6.heap.size hs8 (by intro e; injection e with e; omega)).trans XC8.out)
            have T9 := hide t9
            have hs9 : w6.heap.size < w9.heap.size := Nat.lt_of_lt_of_le hs8 g9.size
            have hz := CZ.out HCB.out
            have C9 : Hid (Calls Tryz.prog 50 #[.agg #[.string (idL tt), .slice A2 n2 cap2, .string note]] w9.drew fun e w' => e = .returned (.string (comT m ps note)) ∧ Hid (Below w9.heap.size w9 w')) := hide ((CT.out HCB.out w9.drew B9.out.drew).mono (by
              rintro e w' ⟨rfl, hb⟩
              exact ⟨rfl, hide (((Below.refl w9.heap.size w9).drew).trans hb)⟩))
            have hone : (setL l (idL tt) tt).length ≤ 1000 := by
              have h := rt_objs (rt_set (rt_of HO.out) (show tt.size ≤ 2000 by omega))
              have : objsB (setL l (idL tt) tt) = true := add_objs (by rw [addB_of HO.out, HA.out])
              have := (objsB_iff.1 this).1
              omega
            have A10 : Hid (∀ W, Below w9.heap.size w9 W → Calls Tryz.prog 49 #[.map (some bt), .string (comT m ps note)] W fun e w' => W.grownBy w' (some bt) ∧ ((addOk (setL l (idL tt) tt) (comT m ps note) = false ∧ e = .returned (.tuple #[.string ByteArray.empty, .bool false])) ∨ (addOk (setL l (idL tt) tt) (comT m ps note) = true ∧ e = .returned (.tuple #[.string (idL (comT m ps note)), .bool true]) ∧ TRep w' bt (n0 + 1 + 1) (setL (setL l (idL tt) tt) (idL (comT m ps note)) (comT m ps note))))) := hide (fun W hb => add_any bt (n0 + 1) _ _ W (T9.out.below hb) (by rw [← HN0.out]; omega) hone hz (HT.out.below (B9.out.trans (hb.mono B9.out.size)) HT.out.1))
            have x0' := cell_of_row _ _ 0 _ _ _ X9.out
            have y0 := cell_of_row _ _ 0 _ _ _ XC9.out
            have y1 := cell_of_row _ _ 1 _ _ _ XC9.out
            have y2 := cell_of_row _ _ 2 _ _ _ XC9.out
            have X9' : Hid (∀ W, Below w9.heap.size w9 W → W.cell? ⟨w1.heap.size, 0, none⟩ = some (.map (some bt))) := hide (fun W hb => cellB hb (by omega) x0')
            clear ha g9 t9 AD T8 X8 XC8 x0 CT CZ N5 B8
            cases h2 : addOk (setL l (idL tt) tt) (comT m ps note)
            · have A11 : Hid (∀ W, Below w9.heap.size w9 W → Calls Tryz.prog 49 #[.map (some bt), .string (comT m ps note)] W fun e w' => e = .returned (.tuple #[.string ByteArray.empty, .bool false]) ∧ W.grownBy w' (some bt)) := hide (fun W hb => (A10.out W hb).mono (by
                rintro e w' ⟨g, ⟨_, rfl⟩ | ⟨h, _⟩⟩
                · exact ⟨rfl, g⟩
                · rw [h2] at h; cases h))
              have Z := hide (NO.out (N6.out HO.out HA.out h2))
              clear h2 A10 NO YES N6 P6 T9
              generalize comT m ps note = ct at *
              generalize idL tt = ti at *
              go_wp2_with fail
              go_region_with (first
                | (go_at_call 50; refine C9.out.mono ?_; rintro e w10 ⟨rfl, b10⟩; have x10 := X9'.out _ b10.out)
                | (go_at_call 49; refine (A11.out _ b10.out).mono ?_; rintro e w11 ⟨rfl, g11⟩)
                | (go_at_call 49; refine (A11.out _ b10.out.drew).mono ?_; rintro e w11 ⟨rfl, g11⟩))
              all_goals
                have B11 := hide ((B9.out.trans (b10.out.mono B9.out.size)).grown g11 (Nat.le_trans B9.out.size b10.out.size) (fun j hj => by injection hj with hj; omega))
                clear g11
                go_wp2_with fail
                go_ret3
                exact Z.out _ B11.out
            · have A11 : Hid (∀ W, Below w9.heap.size w9 W → Calls Tryz.prog 49 #[.map (some bt), .string (comT m ps note)] W fun e w' => e = .returned (.tuple #[.string (idL (comT m ps note)), .bool true]) ∧ W.grownBy w' (some bt) ∧ Hid (TRep w' bt (n0 + 1 + 1) (setL (setL l (idL tt) tt) (idL (comT m ps note)) (comT m ps note)))) := hide (fun W hb => (A10.out W hb).mono (by
                rintro e w' ⟨g, ⟨h, _⟩ | ⟨_, rfl, t⟩⟩
                · rw [h2] at h; cases h
                · exact ⟨rfl, g, hide t⟩))
              have P7 := hide (P6.out HR.out HM.out HCA.out HCB.out HA.out h2)
              have FIN : Hid (∀ A cap w', (setL (setL l (idL tt) tt) (idL (comT m ps note)) (comT m ps note)).length ≤ cap → Own w' w.heap.size A cap (setL (setL l (idL tt) tt) (idL (comT m ps note)) (comT m ps note)) → Below w.heap.size w w' → RetOwnI w.heap.size (cmL l m ps note) (cmI l m ps note) (cmB l m ps note) w (.returned (.tuple #[.slice A (setL (setL l (idL tt) tt) (idL (comT m ps note)) (comT m ps note)).length cap, .string (idL (comT m ps note)), .bool true])) w') := hide (by
                have h := YES.out P7.out.1
                rw [P7.out.2.1] at h
                exact h)
              have OB : Hid (∀ W, TRep W bt (n0 + 1 + 1) (setL (setL l (idL tt) tt) (idL (comT m ps note)) (comT m ps note)) → Calls Tryz.prog 51 #[.map (some bt)] W (RetOwn W.heap.size (setL (setL l (idL tt) tt) (idL (comT m ps note)) (comT m ps note)) W)) := hide (fun W hW => objs_any bt (n0 + 1 + 1) _ W hW (by have := (objsB_iff.1 P7.out.2.2).1; omega) (lens_objs P7.out.2.2))
              clear h2 A10 NO YES N6 P6 T9 P7
              generalize setL (setL l (idL tt) tt) (idL (comT m ps note)) (comT m ps note) = two at *
              generalize idL (comT m ps note) = ci at *
              generalize comT m ps note = ct at *
              generalize idL tt = ti at *
              go_wp2_with fail
              go_region_with (first
                | (go_at_call 50; refine C9.out.mono ?_; rintro e w10 ⟨rfl, b10⟩; have x10 := X9'.out _ b10.out)
                | (go_at_call 49; refine (A11.out _ b10.out).mono ?_; rintro e w11 ⟨rfl, g11, t11⟩)
                | (go_at_call 49; refine (A11.out _ b10.out.drew).mono ?_; rintro e w11 ⟨rfl, g11, t11⟩))
              all_goals
                have B11 := hide ((B9.out.trans (b10.out.mono B9.out.size)).grown g11 (Nat.le_trans B9.out.size b10.out.size) (fun j hj => by injection hj with hj; omega))
                have X11 : Hid (w11.heap[w1.heap.size]? = _) := hide ((g11.block w1.heap.size (Nat.lt_of_lt_of_le (show w1.heap.size < w9.heap.size by omega) b10.out.size) (by intro e; injection e with e; omega)).trans ((b10.out.block w1.heap.size (by omega)).trans X9.out))
                have z0 := cell_of_row _ _ 0 _ _ _ X11.out
                have OO := hide (OB.out _ t11.out)
                clear g11 x10 X11 b10 t11 OB A11 C9
                go_wp2_with fail
                refine OO.out.mono ?_
                rintro e w12 ⟨A12, cap12, hc12, rfl, own12, b12⟩
                have FF := hide (FIN.out A12 cap12 w12 hc12 (own12.more B11.out.size) (B11.out.trans (b12.mono B11.out.size)))
                clear own12 b12 hc12 OO FIN
                generalize two.length = tn at *
                go_wp2_with fail
                go_ret3
                exact FF.out
end Go.Proofs.YtdahpnjamlfakaaGreatDoor
/-
  Rows of texts that laws.toStringS makes; an argument that is a list of texts, opened.
-/
namespace Go.Proofs.YtdahpnjamlfakaaGreatDoor
open Go.ChangeShapes Go.WideShapes Go.ChangeAt Go.RowKit

theorem zown_row {w : World} {g B : Nat} {l : List ByteArray} (hl : l.length ≤ maxLen) (hB : B ≤ g) (h : w.heap[g]? = some (.cells (strsA (cutF l l.length) l.length) 9 (0, 0))) : ZOwn w B (some ⟨g, 0, none⟩) l.length l := by
  refine ⟨by simp, .inr ⟨g, l.length, _, rfl, hB, h, Nat.le_refl _, hl, by rw [strsA_size]; omega, ?_⟩⟩
  have e : (strsA (cutF l l.length) l.length).toList = l.map Value.string := by
    refine List.ext_getElem? fun i => ?_
    rw [Array.getElem?_toList]
    by_cases hi : i < l.length
    · rw [strsA_get _ hi, List.getElem?_map, List.getElem?_eq_getElem hi]
      unfold cutF
      rw [if_pos hi]
      simp [hi]
    · rw [Array.getElem?_eq_none (by rw [strsA_size]; omega), List.getElem?_eq_none (by simp; omega)]
  rw [e, List.take_of_length_le (by simp)]
theorem sin_of {w : World} {B : Nat} {A : Option Addr} {l : List ByteArray} (hs : slenS l) (h : ZIn w B A l) : SIn w B A l := ⟨hs, h⟩
theorem ZOwn.apart {w w' : World} {B : Nat} {A A' : Option Addr} {cap : Nat} {l : List ByteArray} (h : ZOwn w B A cap l) (hg : w.grownBy w' (rowOf A')) (hne : ∀ g, rowOf A = some g → rowOf A' ≠ some g) : ZOwn w' B A cap l := by
  refine World.ownsRow.kept h hg ?_
  rw [rowOf_own]
  cases e : rowOf A with
  | none => exact .inl rfl
  | some g => exact .inr (fun x => hne g e x.symm)

section
variable {H : Type} {enc : TypeId × Value → H} {W : World}
theorem open_strs1 {v : Value} {n : Nat} {y : DataW H × List MemPlace} (h : DataW.trod enc Tryz.prog W 0 (fun _ => true) true n 28 [v] = some y) :
    ∃ (A : Option Addr) (cap : Nat) (l : List ByteArray), v = .slice A l.length cap ∧ l.length ≤ maxLen ∧ SIn W W.heap.size A l := by
  rcases open_strings Tryz.underlying28 Tryz.underlying9 (by kernel_rfl) h with ⟨hcs, _⟩ | ⟨a, len, cap, ss, hcs, _, hlc, hcm, hsl, _, hc, hz⟩
  · simp at hcs
    exact ⟨none, 0, [], by simpa using hcs, by simp [maxLen], fun i hi => absurd hi (by simp), fun hp => absurd hp (by simp)⟩
  · simp at hcs
    simp only [if_true] at hsl
    have hll : (ss.take len).length = len := by rw [List.length_take]; omega
    refine ⟨some a, cap, ss.take len, by rw [hll]; exact hcs, by omega, fun i hi => hz _ (List.mem_of_mem_take (List.getElem_mem hi)), fun hp => ?_⟩
    have hn : 0 < len := by omega
    obtain ⟨b, off, spot⟩ := a
    have hc0 := hc 0 (by omega)
    have hspot : spot = none := by simpa [Addr.add] using World.cell?_spot hc0
    subst hspot
    refine ⟨b, off, rfl, ?_, fun i hi => ?_⟩
    · have := World.block_lt_of_cell? W _ hc0
      simpa [Addr.add] using this
    · have hi' : i < ss.length := by omega
      have h1 := hc i hi'
      rw [List.getElem_take]
      rw [show ss.getD i ByteArray.empty = ss[i] by simp [hi']] at h1
      have ea : (⟨b, off, none⟩ : Addr).add i = ⟨b, off + i, none⟩ := by simp [Addr.add]
      rw [ea] at h1
      exact h1
theorem open_strs {A : Option Addr} {n cap : Nat} {d : DataW H} {p : List MemPlace} (h : DataW.Trod enc Tryz.prog W 0 (fun _ => true) true 28 (.slice A n cap) d p) :
    ∃ l : List ByteArray, n = l.length ∧ l.length ≤ maxLen ∧ SIn W W.heap.size A l := by
  obtain ⟨fuel, hf⟩ := h
  obtain ⟨A', cap', l, e, hl, hin⟩ := open_strs1 (v := .slice A n cap) (by simpa [Value.cells] using hf)
  injection e with e1 e2 e3
  subst e1 e2
  exact ⟨l, rfl, hl, hin⟩
end
end Go.Proofs.YtdahpnjamlfakaaGreatDoor
