/-
  The map of texts by their ids, told by a rising list: what it tells, what a store makes of it, its keys in order.
-/
import Derived.Test.YtaibonbabicilaaDoorQFind
import Derived.Test.YtaibonbabicilaaDoorQAlg
import Derived.Sort.KeysCollected
import Derived.Maps.OwnSet
namespace Go.Proofs.YtaibonbabicilaaDoor
open Go.RowKit Go.Maps

/-- the map D tells what the rising list l tells -/
def Rep (D : DataW Unit) (l : List Pr) : Prop := Ris l ∧ ∀ k, has D (keyL k) = hasB l k ∧ D.atKey (keyL k) (elD ByteArray.empty) = elD (valOf l k)
theorem rep_mapD {l : List Pr} (h : risesTo l l.length) : Rep (mapD l) l := ⟨ris_iff.1 h, fun k => mapD_look h k⟩
theorem rep_put {D : DataW Unit} {l : List Pr} (hD : IsMap D) (h : Rep D l) (k v : ByteArray) : Rep (D.put (keyL k) (elD v)) (setL l k v) := by
  refine ⟨ris_set h.1 k v, fun k' => ?_⟩
  by_cases e : k' = k
  · subst e
    rw [has_put_same hD (keyL_key _), atKey_put_same hD (keyL_key _), val_set h.1, (has_set h.1 k' v k').2 (.inl rfl)]
    exact ⟨rfl, rfl⟩
  · have hne : keyL k' ≠ keyL k := fun x => e (keyL_inj x)
    rw [has_put_other hne, atKey_put_other hne, val_set_ne h.1 v e, (h.2 k').1, (h.2 k').2]
    refine ⟨?_, rfl⟩
    cases e1 : hasB l k' <;> cases e2 : hasB (setL l k v) k'
    · rfl
    · rcases (has_set h.1 k v k').1 e2 with g | g
      · exact absurd g e
      · rw [e1] at g; cases g
    · rw [(has_set h.1 k v k').2 (.inr e1)] at e2; cases e2
    · rfl
/-- the block bm is a map that tells what l tells -/
def TRep (w : World) (bm : Nat) (n : Nat) (l : List Pr) : Prop := ∃ D, w.ownsMap Tryd.prog 9 (plainElem Tryd.prog 9) bm n D ∧ Rep D l
theorem TMap.rep {w : World} {bm n : Nat} {l : List Pr} (h : TMap w bm n l) (hr : risesTo l l.length) : TRep w bm n l := ⟨_, h, rep_mapD hr⟩
theorem TRep.lt {w : World} {bm n : Nat} {l : List Pr} (h : TRep w bm n l) : bm < w.heap.size := by obtain ⟨D, h, _⟩ := h; exact h.lt
theorem TRep.kept {w w' : World} {bm n : Nat} {l : List Pr} {row : Option Nat} (h : TRep w bm n l) (hg : w.grownBy w' row) (hne : some bm ≠ row) : TRep w' bm n l := by obtain ⟨D, h, r⟩ := h; exact ⟨D, h.kept hg hne, r⟩
theorem TRep.below {w w' : World} {bm n : Nat} {l : List Pr} (h : TRep w bm n l) (hb : Below w.heap.size w w') : TRep w' bm n l := h.kept (Below.toGrown hb none) (by simp)
theorem TRep.belowB {B : Nat} {w w' : World} {bm n : Nat} {l : List Pr} (h : TRep w bm n l) (hb : Below B w w') (hB : bm < B) : TRep w' bm n l := by
  obtain ⟨D, ⟨es, clock, hbk, F, hs, hD⟩, r⟩ := h
  exact ⟨D, ⟨es, clock, (hb.block bm hB).trans hbk, F, hs, hD⟩, r⟩
theorem TRep.perm {w : World} {bm n : Nat} {l : List Pr} {D : DataW Unit} (h : w.ownsMap Tryd.prog 9 (plainElem Tryd.prog 9) bm n D) (r : Rep D l) : (l.map fun p => p.1.data.toList).Perm (strKeys D) := by
  refine Collected.perm (left := fun _ => false) ⟨?_, fun x => ?_⟩ h lawS Tryd.underlying9 (fun _ => rfl)
  · refine List.pairwise_map.2 (r.1.imp fun {p q} hlt e => ?_)
    have : p.1 = q.1 := Go.WideShapes.bytes_inj e
    rw [this, ltB_irrefl] at hlt
    cases hlt
  · have hk := (r.2 ⟨x.toArray⟩).1
    have hx : keyL ⟨x.toArray⟩ = .string x := rfl
    rw [hx] at hk
    rw [hk, has_iff r.1, List.mem_map]
    constructor
    · rintro ⟨p, hp, rfl⟩
      exact ⟨⟨p.2, by simpa using hp⟩, rfl⟩
    · rintro ⟨⟨v, hv⟩, _⟩
      exact ⟨_, hv, rfl⟩
theorem TRep.size {w : World} {bm n : Nat} {l : List Pr} {D : DataW Unit} (h : w.ownsMap Tryd.prog 9 (plainElem Tryd.prog 9) bm n D) (r : Rep D l) : Maps.size D = l.length := by
  have hp := (TRep.perm h r).length_eq
  rw [List.length_map] at hp
  obtain ⟨es, rfl⟩ := World.ownsMap.isMap h
  rw [size_eq, hp]
  show es.length = (es.map _).length
  rw [List.length_map]
set_option maxRecDepth 100000 in
theorem TRep.look {w : World} {bm n : Nat} {l : List Pr} (h : TRep w bm n l) {key : ByteArray} (hk : key.size ≤ maxLen) :
    (Instr.lookup 60 (.map (some bm)) (.string key) true).run Tryd.prog w = .ok (.tuple #[.string (valOf l key), .bool (hasB l key)]) w := by
  obtain ⟨D, h, r⟩ := h
  obtain ⟨v, ps, hrun, hv⟩ := World.ownsMap.look_ok h lawS Tryd.underlying60 (zeroS w) (zd := elD ByteArray.empty) (zp := []) (plainElem_string Tryd.underlying9 (by simp [maxLen])) (Go.WideMaps.keyOf_string_mk Tryd.underlying9 hk)
  obtain ⟨c, rfl, hc, _⟩ := plainElem_string_inv Tryd.underlying9 hv
  obtain ⟨q1, q2⟩ := r.2 key
  have q2' : D.atKey (keyL key) (elD ByteArray.empty) = elD c := by injection hc
  have ec : c = valOf l key := by
    rw [q2] at q2'
    unfold elD at q2'
    injection q2' with q2'
    injection q2' with q2'
    exact (Go.WideShapes.bytes_inj q2').symm
  have q1' : Maps.has D (.string key.data.toList) = hasB l key := q1
  rw [q1', ec] at hrun
  exact hrun
set_option maxRecDepth 100000 in
theorem TRep.get {w : World} {bm n : Nat} {l : List Pr} (h : TRep w bm n l) {key : ByteArray} (hk : key.size ≤ maxLen) :
    (Instr.lookup 60 (.map (some bm)) (.string key) false).run Tryd.prog w = .ok (.string (valOf l key)) w := by
  obtain ⟨D, h, r⟩ := h
  obtain ⟨v, ps, hrun, hv⟩ := World.ownsMap.lookup h lawS Tryd.underlying60 (zeroS w) (zd := elD ByteArray.empty) (zp := []) (plainElem_string Tryd.underlying9 (by simp [maxLen])) (Go.WideMaps.keyOf_string_mk Tryd.underlying9 hk)
  obtain ⟨c, rfl, hc, _⟩ := plainElem_string_inv Tryd.underlying9 hv
  obtain ⟨_, q2⟩ := r.2 key
  have q2' : D.atKey (keyL key) (elD ByteArray.empty) = elD c := by injection hc
  have ec : c = valOf l key := by
    rw [q2] at q2'
    unfold elD at q2'
    injection q2' with q2'
    injection q2' with q2'
    exact (Go.WideShapes.bytes_inj q2').symm
  rw [ec] at hrun
  exact hrun
theorem TRep.len {w : World} {bm n : Nat} {l : List Pr} (h : TRep w bm n l) (ty : TypeId) : (Builtin.len_ #[60] ty #[.map (some bm)]).run Tryd.prog w = .ok (.int .i64 (l.length : Nat)) w := by
  obtain ⟨D, h, r⟩ := h
  rw [World.ownsMap.len h Tryd.underlying60 ty, TRep.size h r]
theorem TRep.store {w : World} {bm n : Nat} {l : List Pr} (h : TRep w bm n l) (hn : n < maxLen) {k v : ByteArray} (hk : k.size ≤ maxLen) (hv : v.size ≤ maxLen) :
    ∃ w', (Instr.mapUpdate 60 (.map (some bm)) (.string k) (.string v)).run Tryd.prog w = .ok () w' ∧ TRep w' bm (n + 1) (setL l k v) ∧ w.grownBy w' (some bm) := by
  obtain ⟨D, h, r⟩ := h
  obtain ⟨w', hrun, h1, h2⟩ := World.ownsMap.update h lawS Tryd.underlying60 hn (Go.WideMaps.keyOf_string_mk Tryd.underlying9 hk) (plainElem_string Tryd.underlying9 hv)
  exact ⟨w', hrun, ⟨_, h1, rep_put (World.ownsMap.isMap h) r k v⟩, h2⟩
/-- bytes in their order: what the sort goes by -/
theorem le_of_lt : ∀ {x y : List UInt8}, Op.bytesLess x y = true → x ≤ y
  | _, [], h => by simp [Op.bytesLess] at h
  | [], _ :: _, _ => List.nil_le _
  | a :: x, b :: y, h => by
    simp only [Op.bytesLess, Bool.or_eq_true, Bool.and_eq_true, decide_eq_true_eq, beq_iff_eq] at h
    rw [List.cons_le_cons_iff]
    rcases h with h | ⟨h, h'⟩
    · exact .inl h
    · exact .inr ⟨h, le_of_lt h'⟩
theorem sorted_keys {l : List Pr} (h : Ris l) {ss : List (List UInt8)} {D : DataW Unit} (hs : ss.Perm (strKeys D)) (hp : (l.map fun p => p.1.data.toList).Perm (strKeys D)) : ss.mergeSort (fun x y => decide (x ≤ y)) = l.map fun p => p.1.data.toList := by
  have e1 : ss.mergeSort leB = (l.map fun p => p.1.data.toList).mergeSort leB := mergeSort_of_perm (hs.trans hp.symm)
  have e2 : (l.map fun p => p.1.data.toList).mergeSort leB = l.map fun p => p.1.data.toList := by
    refine List.mergeSort_of_pairwise ?_
    refine List.pairwise_map.2 (h.imp fun {p q} hlt => ?_)
    unfold ltB at hlt
    rw [Go.ByteArray.toList_eq, Go.ByteArray.toList_eq] at hlt
    exact decide_eq_true (le_of_lt hlt)
  exact e1.trans e2
end Go.Proofs.YtaibonbabicilaaDoor
