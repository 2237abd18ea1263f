/-
  For every list of objects, every map, every list of parents and every note, laws.FnExactCommitted returns true and leaves its arguments as they were: impl.Committed answers as the reference does, and its answer is memory of its own. No conditions but that the two tables of the digest and the sentinel of the reader hold what the program's text lays (the card ties them).
-/
import Derived.Test.YtkhkcdmmagicmaaGreatDoorJO
import Derived.Test.YtkhkcdmmagicmaaGreatDoorJM
import Derived.Test.YtkhkcdmmagicmaaGreatDoorChecked
import Derived.ProofKit
import Derived.OpenShut
import Derived.Deep.SlicePairs
import Derived.Test.YtkhkcdmmagicmaaGreatDoorJC
import Derived.SliceStrings
import Derived.Lib.Builder
import Derived.Lib.AppendStr
import Derived.Lib.UnsafeStr
import Derived.Laws.Externs
import Derived.RegionTactic
import Derived.BigQuiet
import Derived.Test.YtkhkcdmmagicmaaGreatDoorJR
import Derived.Sort.KeysCollected
import Derived.Maps.OwnSet
import Derived.Test.YtkhkcdmmagicmaaGreatDoorQIter
import Derived.Deep.RegionWith
/-
  An argument that is a list of pairs, opened.
-/
namespace Go.Proofs.YtkhkcdmmagicmaaGreatDoor.M
open Go.ChangeShapes Go.WideShapes Go.ChangeAt Go.RowKit Go.Deep

section
variable {H : Type} {enc : TypeId × Value → H} {W : World}
/-- An argument of type []laws.Pair: the pairs that it holds. -/
theorem open_pairs {A : Option Addr} {n cap : Nat} {d : DataW H} {p : List MemPlace} (h : DataW.Trod enc Tryz.prog W 0 (fun _ => true) true 23 (.slice A n cap) d p) :
    ∃ l : List Pr, n = l.length ∧ l.length ≤ maxLen ∧ PIn W W.heap.size A l := by
  obtain ⟨fuel, hf⟩ := h
  rcases open_slice_pairs Tryz.underlying23 Tryz.underlying50 (by kernel_rfl) (by rfl) (by rfl) (by kernel_rfl) (by kernel_rfl) hf with ⟨hcs, _⟩ | ⟨a, len, c, m, k, V0, V1, D0, D1, P0, P1, hcs, _, hlc, hm, hmm, _, hc⟩
  · simp [Value.cells] at hcs
    obtain ⟨rfl, rfl, rfl⟩ := hcs
    exact ⟨[], rfl, by simp [maxLen], PIn.nil _ _ _⟩
  · simp [Value.cells] at hcs
    obtain ⟨rfl, rfl, rfl⟩ := hcs
    simp only [if_true] at hmm
    subst hmm
    have hs : ∀ i, i < n → ∃ q : Pr, W.cell? (a.add (i * 2)) = some (.string q.1) ∧ W.cell? (a.add (i * 2 + 1)) = some (.string q.2) ∧ q.1.size ≤ maxLen ∧ q.2.size ≤ maxLen := by
      intro i hi
      obtain ⟨c0, c1, t0, t1⟩ := hc i (by omega)
      obtain ⟨s0, e0, _, z0⟩ := DataW.trod_string Tryz.underlying9 t0
      obtain ⟨s1, e1, _, z1⟩ := DataW.trod_string Tryz.underlying9 t1
      simp at e0 e1
      rw [e0] at c0
      rw [e1] at c1
      exact ⟨(s0, s1), c0, c1, z0, z1⟩
    obtain ⟨q, hq⟩ := choose_lt hs
    refine ⟨(List.range n).map q, by simp, by simp; omega, fun i hi => ?_, fun hp => ?_⟩
    · have hi' : i < n := by simpa using hi
      simp only [List.getElem_map, List.getElem_range]
      exact ⟨(hq i hi').2.2.1, (hq i hi').2.2.2⟩
    · have hn : 0 < n := by simpa using hp
      obtain ⟨b, off, spot⟩ := a
      have hc0 := (hq 0 hn).1
      have hspot : spot = none := by simpa [Addr.add] using World.cell?_spot hc0
      subst hspot
      refine ⟨b, off, rfl, ?_, fun i hi => ?_⟩
      · have := World.block_lt_of_cell? W _ hc0
        simpa [Addr.add] using this
      · have hi' : i < n := by simpa using hi
        simp only [List.getElem_map, List.getElem_range]
        have h1 := (hq i hi').1
        have h2 := (hq i hi').2.1
        rw [add_plain] at h1 h2
        exact ⟨h1, h2⟩
end
end Go.Proofs.YtkhkcdmmagicmaaGreatDoor.M
/-
  Rows of texts that laws.toStringS makes; an argument that is a list of texts, opened.
-/
namespace Go.Proofs.YtkhkcdmmagicmaaGreatDoor
open Go.ChangeShapes Go.WideShapes Go.ChangeAt Go.RowKit

theorem zown_row {w : World} {g B : Nat} {l : List ByteArray} (hl : l.length ≤ maxLen) (hB : B ≤ g) (h : w.heap[g]? = some (.cells (strsA (cutF l l.length) l.length) 9 (0, 0))) : ZOwn w B (some ⟨g, 0, none⟩) l.length l := by
  refine ⟨by simp, .inr ⟨g, l.length, _, rfl, hB, h, Nat.le_refl _, hl, by rw [strsA_size]; omega, ?_⟩⟩
  have e : (strsA (cutF l l.length) l.length).toList = l.map Value.string := by
    refine List.ext_getElem? fun i => ?_
    rw [Array.getElem?_toList]
    by_cases hi : i < l.length
    · rw [strsA_get _ hi, List.getElem?_map, List.getElem?_eq_getElem hi]
      unfold cutF
      rw [if_pos hi]
      simp [hi]
    · rw [Array.getElem?_eq_none (by rw [strsA_size]; omega), List.getElem?_eq_none (by simp; omega)]
  rw [e, List.take_of_length_le (by simp)]
theorem sin_of {w : World} {B : Nat} {A : Option Addr} {l : List ByteArray} (hs : slenS l) (h : ZIn w B A l) : SIn w B A l := ⟨hs, h⟩
theorem ZOwn.apart {w w' : World} {B : Nat} {A A' : Option Addr} {cap : Nat} {l : List ByteArray} (h : ZOwn w B A cap l) (hg : w.grownBy w' (rowOf A')) (hne : ∀ g, rowOf A = some g → rowOf A' ≠ some g) : ZOwn w' B A cap l := by
  refine World.ownsRow.kept h hg ?_
  rw [rowOf_own]
  cases e : rowOf A with
  | none => exact .inl rfl
  | some g => exact .inr (fun x => hne g e x.symm)

section
variable {H : Type} {enc : TypeId × Value → H} {W : World}
theorem open_strs1 {v : Value} {n : Nat} {y : DataW H × List MemPlace} (h : DataW.trod enc Tryz.prog W 0 (fun _ => true) true n 24 [v] = some y) :
    ∃ (A : Option Addr) (cap : Nat) (l : List ByteArray), v = .slice A l.length cap ∧ l.length ≤ maxLen ∧ SIn W W.heap.size A l := by
  rcases open_strings Tryz.underlying24 Tryz.underlying9 (by kernel_rfl) h with ⟨hcs, _⟩ | ⟨a, len, cap, ss, hcs, _, hlc, hcm, hsl, _, hc, hz⟩
  · simp at hcs
    exact ⟨none, 0, [], by simpa using hcs, by simp [maxLen], fun i hi => absurd hi (by simp), fun hp => absurd hp (by simp)⟩
  · simp at hcs
    simp only [if_true] at hsl
    have hll : (ss.take len).length = len := by rw [List.length_take]; omega
    refine ⟨some a, cap, ss.take len, by rw [hll]; exact hcs, by omega, fun i hi => hz _ (List.mem_of_mem_take (List.getElem_mem hi)), fun hp => ?_⟩
    have hn : 0 < len := by omega
    obtain ⟨b, off, spot⟩ := a
    have hc0 := hc 0 (by omega)
    have hspot : spot = none := by simpa [Addr.add] using World.cell?_spot hc0
    subst hspot
    refine ⟨b, off, rfl, ?_, fun i hi => ?_⟩
    · have := World.block_lt_of_cell? W _ hc0
      simpa [Addr.add] using this
    · have hi' : i < ss.length := by omega
      have h1 := hc i hi'
      rw [List.getElem_take]
      rw [show ss.getD i ByteArray.empty = ss[i] by simp [hi']] at h1
      have ea : (⟨b, off, none⟩ : Addr).add i = ⟨b, off + i, none⟩ := by simp [Addr.add]
      rw [ea] at h1
      exact h1
theorem open_strs {A : Option Addr} {n cap : Nat} {d : DataW H} {p : List MemPlace} (h : DataW.Trod enc Tryz.prog W 0 (fun _ => true) true 24 (.slice A n cap) d p) :
    ∃ l : List ByteArray, n = l.length ∧ l.length ≤ maxLen ∧ SIn W W.heap.size A l := by
  obtain ⟨fuel, hf⟩ := h
  obtain ⟨A', cap', l, e, hl, hin⟩ := open_strs1 (v := .slice A n cap) (by simpa [Value.cells] using hf)
  injection e with e1 e2 e3
  subst e1 e2
  exact ⟨l, rfl, hl, hin⟩
end
end Go.Proofs.YtkhkcdmmagicmaaGreatDoor
/-
  What Add and Joined make of right objects. Plain mathematics.
-/
namespace Go.Proofs.YtkhkcdmmagicmaaGreatDoor
open Go.RowKit

theorem objs_all {l : List Pr} : objsB l = true ↔ l.length ≤ 60 ∧ (∀ p ∈ l, p.2.size ≤ 2000 ∧ idL p.2 = p.1) ∧ Ris l := by
  rw [objsB_iff]
  constructor
  · rintro ⟨a, b, c⟩
    refine ⟨a, fun p hp => ?_, ris_iff.1 c⟩
    obtain ⟨i, hi, e⟩ := List.getElem_of_mem hp
    subst e
    exact b i hi hi
  · rintro ⟨a, b, c⟩
    exact ⟨a, fun i hi _ => b _ (List.getElem_mem _), ris_iff.2 c⟩
/-- each of the list has a short text, and its id -/
def Rt (l : List Pr) : Prop := (∀ p ∈ l, p.2.size ≤ 2000 ∧ idL p.2 = p.1) ∧ Ris l
theorem rt_of {l : List Pr} (h : objsB l = true) : Rt l := (objs_all.1 h).2
theorem rt_objs {l : List Pr} (h : Rt l) : objsB l = decide (l.length ≤ 60) := by
  cases e : objsB l
  · rw [eq_comm, decide_eq_false_iff_not]
    intro x
    rw [objs_all.2 ⟨x, h⟩] at e
    cases e
  · exact (decide_eq_true (objs_all.1 e).1).symm
theorem rt_set {l : List Pr} (h : Rt l) {t : ByteArray} (ht : t.size ≤ 2000) : Rt (setL l (idL t) t) := by
  refine ⟨fun p hp => ?_, ris_set h.2 _ _⟩
  rcases (mem_set h.2 _ _ p).1 hp with e | ⟨e, _⟩
  · subst e; exact ⟨ht, rfl⟩
  · exact h.1 p e
/-- can a text be added to right objects? -/
noncomputable def addOk (l : List Pr) (t : ByteArray) : Bool := decide (t.size ≤ 2000) && (stepOk l (idL t, t) && (hasB l (idL t) || decide (l.length < 60)))
noncomputable def addB (l : List Pr) (t : ByteArray) : Bool := objsB l && addOk l t
noncomputable def addL (l : List Pr) (t : ByteArray) : List Pr := if addB l t = true then setL l (idL t) t else []
noncomputable def adI (l : List Pr) (t : ByteArray) : ByteArray := if addB l t = true then idL t else ByteArray.empty
theorem addB_no {l : List Pr} {t : ByteArray} (h : objsB l = false) : addB l t = false := by unfold addB; rw [h]; rfl
theorem addB_of {l : List Pr} {t : ByteArray} (h : objsB l = true) : addB l t = addOk l t := by unfold addB; rw [h]; rfl
theorem addL_no {l : List Pr} {t : ByteArray} (h : addB l t = false) : addL l t = [] := by unfold addL; rw [h]; rfl
theorem addL_yes {l : List Pr} {t : ByteArray} (h : addB l t = true) : addL l t = setL l (idL t) t := by unfold addL; rw [if_pos h]
theorem adI_no {l : List Pr} {t : ByteArray} (h : addB l t = false) : adI l t = ByteArray.empty := by unfold adI; rw [h]; rfl
theorem adI_yes {l : List Pr} {t : ByteArray} (h : addB l t = true) : adI l t = idL t := by unfold adI; rw [if_pos h]
theorem addOk_long {l : List Pr} {t : ByteArray} (h : 2000 < t.size) : addOk l t = false := by unfold addOk; rw [decide_eq_false (by omega)]; rfl
theorem addOk_other {l : List Pr} {t : ByteArray} (h : stepOk l (idL t, t) = false) : addOk l t = false := by unfold addOk; rw [h]; simp
theorem addOk_full {l : List Pr} {t : ByteArray} (h : hasB l (idL t) = false) (h' : 60 ≤ l.length) : addOk l t = false := by unfold addOk; rw [h, decide_eq_false (show ¬ l.length < 60 by omega)]; simp
theorem addOk_same {l : List Pr} {t : ByteArray} (ht : t.size ≤ 2000) (h : hasB l (idL t) = true) (h' : valOf l (idL t) = t) : addOk l t = true := by unfold addOk; rw [decide_eq_true ht, stepOk_same h', h]; rfl
theorem addOk_new {l : List Pr} {t : ByteArray} (ht : t.size ≤ 2000) (h : hasB l (idL t) = false) (h' : l.length < 60) : addOk l t = true := by unfold addOk; rw [decide_eq_true ht, stepOk_new h, decide_eq_true h', Bool.or_true]; rfl
theorem addB_iff {l : List Pr} {t : ByteArray} : addB l t = true ↔ objsB l = true ∧ t.size ≤ 2000 ∧ stepOk l (idL t, t) = true ∧ (hasB l (idL t) = true ∨ l.length < 60) := by
  unfold addB addOk
  simp only [Bool.and_eq_true, Bool.or_eq_true, decide_eq_true_eq]
theorem add_objs {l : List Pr} {t : ByteArray} (h : addB l t = true) : objsB (setL l (idL t) t) = true := by
  obtain ⟨h1, h2, h3, h4⟩ := addB_iff.1 h
  rw [rt_objs (rt_set (rt_of h1) h2)]
  refine decide_eq_true ?_
  rw [len_set]
  have := (objs_all.1 h1).1
  split
  · omega
  · rcases h4 with g | g
    · rename_i x; exact absurd g x
    · omega
theorem addL_objs (l : List Pr) (t : ByteArray) : (addL l t).length ≤ 60 := by
  cases e : addB l t
  · rw [addL_no e]; simp
  · rw [addL_yes e]; exact (objs_all.1 (add_objs e)).1
/-- what l3Add makes -/
def l3L (l : List Pr) (t : ByteArray) : List Pr := if hasB l (idL t) = true then l else setL l (idL t) t
theorem l3L_set {l : List Pr} (h : Ris l) {t : ByteArray} (h' : stepOk l (idL t, t) = true) : l3L l t = setL l (idL t) t := by
  unfold l3L
  cases e : hasB l (idL t)
  · rfl
  · rw [if_pos rfl]
    refine (set_same h e ?_).symm
    exact (stepOk_iff h).1 h' _ (mem_val e)
theorem l3L_len (l : List Pr) (t : ByteArray) : (l3L l t).length ≤ l.length + 1 := by
  unfold l3L
  split
  · omega
  · exact (len_set_le l _ _).2
/-- what spec.Add asks at its end -/
theorem addB_spec {l : List Pr} {t : ByteArray} (h : objsB l = true) (ht : t.size ≤ 2000) (h' : stepOk l (idL t, t) = true) : addB l t = objsB (setL l (idL t) t) := by
  rw [rt_objs (rt_set (rt_of h) ht), addB_of h]
  unfold addOk
  rw [decide_eq_true ht, h', len_set]
  have := (objs_all.1 h).1
  cases e : hasB l (idL t)
  · simp; omega
  · simp; omega

/-- joinings -/
noncomputable def joinB (a b : List Pr) : Bool := by
  classical
  exact objsB a && (objsB b && decide (jokTo a b b.length ∧ (jl a b b.length).length ≤ 60))
noncomputable def joinL (a b : List Pr) : List Pr := if joinB a b = true then jl a b b.length else []
theorem joinB_iff {a b : List Pr} : joinB a b = true ↔ objsB a = true ∧ objsB b = true ∧ jokTo a b b.length ∧ (jl a b b.length).length ≤ 60 := by
  unfold joinB
  simp only [Bool.and_eq_true, decide_eq_true_eq]
theorem joinB_f {a b : List Pr} (h : ¬ (objsB a = true ∧ objsB b = true ∧ jokTo a b b.length ∧ (jl a b b.length).length ≤ 60)) : joinB a b = false := by
  cases e : joinB a b
  · rfl
  · exact absurd (joinB_iff.1 e) h
theorem joinB_a {a b : List Pr} (h : objsB a = false) : joinB a b = false := joinB_f fun x => by rw [h] at x; cases x.1
theorem joinB_b {a b : List Pr} (h : objsB b = false) : joinB a b = false := joinB_f fun x => by rw [h] at x; cases x.2.1
theorem joinB_step {a b : List Pr} {k : Nat} (hk : k < b.length) (h : stepOk (jl a b k) b[k] = false) : joinB a b = false := joinB_f fun x => by have := x.2.2.1 k hk hk; rw [h] at this; cases this
theorem joinB_full {a b : List Pr} {k : Nat} (hk : k < b.length) (h : hasB (jl a b k) b[k].1 = false) (h' : 60 ≤ (jl a b k).length) : joinB a b = false := joinB_f fun x => by
  have h1 := jl_mono a b (b.length - (k + 1)) (k + 1) (by omega)
  rw [show k + 1 + (b.length - (k + 1)) = b.length by omega] at h1
  have h2 : (jl a b (k + 1)).length = (jl a b k).length + 1 := by rw [jl_succ a b k hk, len_set, h]; rfl
  omega
theorem joinB_long {a b : List Pr} (h : 60 < (jl a b b.length).length) : joinB a b = false := joinB_f fun x => by omega
theorem joinL_no {a b : List Pr} (h : joinB a b = false) : joinL a b = [] := by unfold joinL; rw [h]; rfl
theorem joinL_yes {a b : List Pr} (h : joinB a b = true) : joinL a b = jl a b b.length := by unfold joinL; rw [if_pos h]
theorem jl_rt {a b : List Pr} (ha : Rt a) (hb : Rt b) : ∀ k, k ≤ b.length → Rt (jl a b k)
  | 0, _ => ha
  | k + 1, h => by
    rw [jl_succ a b k (by omega)]
    obtain ⟨h1, h2⟩ := hb.1 _ (List.getElem_mem (show k < b.length by omega))
    have := rt_set (jl_rt ha hb k (by omega)) h1
    rw [h2] at this
    exact this
theorem join_objs {a b : List Pr} (h : joinB a b = true) : objsB (jl a b b.length) = true := by
  obtain ⟨h1, h2, _, h4⟩ := joinB_iff.1 h
  rw [rt_objs (jl_rt (rt_of h1) (rt_of h2) b.length (Nat.le_refl _))]
  exact decide_eq_true h4
theorem joinL_len (a b : List Pr) : (joinL a b).length ≤ 60 := by
  cases e : joinB a b
  · rw [joinL_no e]; simp
  · rw [joinL_yes e]; exact (joinB_iff.1 e).2.2.2
theorem join_mem {a b : List Pr} (h : joinB a b = true) (p : Pr) : p ∈ jl a b b.length ↔ p ∈ a ∨ p ∈ b := by
  obtain ⟨h1, h2, h3, _⟩ := joinB_iff.1 h
  rw [jl_mem (rt_of h1).2 b.length (Nat.le_refl _) h3, List.take_length]
end Go.Proofs.YtkhkcdmmagicmaaGreatDoor
/-
  What strings.Builder does, at this program: copyCheck, WriteByte, WriteString, String.
-/
namespace Go.Proofs.YtkhkcdmmagicmaaGreatDoor
open Go.RowKit

abbrev IsBld (B b : Nat) (bs : List Value) (w : World) : Prop := Lib.IsBuilder 105 5 B b bs w
theorem infoBld : (Tryz.prog.info? 105).map (fun i => i.size) = some 2 := by kernel_rfl
theorem infoU8 : (Tryz.prog.info? 5).map (fun i => (i.zero, i.size, i.bytes)) = some (some (.int .u8 0), 1, 1) := by kernel_rfl

/-- every block but b, and but rows of bytes, is as it was -/
def KeptB (b : Nat) (w w' : World) : Prop := ∀ k cs T fr, k ≠ b → w.heap[k]? = some (.cells cs T fr) → T ≠ 5 → w'.heap[k]? = some (.cells cs T fr)
theorem KeptB.refl (b : Nat) (w : World) : KeptB b w w := fun _ _ _ _ _ h _ => h
theorem KeptB.trans {b : Nat} {w w' w'' : World} (h : KeptB b w w') (h' : KeptB b w' w'') : KeptB b w w'' := fun k cs T fr hk hh hT => h' k cs T fr hk (h k cs T fr hk hh hT) hT
theorem KeptB.below {b : Nat} {w w' : World} (h : Below w.heap.size w w') : KeptB b w w' := fun k cs T fr _ hh _ => by rw [h.block k (Array.getElem?_eq_some_iff.1 hh).1]; exact hh
theorem KeptB.setCell (b o : Nat) (u : Value) (w : World) : KeptB b w (w.setCell ⟨b, o, none⟩ u) := fun k cs T fr hk hh _ => by rw [Below.heap_setCell w ⟨b, o, none⟩ u k hk]; exact hh
theorem KeptB.grown {b : Nat} {w w' : World} {v : Value} {B n : Nat} {xs : List Value} (hown : w.ownsRow B 5 1 v n xs) (hg : w.grownBy w' v.ownBlock) : KeptB b w w' := fun k cs T fr _ hh hT => by
  rw [hg.block k (Array.getElem?_eq_some_iff.1 hh).1 (fun e => Lib.ownBlock_ne hown hh hT e.symm)]; exact hh
theorem IsBld.below {B b : Nat} {bs : List Value} {w w' : World} (h : IsBld B b bs w) (hb : Below w.heap.size w w') : IsBld B b bs w' := by
  have one : ∀ p, Lib.BuilderAt 105 5 B b p bs w → Lib.BuilderAt 105 5 B b p bs w' := by
    rintro p ⟨hB, v, hbk, hown, hne⟩
    refine ⟨hB, v, ?_, hown.kept (Below.toGrown hb none) ?_, hne⟩
    · rw [hb.block b (Array.getElem?_eq_some_iff.1 hbk).1]; exact hbk
    · cases hv : v.ownBlock <;> simp
  rcases h with h | h
  · exact .inl (one _ h)
  · exact .inr (one _ h)

set_option maxHeartbeats 1000000 in
set_option maxRecDepth 100000 in
theorem copyCheck_any (B b : Nat) (bs : List Value) (w : World) (h : IsBld B b bs w) :
    Calls Tryz.prog 105 #[.pointer (some ⟨b, 0, none⟩)] w fun e w' => e = .returned (.tuple #[]) ∧ Lib.BuilderAt 105 5 B b (.pointer (some ⟨b, 0, none⟩)) bs w' ∧ Below B w w' ∧ KeptB b w w' := by
  obtain ⟨j, hj, hjs⟩ := Option.map_eq_some_iff.1 infoBld
  rcases h with h | h
  · have h0 := h.cell0
    have hsh := h.shape
    have hfz := h.frozen0
    have HH := hide h
    clear h
    go_enter Tryz.func105, Tryz.ntmps105
    go_wp2
    rw [Lib.run_to_unsafe w ⟨b, 0, none⟩ Tryz.underlying103 Tryz.underlying160 hj (by rw [hjs]; decide) hsh (Nat.zero_lt_succ 1)]
    simp only [Result.andThen]
    rw [Oper.upon_value]
    go_wp2
    rw [run_callFunc_extern Tryz.func125 (by kernel_rfl) (by kernel_rfl) (by kernel_rfl) (e := Extern.AbiNoEscape.same) (by kernel_rfl), Lib.run_noEscape]
    simp only [Result.andThen]
    rw [Oper.upon_value]
    go_wp2
    rw [Lib.run_from_unsafe w ⟨b, 0, none⟩ Tryz.underlying160 Tryz.underlying103 hj hsh (by kernel_rfl)]
    simp only [Result.andThen]
    rw [Oper.upon_value]
    go_wp2
    go_end0
    exact ⟨rfl, HH.out.used _, (Below.refl B w).setCell (p := ⟨b, 0, none⟩) HH.out.1 _, KeptB.setCell b 0 _ w⟩
  · have h0 := h.cell0
    have HH := hide h
    clear h
    go_enter Tryz.func105, Tryz.ntmps105
    go_wp2
    rw [Lib.run_neq_ptr_same w _ Tryz.underlying103 hj]
    go_wp2
    go_end0
    exact ⟨rfl, HH.out, Below.refl B _, KeptB.refl _ _⟩

set_option maxHeartbeats 2000000 in
set_option maxRecDepth 100000 in
theorem writeByte_any (B b : Nat) (bs : List Value) (c : Int) (w : World) (h : IsBld B b bs w) (hlen : bs.length + 1 ≤ 140737488355328) (hBw : B ≤ w.heap.size) :
    Calls Tryz.prog 76 #[.pointer (some ⟨b, 0, none⟩), .int .u8 c] w fun e w' => e = .returned .nilIface ∧ IsBld B b (bs ++ [.int .u8 c]) w' ∧ Below B w w' ∧ KeptB b w w' := by
  obtain ⟨i0, hi, hz0, hz1, hz2⟩ := info_parts infoU8
  go_enter Tryz.func76, Tryz.ntmps76
  go_wp2_with fail
  refine (copyCheck_any B b bs _ h).mono ?_
  rintro e w1 ⟨rfl, h1, hb1, k1⟩
  obtain ⟨hB, v, hbk, hown, hne⟩ := h1
  have c0 : w1.cell? ⟨b, 0, none⟩ = some (.pointer (some ⟨b, 0, none⟩)) := by rw [Lib.cell_of_heap hbk]; rfl
  have c1 : w1.cell? ⟨b, 1, none⟩ = some v := by rw [Lib.cell_of_heap hbk]; rfl
  have hlt : b < w1.heap.size := Array.getElem?_eq_some_iff.1 hbk |>.1
  have hs1 := hb1.size
  go_wp2_with (at_builtin; refine wpList_append_own _ rfl _ _ 102 rfl B 5 i0 (.int .u8 0) 1 1 Tryz.underlying102 hi hz0 hz1 hz2 rfl (by decide) _ _ _ rfl (hown.alloc _) ⟨w1.heap.size, 0, none⟩ 1 1 [.int .u8 c] rfl rfl ?c1 ?c2 ?c3 ?c4 ?c5 ?_)
  case c1 =>
    intro j u hj
    match j, hj with
    | 0, hj => simp at hj; subst hj; simp [Addr.add]
  case c2 => intro u hu; simp at hu; subst hu; rfl
  case c3 => unfold maxLen; omega
  case c4 => omega
  case c5 => simp; omega
  intro v' w2 hown' hgrow _
  have hb2 : w2.heap[b]? = some (.cells #[.pointer (some ⟨b, 0, none⟩), v] 105 (0, 0)) := by
    rw [hgrow.block b (by simp; omega) (fun e => hne e.symm), Lib.alloc_old w1 _ b hlt]
    exact hbk
  have d0 : w2.cell? ⟨b, 0, none⟩ = some (.pointer (some ⟨b, 0, none⟩)) := by rw [Lib.cell_of_heap hb2]; rfl
  have d1 : w2.cell? ⟨b, 1, none⟩ = some v := by rw [Lib.cell_of_heap hb2]; rfl
  have f1 : w2.frozen? ⟨b, 1, none⟩ = false := Lib.frozen_of_heap hb2 1
  obtain ⟨g, cap, rfl⟩ : ∃ g cap, v' = .slice (some ⟨g, 0, none⟩) (bs.length + 1) cap := by
    rcases hown'.2 with ⟨_, h0⟩ | ⟨g, cap, cur, hv, _⟩
    · omega
    · exact ⟨g, cap, hv⟩
  go_wp2
  go_ret
  refine ⟨rfl, .inr (Lib.BuilderAt.put (T := 105) (e := 5) hB hb2 (bs' := bs ++ [.int .u8 c]) (by simpa using hown') (by decide)), ?_, ?_⟩
  · exact ((hb1.alloc (by omega) _).grown hgrow (by simp; omega) (fun k hk => (hown.lt k hk).1)).setCell (p := ⟨b, 1, none⟩) hB _
  · exact ((k1.trans (KeptB.below ((Below.refl _ w1).alloc (Nat.le_refl _) _))).trans (KeptB.grown (hown.alloc _) hgrow)).trans (KeptB.setCell b 1 _ w2)

set_option maxHeartbeats 2000000 in
set_option maxRecDepth 100000 in
theorem writeString_any (B b : Nat) (bs : List Value) (s : ByteArray) (w : World) (h : IsBld B b bs w) (hlen : bs.length + s.size ≤ 140737488355328) (hBw : B ≤ w.heap.size) :
    Calls Tryz.prog 75 #[.pointer (some ⟨b, 0, none⟩), .string s] w fun e w' => e = .returned (.tuple #[.int .i64 s.size, .nilIface]) ∧ IsBld B b (bs ++ Lib.strCells s) w' ∧ Below B w w' ∧ KeptB b w w' := by
  obtain ⟨i0, hi, hz0, hz1, hz2⟩ := info_parts infoU8
  go_enter Tryz.func75, Tryz.ntmps75
  go_wp2_with fail
  refine (copyCheck_any B b bs _ h).mono ?_
  rintro e w1 ⟨rfl, h1, hb1, k1⟩
  obtain ⟨hB, v, hbk, hown, hne⟩ := h1
  have c0 : w1.cell? ⟨b, 0, none⟩ = some (.pointer (some ⟨b, 0, none⟩)) := by rw [Lib.cell_of_heap hbk]; rfl
  have c1 : w1.cell? ⟨b, 1, none⟩ = some v := by rw [Lib.cell_of_heap hbk]; rfl
  have hlt : b < w1.heap.size := Array.getElem?_eq_some_iff.1 hbk |>.1
  have hs1 := hb1.size
  go_wp2_with (at_builtin; refine Lib.wpList_append_own_string _ rfl _ _ 102 9 rfl B 5 i0 Tryz.underlying102 Tryz.underlying9 hi hz0 hz1 hz2 _ _ _ rfl hown s rfl ?c3 ?c4 ?c5 ?_)
  case c3 => unfold maxLen; omega
  case c4 => omega
  case c5 => omega
  intro v' w2 hown' hgrow _
  have hb2 : w2.heap[b]? = some (.cells #[.pointer (some ⟨b, 0, none⟩), v] 105 (0, 0)) := by
    rw [hgrow.block b hlt (fun e => hne e.symm)]
    exact hbk
  have d0 : w2.cell? ⟨b, 0, none⟩ = some (.pointer (some ⟨b, 0, none⟩)) := by rw [Lib.cell_of_heap hb2]; rfl
  have d1 : w2.cell? ⟨b, 1, none⟩ = some v := by rw [Lib.cell_of_heap hb2]; rfl
  have f1 : w2.frozen? ⟨b, 1, none⟩ = false := Lib.frozen_of_heap hb2 1
  obtain ⟨ao, n', cap, rfl⟩ : ∃ ao n' cap, v' = .slice ao n' cap := by
    rcases hown'.2 with ⟨hv, _⟩ | ⟨g, cap, cur, hv, _⟩
    · exact ⟨_, _, _, hv⟩
    · exact ⟨_, _, _, hv⟩
  go_wp2
  go_ret2
  refine ⟨rfl, .inr (Lib.BuilderAt.put (T := 105) (e := 5) hB hb2 (bs' := bs ++ Lib.strCells s) (by simpa [Lib.strCells_length] using hown') (by decide)), ?_, ?_⟩
  · exact (hb1.grown hgrow (by omega) (fun k hk => (hown.lt k hk).1)).setCell (p := ⟨b, 1, none⟩) hB _
  · exact (k1.trans (KeptB.grown hown hgrow)).trans (KeptB.setCell b 1 _ w2)

set_option maxHeartbeats 2000000 in
set_option maxRecDepth 100000 in
/-- the text of a builder that holds a byte or more -/
theorem string_some (B b : Nat) (l : List UInt8) (w : World) (h : IsBld B b (Lib.byteCells l) w) (h0 : l ≠ []) :
    Calls Tryz.prog 77 #[.pointer (some ⟨b, 0, none⟩)] w fun e w' => e = .returned (.string ⟨l.toArray⟩) ∧ Below B w w' := by
  obtain ⟨p, hB, v, hbk, hown, hne⟩ : ∃ p, Lib.BuilderAt 105 5 B b p (Lib.byteCells l) w := by
    rcases h with h | h <;> exact ⟨_, h⟩
  have hl0 : l.length ≠ 0 := by simpa using h0
  rw [Lib.byteCells_length] at hown
  obtain ⟨g, cap, cur, rfl, hbg, hg, hnc, hcm, hcs, htake⟩ : ∃ g cap cur, v = .slice (some ⟨g, 0, none⟩) l.length cap ∧ B ≤ g ∧ w.heap[g]? = some (.cells cur 5 (0, 0)) ∧ l.length ≤ cap ∧ cap ≤ maxLen ∧ cur.size = cap * 1 ∧ cur.toList.take (l.length * 1) = Lib.byteCells l := by
    rcases hown.2 with ⟨_, hz⟩ | ⟨g, cap, cur, hv, r⟩
    · exact absurd hz hl0
    · exact ⟨g, cap, cur, hv, r⟩
  have c1 : w.drew.cell? ⟨b, 1, none⟩ = some (.slice (some ⟨g, 0, none⟩) l.length cap) := by
    have : w.drew.heap[b]? = some (.cells #[p, .slice (some ⟨g, 0, none⟩) l.length cap] 105 (0, 0)) := hbk
    rw [Lib.cell_of_heap this]; rfl
  have hSD : (Builtin.unsafeSliceData_ #[102] 141 #[.slice (some ⟨g, 0, none⟩) l.length cap]).run Tryz.prog w.drew = .ok (.pointer (some ⟨g, 0, none⟩)) w.drew :=
    Lib.run_unsafeSliceData_row _ _ _ _ _ _ (by omega)
  have hUS : (Builtin.unsafeString_ #[141, 3] 9 #[.pointer (some ⟨g, 0, none⟩), .int .i64 l.length]).run Tryz.prog w.drew = .ok (.string ⟨l.toArray⟩) (w.drew.freeze ⟨g, 0, none⟩ l.length) := by
    refine Lib.run_unsafeString_row w.drew 141 3 9 5 Tryz.underlying141 (by kernel_rfl) g cur.size (by have hg' : w.drew.heap[g]? = some (.cells cur 5 (0, 0)) := hg; simp [World.shape?, hg']) l h0 (by omega) (by unfold maxLen at hcm; omega) ?_
    intro j x hx
    exact hown.cells (g := g) rfl j (.int .u8 x.toNat) (by simp [Lib.byteCells, hx])
  have HBG := hide hbg
  clear hown htake hcs hg hbk hne
  go_enter Tryz.func77, Tryz.ntmps77
  go_wp2
  go_region
  all_goals (go_wp2; go_ret; exact ⟨rfl, Lib.below_freeze (Below.drew (Below.refl B w)) (p := ⟨g, 0, none⟩) HBG.out _⟩)

set_option maxHeartbeats 2000000 in
set_option maxRecDepth 100000 in
/-- the text of a builder that nobody has written to -/
theorem string_none (B b : Nat) (p : Value) (w : World) (hbk : w.heap[b]? = some (.cells #[p, .slice none 0 0] 105 (0, 0))) :
    Calls Tryz.prog 77 #[.pointer (some ⟨b, 0, none⟩)] w fun e w' => e = .returned (.string ⟨#[]⟩) ∧ Below B w w' := by
  have hUS : ∀ (W : World) (q : Option Addr), (Builtin.unsafeString_ #[141, 3] 9 #[.pointer q, .int .i64 0]).run Tryz.prog W = .ok (.string .empty) W := fun W q => Lib.run_unsafeString_none W _ _ _ q
  have hSD : (Builtin.unsafeSliceData_ #[102] 141 #[.slice none 0 0]).run Tryz.prog w.drew = .ok (.pointer none) w.drew := Lib.run_unsafeSliceData_nil _ _ _ _ _
  have c1 : w.drew.cell? ⟨b, 1, none⟩ = some (.slice none 0 0) := by
    have : w.drew.heap[b]? = some (.cells #[p, .slice none 0 0] 105 (0, 0)) := hbk
    rw [Lib.cell_of_heap this]; rfl
  clear hbk
  go_enter Tryz.func77, Tryz.ntmps77
  go_wp2
  go_region
  all_goals (go_wp2; go_ret; exact ⟨rfl, Below.drew (Below.refl B w)⟩)
end Go.Proofs.YtkhkcdmmagicmaaGreatDoor
/-
  What impl.writePair writes.
-/
namespace Go.Proofs.YtkhkcdmmagicmaaGreatDoor.M
open Go.RowKit

/-- the line of a pair, a sign ahead -/
def lineG (g x y : ByteArray) : ByteArray := g ++ x ++ ⟨#[61]⟩ ++ y ++ ⟨#[10]⟩
theorem lineG_cells (bs : List Value) (g x y : ByteArray) : ((((bs ++ Lib.strCells g) ++ Lib.strCells x) ++ [Value.int .u8 61]) ++ Lib.strCells y) ++ [Value.int .u8 10] = bs ++ Lib.strCells (lineG g x y) := by
  unfold lineG
  simp [Lib.strCells, ByteArray.data_append]

set_option maxRecDepth 100000 in
set_option maxHeartbeats 2000000 in
theorem writePair_any (B b : Nat) (bs : List Value) (g x y : ByteArray) (w : World) (h : IsBld B b bs w) (hlen : bs.length + g.size + x.size + y.size + 2 ≤ 140737488355328) (hBw : B ≤ w.heap.size) :
    Calls Tryz.prog 100 #[.pointer (some ⟨b, 0, none⟩), .string g, .agg #[.string x, .string y]] w fun e w' => e = .returned (.tuple #[]) ∧ IsBld B b (bs ++ Lib.strCells (lineG g x y)) w' ∧ Below B w w' ∧ KeptB b w w' := by
  have hblt : b < w.heap.size := by
    rcases h with h | h <;> exact h.lt
  have I2 := hide (h.below ((Below.refl _ w).alloc (Nat.le_refl _) (.cells #[.string x, .string y] 64)))
  have Q2 := hide ((Below.refl B w).alloc hBw (.cells #[.string x, .string y] 64))
  have K2 : Hid (KeptB b w (w.alloc (.cells #[.string x, .string y] 64))) := hide (KeptB.below ((Below.refl _ w).alloc (Nat.le_refl _) _))
  have HH0 := hide (heap_alloc_new w (.cells #[.string x, .string y] 64))
  have E := hide (lineG_cells bs g x y)
  clear h
  go_enter Tryz.func100, Tryz.ntmps100
  go_wp2_with fail
  refine (writeString_any B b bs g _ I2.out (by omega) (Nat.le_trans hBw Q2.out.size)).mono ?_
  rintro e w2 ⟨rfl, i2, b2, k2⟩
  have I3 := hide i2
  have Q3 := hide (Q2.out.trans b2)
  have K3 := hide (K2.out.trans k2)
  have hh := k2 w.heap.size _ _ _ (by omega) HH0.out (by decide)
  have HH1 := hide hh
  have d0 : w2.cell? ⟨w.heap.size, 0, none⟩ = some (.string x) := by rw [Lib.cell_of_heap hh]; rfl
  clear i2 b2 k2 I2 Q2 K2 HH0 hh
  go_wp2_with fail
  refine (writeString_any B b _ x _ I3.out (by rw [List.length_append, Lib.strCells_length]; omega) (Nat.le_trans hBw Q3.out.size)).mono ?_
  rintro e w3 ⟨rfl, i3, b3, k3⟩
  have I4 := hide i3
  have Q4 := hide (Q3.out.trans b3)
  have K4 := hide (K3.out.trans k3)
  have hh := k3 w.heap.size _ _ _ (by omega) HH1.out (by decide)
  have HH2 := hide hh
  clear i3 b3 k3 I3 Q3 K3 HH1 hh d0
  go_wp2_with fail
  refine (writeByte_any B b _ 61 _ I4.out (by rw [List.length_append, List.length_append, Lib.strCells_length, Lib.strCells_length]; omega) (Nat.le_trans hBw Q4.out.size)).mono ?_
  rintro e w4 ⟨rfl, i4, b4, k4⟩
  have I5 := hide i4
  have Q5 := hide (Q4.out.trans b4)
  have K5 := hide (K4.out.trans k4)
  have hh := k4 w.heap.size _ _ _ (by omega) HH2.out (by decide)
  have HH3 := hide hh
  have d1 : w4.cell? ⟨w.heap.size, 1, none⟩ = some (.string y) := by rw [Lib.cell_of_heap hh]; rfl
  clear i4 b4 k4 I4 Q4 K4 HH2 hh
  go_wp2_with fail
  refine (writeString_any B b _ y _ I5.out (by rw [List.length_append, List.length_append, List.length_append, Lib.strCells_length, Lib.strCells_length]; simp; omega) (Nat.le_trans hBw Q5.out.size)).mono ?_
  rintro e w5 ⟨rfl, i5, b5, k5⟩
  have I6 := hide i5
  have Q6 := hide (Q5.out.trans b5)
  have K6 := hide (K5.out.trans k5)
  clear i5 b5 k5 I5 Q5 K5 HH3 d1
  go_wp2_with fail
  refine (writeByte_any B b _ 10 _ I6.out (by rw [List.length_append, List.length_append, List.length_append, List.length_append, Lib.strCells_length, Lib.strCells_length, Lib.strCells_length]; simp; omega) (Nat.le_trans hBw Q6.out.size)).mono ?_
  rintro e w6 ⟨rfl, i6, b6, k6⟩
  rw [E.out] at i6
  have I7 := hide i6
  have Q7 := hide (Q6.out.trans b6)
  have K7 := hide (K6.out.trans k6)
  clear i6 b6 k6 I6 Q6 K6
  go_wp2
  first
    | (refine bodyPost_ret (results_none rfl _ _ _) rfl ?_; exact ⟨rfl, I7.out, Q7.out, K7.out⟩)
    | (go_end0; exact ⟨rfl, I7.out, Q7.out, K7.out⟩)
    | exact ⟨rfl, I7.out, Q7.out, K7.out⟩
theorem string_any (B b : Nat) (l : List UInt8) (w : World) (h : IsBld B b (Lib.byteCells l) w) (h0 : l = [] → w.heap[b]? = some (.cells #[.pointer none, .slice none 0 0] 105 (0, 0))) :
    Calls Tryz.prog 77 #[.pointer (some ⟨b, 0, none⟩)] w fun e w' => e = .returned (.string ⟨l.toArray⟩) ∧ Below B w w' := by
  by_cases e : l = []
  · subst e
    exact string_none B b (.pointer none) w (h0 rfl)
  · exact string_some B b l w h e
end Go.Proofs.YtkhkcdmmagicmaaGreatDoor.M
/-
  What MapText writes, in the reference and in the program.
-/
namespace Go.Proofs.YtkhkcdmmagicmaaGreatDoor.M
open Go.RowKit

/-- the line of a pair -/
def lineS (p : Pr) : ByteArray := p.1 ++ ⟨#[61]⟩ ++ p.2 ++ ⟨#[10]⟩
/-- the lines of pairs, one behind the other -/
def textOf : List Pr → ByteArray
  | [] => ByteArray.empty
  | p :: r => lineS p ++ textOf r
theorem ba_assoc (a b c : ByteArray) : a ++ b ++ c = a ++ (b ++ c) := by
  apply Go.WideShapes.bytes_inj
  simp [ByteArray.data_append]
theorem ba_empty (a : ByteArray) : ByteArray.empty ++ a = a := by
  apply Go.WideShapes.bytes_inj
  simp
theorem ba_empty' (a : ByteArray) : a ++ ByteArray.empty = a := by
  apply Go.WideShapes.bytes_inj
  simp
theorem textOf_append (a b : List Pr) : textOf (a ++ b) = textOf a ++ textOf b := by
  induction a with
  | nil => rw [List.nil_append, textOf, ba_empty]
  | cons p r ih => rw [List.cons_append, textOf, textOf, ih, ba_assoc]
theorem textOf_succ {l : List Pr} {k : Nat} (h : k < l.length) : textOf (l.take (k + 1)) = textOf (l.take k) ++ l[k].1 ++ ⟨#[61]⟩ ++ l[k].2 ++ ⟨#[10]⟩ := by
  rw [List.take_succ_eq_append_getElem h, textOf_append]
  simp only [textOf, lineS, ba_empty', ba_assoc]
/-- right pairs have short lines -/
theorem textOf_size {l : List Pr} (h : pairsTo l l.length) : ∀ k, k ≤ l.length → (textOf (l.take k)).size ≤ 22 * k
  | 0, _ => by simp [textOf]
  | k + 1, hk => by
    have ih := textOf_size h k (by omega)
    rw [textOf_succ (by omega)]
    obtain ⟨h1, h2⟩ := h k (by omega) (by omega)
    have h1 := (okB_iff.1 h1).2.1
    have h2 := (okB_iff.1 h2).2.1
    have e1 : (ByteArray.mk #[61]).size = 1 := rfl
    have e2 : (ByteArray.mk #[10]).size = 1 := rfl
    simp only [ByteArray.size_append]
    omega
noncomputable def mapTextS (l : List Pr) : ByteArray := if mapB l = true then textOf l else ByteArray.empty

set_option maxRecDepth 100000 in
set_option maxHeartbeats 1000000 in
theorem l1Text_any (A : Option Addr) (l : List Pr) (cap : Nat) (w : World) (B : Nat) (hl : l.length ≤ 40) (hp : pairsTo l l.length) (hin : PIn w B A l) :
    Calls Tryz.prog 31 #[.slice A l.length cap] w fun e w' => e = .returned (.string (textOf l)) ∧ Quiet w w' := by
  have HP := hide hp
  clear hp
  generalize hn : l.length = n at hl ⊢
  have HN := hide hn
  clear hn
  go_enter Tryz.func31, Tryz.ntmps31
  go_wp2
  go_loopw [3, 4] (fun t i wr => ∃ (k : Nat) (s : ByteArray), k ≤ n ∧ i = .int .i64 k ∧ t = .string s ∧ Hid (s = textOf (l.take k)) ∧ Hid (Quiet w wr)) (fun _ i _ => n - (intOf i).toNat)
  case atStart => exact ⟨0, ByteArray.empty, Nat.zero_le _, rfl, rfl, by simp [Hid, textOf], Quiet.refl w⟩
  case round =>
    obtain ⟨k, s, hk, rfl, rfl, H, Q⟩ := hrel
    by_cases hlt : k < n
    · have hin2 := hin.quiet Q.out
      have hkl : k < l.length := by rw [HN.out]; omega
      obtain ⟨b, off, rfl, hbB, hc⟩ := hin2.2 (by omega)
      obtain ⟨c1, c2⟩ := hc k hkl
      obtain ⟨s1, s2⟩ := HP.out k hkl hkl
      have s1 := (okB_iff.1 s1).2.1
      have s2 := (okB_iff.1 s2).2.1
      have s0 : s.size ≤ 22 * k := by have := textOf_size HP.out k (by omega); rw [← H.out] at this; exact this
      have Z : Hid (s ++ (l[k]'hkl).1 ++ ⟨#[61]⟩ ++ (l[k]'hkl).2 ++ ⟨#[10]⟩ = textOf (l.take (k + 1))) := hide (by rw [textOf_succ hkl, H.out])
      generalize (l[k]'hkl).1 = x at *
      generalize (l[k]'hkl).2 = y at *
      clear hin hin2 hc
      have e1 : (ByteArray.mk #[61]).size = 1 := rfl
      have z1 : (s ++ x).size = s.size + x.size := ByteArray.size_append
      have z2 : (s ++ x ++ ByteArray.mk #[61]).size = s.size + x.size + 1 := by rw [ByteArray.size_append, z1, e1]
      have z3 : (s ++ x ++ ByteArray.mk #[61] ++ y).size = s.size + x.size + 1 + y.size := by rw [ByteArray.size_append, z2]
      go_wp2
      go_quiet (fail)
      go_wp2
      go_roundw
      case rel => exact ⟨k + 1, _, by omega, by go_num, rfl, Z, Q.out.drewN _⟩
      case measure => simp [intOf]; omega
    · have Z : Hid (s = textOf l) := hide (by rw [H.out, List.take_of_length_le (by rw [HN.out]; omega)])
      go_wp2
      go_ret
      exact ⟨ret_str Z.out, Q.out⟩

theorem mapText_no {l : List Pr} (h : mapB l = false) : mapTextS l = ByteArray.empty := by unfold mapTextS; rw [h]; rfl
theorem mapText_yes {l : List Pr} (h : mapB l = true) : mapTextS l = textOf l := by unfold mapTextS; rw [h]; rfl

theorem bytes_step {l : List Pr} {k : Nat} (h : k < l.length) : Lib.byteCells (textOf (l.take k)).data.toList ++ Lib.strCells (lineG ⟨#[]⟩ l[k].1 l[k].2) = Lib.byteCells (textOf (l.take (k + 1))).data.toList := by
  rw [textOf_succ h]
  unfold lineG
  simp [Lib.byteCells, Lib.strCells, ByteArray.data_append]

set_option maxRecDepth 100000 in
set_option maxHeartbeats 2000000 in
theorem implMapText_any (A : Option Addr) (l : List Pr) (cap : Nat) (w : World) (hl : l.length ≤ maxLen) (hin : PIn w w.heap.size A l) :
    Calls Tryz.prog 70 #[.slice A l.length cap] w fun e w' => e = .returned (.string (mapTextS l)) ∧ Below w.heap.size w w' := by
  have R := hide (implMapOk_any A l cap w hl hin)
  cases hm : mapB l
  · have Z := hide (mapText_no hm)
    go_enter Tryz.func70, Tryz.ntmps70
    go_wp2_with (go_at_call 39; refine R.out.mono ?_; rintro e w' ⟨rfl, q⟩)
    go_ret
    exact ⟨ret_str Z.out.symm, q⟩
  · have Z := hide (mapText_yes hm)
    have h40 := (mapB_iff.1 hm).1
    have HP : Hid (pairsTo l l.length) := hide (mapB_iff.1 hm).2.1
    by_cases h0 : l = []
    · subst h0
      go_enter Tryz.func70, Tryz.ntmps70
      go_wp2_with fail
      refine R.out.mono ?_
      rintro e w1 ⟨rfl, b1⟩
      have S1 := hide (string_none w1.heap.size w1.heap.size (.pointer none) (w1.alloc (.cells #[.pointer none, .slice none 0 0] 105)) (heap_alloc_new w1 _))
      have B1 := hide b1
      clear b1 hin
      go_wp2_with fail
      refine wp_loop_rounds 1 ?_
      rw [rounds_succ]
      go_wp2_with fail
      refine S1.out.mono ?_
      rintro e w2 ⟨rfl, b2⟩
      have B2 := hide (B1.out.trans ((((Below.refl w1.heap.size w1).alloc (Nat.le_refl _) _).trans b2).mono B1.out.size))
      clear b2
      go_wp2
      go_ret
      exact ⟨ret_str Z.out.symm, B2.out⟩
    · have hn0 : 0 < l.length := by cases l with | nil => exact absurd rfl h0 | cons _ _ => simp
      have IN := hide hin
      clear hin h0
      generalize hn : l.length = n at hn0 h40 hl R ⊢
      have HN := hide hn
      clear hn
      go_enter Tryz.func70, Tryz.ntmps70
      go_wp2_with fail
      refine R.out.mono ?_
      rintro e w1 ⟨rfl, b1⟩
      have B1 := hide b1
      have I0 := hide (Lib.fresh_isBuilder 105 5 w1)
      have BB0 := hide ((Below.refl w1.heap.size w1).alloc (Nat.le_refl _) (.cells #[.pointer none, .slice none 0 0] 105))
      clear b1 R
      go_wp2_with fail
      go_loopw [11] (fun i wr => ∃ k : Nat, k ≤ n ∧ i = .int .i64 k ∧ Hid (IsBld w1.heap.size w1.heap.size (Lib.byteCells (textOf (l.take k)).data.toList) wr) ∧ Hid (Below w1.heap.size w1 wr)) (fun i _ => n - (intOf i).toNat)
      case atStart => exact ⟨0, Nat.zero_le _, rfl, by simpa [textOf, Lib.byteCells] using I0, BB0⟩
      case round =>
        clear I0 BB0
        obtain ⟨k, hk, rfl, I, Q⟩ := hrel
        by_cases hlt : k < n
        · have hkl : k < l.length := by rw [HN.out]; omega
          have in1 := IN.out.below (B1.out.trans (Q.out.mono B1.out.size))
          obtain ⟨b, off, rfl, hbB, hc⟩ := in1.2 (by omega)
          obtain ⟨c1, c2⟩ := hc k hkl
          obtain ⟨s1, s2⟩ := HP.out k hkl hkl
          have s1 := (okB_iff.1 s1).2.1
          have s2 := (okB_iff.1 s2).2.1
          have s0 := textOf_size HP.out k (by omega)
          have s0' : (Lib.byteCells (textOf (l.take k)).data.toList).length ≤ 22 * k := by rw [Lib.byteCells_length]; exact s0
          have E := hide (bytes_step hkl)
          generalize (l[k]'hkl).1 = x at *
          generalize (l[k]'hkl).2 = y at *
          generalize Lib.byteCells (textOf (l.take k)).data.toList = bs at *
          have hblt : w1.heap.size < wr.heap.size := by
            rcases I.out with h | h <;> exact h.lt
          have hxs : x.size ≤ 8 := by omega
          have hys : y.size ≤ 12 := by omega
          have e0 : (ByteArray.mk #[]).size = 0 := rfl
          clear in1 hc s0
          have WP : Hid (∀ W, Below wr.heap.size wr W → Calls Tryz.prog 100 #[.pointer (some ⟨w1.heap.size, 0, none⟩), .string ⟨#[]⟩, .agg #[.string x, .string y]] W fun e w' => e = .returned (.tuple #[]) ∧ IsBld w1.heap.size w1.heap.size (bs ++ Lib.strCells (lineG ⟨#[]⟩ x y)) w' ∧ Below w1.heap.size W w') := hide fun W hW => (writePair_any w1.heap.size w1.heap.size bs ⟨#[]⟩ x y W (I.out.below hW) (by omega) (by have := hW.size; omega)).mono fun _ _ ⟨a1, a2, a3, _⟩ => ⟨a1, a2, a3⟩
          have A1 : Hid (Below wr.heap.size wr (wr.alloc (.cells #[.string x, .string y] 64))) := hide ((Below.refl _ wr).alloc (Nat.le_refl _) _)
          have A0 : Hid (Below wr.heap.size wr wr) := hide (Below.refl _ wr)
          go_wp2_with fail
          first
            | (refine (WP.out _ A1.out).mono ?_; rintro e w5 ⟨rfl, i5, b5⟩; have Q6 := hide ((Q.out.trans (A1.out.mono Q.out.size)).trans b5))
            | (refine (WP.out _ A0.out).mono ?_; rintro e w5 ⟨rfl, i5, b5⟩; have Q6 := hide (Q.out.trans b5))
          rw [E.out] at i5
          have I6 := hide i5
          clear i5 b5 WP A1 A0
          go_wp2
          go_roundw
          case rel => exact ⟨k + 1, by omega, by go_num, I6, Q6⟩
          case measure => simp [intOf]; omega
        · obtain rfl : k = n := by omega
          have F : Hid (l.take k = l) := hide (List.take_of_length_le (by rw [HN.out]; exact Nat.le_refl _))
          have I2 := I.out
          rw [F.out] at I2
          have hne : (textOf l).data.toList ≠ [] := by
            intro e
            have h1 := textOf_succ (l := l) (k := k - 1) (by rw [HN.out]; omega)
            rw [show k - 1 + 1 = k by omega, F.out] at h1
            have h2 : (textOf l).size = 0 := by
              show (textOf l).data.size = 0
              rw [← Array.length_toList, e]
              rfl
            rw [h1, ByteArray.size_append] at h2
            have e2 : (ByteArray.mk #[10]).size = 1 := rfl
            omega
          have S1 := hide (string_some w1.heap.size w1.heap.size (textOf l).data.toList wr I2 hne)
          clear I2 hne
          go_wp2_with fail
          refine S1.out.mono ?_
          rintro e w2 ⟨rfl, b2⟩
          have B2 := hide (B1.out.trans ((Q.out.trans b2).mono B1.out.size))
          clear b2 S1
          go_wp2
          go_ret
          exact ⟨ret_str Z.out.symm, B2.out⟩
end Go.Proofs.YtkhkcdmmagicmaaGreatDoor.M
/-
  A right map comes back from its text; what is read, written again, has just its bytes.
-/
namespace Go.Proofs.YtkhkcdmmagicmaaGreatDoor.M
open Go.RowKit

theorem cut_join {s : ByteArray} {c : UInt8} (h : (cutS s c).2.2 = true) : (cutS s c).1 ++ ⟨#[c]⟩ ++ (cutS s c).2.1 = s := by
  by_cases hp : posB s c < s.size
  · rw [cutS_yes hp]
    apply Go.WideShapes.bytes_inj
    have hp' : List.findIdx (fun x => x == c) s.data.toList < s.data.toList.length := hp
    have hc : s.data.toList[List.findIdx (fun x => x == c) s.data.toList] = c := by
      have := List.findIdx_getElem (w := hp')
      simpa using this
    have e1 : (s.extract 0 (posB s c)).data.toList = s.data.toList.take (posB s c) := by simp
    have e2 : (s.extract (posB s c + 1) s.size).data.toList = s.data.toList.drop (posB s c + 1) := by
      simp
      exact List.take_of_length_le (by rw [List.length_drop]; exact Nat.le_refl _)
    simp only [ByteArray.data_append, Array.toList_append, e1, e2]
    have e3 : s.data.toList.take (posB s c) ++ [c] ++ s.data.toList.drop (posB s c + 1) = s.data.toList := by
      have : posB s c = List.findIdx (fun x => x == c) s.data.toList := rfl
      rw [this]
      conv => rhs; rw [← List.take_append_drop (List.findIdx (fun x => x == c) s.data.toList) s.data.toList, List.drop_eq_getElem_cons hp', hc]
      simp
    exact e3
  · rw [cutS_no hp] at h; simp at h
theorem cut_app {a b : ByteArray} {c : UInt8} (h : ∀ x ∈ a.data.toList, x ≠ c) : cutS (a ++ ⟨#[c]⟩ ++ b) c = (a, b, true) := by
  have hl : (a ++ ⟨#[c]⟩ ++ b).data.toList = a.data.toList ++ (c :: b.data.toList) := by simp [ByteArray.data_append]
  have hp : posB (a ++ ⟨#[c]⟩ ++ b) c = a.size := by
    unfold posB
    rw [hl, List.findIdx_append]
    have : List.findIdx (fun x => x == c) a.data.toList = a.data.toList.length := by
      rw [List.findIdx_eq_length]
      intro x hx
      exact beq_eq_false_iff_ne.2 (h x hx)
    have hc0 : List.findIdx (fun x => x == c) (c :: b.data.toList) = 0 := by rw [List.findIdx_cons]; simp
    rw [this, if_neg (Nat.lt_irrefl _), hc0, Nat.zero_add]
    rfl
  have hz : (a ++ ⟨#[c]⟩ ++ b).size = a.size + 1 + b.size := by
    simp only [ByteArray.size_append]; rfl
  rw [cutS_yes (by rw [hp, hz]; omega), hp, hz]
  have e1 : (a ++ ⟨#[c]⟩ ++ b).extract 0 a.size = a := by
    apply Go.WideShapes.bytes_inj
    rw [ByteArray.data_extract, Array.toList_extract, hl]
    show List.take (a.size - 0) (List.drop 0 (a.data.toList ++ c :: b.data.toList)) = a.data.toList
    rw [List.drop_zero, Nat.sub_zero]
    exact List.take_left' rfl
  have e2 : (a ++ ⟨#[c]⟩ ++ b).extract (a.size + 1) (a.size + 1 + b.size) = b := by
    apply Go.WideShapes.bytes_inj
    rw [ByteArray.data_extract, Array.toList_extract, hl]
    show List.take (a.size + 1 + b.size - (a.size + 1)) (List.drop (a.size + 1) (a.data.toList ++ c :: b.data.toList)) = b.data.toList
    rw [show a.data.toList ++ c :: b.data.toList = (a.data.toList ++ [c]) ++ b.data.toList by simp, List.drop_left' (by rw [List.length_append]; rfl), Nat.add_sub_cancel_left]
    exact List.take_of_length_le (Nat.le_refl _)
  rw [e1, e2]

/-- what is read, written again -/
theorem lines_text : ∀ (n : Nat) (s : ByteArray), s.size ≤ n → (linesS s).2 = true → (linesS s).1.all parted = true → textOf ((linesS s).1.map pairOf) = s
  | n, s, hn, he, hp => by
    by_cases h0 : s.size = 0
    · rw [linesS_none h0, size_zero h0]; rfl
    · cases hc : (cutS s 10).2.2
      · rw [linesS_last h0 hc] at he; simp at he
      · have hr := cutS_rest hc
        rw [linesS_more h0 hc] at he hp ⊢
        simp only [List.all_cons, Bool.and_eq_true] at hp
        match n, hn with
        | 0, hn => exact absurd (Nat.le_zero.1 hn) h0
        | n + 1, hn =>
          have ih := lines_text n (cutS s 10).2.1 (by omega) he hp.2
          rw [List.map_cons, textOf, ih]
          show (cutS (cutS s 10).1 61).1 ++ ⟨#[61]⟩ ++ (cutS (cutS s 10).1 61).2.1 ++ ⟨#[10]⟩ ++ (cutS s 10).2.1 = s
          rw [cut_join hp.1]
          exact cut_join hc
theorem read_text {s : ByteArray} (h : okR s = true) : mapTextS (readL s) = s := by
  have h' := h
  unfold okR at h'
  simp only [Bool.and_eq_true] at h'
  rw [readL_yes h, mapText_yes h'.2]
  exact lines_text s.size s (Nat.le_refl _) h'.1.2 h'.1.1

/-- a right map comes back from its text -/
theorem text_lines : ∀ (l : List Pr), (∀ p ∈ l, (∀ x ∈ p.1.data.toList, x ≠ 61 ∧ x ≠ 10) ∧ (∀ x ∈ p.2.data.toList, x ≠ 10)) → linesS (textOf l) = (l.map (fun p => p.1 ++ ⟨#[61]⟩ ++ p.2), true)
  | [], _ => by rw [textOf, linesS_none rfl]; rfl
  | p :: r, h => by
    have ih := text_lines r fun q hq => h q (List.mem_cons_of_mem _ hq)
    obtain ⟨h1, h2⟩ := h p List.mem_cons_self
    have hline : ∀ x ∈ (p.1 ++ ⟨#[61]⟩ ++ p.2).data.toList, x ≠ 10 := by
      intro x hx
      simp only [ByteArray.data_append, Array.toList_append, List.mem_append] at hx
      rcases hx with (hx | hx) | hx
      · exact (h1 x hx).2
      · have : x = 61 := by simpa using hx
        rw [this]; decide
      · exact h2 x hx
    have hcut : cutS (textOf (p :: r)) 10 = (p.1 ++ ⟨#[61]⟩ ++ p.2, textOf r, true) := by
      rw [textOf, lineS]
      exact cut_app hline
    have hsz : (textOf (p :: r)).size ≠ 0 := by
      intro h0
      have := cutS_rest (s := textOf (p :: r)) (c := 10) (by rw [hcut])
      omega
    rw [linesS_more hsz (by rw [hcut]), hcut]
    show ((p.1 ++ ⟨#[61]⟩ ++ p.2) :: (linesS (textOf r)).1, (linesS (textOf r)).2) = _
    rw [ih]
    rfl
theorem right_bytes {l : List Pr} (hm : mapB l = true) : ∀ p ∈ l, (∀ x ∈ p.1.data.toList, x ≠ 61 ∧ x ≠ 10) ∧ (∀ x ∈ p.2.data.toList, x ≠ 10) := by
  obtain ⟨_, b0, _⟩ := mapB_iff.1 hm
  have b : ∀ p ∈ l, keyB p.1 = true ∧ valB p.2 = true := fun p hp => by
    obtain ⟨i, hi, rfl⟩ := List.getElem_of_mem hp
    exact b0 i hi hi
  intro p hp
  obtain ⟨h1, h2⟩ := b p hp
  have a1 := (okB_iff.1 h1).2.2
  have a2 := (okB_iff.1 h2).2.2
  constructor
  · intro x hx
    obtain ⟨i, hi, e⟩ := List.getElem_of_mem hx
    have h := a1 i hi hi
    rw [show p.1[i] = x from e] at h
    constructor <;> (rintro rfl; exact absurd h (by decide))
  · intro x hx
    obtain ⟨i, hi, e⟩ := List.getElem_of_mem hx
    have h := a2 i hi hi
    rw [show p.2[i] = x from e] at h
    rintro rfl
    exact absurd h (by decide)
theorem text_read {l : List Pr} (hm : mapB l = true) : okR (textOf l) = true ∧ readL (textOf l) = l := by
  have hb := right_bytes hm
  have hl := text_lines l hb
  have hmap : (linesS (textOf l)).1.map pairOf = l := by
    rw [hl]
    show (l.map (fun p => p.1 ++ ⟨#[61]⟩ ++ p.2)).map pairOf = l
    rw [List.map_map]
    conv => rhs; rw [← List.map_id l]
    apply List.map_congr_left
    intro p hp
    show ((cutS (p.1 ++ ⟨#[61]⟩ ++ p.2) 61).1, (cutS (p.1 ++ ⟨#[61]⟩ ++ p.2) 61).2.1) = p
    rw [cut_app fun x hx => ((hb p hp).1 x hx).1]
  have hok : okR (textOf l) = true := by
    refine okR_yes ?_ (by rw [hl]) (by rw [hmap]; exact hm)
    rw [hl]
    rw [List.all_eq_true]
    intro x hx
    obtain ⟨p, hp, rfl⟩ := List.mem_map.1 hx
    show (cutS (p.1 ++ ⟨#[61]⟩ ++ p.2) 61).2.2 = true
    rw [cut_app fun x hx => ((hb p hp).1 x hx).1]
  exact ⟨hok, by rw [readL_yes hok, hmap]⟩
end Go.Proofs.YtkhkcdmmagicmaaGreatDoor.M
/-
  What a commit leaves, and that it leaves a repository.
-/
namespace Go.Proofs.YtkhkcdmmagicmaaGreatDoor
open Go.RowKit

/-- the text of a map's tree, and of the commit -/
def treeT (m : List Pr) : ByteArray := mapW ++ M.textOf m
def comT (m : List Pr) (ps : List ByteArray) (note : ByteArray) : ByteArray := textC (idL (treeT m)) ps note
def cmP (l m : List Pr) (ps : List ByteArray) (note : ByteArray) : Prop :=
  repoB l = true ∧ mapB m = true ∧ (∀ p ∈ ps, rdOk (valOf l p) = true) ∧ comB (idL (treeT m)) ps note = true ∧ addB l (treeT m) = true ∧ addB (addL l (treeT m)) (comT m ps note) = true
open Classical in
noncomputable def cmB (l m : List Pr) (ps : List ByteArray) (note : ByteArray) : Bool := decide (cmP l m ps note)
noncomputable def cmL (l m : List Pr) (ps : List ByteArray) (note : ByteArray) : List Pr := if cmB l m ps note = true then addL (addL l (treeT m)) (comT m ps note) else []
noncomputable def cmI (l m : List Pr) (ps : List ByteArray) (note : ByteArray) : ByteArray := if cmB l m ps note = true then idL (comT m ps note) else ByteArray.empty
open Classical in
theorem cmB_iff {l m : List Pr} {ps : List ByteArray} {note : ByteArray} : cmB l m ps note = true ↔ cmP l m ps note := by unfold cmB; exact decide_eq_true_iff
theorem cmB_no {l m : List Pr} {ps : List ByteArray} {note : ByteArray} (h : ¬ cmP l m ps note) : cmB l m ps note = false ∧ cmL l m ps note = [] ∧ cmI l m ps note = ByteArray.empty := by
  have e : cmB l m ps note = false := by
    cases e : cmB l m ps note
    · rfl
    · exact absurd (cmB_iff.1 e) h
  refine ⟨e, ?_, ?_⟩
  · unfold cmL; rw [e]; rfl
  · unfold cmI; rw [e]; rfl
theorem cmB_yes {l m : List Pr} {ps : List ByteArray} {note : ByteArray} (h : cmP l m ps note) : cmB l m ps note = true ∧ cmL l m ps note = addL (addL l (treeT m)) (comT m ps note) ∧ cmI l m ps note = idL (comT m ps note) := by
  have e := cmB_iff.2 h
  refine ⟨e, ?_, ?_⟩
  · unfold cmL; rw [if_pos e]
  · unfold cmI; rw [if_pos e]
theorem cmL_len (l m : List Pr) (ps : List ByteArray) (note : ByteArray) : (cmL l m ps note).length ≤ 60 := by
  unfold cmL
  split
  · exact addL_objs _ _
  · simp

theorem has_of_rd {l : List Pr} {k : ByteArray} (h : rdOk (valOf l k) = true) : hasB l k = true := by
  cases e : hasB l k
  · rw [valOf_no e, rdOk_empty] at h; cases h
  · rfl
theorem has_of_tree {l : List Pr} {k : ByteArray} (h : treeB (valOf l k) = true) : hasB l k = true := by
  cases e : hasB l k
  · rw [valOf_no e, tree_empty] at h; cases h
  · rfl
/-- what was there stays as it was -/
theorem add_keeps {l : List Pr} {t k : ByteArray} (h : addB l t = true) (hk : hasB l k = true) : hasB (addL l t) k = true ∧ valOf (addL l t) k = valOf l k := by
  obtain ⟨ho, _, hs, _⟩ := addB_iff.1 h
  have hr : Ris l := ris_iff.1 (objsB_iff.1 ho).2.2
  rw [addL_yes h]
  refine ⟨(has_set hr _ _ _).2 (.inr hk), ?_⟩
  by_cases e : k = idL t
  · subst e
    rw [val_set hr]
    unfold stepOk at hs
    rw [hk] at hs
    simp only [Bool.not_true, Bool.false_or, decide_eq_true_eq] at hs
    exact hs.symm
  · exact val_set_ne hr _ e
theorem add_there {l : List Pr} {t : ByteArray} (h : addB l t = true) : hasB (addL l t) (idL t) = true ∧ valOf (addL l t) (idL t) = t ∧ objsB (addL l t) = true := by
  obtain ⟨ho, _⟩ := addB_iff.1 h
  have hr : Ris l := ris_iff.1 (objsB_iff.1 ho).2.2
  have := add_objs h
  rw [addL_yes h]
  exact ⟨(has_set hr _ _ _).2 (.inl rfl), val_set hr _ _, this⟩
theorem add_mem {l : List Pr} {t : ByteArray} (h : addB l t = true) {p : Pr} (hp : p ∈ addL l t) : p = (idL t, t) ∨ p ∈ l := by
  obtain ⟨ho, _⟩ := addB_iff.1 h
  have hr : Ris l := ris_iff.1 (objsB_iff.1 ho).2.2
  rw [addL_yes h] at hp
  rcases (mem_set hr _ _ _).1 hp with e | ⟨e, _⟩
  · exact .inl e
  · exact .inr e
theorem fine_grows {l l' : List Pr} {p : Pr} (h : fine l p) (hg : ∀ k, hasB l k = true → valOf l' k = valOf l k) : fine l' p := by
  refine ⟨h.1, fun hr => ?_⟩
  obtain ⟨h1, h2⟩ := h.2 hr
  refine ⟨by rw [hg _ (has_of_tree h1)]; exact h1, fun q hq => ?_⟩
  obtain ⟨h3, h4⟩ := h2 q hq
  exact ⟨by rw [hg _ (has_of_rd h3)]; exact h3, h4⟩
theorem tree_text {m : List Pr} (hm : mapB m = true) : treeB (treeT m) = true ∧ treeL (treeT m) = m := by
  have hp : mapW.data.toList <+: (treeT m).data.toList := by
    unfold treeT
    rw [ByteArray.data_append, Array.toList_append]
    exact List.prefix_append _ _
  have he : (treeT m).extract 4 (treeT m).size = M.textOf m := by
    refine (ext_front (r := treeT m) (want := mapW) (r' := M.textOf m) ?_).2.2
    unfold treeT
    rw [ByteArray.data_append, Array.toList_append]
  obtain ⟨h1, h2⟩ := M.text_read hm
  rw [treeB_yes hp, treeL_yes hp, he]
  exact ⟨h1, h2⟩
theorem comT_text {m : List Pr} {ps : List ByteArray} {note : ByteArray} (h : comB (idL (treeT m)) ps note = true) : rdOk (comT m ps note) = true ∧ rdC (comT m ps note) = (idL (treeT m), ps, note) :=
  rd_yes (c := (idL (treeT m), ps, note)) ⟨h, rfl⟩
/-- what is committed leaves a repository -/
theorem repo_cm {l m : List Pr} {ps : List ByteArray} {note : ByteArray} (h : cmP l m ps note) : repoB (addL (addL l (treeT m)) (comT m ps note)) = true := by
  obtain ⟨h1, h2, h3, h4, h5, h6⟩ := h
  obtain ⟨ho, hf⟩ := repoB_iff.1 h1
  obtain ⟨t1, t2, t3⟩ := add_there h5
  obtain ⟨c1, c2, c3⟩ := add_there h6
  obtain ⟨tr, _⟩ := tree_text h2
  obtain ⟨cr, cc⟩ := comT_text h4
  have g1 : ∀ k, hasB l k = true → hasB (addL l (treeT m)) k = true ∧ valOf (addL l (treeT m)) k = valOf l k := fun k hk => add_keeps h5 hk
  have g2 : ∀ k, hasB (addL l (treeT m)) k = true → hasB (addL (addL l (treeT m)) (comT m ps note)) k = true ∧ valOf (addL (addL l (treeT m)) (comT m ps note)) k = valOf (addL l (treeT m)) k := fun k hk => add_keeps h6 hk
  have g : ∀ k, hasB l k = true → valOf (addL (addL l (treeT m)) (comT m ps note)) k = valOf l k := fun k hk => (g2 k (g1 k hk).1).2.trans (g1 k hk).2
  have hr : risesTo l l.length := (objsB_iff.1 ho).2.2
  refine repoB_iff.2 ⟨c3, fun i hi _ => ?_⟩
  have hmem := List.getElem_mem hi
  rcases add_mem h6 hmem with e | hm1
  · rw [e]
    refine ⟨.inr cr, fun _ => ?_⟩
    rw [cc]
    refine ⟨?_, fun q hq => ⟨?_, ?_⟩⟩
    · show treeB (valOf _ (idL (treeT m))) = true
      rw [(g2 _ t1).2, t2]
      exact tr
    · rw [g q (has_of_rd (h3 q hq))]
      exact h3 q hq
    · intro e2
      have e3 : q = idL (comT m ps note) := e2
      have hq1 := has_of_rd (h3 q hq)
      have e4 : valOf l q = comT m ps note := by rw [← g q hq1, e3]; exact c2
      obtain ⟨j, hj, ej⟩ := has_at hq1
      have e5 := (valOf_at hr hj).2
      rw [ej, e4] at e5
      have hfj := hf j hj hj
      have := (hfj.2 (by rw [← e5]; exact cr)).2 q (by rw [← e5, cc]; exact hq)
      exact this.2 ej.symm
  · rcases add_mem h5 hm1 with e | hm2
    · rw [e]
      exact ⟨.inl tr, fun hx => by rw [tree_com tr] at hx; cases hx⟩
    · obtain ⟨j, hj, ej⟩ := List.getElem_of_mem hm2
      rw [← ej]
      exact fine_grows (hf j hj hj) g
end Go.Proofs.YtkhkcdmmagicmaaGreatDoor
/-
  What spec.l3Add and spec.Add make of a list of objects and a text.
-/
namespace Go.Proofs.YtkhkcdmmagicmaaGreatDoor
open Go.RowKit

theorem idL_max (t : ByteArray) : (idL t).size ≤ maxLen := by rw [idL_size]; simp [maxLen]
theorem set_new {l : List Pr} {k : ByteArray} (v : ByteArray) (h : hasB l k = false) : (([] ++ l.take (atN l k)) ++ [(k, v)]) ++ l.drop (atN l k) = setL l k v := by unfold setL; rw [h]; simp

set_option maxRecDepth 100000 in
set_option maxHeartbeats 1000000 in
theorem l3Add_any (A : Option Addr) (l : List Pr) (cap : Nat) (t : ByteArray) (w : World) (hl : l.length ≤ 100000) (hc : l.length ≤ cap) (hin : PIn w w.heap.size A l) (ht : t.size ≤ 2000) :
    Calls Tryz.prog 63 #[.slice A l.length cap, .string t] w (RetOwnB w.heap.size (l3L l t) (stepOk l (idL t, t)) w) := by
  have hlm : l.length ≤ maxLen := by unfold maxLen; omega
  have hle := atN_le l (idL t)
  have hks := idL_max t
  have hvs : t.size ≤ maxLen := by unfold maxLen; omega
  have IN := hide hin
  have L2 := hide (l2Id_any t w ht)
  clear hin
  cases hh : hasB l (idL t)
  · have HM : Hid ((([] ++ l.take (atN l (idL t))) ++ [(idL t, t)]) ++ l.drop (atN l (idL t)) = l3L l t) := hide (by unfold l3L; rw [hh]; exact set_new t hh)
    have ST : Hid (stepOk l (idL t, t) = true) := hide (stepOk_new hh)
    go_enter Tryz.func63, Tryz.ntmps63
    go_wp2_with fail
    refine L2.out.mono ?_
    rintro e w1 ⟨rfl, b1⟩
    have B1 := hide b1
    have in1 := IN.out.below b1
    have F1 := hide (l3Find_any A l cap (idL t) w1 w.heap.size hlm in1)
    rw [hh] at F1
    have A1 := hide (l3At_any A l cap (idL t) w1 w.heap.size hlm in1)
    have K1 := run_cut_h 28 Tryz.underlying28 A l.length cap (atN l (idL t)) (by omega)
    have K2 := run_cut_l 28 Tryz.underlying28 A l.length cap (atN l (idL t)) (by omega)
    have IN1 := hide (in1.take cap (atN l (idL t)))
    have IN2 := hide (in1.drop hc (atN l (idL t)))
    have E1 := hide (show (l.take (atN l (idL t))).length = atN l (idL t) by rw [List.length_take]; omega)
    have E2 := hide (show (l.drop (atN l (idL t))).length = l.length - (atN l (idL t)) by rw [List.length_drop])
    have O1 := hide (Own.built w1 w1.heap.size (Nat.le_refl _))
    have B2 := hide ((Below.refl w1.heap.size w1).alloc (Nat.le_refl _) (.cells #[] 62))
    have hs1 := b1.size
    have IN1b := hide (IN1.out.below (B2.out.mono hs1))
    clear b1 in1 hh L2
    generalize valOf l (idL t) = vv at *
    generalize l.take (atN l (idL t)) = la at *
    generalize l.drop (atN l (idL t)) = lb at *
    generalize atN l (idL t) = m at *
    generalize idL t = k at *
    generalize hnn : l.length = n at *
    have HNN := hide hnn
    clear hnn
    go_wp2_with (first
      | (go_at_call 58; refine F1.out.mono ?_; rintro e w' ⟨rfl, rfl⟩)
      | (go_at_call 90; refine A1.out.mono ?_; rintro e w' ⟨rfl, rfl⟩)
      | (at_builtin; refine wpList_app 28 Tryz.underlying28 rfl (.tmp 29) (.tmp 32) rfl rfl rfl rfl E1.out.symm O1.out IN1b.out B2.out.size (by rw [E1.out]; simp; omega) ?_; intro A3 cap3 w3 own3 g3 r3; have b3 := O1.out.grownBelow (by rw [rowOf_own]; exact g3) B2.out.size; have B3 := hide (B2.out.trans b3); have O3 := hide own3; have IN3 := hide (IN2.out.below (B3.out.mono hs1)); clear own3 g3 b3)
      | (at_builtin; refine wpList_app 28 Tryz.underlying28 rfl (.tmp 34) (.tmp 38) rfl rfl rfl (by simp) rfl (O3.out.alloc _) (PIn.one w3 k t hks hvs _) (Nat.le_trans B3.out.size (by simp)) (by rw [List.length_append, E1.out]; simp; omega) ?_; intro A4 cap4 w4 own4 g4 r4; have b4 := (O3.out.alloc (.cells #[.string k, .string t] 62)).grownBelow (by rw [rowOf_own]; exact g4) (Nat.le_trans B3.out.size (by simp)); have b4' := ((Below.refl w1.heap.size w3).alloc B3.out.size (.cells #[.string k, .string t] 62)).trans b4; have B4 := hide (B3.out.trans b4'); have O4 := hide own4; have IN4 := hide (IN3.out.below (b4'.mono hs1)); clear own4 g4 b4 b4')
      | (at_builtin; refine wpList_app 28 Tryz.underlying28 rfl (.tmp 40) (.tmp 43) rfl rfl rfl (by simp) E2.out.symm O4.out IN4.out B4.out.size (by rw [List.length_append, List.length_append, E1.out, E2.out]; simp; omega) ?_; intro A5 cap5 w5 own5 g5 r5; have b5 := O4.out.grownBelow (by rw [rowOf_own]; exact g5) B4.out.size; have B5 := hide (B4.out.trans b5); have O5 := hide own5; clear own5 g5 b5))
    go_ret2
    have O6 := O5.out
    rw [HM.out] at O6
    exact ⟨A5, cap5, O6.cap_le, by rw [← HM.out, ST.out]; simp, O6.more B1.out.size, B1.out.trans (B5.out.mono B1.out.size)⟩
  · have HM : Hid ([] ++ l = l3L l t) := hide (by unfold l3L; rw [hh]; simp)
    have ST : Hid (((valOf l (idL t)).toList == t.toList) = stepOk l (idL t, t)) := hide (by
      by_cases e : valOf l (idL t) = t
      · rw [eqS_yes e, stepOk_same e]
      · rw [eqS_no e, stepOk_no hh e])
    go_enter Tryz.func63, Tryz.ntmps63
    go_wp2_with fail
    refine L2.out.mono ?_
    rintro e w1 ⟨rfl, b1⟩
    have B1 := hide b1
    have in1 := IN.out.below b1
    have F1 := hide (l3Find_any A l cap (idL t) w1 w.heap.size hlm in1)
    rw [hh] at F1
    have O1 := hide (Own.built w1 w1.heap.size (Nat.le_refl _))
    have B2 := hide ((Below.refl w1.heap.size w1).alloc (Nat.le_refl _) (.cells #[] 62))
    have hs1 := b1.size
    have IN1b := hide (in1.below (B2.out.mono hs1))
    clear b1 in1 hh L2
    generalize valOf l (idL t) = vv at *
    generalize stepOk l (idL t, t) = so at *
    generalize idL t = k at *
    generalize hnn : l.length = n at *
    have HNN := hide hnn
    clear hnn
    go_wp2_with (first
      | (go_at_call 58; refine F1.out.mono ?_; rintro e w' ⟨rfl, rfl⟩)
      | (at_builtin; refine wpList_app 28 Tryz.underlying28 rfl (.tmp 20) (.tmp 21) rfl rfl rfl rfl HNN.out.symm O1.out IN1b.out B2.out.size (by rw [HNN.out]; simp; omega) ?_; intro A3 cap3 w3 own3 g3 r3; have b3 := O1.out.grownBelow (by rw [rowOf_own]; exact g3) B2.out.size; have B3 := hide (B2.out.trans b3); have O3 := hide own3; clear own3 g3 b3))
    go_ret2
    have O6 := O3.out
    rw [HM.out] at O6
    exact ⟨A3, cap3, O6.cap_le, by rw [← HM.out, ← ST.out]; simp, O6.more B1.out.size, B1.out.trans (B3.out.mono B1.out.size)⟩

set_option maxRecDepth 100000 in
set_option maxHeartbeats 1000000 in
theorem specAdd_any (A : Option Addr) (l : List Pr) (cap : Nat) (t : ByteArray) (w : World) (hl : l.length ≤ maxLen) (hc : l.length ≤ cap) (hin : PIn w w.heap.size A l) (hts : t.size ≤ maxLen) :
    Calls Tryz.prog 34 #[.slice A l.length cap, .string t] w (RetOwnI w.heap.size (addL l t) (adI l t) (addB l t) w) := by
  have R := hide (specObjsOk_any A l cap w hl hin)
  have IN := hide hin
  unfold maxLen at hts
  clear hin
  cases hm : objsB l
  · have Z := hide (addB_no (t := t) hm)
    go_enter Tryz.func34, Tryz.ntmps34
    go_wp2_with (go_at_call 55; refine R.out.mono ?_; rintro e w1 ⟨rfl, b1⟩)
    go_ret3
    exact retOwnI_no (addL_no Z.out) (adI_no Z.out) Z.out b1
  · have h60 := (objsB_iff.1 hm).1
    by_cases ht : t.size ≤ 2000
    · have hb : ¬ (2000 : Int) < (t.size : Int) := by omega
      have hb2 : decide ((2000 : Int) < (t.size : Int)) = false := decide_eq_false hb
      go_enter Tryz.func34, Tryz.ntmps34
      go_wp2_with fail
      refine R.out.mono ?_
      rintro e w1 ⟨rfl, b1⟩
      have in1 := (IN.out.below b1).more b1.size
      have B1 := hide b1
      clear b1 R
      go_wp2_with fail
      refine (l3Add_any A l cap t w1 (by omega) hc in1 ht).mono ?_
      rintro e w2 ⟨A2, cap2, hc2, rfl, own2, b2⟩
      have B2 := hide (B1.out.trans (b2.mono B1.out.size))
      have O2 := hide own2
      have hl3 := l3L_len l t
      clear b2 own2 in1
      cases hs : stepOk l (idL t, t)
      · have Z : Hid (addB l t = false) := hide (by rw [addB_of hm]; exact addOk_other hs)
        go_wp2
        go_ret3
        exact retOwnI_no (addL_no Z.out) (adI_no Z.out) Z.out B2.out
      · have E := hide (l3L_set (objs_all.1 hm).2.2 hs)
        have Z := hide (addB_spec hm ht hs)
        rw [E.out] at hc2 O2 hl3 ⊢
        go_wp2_with fail
        refine (specObjsOk_any A2 (setL l (idL t) t) cap2 w2 (by unfold maxLen; omega) O2.out.pin).mono ?_
        rintro e w3 ⟨rfl, b3⟩
        have B3 := hide (B2.out.trans (b3.mono B2.out.size))
        have O3 := hide (O2.out.below b3)
        have hs2 := B1.out.size
        clear b3 B2 O2
        rw [← Z.out]
        cases hz : addB l t
        · have Z := hide hz
          go_wp2
          go_ret3
          exact retOwnI_no (addL_no Z.out) (adI_no Z.out) Z.out B3.out
        · have Z2 := hide hz
          go_wp2_with fail
          refine (l2Id_any t w3 ht).mono ?_
          rintro e w4 ⟨rfl, b4⟩
          have B4 := hide (B3.out.trans (b4.mono B3.out.size))
          have O4 := hide ((O3.out.below b4).more hs2)
          clear b4 B3 O3
          go_wp2
          go_ret3
          refine ⟨A2, cap2, ?_, ?_, ?_, B4.out⟩
          · rw [addL_yes Z2.out]; exact hc2
          · rw [addL_yes Z2.out, adI_yes Z2.out, Z2.out]; rfl
          · rw [addL_yes Z2.out]; exact O4.out
    · have Z : Hid (addB l t = false) := hide (by rw [addB_of hm]; exact addOk_long (by omega))
      have hb : (2000 : Int) < (t.size : Int) := by omega
      have hb2 : decide ((2000 : Int) < (t.size : Int)) = true := decide_eq_true hb
      go_enter Tryz.func34, Tryz.ntmps34
      go_wp2_with (go_at_call 55; refine R.out.mono ?_; rintro e w1 ⟨rfl, b1⟩)
      go_ret3
      exact retOwnI_no (addL_no Z.out) (adI_no Z.out) Z.out b1
end Go.Proofs.YtkhkcdmmagicmaaGreatDoor
/-
  What spec.l4Commit and spec.Committed answer.
-/
namespace Go.Proofs.YtkhkcdmmagicmaaGreatDoor
open Go.RowKit

set_option maxRecDepth 100000 in
set_option maxHeartbeats 1000000 in
theorem l4Commit_any (A : Option Addr) (l : List Pr) (cap : Nat) (key : ByteArray) (w : World) (B : Nat) (hB : B ≤ w.heap.size) (ho : objsB l = true) (hl : l.length ≤ maxLen) (hin : PIn w B A l) :
    Calls Tryz.prog 30 #[.slice A l.length cap, .string key] w (RetCom (valOf l key) w) := by
  have b0 := (Below.refl w.heap.size w).alloc (Nat.le_refl _) (.cells #[.string ByteArray.empty, .slice none 0 0, .string ByteArray.empty] 54)
  have B0 := hide b0
  have X0 : Hid ((w.alloc (.cells #[.string ByteArray.empty, .slice none 0 0, .string ByteArray.empty] 54)).heap[w.heap.size]? = some (C3 ByteArray.empty none 0 0 ByteArray.empty)) := hide (heap_alloc_new w _)
  have S0 : Hid ((w.alloc (.cells #[.string ByteArray.empty, .slice none 0 0, .string ByteArray.empty] 54)).heap.size = w.heap.size + 1) := hide (by simp)
  have IN := hide ((hin.more hB).below b0)
  have F := hide (l3Find_any A l cap key _ w.heap.size hl IN.out)
  have Z : Hid (hasB l key = false → valOf l key = ByteArray.empty) := hide (fun h => valOf_no h)
  have hz := valOf_size ho key
  clear b0 hin ho
  generalize hn : l.length = n at *
  go_enter Tryz.func30, Tryz.ntmps30
  go_wp2_with fail
  refine F.out.mono ?_
  rintro e w1 ⟨rfl, hw1⟩
  have B1 : Hid (Below w.heap.size w w1) := hide (by rw [← hw1]; exact B0.out)
  have X1 : Hid (w1.heap[w.heap.size]? = some (C3 ByteArray.empty none 0 0 ByteArray.empty)) := hide (by rw [← hw1]; exact X0.out)
  have hs1 : w.heap.size + 1 ≤ w1.heap.size := by rw [← hw1, S0.out]; exact Nat.le_refl _
  clear hw1 F IN B0 X0 S0
  cases hb : hasB l key
  · have ZE := hide (Z.out hb)
    have g0 := cell_of_row _ _ 0 _ _ _ X1.out
    have g1 := cell_of_row _ _ 1 _ _ _ X1.out
    have g2 := cell_of_row _ _ 2 _ _ _ X1.out
    have k0 := frozen_of_row _ _ 0 _ _ X1.out
    have k1 := frozen_of_row _ _ 1 _ _ X1.out
    have k2 := frozen_of_row _ _ 2 _ _ X1.out
    have N : Hid (RetCom (valOf l key) w (.returned (.tuple #[.agg #[.string ByteArray.empty, .slice none 0 0, .string ByteArray.empty], .bool false])) (((w1.setCell ⟨w.heap.size, 0, none⟩ (.string ByteArray.empty)).setCell ⟨w.heap.size, 1, none⟩ (.slice none 0 0)).setCell ⟨w.heap.size, 2, none⟩ (.string ByteArray.empty))) := hide (by
      rw [ZE.out]
      obtain ⟨e1, e2⟩ := rd_no com_empty
      exact ⟨none, 0, by rw [e2, e1]; rfl, by rw [e2]; exact ZOwn.nil _ _, ((B1.out.setCell (p := ⟨w.heap.size, 0, none⟩) (Nat.le_refl _) _).setCell (p := ⟨w.heap.size, 1, none⟩) (Nat.le_refl _) _).setCell (p := ⟨w.heap.size, 2, none⟩) (Nat.le_refl _) _⟩)
    generalize valOf l key = t at *
    go_wp2
    exact bodyPost_ret (v := .tuple #[.agg #[.string ByteArray.empty, .slice none 0 0, .string ByteArray.empty], .bool false]) (by simp [results, Tryz.results30, go_sem, g0, g1, g2]; rfl) rfl N.out
  · generalize valOf l key = t at *
    go_wp2_with fail
    refine (specReadCommit_any t w1 (by omega)).mono ?_
    rintro e w2 ⟨A2, cap2, rfl, own2, b2⟩
    have X2 := hide ((b2.block w.heap.size (by omega)).trans X1.out)
    have B2 := hide (B1.out.trans (b2.mono (by omega)))
    have r2 := own2.row
    have O2 := hide own2
    have g0 := cell_of_row _ _ 0 _ _ _ X2.out
    have g1 := cell_of_row _ _ 1 _ _ _ X2.out
    have g2 := cell_of_row _ _ 2 _ _ _ X2.out
    have k0 := frozen_of_row _ _ 0 _ _ X2.out
    have k1 := frozen_of_row _ _ 1 _ _ X2.out
    have k2 := frozen_of_row _ _ 2 _ _ X2.out
    clear own2 b2
    have N : Hid (RetCom t w (.returned (.tuple #[.agg #[.string (rdC t).1, .slice A2 (rdC t).2.1.length cap2, .string (rdC t).2.2], .bool (rdOk t)])) (((w2.setCell ⟨w.heap.size, 0, none⟩ (.string (rdC t).1)).setCell ⟨w.heap.size, 1, none⟩ (.slice A2 (rdC t).2.1.length cap2)).setCell ⟨w.heap.size, 2, none⟩ (.string (rdC t).2.2))) := hide (by
      refine ⟨A2, cap2, rfl, ?_, ((B2.out.setCell (p := ⟨w.heap.size, 0, none⟩) (Nat.le_refl _) _).setCell (p := ⟨w.heap.size, 1, none⟩) (Nat.le_refl _) _).setCell (p := ⟨w.heap.size, 2, none⟩) (Nat.le_refl _) _⟩
      have hne : rowOf A2 ≠ some w.heap.size := fun e => by have := (r2 _ e).1; omega
      have gs : ∀ (W : World) (o : Nat) (v : Value), W.grownBy (W.setCell ⟨w.heap.size, o, none⟩ v) (some w.heap.size) := fun W o v => ⟨rfl, rfl, rfl, by simp [World.setCell], fun k _ hk => Below.heap_setCell W ⟨w.heap.size, o, none⟩ v k (fun e => hk (by rw [e]))⟩
      exact ((((O2.out.kept (gs _ _ _) hne).kept (gs _ _ _) hne).kept (gs _ _ _) hne)).more (by omega))
    generalize (rdC t).1 = c1 at *
    generalize (rdC t).2.2 = c3 at *
    generalize (rdC t).2.1.length = c2 at *
    generalize rdOk t = ok at *
    go_wp2
    exact bodyPost_ret (v := .tuple #[.agg #[.string c1, .slice A2 c2 cap2, .string c3], .bool ok]) (by simp [results, Tryz.results30, go_sem, g0, g1, g2]) rfl N.out

/-- a list of objects of the call's own, an id, a bool: what a commit leaves -/
theorem cm_no {l m : List Pr} {ps : List ByteArray} {note : ByteArray} {B : Nat} {w w' : World} (h : ¬ cmP l m ps note) (hb : Below B w w') : RetOwnI B (cmL l m ps note) (cmI l m ps note) (cmB l m ps note) w (.returned (.tuple #[.slice none 0 0, .string ByteArray.empty, .bool false])) w' := by
  obtain ⟨h1, h2, h3⟩ := cmB_no h
  exact retOwnI_no h2 h3 h1 hb
theorem treeT_size {m : List Pr} (hm : mapB m = true) : (treeT m).size ≤ 1000 := by
  have h := M.textOf_size (mapB_iff.1 hm).2.1 m.length (Nat.le_refl _)
  rw [List.take_length] at h
  have h40 := (mapB_iff.1 hm).1
  unfold treeT
  rw [ByteArray.size_append]
  have : mapW.size = 4 := rfl
  omega
theorem comT_size {m : List Pr} {ps : List ByteArray} {note : ByteArray} (h : comB (idL (treeT m)) ps note = true) : (comT m ps note).size ≤ maxLen := by
  obtain ⟨h1, h2, h3, h4⟩ := comSz_of h
  have h5 := headTo_size h1 h3 ps.length
  unfold comT textC maxLen
  rw [ByteArray.size_append, ByteArray.size_append]
  have : (⟨#[10]⟩ : ByteArray).size = 1 := rfl
  omega
theorem pins {w : World} {B : Nat} {A : Option Addr} {l : List ByteArray} (h : SIn w B A l) : ZIn w B A l := h.2
/-- the first j parents are there -/
def parsTo (l : List Pr) (ps : List ByteArray) (j : Nat) : Prop := ∀ i (h : i < ps.length), i < j → rdOk (valOf l ps[i]) = true
theorem parsTo_succ {l : List Pr} {ps : List ByteArray} {j : Nat} (hj : j < ps.length) (h : parsTo l ps j) (h1 : rdOk (valOf l ps[j]) = true) : parsTo l ps (j + 1) := by
  intro i hi hik
  by_cases e : i = j
  · subst e; exact h1
  · exact h i hi (by omega)
theorem parsTo_all {l : List Pr} {ps : List ByteArray} (h : parsTo l ps ps.length) : ∀ q ∈ ps, rdOk (valOf l q) = true := by
  intro q hq
  obtain ⟨i, hi, rfl⟩ := List.getElem_of_mem hq
  exact h i hi hi

set_option maxRecDepth 100000 in
set_option maxHeartbeats 2000000 in
theorem specCommitted_any (A0 : Option Addr) (l : List Pr) (cap0 : Nat) (A1 : Option Addr) (m : List Pr) (cap1 : Nat) (A2 : Option Addr) (ps : List ByteArray) (cap2 : Nat) (note : ByteArray) (w : World) (hl : l.length ≤ maxLen) (hc : l.length ≤ cap0) (hin : PIn w w.heap.size A0 l) (hl1 : m.length ≤ maxLen) (hin1 : PIn w w.heap.size A1 m) (hl2 : ps.length ≤ maxLen) (hin2 : SIn w w.heap.size A2 ps) (hn : note.size ≤ maxLen) :
    Calls Tryz.prog 9 #[.slice A0 l.length cap0, .slice A1 m.length cap1, .slice A2 ps.length cap2, .string note] w (RetOwnI w.heap.size (cmL l m ps note) (cmI l m ps note) (cmB l m ps note) w) := by
  have R := hide (specRepoOk_any A0 l cap0 w hl hin)
  have NO : Hid (¬ cmP l m ps note → ∀ w', Below w.heap.size w w' → RetOwnI w.heap.size (cmL l m ps note) (cmI l m ps note) (cmB l m ps note) w (.returned (.tuple #[.slice none 0 0, .string ByteArray.empty, .bool false])) w') := hide (fun h w' hb => cm_no h hb)
  have YES : Hid (cmP l m ps note → ∀ A cap w', (addL (addL l (treeT m)) (comT m ps note)).length ≤ cap → Own w' w.heap.size A cap (addL (addL l (treeT m)) (comT m ps note)) → Below w.heap.size w w' → RetOwnI w.heap.size (cmL l m ps note) (cmI l m ps note) (cmB l m ps note) w (.returned (.tuple #[.slice A (addL (addL l (treeT m)) (comT m ps note)).length cap, .string (idL (comT m ps note)), .bool true])) w') := hide (fun h A cap w' hcap ho hb => by
    obtain ⟨h1, h2, h3⟩ := cmB_yes h
    rw [h1, h2, h3]
    exact ⟨A, cap, hcap, rfl, ho, hb⟩)
  cases hr : repoB l
  · have Z := hide (NO.out (fun h => by rw [h.1] at hr; cases hr))
    clear hin hin1 hin2 hl hl1 hl2 NO YES
    generalize l.length = n0 at *
    generalize m.length = n1 at *
    generalize ps.length = n2 at *
    rw [hr] at R
    go_enter Tryz.func9, Tryz.ntmps9
    go_wp2_with fail
    refine R.out.mono ?_
    rintro e w1 ⟨rfl, b1⟩
    have B1 := hide b1
    clear b1 R
    go_wp2_with fail
    go_ret3
    exact Z.out _ B1.out
  · have HR := hide hr
    have HO := hide (repoB_iff.1 hr).1
    rw [hr] at R
    have MK : Hid (∀ W, Below w.heap.size w W → Calls Tryz.prog 29 #[.slice A1 m.length cap1] W fun e w' => e = .returned (.bool (mapB m)) ∧ Quiet W w') := hide (fun W hb => M.specMapOk_any A1 m cap1 W w.heap.size hl1 (hin1.below hb))
    cases hm : mapB m
    · have Z := hide (NO.out (fun h => by rw [h.2.1] at hm; cases hm))
      rw [hm] at MK
      clear hin hin1 hin2 hl hl1 hl2 NO YES hr
      generalize l.length = n0 at *
      generalize m.length = n1 at *
      generalize ps.length = n2 at *
      go_enter Tryz.func9, Tryz.ntmps9
      go_wp2_with fail
      refine R.out.mono ?_
      rintro e w1 ⟨rfl, b1⟩
      have B1 := hide b1
      clear b1 R
      go_wp2_with fail
      refine (MK.out _ B1.out).mono ?_
      rintro e w2 ⟨rfl, q2⟩
      have B2 := hide (B1.out.trans (q2.below _))
      clear q2
      go_wp2_with fail
      go_ret3
      exact Z.out _ B2.out
    · have HM := hide hm
      rw [hm] at MK
      have PN : Hid (∀ j (h : j < ps.length), rdOk (valOf l ps[j]) = false → ¬ cmP l m ps note) := hide (fun j h hf hc => by have := hc.2.2.1 _ (List.getElem_mem h); rw [hf] at this; cases this)
      have LC : Hid (∀ k W, Below w.heap.size w W → Calls Tryz.prog 30 #[.slice A0 l.length cap0, .string k] W (RetCom (valOf l k) W)) := hide (fun k W hb => l4Commit_any A0 l cap0 k W w.heap.size hb.size HO.out hl (hin.below hb))
      have TX : Hid (∀ W, Below w.heap.size w W → Calls Tryz.prog 31 #[.slice A1 m.length cap1] W fun e w' => e = .returned (.string (M.textOf m)) ∧ Quiet W w') := hide (fun W hb => M.l1Text_any A1 m cap1 W w.heap.size (mapB_iff.1 HM.out).1 (mapB_iff.1 HM.out).2.1 (hin1.below hb))
      have hts := treeT_size HM.out
      have TI := hide (fun W => l2Id_any (treeT m) W (by omega))
      have CO : Hid (∀ W, Below w.heap.size w W → Calls Tryz.prog 33 #[.agg #[.string (idL (treeT m)), .slice A2 ps.length cap2, .string note]] W fun e w' => e = .returned (.bool (comB (idL (treeT m)) ps note)) ∧ Below W.heap.size W w') := hide (fun W hb => specCommitOk_any (idL (treeT m)) note A2 ps cap2 W (idL_max _) hn hl2 ((hin2.below hb).more hb.size))
      have L4 : Hid (comB (idL (treeT m)) ps note = true → ∀ W, Below w.heap.size w W → Calls Tryz.prog 35 #[.agg #[.string (idL (treeT m)), .slice A2 ps.length cap2, .string note]] W fun e w' => e = .returned (.string (comT m ps note)) ∧ Below W.heap.size W w') := hide (fun h W hb => l4Text_any (idL (treeT m)) note A2 ps cap2 W (comSz_of h) ((hin2.below hb).more hb.size))
      have A1' : Hid (∀ W, Below w.heap.size w W → Calls Tryz.prog 34 #[.slice A0 l.length cap0, .string (treeT m)] W (RetOwnI W.heap.size (addL l (treeT m)) (adI l (treeT m)) (addB l (treeT m)) W)) := hide (fun W hb => specAdd_any A0 l cap0 (treeT m) W hl hc ((hin.below hb).more hb.size) (by unfold maxLen; omega))
      have P0 : Hid ((∀ q ∈ ps, rdOk (valOf l q) = true) → comB (idL (treeT m)) ps note = true → addB l (treeT m) = true → addB (addL l (treeT m)) (comT m ps note) = true → cmP l m ps note) := hide (fun h1 h2 h3 h4 => ⟨HR.out, HM.out, h1, h2, h3, h4⟩)
      have N2 : Hid (comB (idL (treeT m)) ps note = false → ¬ cmP l m ps note) := hide (fun h hc => by have := hc.2.2.2.1; rw [h] at this; cases this)
      have N3 : Hid (addB l (treeT m) = false → ¬ cmP l m ps note) := hide (fun h hc => by have := hc.2.2.2.2.1; rw [h] at this; cases this)
      have N4 : Hid (addB (addL l (treeT m)) (comT m ps note) = false → ¬ cmP l m ps note) := hide (fun h hc => by have := hc.2.2.2.2.2; rw [h] at this; cases this)
      have CZ := hide (fun h => comT_size (m := m) (ps := ps) (note := note) h)
      have IN2 := hide hin2
      have TT : Hid ((⟨#[109, 97, 112, 10]⟩ : ByteArray) ++ M.textOf m = treeT m) := hide rfl
      have hsm : (M.textOf m).size ≤ 1000 := by
        unfold treeT at hts
        rw [ByteArray.size_append] at hts
        omega
      have hl2' := hl2
      unfold maxLen at hl2'
      clear hin hin1 hin2 hl hl1 hr hm
      generalize l.length = n0 at *
      generalize m.length = n1 at *
      generalize hpn : ps.length = n2 at hl2' CO L4 ⊢
      have PL := hide hpn
      clear hpn hl2
      go_enter Tryz.func9, Tryz.ntmps9
      go_wp2_with fail
      refine R.out.mono ?_
      rintro e w1 ⟨rfl, b1⟩
      have B1 := hide b1
      clear b1 R
      go_wp2_with fail
      refine (MK.out _ B1.out).mono ?_
      rintro e w2 ⟨rfl, q2⟩
      have B2 := hide (B1.out.trans (q2.below _))
      clear q2 MK B1
      go_wp2_with fail
      go_loopw [11] (fun iv wr => ∃ k : Nat, k ≤ n2 ∧ iv = .int .i64 k ∧ Hid (parsTo l ps k) ∧ Hid (Below w.heap.size w wr)) (fun i _ => n2 - (intOf i).toNat)
      case atStart => exact ⟨0, Nat.zero_le _, rfl, hide (fun _ _ h => absurd h (by omega)), B2⟩
      case round =>
        clear B2
        obtain ⟨k, hk, rfl, H, Q⟩ := hrel
        by_cases hlt : k < n2
        · have hkl : k < ps.length := by rw [PL.out]; omega
          obtain ⟨b, off, rfl, hb, hc'⟩ := (IN2.out.below Q.out).2 (by omega)
          have c1 := hc' k hkl
          have Z1 := hide (PN.out k hkl)
          have Z2 := hide (parsTo_succ hkl H.out)
          clear hc' PN H
          generalize ps[k]'hkl = q at *
          go_wp2_with fail
          refine (LC.out q _ Q.out).mono ?_
          rintro e w4 ⟨A4, cap4, rfl, _, b4⟩
          have bx := boxC_below w4 (.string (rdC (valOf l q)).1) (.slice A4 (rdC (valOf l q)).2.1.length cap4) (.string (rdC (valOf l q)).2.2)
          have B5 := hide (Q.out.trans ((b4.trans (bx.mono b4.size)).mono Q.out.size))
          clear bx b4
          generalize (rdC (valOf l q)).1 = q1 at *
          generalize (rdC (valOf l q)).2.2 = q3 at *
          generalize (rdC (valOf l q)).2.1.length = q2 at *
          cases hrq : rdOk (valOf l q)
          · have Z := hide (NO.out (Z1.out hrq))
            clear hrq Z1 Z2 YES TI CO L4 A1' P0 N2 N3 N4 TX LC NO
            go_wp2_with fail
            go_ret3
            exact Z.out _ B5.out
          · have Z := hide (Z2.out hrq)
            clear hrq Z1 Z2
            go_wp2_with fail
            go_roundw
            case rel => exact ⟨k + 1, by omega, by go_num, Z, B5⟩
            case measure => simp [intOf]; omega
        · have HA := hide (parsTo_all (show parsTo l ps ps.length by rw [PL.out, ← show k = n2 by omega]; exact H.out))
          have hgt : ¬ ((k : Int) < (n2 : Int)) := by omega
          clear hlt PN LC H
          go_wp2_with fail
          refine (TX.out _ Q.out).mono ?_
          rintro e w4 ⟨rfl, q4⟩
          have B4 := hide (Q.out.trans (q4.below _))
          have hadd : ¬ ((9223372036854775807 : Nat) < (⟨#[109, 97, 112, 10]⟩ : ByteArray).size + (M.textOf m).size) := by
            have : (⟨#[109, 97, 112, 10]⟩ : ByteArray).size = 4 := rfl
            omega
          clear q4 Q TX
          have TE := TT.out
          go_wp2_with fail
          try rw [TE]
          refine (TI.out w4).mono ?_
          rintro e w5 ⟨rfl, b5⟩
          have B5 := hide (B4.out.trans (b5.mono B4.out.size))
          clear b5 B4 TI
          have bx := boxC_below w5 (.string (idL (treeT m))) (.slice A2 n2 cap2) (.string note)
          have B6 := hide (B5.out.trans (bx.mono B5.out.size))
          have X6 := hide (boxC w5 (idL (treeT m)) note A2 n2 cap2)
          have S6 : Hid ((w5.alloc (.cells #[.string (idL (treeT m)), .slice A2 n2 cap2, .string note] 54)).heap.size = w5.heap.size + 1) := hide (by simp)
          have g0 := cell_of_row _ _ 0 _ _ _ X6.out
          have g1 := cell_of_row _ _ 1 _ _ _ X6.out
          have g2 := cell_of_row _ _ 2 _ _ _ X6.out
          have CC := hide (CO.out _ B6.out)
          clear bx CO TE
          generalize idL (treeT m) = ti at *
          go_wp2_with fail
          refine CC.out.mono ?_
          rintro e w6 ⟨rfl, b6⟩
          have B7 := hide (B6.out.trans (b6.mono B6.out.size))
          have X7 := hide ((b6.block w5.heap.size (by rw [S6.out]; omega)).trans X6.out)
          have hs7 : w5.heap.size < w6.heap.size := by have := b6.size; rw [S6.out] at this; exact this
          clear b6 CC X6 S6 g0 g1 g2 B6 B5
          cases hcb : comB ti ps note
          · have Z := hide (NO.out (N2.out hcb))
            clear hcb NO YES L4 A1' P0 N2 N3 N4
            go_wp2_with fail
            go_ret3
            exact Z.out _ B7.out
          · have LT := hide (L4.out hcb)
            have P1 := hide (P0.out HA.out hcb)
            have HCT := hide (CZ.out hcb)
            clear hcb N2 P0 L4
            go_wp2_with fail
            refine (A1'.out _ B7.out).mono ?_
            rintro e w7 ⟨A7, cap7, hc7, rfl, own7, b7⟩
            have B8 := hide (B7.out.trans (b7.mono B7.out.size))
            have X8 := hide ((b7.block w5.heap.size hs7).trans X7.out)
            have O8 := hide own7
            have hs8 : w5.heap.size < w7.heap.size := Nat.lt_of_lt_of_le hs7 b7.size
            have h60 := addL_objs l (treeT m)
            have g0 := cell_of_row _ _ 0 _ _ _ X8.out
            have g1 := cell_of_row _ _ 1 _ _ _ X8.out
            have g2 := cell_of_row _ _ 2 _ _ _ X8.out
            clear b7 own7 A1' X7 B7
            generalize hone : addL l (treeT m) = one at *
            generalize hon : one.length = on at h60 hc7 ⊢
            have ON := hide hon
            clear hon
            have HONE := hide hone
            clear hone
            generalize adI l (treeT m) = ai at *
            go_wp2_with fail
            refine (LT.out _ B8.out).mono ?_
            rintro e w8 ⟨rfl, b8⟩
            have B9 := hide (B8.out.trans (b8.mono B8.out.size))
            have O9 := hide (O8.out.below b8)
            clear b8 LT B8 O8 X8 g0 g1 g2
            have hct := HCT.out
            have AD := hide (specAdd_any A7 one cap7 (comT m ps note) w8 (by rw [ON.out]; unfold maxLen; omega) (by rw [ON.out]; exact hc7) O9.out.pin hct)
            rw [ON.out] at AD
            go_wp2_with fail
            refine AD.out.mono ?_
            rintro e w9 ⟨A10, cap10, hc10, rfl, own10, b10⟩
            have B11 := hide (B9.out.trans (b10.mono B9.out.size))
            have O11 := hide (own10.more (show w.heap.size ≤ w8.heap.size by have := B9.out.size; omega))
            have hl11 := addL_objs one (comT m ps note)
            have hp11 := own10.pin
            clear own10 b10 AD B9 O9 hc7
            cases hb1 : addB l (treeT m)
            · have Z := hide (NO.out (N3.out hb1))
              clear hb1 NO YES P1 N3 N4 hp11 hl11 hc10
              generalize (addL one (comT m ps note)).length = tn at *
              generalize adI one (comT m ps note) = aj at *
              generalize addB one (comT m ps note) = ab at *
              go_wp2_with fail
              go_ret3
              exact Z.out _ B11.out
            · cases hb2 : addB one (comT m ps note)
              · have Z := hide (NO.out (N4.out hb2))
                clear hb1 hb2 NO YES P1 N3 N4 hp11 hl11 hc10
                generalize (addL one (comT m ps note)).length = tn at *
                generalize adI one (comT m ps note) = aj at *
                go_wp2_with fail
                go_ret3
                exact Z.out _ B11.out
              · have P2 := hide (P1.out hb1 hb2)
                have RO := hide (specRepoOk_any A10 (addL one (comT m ps note)) cap10 w9 (by unfold maxLen; omega) hp11)
                have HRT : repoB (addL one (comT m ps note)) = true := by rw [← HONE.out]; exact repo_cm P2.out
                have FIN : Hid (∀ w', Below w9.heap.size w9 w' → RetOwnI w.heap.size (cmL l m ps note) (cmI l m ps note) (cmB l m ps note) w (.returned (.tuple #[.slice A10 (addL one (comT m ps note)).length cap10, .string (adI one (comT m ps note)), .bool true])) w') := hide (fun w' hb => by
                  rw [adI_yes hb2]
                  exact YES.out P2.out A10 cap10 w' hc10 (O11.out.below hb) (B11.out.trans (hb.mono B11.out.size)))
                rw [HRT] at RO
                clear hb1 hb2 NO YES P1 N3 N4 hp11 hl11 hc10 HRT
                generalize (addL one (comT m ps note)).length = tn at *
                generalize adI one (comT m ps note) = aj at *
                go_wp2_with fail
                refine RO.out.mono ?_
                rintro e w12 ⟨rfl, b12⟩
                have FF := hide (FIN.out _ b12)
                clear b12 RO FIN
                go_wp2_with fail
                go_ret3
                exact FF.out
end Go.Proofs.YtkhkcdmmagicmaaGreatDoor
/-
  The map of texts by their ids, told by a rising list: what it tells, what a store makes of it, its keys in order.
-/
namespace Go.Proofs.YtkhkcdmmagicmaaGreatDoor
open Go.RowKit Go.Maps

/-- the map D tells what the rising list l tells -/
def Rep (D : DataW Unit) (l : List Pr) : Prop := Ris l ∧ ∀ k, has D (keyL k) = hasB l k ∧ D.atKey (keyL k) (elD ByteArray.empty) = elD (valOf l k)
theorem rep_mapD {l : List Pr} (h : risesTo l l.length) : Rep (mapD l) l := ⟨ris_iff.1 h, fun k => mapD_look h k⟩
theorem rep_put {D : DataW Unit} {l : List Pr} (hD : IsMap D) (h : Rep D l) (k v : ByteArray) : Rep (D.put (keyL k) (elD v)) (setL l k v) := by
  refine ⟨ris_set h.1 k v, fun k' => ?_⟩
  by_cases e : k' = k
  · subst e
    rw [has_put_same hD (keyL_key _), atKey_put_same hD (keyL_key _), val_set h.1, (has_set h.1 k' v k').2 (.inl rfl)]
    exact ⟨rfl, rfl⟩
  · have hne : keyL k' ≠ keyL k := fun x => e (keyL_inj x)
    rw [has_put_other hne, atKey_put_other hne, val_set_ne h.1 v e, (h.2 k').1, (h.2 k').2]
    refine ⟨?_, rfl⟩
    cases e1 : hasB l k' <;> cases e2 : hasB (setL l k v) k'
    · rfl
    · rcases (has_set h.1 k v k').1 e2 with g | g
      · exact absurd g e
      · rw [e1] at g; cases g
    · rw [(has_set h.1 k v k').2 (.inr e1)] at e2; cases e2
    · rfl
/-- the block bm is a map that tells what l tells -/
def TRep (w : World) (bm : Nat) (n : Nat) (l : List Pr) : Prop := ∃ D, w.ownsMap Tryz.prog 9 (plainElem Tryz.prog 9) bm n D ∧ Rep D l
theorem TMap.rep {w : World} {bm n : Nat} {l : List Pr} (h : TMap w bm n l) (hr : risesTo l l.length) : TRep w bm n l := ⟨_, h, rep_mapD hr⟩
theorem TRep.lt {w : World} {bm n : Nat} {l : List Pr} (h : TRep w bm n l) : bm < w.heap.size := by obtain ⟨D, h, _⟩ := h; exact h.lt
theorem TRep.kept {w w' : World} {bm n : Nat} {l : List Pr} {row : Option Nat} (h : TRep w bm n l) (hg : w.grownBy w' row) (hne : some bm ≠ row) : TRep w' bm n l := by obtain ⟨D, h, r⟩ := h; exact ⟨D, h.kept hg hne, r⟩
theorem TRep.below {w w' : World} {bm n : Nat} {l : List Pr} (h : TRep w bm n l) (hb : Below w.heap.size w w') : TRep w' bm n l := h.kept (Below.toGrown hb none) (by simp)
theorem TRep.belowB {B : Nat} {w w' : World} {bm n : Nat} {l : List Pr} (h : TRep w bm n l) (hb : Below B w w') (hB : bm < B) : TRep w' bm n l := by
  obtain ⟨D, ⟨es, clock, hbk, F, hs, hD⟩, r⟩ := h
  exact ⟨D, ⟨es, clock, (hb.block bm hB).trans hbk, F, hs, hD⟩, r⟩
theorem TRep.perm {w : World} {bm n : Nat} {l : List Pr} {D : DataW Unit} (h : w.ownsMap Tryz.prog 9 (plainElem Tryz.prog 9) bm n D) (r : Rep D l) : (l.map fun p => p.1.data.toList).Perm (strKeys D) := by
  refine Collected.perm (left := fun _ => false) ⟨?_, fun x => ?_⟩ h lawS Tryz.underlying9 (fun _ => rfl)
  · refine List.pairwise_map.2 (r.1.imp fun {p q} hlt e => ?_)
    have : p.1 = q.1 := Go.WideShapes.bytes_inj e
    rw [this, ltB_irrefl] at hlt
    cases hlt
  · have hk := (r.2 ⟨x.toArray⟩).1
    have hx : keyL ⟨x.toArray⟩ = .string x := rfl
    rw [hx] at hk
    rw [hk, has_iff r.1, List.mem_map]
    constructor
    · rintro ⟨p, hp, rfl⟩
      exact ⟨⟨p.2, by simpa using hp⟩, rfl⟩
    · rintro ⟨⟨v, hv⟩, _⟩
      exact ⟨_, hv, rfl⟩
theorem TRep.size {w : World} {bm n : Nat} {l : List Pr} {D : DataW Unit} (h : w.ownsMap Tryz.prog 9 (plainElem Tryz.prog 9) bm n D) (r : Rep D l) : Maps.size D = l.length := by
  have hp := (TRep.perm h r).length_eq
  rw [List.length_map] at hp
  obtain ⟨es, rfl⟩ := World.ownsMap.isMap h
  rw [size_eq, hp]
  show es.length = (es.map _).length
  rw [List.length_map]
set_option maxRecDepth 100000 in
theorem TRep.look {w : World} {bm n : Nat} {l : List Pr} (h : TRep w bm n l) {key : ByteArray} (hk : key.size ≤ maxLen) :
    (Instr.lookup 67 (.map (some bm)) (.string key) true).run Tryz.prog w = .ok (.tuple #[.string (valOf l key), .bool (hasB l key)]) w := by
  obtain ⟨D, h, r⟩ := h
  obtain ⟨v, ps, hrun, hv⟩ := World.ownsMap.look_ok h lawS Tryz.underlying67 (zeroS w) (zd := elD ByteArray.empty) (zp := []) (plainElem_string Tryz.underlying9 (by simp [maxLen])) (Go.WideMaps.keyOf_string_mk Tryz.underlying9 hk)
  obtain ⟨c, rfl, hc, _⟩ := plainElem_string_inv Tryz.underlying9 hv
  obtain ⟨q1, q2⟩ := r.2 key
  have q2' : D.atKey (keyL key) (elD ByteArray.empty) = elD c := by injection hc
  have ec : c = valOf l key := by
    rw [q2] at q2'
    unfold elD at q2'
    injection q2' with q2'
    injection q2' with q2'
    exact (Go.WideShapes.bytes_inj q2').symm
  have q1' : Maps.has D (.string key.data.toList) = hasB l key := q1
  rw [q1', ec] at hrun
  exact hrun
set_option maxRecDepth 100000 in
theorem TRep.get {w : World} {bm n : Nat} {l : List Pr} (h : TRep w bm n l) {key : ByteArray} (hk : key.size ≤ maxLen) :
    (Instr.lookup 67 (.map (some bm)) (.string key) false).run Tryz.prog w = .ok (.string (valOf l key)) w := by
  obtain ⟨D, h, r⟩ := h
  obtain ⟨v, ps, hrun, hv⟩ := World.ownsMap.lookup h lawS Tryz.underlying67 (zeroS w) (zd := elD ByteArray.empty) (zp := []) (plainElem_string Tryz.underlying9 (by simp [maxLen])) (Go.WideMaps.keyOf_string_mk Tryz.underlying9 hk)
  obtain ⟨c, rfl, hc, _⟩ := plainElem_string_inv Tryz.underlying9 hv
  obtain ⟨_, q2⟩ := r.2 key
  have q2' : D.atKey (keyL key) (elD ByteArray.empty) = elD c := by injection hc
  have ec : c = valOf l key := by
    rw [q2] at q2'
    unfold elD at q2'
    injection q2' with q2'
    injection q2' with q2'
    exact (Go.WideShapes.bytes_inj q2').symm
  rw [ec] at hrun
  exact hrun
theorem TRep.len {w : World} {bm n : Nat} {l : List Pr} (h : TRep w bm n l) (ty : TypeId) : (Builtin.len_ #[67] ty #[.map (some bm)]).run Tryz.prog w = .ok (.int .i64 (l.length : Nat)) w := by
  obtain ⟨D, h, r⟩ := h
  rw [World.ownsMap.len h Tryz.underlying67 ty, TRep.size h r]
theorem TRep.store {w : World} {bm n : Nat} {l : List Pr} (h : TRep w bm n l) (hn : n < maxLen) {k v : ByteArray} (hk : k.size ≤ maxLen) (hv : v.size ≤ maxLen) :
    ∃ w', (Instr.mapUpdate 67 (.map (some bm)) (.string k) (.string v)).run Tryz.prog w = .ok () w' ∧ TRep w' bm (n + 1) (setL l k v) ∧ w.grownBy w' (some bm) := by
  obtain ⟨D, h, r⟩ := h
  obtain ⟨w', hrun, h1, h2⟩ := World.ownsMap.update h lawS Tryz.underlying67 hn (Go.WideMaps.keyOf_string_mk Tryz.underlying9 hk) (plainElem_string Tryz.underlying9 hv)
  exact ⟨w', hrun, ⟨_, h1, rep_put (World.ownsMap.isMap h) r k v⟩, h2⟩
/-- bytes in their order: what the sort goes by -/
theorem le_of_lt : ∀ {x y : List UInt8}, Op.bytesLess x y = true → x ≤ y
  | _, [], h => by simp [Op.bytesLess] at h
  | [], _ :: _, _ => List.nil_le _
  | a :: x, b :: y, h => by
    simp only [Op.bytesLess, Bool.or_eq_true, Bool.and_eq_true, decide_eq_true_eq, beq_iff_eq] at h
    rw [List.cons_le_cons_iff]
    rcases h with h | ⟨h, h'⟩
    · exact .inl h
    · exact .inr ⟨h, le_of_lt h'⟩
theorem sorted_keys {l : List Pr} (h : Ris l) {ss : List (List UInt8)} {D : DataW Unit} (hs : ss.Perm (strKeys D)) (hp : (l.map fun p => p.1.data.toList).Perm (strKeys D)) : ss.mergeSort (fun x y => decide (x ≤ y)) = l.map fun p => p.1.data.toList := by
  have e1 : ss.mergeSort leB = (l.map fun p => p.1.data.toList).mergeSort leB := mergeSort_of_perm (hs.trans hp.symm)
  have e2 : (l.map fun p => p.1.data.toList).mergeSort leB = l.map fun p => p.1.data.toList := by
    refine List.mergeSort_of_pairwise ?_
    refine List.pairwise_map.2 (h.imp fun {p q} hlt => ?_)
    unfold ltB at hlt
    rw [Go.ByteArray.toList_eq, Go.ByteArray.toList_eq] at hlt
    exact decide_eq_true (le_of_lt hlt)
  exact e1.trans e2
end Go.Proofs.YtkhkcdmmagicmaaGreatDoor
/-
  What impl's map of texts does: add, objs.
-/
namespace Go.Proofs.YtkhkcdmmagicmaaGreatDoor
open Go.RowKit Go.Maps

set_option maxRecDepth 100000 in
set_option maxHeartbeats 1000000 in
theorem add_any (bm n : Nat) (l : List Pr) (t : ByteArray) (w : World) (hm : TRep w bm n l) (hn : n ≤ 1000) (hl : l.length ≤ 1000) (hts : t.size ≤ maxLen) (hT : Tabs w) :
    Calls Tryz.prog 44 #[.map (some bm), .string t] w fun e w' => w.grownBy w' (some bm) ∧
      ((addOk l t = false ∧ e = .returned (.tuple #[.string ByteArray.empty, .bool false])) ∨ (addOk l t = true ∧ e = .returned (.tuple #[.string (idL t), .bool true]) ∧ TRep w' bm (n + 1) (setL l (idL t) t))) := by
  have HM := hide hm
  have HS := hide hts
  have hks := idL_max t
  unfold maxLen at hts
  clear hm
  by_cases ht : t.size ≤ 2000
  · have hb : ¬ (2000 : Int) < (t.size : Int) := by omega
    have I := hide (idI_any t w ht hT)
    clear hT
    go_enter Tryz.func44, Tryz.ntmps44
    go_wp2_with fail
    refine I.out.mono ?_
    rintro e w1 ⟨rfl, b1⟩
    have G1 := hide (Below.toGrown b1 (some bm))
    have M1 := hide (HM.out.below b1)
    have hlook := M1.out.look hks
    have hlen := M1.out.len 3
    clear b1 I HM
    cases hh : hasB l (idL t)
    · rw [hh] at hlook
      by_cases h60 : l.length < 60
      · have c : decide ((60 : Int) ≤ (l.length : Int)) = false := decide_eq_false (by omega)
        have OK := hide (addOk_new ht hh h60)
        obtain ⟨w2, hst, m2, g2⟩ := M1.out.store (by unfold maxLen; omega) hks HS.out
        have M2 := hide m2
        have G2 := hide (G1.out.trans g2)
        clear m2 g2 M1 G1 hh
        generalize valOf l (idL t) = vv at hlook
        generalize l.length = n0 at hlen c
        generalize hkk : idL t = k at hlook hst ⊢
        have HK := hide hkk
        clear hkk
        go_wp2
        go_ret2
        exact ⟨G2.out, .inr ⟨OK.out, by rw [HK.out]; rfl, M2.out⟩⟩
      · have c : decide ((60 : Int) ≤ (l.length : Int)) = true := decide_eq_true (by omega)
        have OK := hide (addOk_full hh (by omega))
        clear M1 hh
        generalize valOf l (idL t) = vv at *
        generalize l.length = n0 at *
        generalize setL l (idL t) t = l2 at *
        generalize idL t = k at *
        go_wp2
        go_ret2
        exact ⟨G1.out, .inl ⟨OK.out, rfl⟩⟩
    · rw [hh] at hlook
      by_cases he : valOf l (idL t) = t
      · have c := eqS_yes he
        have c2 := neS_no he
        have OK := hide (addOk_same ht hh he)
        obtain ⟨w2, hst, m2, g2⟩ := M1.out.store (by unfold maxLen; omega) hks HS.out
        have M2 := hide m2
        have G2 := hide (G1.out.trans g2)
        clear m2 g2 M1 G1 hh hlen he
        generalize valOf l (idL t) = vv at hlook c c2
        generalize hkk : idL t = k at hlook hst ⊢
        have HK := hide hkk
        clear hkk
        go_wp2
        go_ret2
        exact ⟨G2.out, .inr ⟨OK.out, by rw [HK.out]; rfl, M2.out⟩⟩
      · have c := eqS_no he
        have c2 := neS_yes he
        have OK := hide (addOk_other (stepOk_no hh he))
        clear M1 hh hlen he
        generalize valOf l (idL t) = vv at *
        generalize setL l (idL t) t = l2 at *
        generalize idL t = k at *
        go_wp2
        go_ret2
        exact ⟨G1.out, .inl ⟨OK.out, rfl⟩⟩
  · have hb : (2000 : Int) < (t.size : Int) := by omega
    have OK := hide (addOk_long (l := l) (t := t) (by omega))
    go_enter Tryz.func44, Tryz.ntmps44
    go_wp2
    go_ret2
    exact ⟨World.grownBy.refl _ _, .inl ⟨OK.out, rfl⟩⟩

/-- the ids of l, in a row of the call's own -/
def KOwn (w : World) (B : Nat) (v : Value) (l : List Pr) : Prop := w.ownsRow B 9 1 v l.length (l.map fun p => Value.string p.1)
theorem KOwn.form {w : World} {B : Nat} {v : Value} {l : List Pr} (h : KOwn w B v l) : ∃ A cap, v = .slice A l.length cap ∧ (∀ g, rowOf A = some g → B ≤ g ∧ g < w.heap.size) := by
  have hlt := h.lt
  rcases h.2 with ⟨e, e'⟩ | ⟨g, c, cur, e, hb, hg, _⟩
  · exact ⟨none, 0, by rw [e, e'], fun g hg => by cases hg⟩
  · refine ⟨_, _, e, fun g' hg' => ?_⟩
    subst e
    exact hlt g' (by rw [rowOf_own]; exact hg')
theorem KOwn.cell {w : World} {B : Nat} {A : Option Addr} {cap : Nat} {l : List Pr} (h : KOwn w B (.slice A l.length cap) l) {i : Nat} (hi : i < l.length) : ∃ g, A = some ⟨g, 0, none⟩ ∧ g < w.heap.size ∧ w.cell? ⟨g, i, none⟩ = some (.string l[i].1) := by
  have h' := h
  rcases h.2 with ⟨e, e'⟩ | ⟨g, c, cur, e, hb, hg, _⟩
  · omega
  · injection e with e1 e2 e3
    subst e1
    refine ⟨g, rfl, (Array.getElem?_eq_some_iff.1 hg).1, ?_⟩
    have := h'.cellAt i (by omega)
    rw [List.getElem?_map, List.getElem?_eq_getElem hi] at this
    exact this
theorem KOwn.kept {w w' : World} {B : Nat} {A A' : Option Addr} {cap : Nat} {l : List Pr} (h : KOwn w B (.slice A l.length cap) l) (hg : w.grownBy w' (rowOf A')) (hne : ∀ g, rowOf A = some g → rowOf A' ≠ some g) : KOwn w' B (.slice A l.length cap) l := by
  refine World.ownsRow.kept h hg ?_
  rw [rowOf_own]
  cases e : rowOf A with
  | none => exact .inl rfl
  | some g => exact .inr (fun x => hne g e x.symm)
theorem encs (l : List Pr) : (l.map fun p => p.1.data.toList).map encStr = l.map fun p => Value.string p.1 := by
  rw [List.map_map]
  refine List.map_congr_left fun p _ => ?_
  simp [encStr]

set_option maxRecDepth 100000 in
set_option maxHeartbeats 1000000 in
/-- the ids of the map, sorted -/
theorem sorted_any (bm n : Nat) (l : List Pr) (w : World) (hm : TRep w bm n l) (hl : l.length ≤ 1000) :
    Calls Tryz.prog 78 #[.func (.func 107) #[] #[.pointer (some ⟨w.heap.size, 0, none⟩)]] (w.alloc (.cells #[.map (some bm)] 67)) fun e w' => ∃ A cap, e = .returned (.slice A l.length cap) ∧ KOwn w' (w.heap.size + 1) (.slice A l.length cap) l ∧ Below (w.heap.size + 1) (w.alloc (.cells #[.map (some bm)] 67)) w' := by
  obtain ⟨D, h, r⟩ := hm
  have hsz := TRep.size h r
  refine (callsIn_wide.1 (Tryz.slices_Sorted_keys_78_79 bm n D _ w h (by rw [hsz]; unfold maxLen; omega) (by rw [hsz]; omega))).mono ?_
  rintro e w' ⟨v, ss, rfl, hS, hrow, _, hb⟩
  have hk := sorted_keys r.1 hS (TRep.perm h r)
  have hlen : ss.length = l.length := by rw [hS.length_eq, ← (TRep.perm h r).length_eq, List.length_map]
  rw [hk, hlen, encs] at hrow
  have e1 : (w.alloc (.cells #[.map (some bm)] 67)).heap.size = w.heap.size + 1 := by simp
  rw [e1] at hrow hb
  have hK : KOwn w' (w.heap.size + 1) v l := hrow
  obtain ⟨A, cap, rfl, _⟩ := hK.form
  exact ⟨A, cap, rfl, hK, hb⟩

set_option maxRecDepth 100000 in
set_option maxHeartbeats 1000000 in
theorem objs_any (bm n : Nat) (l : List Pr) (w : World) (hm : TRep w bm n l) (hl : l.length ≤ 1000) (hlens : lens l) :
    Calls Tryz.prog 46 #[.map (some bm)] w (RetOwn w.heap.size l w) := by
  obtain ⟨i0, hi, hz0, hz1, hz2⟩ := info_parts infoP
  have HM := hide hm
  have hlen := hm.len 3
  have hbm := hm.lt
  have HL := hide hlens
  have HR := hide (show Ris l by obtain ⟨D, _, r⟩ := hm; exact r.1)
  clear hm hlens
  generalize hn0 : l.length = n0 at *
  have HN := hide hn0
  clear hn0
  go_enter Tryz.func46, Tryz.ntmps46
  go_wp2_with (at_make; refine wpList_make_own _ rfl _ _ 28 rfl w.heap.size 62 i0 _ 2 Tryz.underlying28 hi hz0 hz1 _ _ _ n0 rfl rfl (by omega) (by rw [hz2]; omega) (by unfold maxLen; omega) (Nat.le_refl _) ?_)
  intro w1 own1 g1
  have O1 := hide (Own.made own1)
  have B1 := hide ((Below.refl w.heap.size w).grown g1 (Nat.le_refl _) (by simp))
  have M1 := hide (HM.out.kept g1 (by simp))
  have row1 := (Own.made own1).row
  have R1 := hide row1
  clear own1 g1 HM hlen row1
  go_wp2_with fail
  refine (callsIn_wide.1 (Tryz.maps_Keys_79 (some bm) w1)).mono ?_
  rintro e w2 ⟨rfl, rfl⟩
  go_wp2_with fail
  refine (sorted_any bm n l w1 M1.out (by rw [HN.out]; omega)).mono ?_
  rintro e w3 ⟨AS, capS, rfl, k3, b3⟩
  have b3' := ((Below.refl w1.heap.size w1).alloc (Nat.le_refl _) (.cells #[.map (some bm)] 67)).trans (b3.mono (Nat.le_succ _))
  have O3 := hide (O1.out.below b3')
  have M3 := hide (M1.out.below b3')
  have B3 := hide (B1.out.trans (b3'.mono B1.out.size))
  obtain ⟨AS', capS', eS, hrow⟩ := k3.form
  have eS1 : AS' = AS := by injection eS with e1 e2 e3; exact e1.symm
  rw [eS1] at hrow
  have N3 : Hid (∀ g, rowOf AS = some g → rowOf (some (⟨w.heap.size, 0, none⟩ : Addr)) ≠ some g) := hide (fun g hg h => by
    have h1 := (hrow g hg).1
    have h2 : w.heap.size = g := by simpa [rowOf] using h
    have h3 := B1.out.size
    omega)
  have K3 := hide (show KOwn w3 w.heap.size (.slice AS l.length capS) l by
    refine ⟨k3.1, ?_⟩
    rcases k3.2 with e | ⟨g, c, cur, e, hb, r⟩
    · exact .inl e
    · exact .inr ⟨g, c, cur, e, by have := B1.out.size; omega, r⟩)
  clear eS eS1 hrow k3 b3 b3' O1 M1
  rw [HN.out]
  go_wp2
  go_loopw [3, 13] (fun ov iv wr => ∃ (k : Nat) (d : List Pr) (A : Option Addr) (cap : Nat), k ≤ n0 ∧ Hid (d.length = k) ∧ iv = .int .i64 k ∧ ov = .slice A d.length cap ∧ Hid (d = l.take k) ∧ Hid (Own wr w.heap.size A cap d) ∧ Hid (KOwn wr w.heap.size (.slice AS l.length capS) l) ∧ Hid (TRep wr bm n l) ∧ Hid (∀ g, rowOf AS = some g → rowOf A ≠ some g) ∧ Hid (Below w.heap.size w wr)) (fun _ i _ => n0 - (intOf i).toNat)
  case atStart => exact ⟨0, [], _, n0, Nat.zero_le _, rfl, rfl, rfl, rfl, O3, K3, M3, N3, B3⟩
  case round =>
    clear O3 K3 M3 N3 B3
    obtain ⟨k, d, A, cap, hk, hdk, rfl, rfl, D, O, S, M, N, Q⟩ := hrel
    by_cases hlt : k < n0
    · have hkl : k < l.length := by rw [HN.out]; omega
      obtain ⟨g, rfl, hg, c⟩ := S.out.cell hkl
      obtain ⟨s1, s2⟩ := HL.out k hkl
      have hget := M.out.get s1
      have HT : Hid (d ++ [((l[k]'hkl).1, (l[k]'hkl).2)] = l.take (k + 1)) := hide (by rw [D.out, List.take_succ_eq_append_getElem hkl])
      rw [val_of HR.out (show ((l[k]'hkl).1, (l[k]'hkl).2) ∈ l from List.getElem_mem hkl)] at hget
      clear D
      generalize (l[k]'hkl).1 = y at *
      generalize (l[k]'hkl).2 = v at *
      go_wp2_with (at_builtin; refine wpList_app (l := d) (l' := [(y, v)]) 28 Tryz.underlying28 rfl (.tmp 17) (.tmp 23) rfl rfl rfl rfl rfl (O.out.alloc _) (PIn.one wr y v s1 s2 _) (Nat.le_trans Q.out.size (by simp)) (by have := hdk.out; simp; omega) ?_; intro A3 cap3 w3 own3 g3 r3; have B3 := hide (Q.out.trans (((Below.refl _ wr).alloc Q.out.size (.cells #[.string y, .string v] 62)).trans ((O.out.alloc (.cells #[.string y, .string v] 62)).grownBelow (by rw [rowOf_own]; exact g3) (Nat.le_trans Q.out.size (by simp))))); have O3 := hide own3; have S3 := hide (KOwn.kept (World.ownsRow.kept S.out (World.grownBy_alloc wr (.cells #[.string y, .string v] 62) none) (by rw [rowOf_own]; exact .inr (by simp [rowOf]))) g3 N.out); have M3 := hide ((M.out.kept (World.grownBy_alloc wr (.cells #[.string y, .string v] 62) none) (by simp)).kept g3 (fun x => by have h9 := (O.out.row bm x.symm).1; omega)); have N3 : Hid (∀ g', rowOf (some (⟨g, 0, none⟩ : Addr)) = some g' → rowOf A3 ≠ some g') := hide (fun g' hg' x => r3.elim (fun r3 => N.out g' hg' (by rw [← r3]; exact x)) (fun r3 => by have h8 := rowOf_some hg'; rw [r3] at x; injection x with x; simp at x; omega)); clear own3 g3 r3)
      go_roundw
      case rel => exact ⟨k + 1, d ++ [(y, v)], A3, cap3, by omega, hide (by rw [List.length_append, hdk.out]; rfl), by go_num, by rw [show (d ++ [(y, v)]).length = d.length + 1 by simp], HT, O3, S3, M3, N3, B3⟩
      case measure => simp [intOf]; omega
    · have E : Hid (d = l) := hide (by rw [D.out, show k = l.length by rw [HN.out]; omega, List.take_length])
      have ek : Hid (k = n0) := hide (by omega)
      have hgt : ¬ ((k : Int) < (n0 : Int)) := by omega
      clear hlt D N S M
      go_wp2
      go_ret
      refine ⟨A, cap, ?_, ?_, ?_, Q.out⟩
      · rw [← E.out]; exact O.out.cap_le
      · rw [← E.out]; rfl
      · rw [← E.out]; exact O.out
end Go.Proofs.YtkhkcdmmagicmaaGreatDoor
/-
  What impl.CommitText answers.
-/
namespace Go.Proofs.YtkhkcdmmagicmaaGreatDoor
open Go.RowKit

theorem head_bytes0 (t : ByteArray) (l : List ByteArray) : (([] : List Value) ++ Lib.strCells ⟨#[99, 111, 109, 109, 105, 116, 32]⟩) ++ Lib.strCells t = Lib.byteCells (headTo t l 0).data.toList := by
  rw [headTo]
  simp [Lib.byteCells, Lib.strCells, ByteArray.data_append]
theorem head_bytes1 {t : ByteArray} {l : List ByteArray} {k : Nat} (h : k < l.length) : (Lib.byteCells (headTo t l k).data.toList ++ [Value.int .u8 32]) ++ Lib.strCells l[k] = Lib.byteCells (headTo t l (k + 1)).data.toList := by
  rw [headTo_next h]
  simp [Lib.byteCells, Lib.strCells, ByteArray.data_append]
theorem head_bytes2 (t : ByteArray) (l : List ByteArray) (m : ByteArray) : (Lib.byteCells (headTo t l l.length).data.toList ++ [Value.int .u8 10]) ++ Lib.strCells m = Lib.byteCells (textC t l m).data.toList := by
  unfold textC
  simp [Lib.byteCells, Lib.strCells, ByteArray.data_append]
theorem textC_ne (t : ByteArray) (l : List ByteArray) (m : ByteArray) : (textC t l m).data.toList ≠ [] := by
  intro e
  have h2 : (textC t l m).size = 0 := by
    show (textC t l m).data.size = 0
    rw [← Array.length_toList, e]
    rfl
  unfold textC at h2
  rw [ByteArray.size_append, ByteArray.size_append] at h2
  have e2 : (ByteArray.mk #[10]).size = 1 := rfl
  omega

set_option maxRecDepth 100000 in
set_option maxHeartbeats 2000000 in
theorem implCommitText_any (t m : ByteArray) (A : Option Addr) (l : List ByteArray) (cap : Nat) (w : World) (ht : t.size ≤ maxLen) (hm : m.size ≤ maxLen) (hl : l.length ≤ maxLen) (hin : SIn w w.heap.size A l) :
    Calls Tryz.prog 45 #[.agg #[.string t, .slice A l.length cap, .string m]] w fun e w' => e = .returned (.string (comTextS t l m)) ∧ Below w.heap.size w w' := by
  have B1 : Hid (Below w.heap.size w (w.alloc (.cells #[.string t, .slice A l.length cap, .string m] 54))) := hide ((Below.refl _ w).alloc (Nat.le_refl _) _)
  have X := hide (box3 w (.string t) (.slice A l.length cap) (.string m) 54)
  have R := hide (implCommitOk_any t m A l cap _ ht hm hl ((hin.below B1.out).more B1.out.size))
  have IN := hide hin
  clear hin
  cases hc : comB t l m
  · rw [hc] at R
    have Z := hide (comText_no hc)
    go_enter Tryz.func45, Tryz.ntmps45
    go_wp2_with fail
    refine R.out.mono ?_
    rintro e w1 ⟨rfl, b1⟩
    have BB := hide (B1.out.trans (b1.mono B1.out.size))
    clear b1
    go_wp2
    go_ret
    exact ⟨ret_str Z.out.symm, BB.out⟩
  · rw [hc] at R
    have Z := hide (comText_yes hc)
    obtain ⟨g1, g2, g3, g4⟩ := comSz_of hc
    have SZ := hide (headTo_size g1 g3)
    have G3 := hide g3
    have E0 := hide (head_bytes0 t l)
    have E2 := hide (head_bytes2 t l m)
    have e7 : (ByteArray.mk #[99, 111, 109, 109, 105, 116, 32]).size = 7 := rfl
    clear g3 hc
    go_enter Tryz.func45, Tryz.ntmps45
    go_wp2_with fail
    refine R.out.mono ?_
    rintro e w1 ⟨rfl, b1⟩
    have lt : w.heap.size < (w.alloc (.cells #[.string t, .slice A l.length cap, .string m] 54)).heap.size := by simp
    have Y0 := hide (cellB b1 lt X.out.1)
    have Y1 := hide (cellB b1 lt X.out.2.1)
    have Y2 := hide (cellB b1 lt X.out.2.2)
    have lt1 : w.heap.size < w1.heap.size := Nat.lt_of_lt_of_le lt b1.size
    have BB := hide (B1.out.trans (b1.mono B1.out.size))
    have IN1 := hide ((IN.out.below BB.out).more BB.out.size)
    have I0 := hide (Lib.fresh_isBuilder 105 5 w1)
    have Q0 := hide ((Below.refl w1.heap.size w1).alloc (Nat.le_refl _) (.cells #[.pointer none, .slice none 0 0] 105))
    clear b1 R X B1 lt IN
    go_wp2_with fail
    refine (writeString_any w1.heap.size w1.heap.size [] ⟨#[99, 111, 109, 109, 105, 116, 32]⟩ _ I0.out (by rw [e7]; simp) Q0.out.size).mono ?_
    rintro e w2 ⟨rfl, i2, b2, _⟩
    have I2 := hide i2
    have Q2 := hide (Q0.out.trans b2)
    have x0 := cellB Q2.out lt1 Y0.out
    clear i2 b2 I0 Q0
    go_wp2_with fail
    refine (writeString_any w1.heap.size w1.heap.size _ t _ I2.out (by rw [List.length_append, Lib.strCells_length, e7]; simp; omega) Q2.out.size).mono ?_
    rintro e w3 ⟨rfl, i3, b3, _⟩
    rw [E0.out] at i3
    have I3 := hide i3
    have Q3 := hide (Q2.out.trans b3)
    have x1 := cellB Q3.out lt1 Y1.out
    clear i3 b3 I2 Q2 x0
    generalize hn : l.length = n at *
    have HN := hide hn
    clear hn
    clear E0 Y0 Y1 ht hm hl e7
    go_wp2_with fail
    go_loopw [16] (fun i wr => ∃ k : Nat, k ≤ n ∧ i = .int .i64 k ∧ Hid (IsBld w1.heap.size w1.heap.size (Lib.byteCells (headTo t l k).data.toList) wr) ∧ Hid (Below w1.heap.size w1 wr)) (fun i _ => n - (intOf i).toNat)
    case atStart => exact ⟨0, Nat.zero_le _, rfl, I3, Q3⟩
    case round =>
      clear I3 Q3 x1
      obtain ⟨k, hk, rfl, I, Q⟩ := hrel
      have s0 := SZ.out k
      have s0' : (Lib.byteCells (headTo t l k).data.toList).length ≤ 23 + 17 * k := by rw [Lib.byteCells_length]; exact s0
      by_cases hlt : k < n
      · have hkl : k < l.length := by rw [HN.out]; omega
        have in1 := IN1.out.below Q.out
        obtain ⟨b, off, rfl, hbB, hc⟩ := in1.2 (by omega)
        have c1 := hc k hkl
        have s1 := G3.out k hkl
        have E := hide (head_bytes1 (t := t) hkl)
        generalize l[k] = x at *
        generalize Lib.byteCells (headTo t l k).data.toList = bs at *
        clear in1 hc s0
        go_wp2_with fail
        refine (writeByte_any w1.heap.size w1.heap.size bs 32 _ I.out (by omega) Q.out.size).mono ?_
        rintro e w4 ⟨rfl, i4, b4, _⟩
        have I4 := hide i4
        have Q4 := hide (Q.out.trans b4)
        clear i4 b4 I Q c1
        go_wp2_with fail
        refine (writeString_any w1.heap.size w1.heap.size _ x _ I4.out (by rw [List.length_append]; simp; omega) Q4.out.size).mono ?_
        rintro e w5 ⟨rfl, i5, b5, _⟩
        rw [E.out] at i5
        have I5 := hide i5
        have Q5 := hide (Q4.out.trans b5)
        clear i5 b5 I4 Q4
        go_wp2
        go_roundw
        case rel => exact ⟨k + 1, by omega, by go_num, I5, Q5⟩
        case measure => simp [intOf]; omega
      · obtain rfl : k = n := by omega
        generalize Lib.byteCells (headTo t l k).data.toList = bs at *
        go_wp2_with fail
        refine (writeByte_any w1.heap.size w1.heap.size bs 10 _ I.out (by omega) Q.out.size).mono ?_
        rintro e w4 ⟨rfl, i4, b4, _⟩
        have I4 := hide i4
        have Q4 := hide (Q.out.trans b4)
        have x2 := cellB Q4.out lt1 Y2.out
        clear i4 b4 I Q
        go_wp2_with fail
        refine (writeString_any w1.heap.size w1.heap.size _ m _ I4.out (by rw [List.length_append]; simp; omega) Q4.out.size).mono ?_
        rintro e w5 ⟨rfl, i5, b5, _⟩
        rw [E2.out] at i5
        have I5 := hide i5
        have Q5 := hide (Q4.out.trans b5)
        clear i5 b5 I4 Q4 x2
        go_wp2_with fail
        refine (string_some w1.heap.size w1.heap.size (textC t l m).data.toList w5 I5.out (textC_ne t l m)).mono ?_
        rintro e w6 ⟨rfl, b6⟩
        have B6 := hide (BB.out.trans ((Q5.out.trans b6).mono BB.out.size))
        clear b6 I5 Q5
        go_wp2
        go_ret
        exact ⟨ret_str Z.out.symm, B6.out⟩
end Go.Proofs.YtkhkcdmmagicmaaGreatDoor
/-
  What impl.treeText and impl.Committed answer.
-/
namespace Go.Proofs.YtkhkcdmmagicmaaGreatDoor
open Go.RowKit Go.Maps

set_option maxRecDepth 100000 in
set_option maxHeartbeats 1000000 in
theorem treeText_any (A : Option Addr) (m : List Pr) (cap : Nat) (w : World) (hl : m.length ≤ maxLen) (hm : mapB m = true) (hin : PIn w w.heap.size A m) :
    Calls Tryz.prog 41 #[.slice A m.length cap] w fun e w' => e = .returned (.string (treeT m)) ∧ Below w.heap.size w w' := by
  have MT := hide (M.implMapText_any A m cap w hl hin)
  rw [M.mapText_yes hm] at MT
  have TT : Hid ((⟨#[109, 97, 112, 10]⟩ : ByteArray) ++ M.textOf m = treeT m) := hide rfl
  have hts := treeT_size hm
  have hadd : ¬ ((9223372036854775807 : Nat) < (⟨#[109, 97, 112, 10]⟩ : ByteArray).size + (M.textOf m).size) := by
    unfold treeT at hts
    rw [ByteArray.size_append] at hts
    have : (⟨#[109, 97, 112, 10]⟩ : ByteArray).size = 4 := rfl
    have : mapW.size = 4 := rfl
    omega
  clear hin hm hts
  generalize m.length = n at *
  go_enter Tryz.func41, Tryz.ntmps41
  go_wp2_with fail
  refine MT.out.mono ?_
  rintro e w1 ⟨rfl, b1⟩
  have B1 := hide b1
  clear b1 MT
  go_wp2_with fail
  go_ret
  exact ⟨rfl, B1.out⟩
theorem lens_objs {l : List Pr} (h : objsB l = true) : lens l := fun i hi => by
  obtain ⟨h1, h2⟩ := (objsB_iff.1 h).2.1 i hi hi
  refine ⟨?_, by unfold maxLen; omega⟩
  rw [← h2, idL_size]
  simp [maxLen]

set_option maxRecDepth 100000 in
set_option maxHeartbeats 2000000 in
theorem implCommitted_any (A0 : Option Addr) (l : List Pr) (cap0 : Nat) (A1 : Option Addr) (m : List Pr) (cap1 : Nat) (A2 : Option Addr) (ps : List ByteArray) (cap2 : Nat) (note : ByteArray) (a : Addr) (w : World) (hl : l.length ≤ maxLen) (hin : PIn w w.heap.size A0 l) (hl1 : m.length ≤ maxLen) (hin1 : PIn w w.heap.size A1 m) (hl2 : ps.length ≤ maxLen) (hin2 : SIn w w.heap.size A2 ps) (hn : note.size ≤ maxLen) (hT : Tabs w) (hE : ErrC w a) :
    Calls Tryz.prog 13 #[.slice A0 l.length cap0, .slice A1 m.length cap1, .slice A2 ps.length cap2, .string note] w (RetOwnI w.heap.size (cmL l m ps note) (cmI l m ps note) (cmB l m ps note) w) := by
  have R := hide (repoOf_any A0 l cap0 a w hl hin hT hE)
  have NO : Hid (¬ cmP l m ps note → ∀ w', Below w.heap.size w w' → RetOwnI w.heap.size (cmL l m ps note) (cmI l m ps note) (cmB l m ps note) w (.returned (.tuple #[.slice none 0 0, .string ByteArray.empty, .bool false])) w') := hide (fun h w' hb => cm_no h hb)
  have YES : Hid (cmP l m ps note → ∀ A cap w', (addL (addL l (treeT m)) (comT m ps note)).length ≤ cap → Own w' w.heap.size A cap (addL (addL l (treeT m)) (comT m ps note)) → Below w.heap.size w w' → RetOwnI w.heap.size (cmL l m ps note) (cmI l m ps note) (cmB l m ps note) w (.returned (.tuple #[.slice A (addL (addL l (treeT m)) (comT m ps note)).length cap, .string (idL (comT m ps note)), .bool true])) w') := hide (fun h A cap w' hcap ho hb => by
    obtain ⟨h1, h2, h3⟩ := cmB_yes h
    rw [h1, h2, h3]
    exact ⟨A, cap, hcap, rfl, ho, hb⟩)
  have MK : Hid (∀ W, Below w.heap.size w W → Calls Tryz.prog 39 #[.slice A1 m.length cap1] W fun e w' => e = .returned (.bool (mapB m)) ∧ Below W.heap.size W w') := hide (fun W hb => M.implMapOk_any A1 m cap1 W hl1 ((hin1.below hb).more hb.size))
  have HC : Hid (∀ W bt bm bc B vs, Below w.heap.size w W → RepoM W B bm bc 60 l vs → Calls Tryz.prog 40 #[.agg #[.map (some bt), .map (some bm), .map (some bc)], .slice A2 ps.length cap2] W fun e w' => e = .returned (.bool (comsAll l ps)) ∧ Below W.heap.size W w') := hide (fun W bt bm bc B vs hb hR => hasCommits_any bt bm bc B 60 l vs A2 ps cap2 W hl2 (fun p hp => by obtain ⟨i, hi, rfl⟩ := List.getElem_of_mem hp; exact hin2.1 i hi) ((pins (hin2.below hb)).more hb.size) hR)
  have TX : Hid (mapB m = true → ∀ W, Below w.heap.size w W → Calls Tryz.prog 41 #[.slice A1 m.length cap1] W fun e w' => e = .returned (.string (treeT m)) ∧ Below W.heap.size W w') := hide (fun hm W hb => treeText_any A1 m cap1 W hl1 hm ((hin1.below hb).more hb.size))
  have HT := hide hT
  have CO : Hid (∀ W, Below w.heap.size w W → Calls Tryz.prog 43 #[.agg #[.string (idL (treeT m)), .slice A2 ps.length cap2, .string note]] W fun e w' => e = .returned (.bool (comB (idL (treeT m)) ps note)) ∧ Below W.heap.size W w') := hide (fun W hb => implCommitOk_any (idL (treeT m)) note A2 ps cap2 W (idL_max _) hn hl2 ((hin2.below hb).more hb.size))
  have CT : Hid (comB (idL (treeT m)) ps note = true → ∀ W, Below w.heap.size w W → Calls Tryz.prog 45 #[.agg #[.string (idL (treeT m)), .slice A2 ps.length cap2, .string note]] W fun e w' => e = .returned (.string (comT m ps note)) ∧ Below W.heap.size W w') := hide (fun hc W hb => by
    have h := implCommitText_any (idL (treeT m)) note A2 ps cap2 W (idL_max _) hn hl2 ((hin2.below hb).more hb.size)
    rw [comText_yes hc] at h
    exact h)
  have CZ := hide (fun h => comT_size (m := m) (ps := ps) (note := note) h)
  have N1 : Hid (repoB l = false → ¬ cmP l m ps note) := hide (fun h hc => by rw [hc.1] at h; cases h)
  have N2 : Hid (mapB m = false → ¬ cmP l m ps note) := hide (fun h hc => by rw [hc.2.1] at h; cases h)
  have N3 : Hid (comsAll l ps = false → ¬ cmP l m ps note) := hide (fun h hc => by rw [comsAll_iff.2 hc.2.2.1] at h; cases h)
  have N4 : Hid (comB (idL (treeT m)) ps note = false → ¬ cmP l m ps note) := hide (fun h hc => by rw [hc.2.2.2.1] at h; cases h)
  have N5 : Hid (objsB l = true → addOk l (treeT m) = false → ¬ cmP l m ps note) := hide (fun h h1 hc => by have := hc.2.2.2.2.1; rw [addB_of h, h1] at this; cases this)
  have N6 : Hid (objsB l = true → addOk l (treeT m) = true → addOk (setL l (idL (treeT m)) (treeT m)) (comT m ps note) = false → ¬ cmP l m ps note) := hide (fun h h1 h2 hc => by
    have h3 : addB l (treeT m) = true := by rw [addB_of h, h1]
    have := hc.2.2.2.2.2
    rw [addL_yes h3, addB_of (add_objs h3), h2] at this
    cases this)
  have P6 : Hid (repoB l = true → mapB m = true → comsAll l ps = true → comB (idL (treeT m)) ps note = true → addOk l (treeT m) = true → addOk (setL l (idL (treeT m)) (treeT m)) (comT m ps note) = true → cmP l m ps note ∧ addL (addL l (treeT m)) (comT m ps note) = setL (setL l (idL (treeT m)) (treeT m)) (idL (comT m ps note)) (comT m ps note) ∧ objsB (setL (setL l (idL (treeT m)) (treeT m)) (idL (comT m ps note)) (comT m ps note)) = true) := hide (fun h1 h2 h3 h4 h5 h6 => by
    have ho := (repoB_iff.1 h1).1
    have h7 : addB l (treeT m) = true := by rw [addB_of ho, h5]
    have h8 : addB (addL l (treeT m)) (comT m ps note) = true := by rw [addL_yes h7, addB_of (add_objs h7), h6]
    have h9 := add_objs h8
    refine ⟨⟨h1, h2, comsAll_iff.1 h3, h4, h7, h8⟩, by rw [addL_yes h8, addL_yes h7], ?_⟩
    rw [addL_yes h7] at h9
    exact h9)
  clear hin hin1 hin2 hl hl1 hl2 hT hE
  generalize hn0 : l.length = n0 at R ⊢
  have HN0 := hide hn0
  clear hn0
  generalize m.length = n1 at *
  generalize ps.length = n2 at *
  go_enter Tryz.func13, Tryz.ntmps13
  go_wp2_with fail
  refine R.out.mono ?_
  rintro e w1 ⟨b1, ⟨hf, rfl⟩ | ⟨hf, bt, bm, bc, B, vs, rfl, h1, h2, h3, h4, h5, tm, rm⟩⟩
  · have Z := hide (NO.out (N1.out hf))
    have B1 := hide (b1.alloc b1.size (.cells #[.map none, .map none, .map none] 71))
    clear b1 hf R NO YES MK HC TX HT CO CT CZ N1 N2 N3 N4 N5 N6 P6
    go_wp2_with fail
    go_ret3
    exact Z.out _ B1.out
  · have HR := hide hf
    have HO := hide (repoB_iff.1 hf).1
    have b2 := (Below.refl w1.heap.size w1).alloc (Nat.le_refl _) (.cells #[.map (some bt), .map (some bm), .map (some bc)] 71)
    have B2 := hide (b1.trans (b2.mono b1.size))
    have XR := hide (heap_alloc_new w1 (.cells #[.map (some bt), .map (some bm), .map (some bc)] 71))
    have S2 : Hid ((w1.alloc (.cells #[.map (some bt), .map (some bm), .map (some bc)] 71)).heap.size = w1.heap.size + 1) := hide (by simp)
    have TR := hide ((TMap.rep tm (objsB_iff.1 HO.out).2.2).below b2)
    have RM := hide (rm.below b2)
    have hbt1 : bt < w1.heap.size := by omega
    have MM := hide (MK.out _ B2.out)
    rw [HN0.out] at TR
    clear b1 b2 hf R tm rm MK N1
    go_wp2_with fail
    refine MM.out.mono ?_
    rintro e w3 ⟨rfl, b3⟩
    have B3 := hide (B2.out.trans (b3.mono B2.out.size))
    have X3 := hide ((b3.block w1.heap.size (by rw [S2.out]; omega)).trans XR.out)
    have hs3 : w1.heap.size < w3.heap.size := by have := b3.size; rw [S2.out] at this; exact this
    have T3 := hide (TR.out.below b3)
    have R3 := hide (RM.out.below b3)
    clear b3 MM XR S2 TR RM B2
    cases hm : mapB m
    · have Z := hide (NO.out (N2.out hm))
      clear hm NO YES HC TX HT CO CT CZ N2 N3 N4 N5 N6 P6 R3 T3 X3
      go_wp2_with fail
      go_ret3
      exact Z.out _ B3.out
    · have HM := hide hm
      have HCC := hide (HC.out w3 bt bm bc B vs B3.out R3.out)
      have x0 := cell_of_row _ _ 0 _ _ _ X3.out
      have x1 := cell_of_row _ _ 1 _ _ _ X3.out
      have x2 := cell_of_row _ _ 2 _ _ _ X3.out
      clear HC R3 N2 hm
      go_wp2_with fail
      refine HCC.out.mono ?_
      rintro e w4 ⟨rfl, b4⟩
      have B4 := hide (B3.out.trans (b4.mono B3.out.size))
      have X4 := hide ((b4.block w1.heap.size hs3).trans X3.out)
      have hs4 : w1.heap.size < w4.heap.size := Nat.lt_of_lt_of_le hs3 b4.size
      have T4 := hide (T3.out.below b4)
      clear b4 HCC x0 x1 x2 X3 T3 B3
      cases hca : comsAll l ps
      · have Z := hide (NO.out (N3.out hca))
        clear hca NO YES TX HT CO CT CZ N3 N4 N5 N6 P6 T4 X4
        go_wp2_with fail
        go_ret3
        exact Z.out _ B4.out
      · have HCA := hide hca
        have hts := treeT_size HM.out
        have TT := hide (TX.out HM.out _ B4.out)
        clear hca N3 TX
        generalize treeT m = tt at *
        go_wp2_with fail
        refine TT.out.mono ?_
        rintro e w5 ⟨rfl, b5⟩
        have B5 := hide (B4.out.trans (b5.mono B4.out.size))
        have X5 := hide ((b5.block w1.heap.size hs4).trans X4.out)
        have hs5 : w1.heap.size < w5.heap.size := Nat.lt_of_lt_of_le hs4 b5.size
        have T5 := hide (T4.out.below b5)
        have ID := hide (idI_any tt w5 (by omega) (HT.out.below B5.out HT.out.1))
        clear b5 TT X4 T4 B4
        go_wp2_with fail
        refine ID.out.mono ?_
        rintro e w6 ⟨rfl, b6⟩
        have bx := boxC_below w6 (.string (idL tt)) (.slice A2 n2 cap2) (.string note)
        have XC := hide (boxC w6 (idL tt) note A2 n2 cap2)
        have B7 := hide (B5.out.trans ((b6.trans (bx.mono b6.size)).mono B5.out.size))
        have hs6 : w1.heap.size < w6.heap.size := Nat.lt_of_lt_of_le hs5 b6.size
        have X7 := hide ((bx.block w1.heap.size hs6).trans ((b6.block w1.heap.size hs5).trans X5.out))
        have T7 := hide ((T5.out.below b6).below bx)
        have S7 : Hid ((w6.alloc (.cells #[.string (idL tt), .slice A2 n2 cap2, .string note] 54)).heap.size = w6.heap.size + 1) := hide (by simp)
        have CC := hide (CO.out _ B7.out)
        have y0 := cell_of_row _ _ 0 _ _ _ XC.out
        have y1 := cell_of_row _ _ 1 _ _ _ XC.out
        have y2 := cell_of_row _ _ 2 _ _ _ XC.out
        clear b6 bx ID X5 T5 B5 CO
        go_wp2_with fail
        refine CC.out.mono ?_
        rintro e w8 ⟨rfl, b8⟩
        have B8 := hide (B7.out.trans (b8.mono B7.out.size))
        have X8 := hide ((b8.block w1.heap.size (by rw [S7.out]; omega)).trans X7.out)
        have XC8 := hide ((b8.block w6.heap.size (by rw [S7.out]; omega)).trans XC.out)
        have hs8 : w6.heap.size < w8.heap.size := by have := b8.size; rw [S7.out] at this; exact this
        have T8 := hide (T7.out.below b8)
        clear b8 CC X7 XC T7 B7 S7 y0 y1 y2
        cases hcb : comB (idL tt) ps note
        · have Z := hide (NO.out (N4.out hcb))
          clear hcb NO YES HT CT CZ N4 N5 N6 P6 T8 X8 XC8
          go_wp2_with fail
          go_ret3
          exact Z.out _ B8.out
        · have HCB := hide hcb
          have h60 := (objsB_iff.1 HO.out).1
          have AD := hide (add_any bt n0 l tt w8 T8.out (by rw [← HN0.out]; omega) (by omega) (by unfold maxLen; omega) (HT.out.below B8.out HT.out.1))
          have x0 := cell_of_row _ _ 0 _ _ _ X8.out
          clear hcb N4
          go_wp2_with fail
          refine AD.out.mono ?_
          rintro e w9 ⟨g9, ⟨ha, rfl⟩ | ⟨ha, rfl, t9⟩⟩
          · have Z := hide (NO.out (N5.out HO.out ha))
            have B9 := hide (B8.out.grown g9 B8.out.size (fun j hj => by injection hj with hj; omega))
            clear ha g9 NO YES HT CT CZ N5 N6 P6 T8 X8 XC8 AD x0
            go_wp2_with fail
            go_ret3
            exact Z.out _ B9.out
          · have HA := hide ha
            have B9 := hide (B8.out.grown g9 B8.out.size (fun j hj => by injection hj with hj; omega))
            have X9 := hide ((g9.block w1.heap.size (by omega) (by intro e; injection e with e; omega)).trans X8.out)
            have XC9 := hide ((g9.block w6.heap.size hs8 (by intro e; injection e with e; omega)).trans XC8.out)
            have T9 := hide t9
            have hs9 : w6.heap.size < w9.heap.size := Nat.lt_of_lt_of_le hs8 g9.size
            have hz := CZ.out HCB.out
            have C9 : Hid (Calls Tryz.prog 45 #[.agg #[.string (idL tt), .slice A2 n2 cap2, .string note]] w9.drew fun e w' => e = .returned (.string (comT m ps note)) ∧ Hid (Below w9.heap.size w9 w')) := hide ((CT.out HCB.out w9.drew B9.out.drew).mono (by
              rintro e w' ⟨rfl, hb⟩
              exact ⟨rfl, hide (((Below.refl w9.heap.size w9).drew).trans hb)⟩))
            have hone : (setL l (idL tt) tt).length ≤ 1000 := by
              have h := rt_objs (rt_set (rt_of HO.out) (show tt.size ≤ 2000 by omega))
              have : objsB (setL l (idL tt) tt) = true := add_objs (by rw [addB_of HO.out, HA.out])
              have := (objsB_iff.1 this).1
              omega
            have A10 : Hid (∀ W, Below w9.heap.size w9 W → Calls Tryz.prog 44 #[.map (some bt), .string (comT m ps note)] W fun e w' => W.grownBy w' (some bt) ∧ ((addOk (setL l (idL tt) tt) (comT m ps note) = false ∧ e = .returned (.tuple #[.string ByteArray.empty, .bool false])) ∨ (addOk (setL l (idL tt) tt) (comT m ps note) = true ∧ e = .returned (.tuple #[.string (idL (comT m ps note)), .bool true]) ∧ TRep w' bt (n0 + 1 + 1) (setL (setL l (idL tt) tt) (idL (comT m ps note)) (comT m ps note))))) := hide (fun W hb => add_any bt (n0 + 1) _ _ W (T9.out.below hb) (by rw [← HN0.out]; omega) hone hz (HT.out.below (B9.out.trans (hb.mono B9.out.size)) HT.out.1))
            have x0' := cell_of_row _ _ 0 _ _ _ X9.out
            have y0 := cell_of_row _ _ 0 _ _ _ XC9.out
            have y1 := cell_of_row _ _ 1 _ _ _ XC9.out
            have y2 := cell_of_row _ _ 2 _ _ _ XC9.out
            have X9' : Hid (∀ W, Below w9.heap.size w9 W → W.cell? ⟨w1.heap.size, 0, none⟩ = some (.map (some bt))) := hide (fun W hb => cellB hb (by omega) x0')
            clear ha g9 t9 AD T8 X8 XC8 x0 CT CZ N5 B8
            cases h2 : addOk (setL l (idL tt) tt) (comT m ps note)
            · have A11 : Hid (∀ W, Below w9.heap.size w9 W → Calls Tryz.prog 44 #[.map (some bt), .string (comT m ps note)] W fun e w' => e = .returned (.tuple #[.string ByteArray.empty, .bool false]) ∧ W.grownBy w' (some bt)) := hide (fun W hb => (A10.out W hb).mono (by
                rintro e w' ⟨g, ⟨_, rfl⟩ | ⟨h, _⟩⟩
                · exact ⟨rfl, g⟩
                · rw [h2] at h; cases h))
              have Z := hide (NO.out (N6.out HO.out HA.out h2))
              clear h2 A10 NO YES N6 P6 T9
              generalize comT m ps note = ct at *
              generalize idL tt = ti at *
              go_wp2_with fail
              go_region_with (first
                | (go_at_call 45; refine C9.out.mono ?_; rintro e w10 ⟨rfl, b10⟩; have x10 := X9'.out _ b10.out)
                | (go_at_call 44; refine (A11.out _ b10.out).mono ?_; rintro e w11 ⟨rfl, g11⟩)
                | (go_at_call 44; refine (A11.out _ b10.out.drew).mono ?_; rintro e w11 ⟨rfl, g11⟩))
              all_goals
                have B11 := hide ((B9.out.trans (b10.out.mono B9.out.size)).grown g11 (Nat.le_trans B9.out.size b10.out.size) (fun j hj => by injection hj with hj; omega))
                clear g11
                go_wp2_with fail
                go_ret3
                exact Z.out _ B11.out
            · have A11 : Hid (∀ W, Below w9.heap.size w9 W → Calls Tryz.prog 44 #[.map (some bt), .string (comT m ps note)] W fun e w' => e = .returned (.tuple #[.string (idL (comT m ps note)), .bool true]) ∧ W.grownBy w' (some bt) ∧ Hid (TRep w' bt (n0 + 1 + 1) (setL (setL l (idL tt) tt) (idL (comT m ps note)) (comT m ps note)))) := hide (fun W hb => (A10.out W hb).mono (by
                rintro e w' ⟨g, ⟨h, _⟩ | ⟨_, rfl, t⟩⟩
                · rw [h2] at h; cases h
                · exact ⟨rfl, g, hide t⟩))
              have P7 := hide (P6.out HR.out HM.out HCA.out HCB.out HA.out h2)
              have FIN : Hid (∀ A cap w', (setL (setL l (idL tt) tt) (idL (comT m ps note)) (comT m ps note)).length ≤ cap → Own w' w.heap.size A cap (setL (setL l (idL tt) tt) (idL (comT m ps note)) (comT m ps note)) → Below w.heap.size w w' → RetOwnI w.heap.size (cmL l m ps note) (cmI l m ps note) (cmB l m ps note) w (.returned (.tuple #[.slice A (setL (setL l (idL tt) tt) (idL (comT m ps note)) (comT m ps note)).length cap, .string (idL (comT m ps note)), .bool true])) w') := hide (by
                have h := YES.out P7.out.1
                rw [P7.out.2.1] at h
                exact h)
              have OB : Hid (∀ W, TRep W bt (n0 + 1 + 1) (setL (setL l (idL tt) tt) (idL (comT m ps note)) (comT m ps note)) → Calls Tryz.prog 46 #[.map (some bt)] W (RetOwn W.heap.size (setL (setL l (idL tt) tt) (idL (comT m ps note)) (comT m ps note)) W)) := hide (fun W hW => objs_any bt (n0 + 1 + 1) _ W hW (by have := (objsB_iff.1 P7.out.2.2).1; omega) (lens_objs P7.out.2.2))
              clear h2 A10 NO YES N6 P6 T9 P7
              generalize setL (setL l (idL tt) tt) (idL (comT m ps note)) (comT m ps note) = two at *
              generalize idL (comT m ps note) = ci at *
              generalize comT m ps note = ct at *
              generalize idL tt = ti at *
              go_wp2_with fail
              go_region_with (first
                | (go_at_call 45; refine C9.out.mono ?_; rintro e w10 ⟨rfl, b10⟩; have x10 := X9'.out _ b10.out)
                | (go_at_call 44; refine (A11.out _ b10.out).mono ?_; rintro e w11 ⟨rfl, g11, t11⟩)
                | (go_at_call 44; refine (A11.out _ b10.out.drew).mono ?_; rintro e w11 ⟨rfl, g11, t11⟩))
              all_goals
                have B11 := hide ((B9.out.trans (b10.out.mono B9.out.size)).grown g11 (Nat.le_trans B9.out.size b10.out.size) (fun j hj => by injection hj with hj; omega))
                have X11 : Hid (w11.heap[w1.heap.size]? = _) := hide ((g11.block w1.heap.size (Nat.lt_of_lt_of_le (show w1.heap.size < w9.heap.size by omega) b10.out.size) (by intro e; injection e with e; omega)).trans ((b10.out.block w1.heap.size (by omega)).trans X9.out))
                have z0 := cell_of_row _ _ 0 _ _ _ X11.out
                have OO := hide (OB.out _ t11.out)
                clear g11 x10 X11 b10 t11 OB A11 C9
                go_wp2_with fail
                refine OO.out.mono ?_
                rintro e w12 ⟨A12, cap12, hc12, rfl, own12, b12⟩
                have FF := hide (FIN.out A12 cap12 w12 hc12 (own12.more B11.out.size) (B11.out.trans (b12.mono B11.out.size)))
                clear own12 b12 hc12 OO FIN
                generalize two.length = tn at *
                go_wp2_with fail
                go_ret3
                exact FF.out
end Go.Proofs.YtkhkcdmmagicmaaGreatDoor
namespace Go.Proofs.YtkhkcdmmagicmaaGreatDoor.ExCommitted
open Go.RowKit Go.ChangeShapes Go.WideShapes Go.ChangeAt
open Go.ChangeMaps (open_string shut_string)

set_option maxRecDepth 100000 in
set_option maxHeartbeats 4000000 in
theorem walk (A0 : Option Addr) (l0 : List Pr) (cap0 : Nat) (A1 : Option Addr) (l1 : List Pr) (cap1 : Nat) (A2 : Option Addr) (l2 : List ByteArray) (cap2 : Nat) (note : ByteArray) (a : Addr) (w : World) (hl0 : l0.length ≤ maxLen) (hin0 : PIn w w.heap.size A0 l0) (hl1 : l1.length ≤ maxLen) (hin1 : PIn w w.heap.size A1 l1) (hl2 : l2.length ≤ maxLen) (hin2 : SIn w w.heap.size A2 l2) (hs3 : note.size ≤ maxLen) (hT : Tabs w) (hE : ErrC w a) :
    Calls Tryz.prog 3 #[.slice A0 l0.length cap0, .slice A1 l1.length cap1, .slice A2 l2.length cap2, .string note] w fun e w' => e = .returned (.bool true) ∧ Below w.heap.size w w' := by
  have hs32 := hs3
  unfold maxLen at hs32
  by_cases hbig3 : 1048576 < note.size
  · go_enter Tryz.func3, Tryz.ntmps3
    go_wp2
    go_ret
    exact ⟨rfl, Below.refl _ _⟩
  have es0 := eqL_self l0
  have es1 := eqL_self l1
  have SL2 := hide hin2.1
  have e3_0 : ((cmI l0 l1 l2 note).toList == (cmI l0 l1 l2 note).toList) = true := by simp
  have esR0 := eqL_self (cmL l0 l1 l2 note)
  have e2 : (cmB l0 l1 l2 note != cmB l0 l1 l2 note) = false := by simp
  have HT := hide hT
  have HB := hide hT.1
  have HE := hide hE
  have IN0 := hide hin0
  have IN1 := hide hin1
  have IN2 := hide hin2
  have B0 : Hid (Below w.heap.size w w) := hide (Below.refl _ _)
  clear hin0 hin1 hin2 hT hE
  go_enter Tryz.func3, Tryz.ntmps3
  go_wp2_with fail
  refine (szPairS_any A0 l0 cap0 1048576 _ hl0 ((IN0.out.below B0.out).more B0.out.size) (by omega) (by omega)).mono ?_
  rintro e w1 ⟨hr1, b1⟩
  have B1 := hide (B0.out.trans (b1.mono B0.out.size))
  clear b1 B0
  rcases hr1 with rfl | ⟨r1, hr10, hr11, rfl⟩
  · go_wp2
    go_ret
    exact ⟨rfl, B1.out⟩
  have hm0 : l0.length ≤ 1048576 := by omega
  go_wp2_with fail
  refine (M.szPairS_any A1 l1 cap1 r1 _ hl1 ((IN1.out.below B1.out).more B1.out.size) (by omega) (by omega)).mono ?_
  rintro e w2 ⟨hr2, b2⟩
  have B2 := hide (B1.out.trans (b2.mono B1.out.size))
  clear b2 B1
  rcases hr2 with rfl | ⟨r2, hr20, hr21, rfl⟩
  · go_wp2
    go_ret
    exact ⟨rfl, B2.out⟩
  have hm1 : l1.length ≤ 1048576 := by omega
  go_wp2_with fail
  refine (szStringS_any A2 l2 cap2 r2 _ hl2 ((IN2.out.below B2.out).more B2.out.size) (by omega) (by omega)).mono ?_
  rintro e w3 ⟨hr3, hw3⟩
  have b3 : Below w2.heap.size w2 w3 := by rw [← hw3]; exact Below.refl _ _
  clear hw3
  have B3 := hide (B2.out.trans (b3.mono B2.out.size))
  clear b3 B2
  rcases hr3 with rfl | ⟨r3, hr30, hr31, rfl⟩
  · go_wp2
    go_ret
    exact ⟨rfl, B3.out⟩
  have hm2 : l2.length ≤ 1048576 := by omega
  have zw := B3.out.size
  have hp0 : (cmL l0 l1 l2 note).length ≤ 60 := cmL_len l0 l1 l2 note
  have hpm0 : (cmL l0 l1 l2 note).length ≤ maxLen := by unfold maxLen; omega
  go_wp2_with fail
  refine (toPairS_any A0 l0 cap0 _ hm0 ((IN0.out.below B3.out).more B3.out.size)).mono ?_
  rintro e w4 ⟨rfl, own4, b4⟩
  have B4 := hide (B3.out.trans (b4.mono B3.out.size))
  have z4 := b4.size
  clear b4 B3 
  have rS0 := own4.row
  have S0_4 := hide own4
  clear own4
  go_wp2_with fail
  refine (M.toPairS_any A1 l1 cap1 _ hm1 ((IN1.out.below B4.out).more B4.out.size)).mono ?_
  rintro e w5 ⟨rfl, own5, b5⟩
  have B5 := hide (B4.out.trans (b5.mono B4.out.size))
  have z5 := b5.size
  have S0_5 := hide (S0_4.out.below b5)
  clear b5 B4 S0_4
  have rS1 := own5.row
  have S1_5 := hide own5
  clear own5
  go_wp2_with fail
  refine (toStringS_any A2 l2 cap2 _ hm2 ((IN2.out.below B5.out).more B5.out.size)).mono ?_
  rintro e w6 ⟨rfl, own6, b6⟩
  replace own6 := zown_row hl2 (Nat.le_refl _) own6
  have B6 := hide (B5.out.trans (b6.mono B5.out.size))
  have z6 := b6.size
  have S0_6 := hide (S0_5.out.below b6)
  have S1_6 := hide (S1_5.out.below b6)
  clear b6 B5 S0_5 S1_5
  have rS2 := own6.row
  have S2_6 := hide own6
  clear own6
  go_wp2_with fail
  refine (specCommitted_any _ l0 l0.length _ l1 l1.length _ l2 l2.length note _ hl0 (Nat.le_refl _) (S0_6.out.pin) hl1 (S1_6.out.pin) hl2 (sin_of SL2.out S2_6.out.zin) hs3).mono ?_
  rintro e w7 ⟨AW0, capW0, hcW, rfl, own7_0, b7⟩
  have B7 := hide (B6.out.trans (b7.mono B6.out.size))
  have z7 := b7.size
  have S0_7 := hide (S0_6.out.below b7)
  have S1_7 := hide (S1_6.out.below b7)
  have S2_7 := hide (S2_6.out.below b7)
  clear b7 B6 S0_6 S1_6 S2_6
  have rW0 := own7_0.row
  have W0_7 := hide own7_0
  clear own7_0
  clear S0_7
  clear S1_7
  clear S2_7
  go_wp2_with fail
  refine (toPairS_any A0 l0 cap0 _ hm0 ((IN0.out.below B7.out).more B7.out.size)).mono ?_
  rintro e w8 ⟨rfl, own8, b8⟩
  have B8 := hide (B7.out.trans (b8.mono B7.out.size))
  have z8 := b8.size
  have W0_8 := hide (W0_7.out.below b8)
  clear b8 B7 W0_7
  have rX0 := own8.row
  have X0_8 := hide own8
  clear own8
  go_wp2_with fail
  refine (M.toPairS_any A1 l1 cap1 _ hm1 ((IN1.out.below B8.out).more B8.out.size)).mono ?_
  rintro e w9 ⟨rfl, own9, b9⟩
  have B9 := hide (B8.out.trans (b9.mono B8.out.size))
  have z9 := b9.size
  have W0_9 := hide (W0_8.out.below b9)
  have X0_9 := hide (X0_8.out.below b9)
  clear b9 B8 W0_8 X0_8
  have rX1 := own9.row
  have X1_9 := hide own9
  clear own9
  go_wp2_with fail
  refine (toStringS_any A2 l2 cap2 _ hm2 ((IN2.out.below B9.out).more B9.out.size)).mono ?_
  rintro e w10 ⟨rfl, own10, b10⟩
  replace own10 := zown_row hl2 (Nat.le_refl _) own10
  have B10 := hide (B9.out.trans (b10.mono B9.out.size))
  have z10 := b10.size
  have W0_10 := hide (W0_9.out.below b10)
  have X0_10 := hide (X0_9.out.below b10)
  have X1_10 := hide (X1_9.out.below b10)
  clear b10 B9 W0_9 X0_9 X1_9
  have rX2 := own10.row
  have X2_10 := hide own10
  clear own10
  go_wp2_with fail
  refine (implCommitted_any _ l0 l0.length _ l1 l1.length _ l2 l2.length note a _ hl0 (X0_10.out.pin) hl1 (X1_10.out.pin) hl2 (sin_of SL2.out X2_10.out.zin) hs3 (HT.out.below B10.out HB.out) (HE.out.below B10.out)).mono ?_
  rintro e w11 ⟨AG0, capG0, hcG, rfl, own11_0, b11⟩
  have B11 := hide (B10.out.trans (b11.mono B10.out.size))
  have z11 := b11.size
  have W0_11 := hide (W0_10.out.below b11)
  have X0_11 := hide (X0_10.out.below b11)
  have X1_11 := hide (X1_10.out.below b11)
  have X2_11 := hide (X2_10.out.below b11)
  clear b11 B10 W0_10 X0_10 X1_10 X2_10
  have rG0 := own11_0.row
  have G0_11 := hide own11_0
  clear own11_0
  have apX0W0 : Hid (∀ g, rowOf (AW0 : Option Addr) = some g → rowOf ((some ⟨w7.heap.size, 0, none⟩) : Option Addr) ≠ some g) := hide (fun g hg x => by have h1 := rW0 g hg; have h2 := rX0 g x; omega)
  have apX0G0 : Hid (∀ g, rowOf (AG0 : Option Addr) = some g → rowOf ((some ⟨w7.heap.size, 0, none⟩) : Option Addr) ≠ some g) := hide (fun g hg x => by have h1 := rG0 g hg; have h2 := rX0 g x; omega)
  have apX0X1 : Hid (∀ g, rowOf ((some ⟨w8.heap.size, 0, none⟩) : Option Addr) = some g → rowOf ((some ⟨w7.heap.size, 0, none⟩) : Option Addr) ≠ some g) := hide (fun g hg x => by have h1 := rX1 g hg; have h2 := rX0 g x; omega)
  have apX0X2 : Hid (∀ g, rowOf ((some ⟨w9.heap.size, 0, none⟩) : Option Addr) = some g → rowOf ((some ⟨w7.heap.size, 0, none⟩) : Option Addr) ≠ some g) := hide (fun g hg x => by have h1 := rX2 g hg; have h2 := rX0 g x; omega)
  have hzX0 : Hid (∀ g, rowOf ((some ⟨w7.heap.size, 0, none⟩) : Option Addr) = some g → w.heap.size ≤ g) := hide (fun g hg => by have h1 := rX0 g hg; have h2 := B11.out.size; omega)
  have apX1W0 : Hid (∀ g, rowOf (AW0 : Option Addr) = some g → rowOf ((some ⟨w8.heap.size, 0, none⟩) : Option Addr) ≠ some g) := hide (fun g hg x => by have h1 := rW0 g hg; have h2 := rX1 g x; omega)
  have apX1G0 : Hid (∀ g, rowOf (AG0 : Option Addr) = some g → rowOf ((some ⟨w8.heap.size, 0, none⟩) : Option Addr) ≠ some g) := hide (fun g hg x => by have h1 := rG0 g hg; have h2 := rX1 g x; omega)
  have apX1X0 : Hid (∀ g, rowOf ((some ⟨w7.heap.size, 0, none⟩) : Option Addr) = some g → rowOf ((some ⟨w8.heap.size, 0, none⟩) : Option Addr) ≠ some g) := hide (fun g hg x => by have h1 := rX0 g hg; have h2 := rX1 g x; omega)
  have apX1X2 : Hid (∀ g, rowOf ((some ⟨w9.heap.size, 0, none⟩) : Option Addr) = some g → rowOf ((some ⟨w8.heap.size, 0, none⟩) : Option Addr) ≠ some g) := hide (fun g hg x => by have h1 := rX2 g hg; have h2 := rX1 g x; omega)
  have hzX1 : Hid (∀ g, rowOf ((some ⟨w8.heap.size, 0, none⟩) : Option Addr) = some g → w.heap.size ≤ g) := hide (fun g hg => by have h1 := rX1 g hg; have h2 := B11.out.size; omega)
  have apX2W0 : Hid (∀ g, rowOf (AW0 : Option Addr) = some g → rowOf ((some ⟨w9.heap.size, 0, none⟩) : Option Addr) ≠ some g) := hide (fun g hg x => by have h1 := rW0 g hg; have h2 := rX2 g x; omega)
  have apX2G0 : Hid (∀ g, rowOf (AG0 : Option Addr) = some g → rowOf ((some ⟨w9.heap.size, 0, none⟩) : Option Addr) ≠ some g) := hide (fun g hg x => by have h1 := rG0 g hg; have h2 := rX2 g x; omega)
  have apX2X0 : Hid (∀ g, rowOf ((some ⟨w7.heap.size, 0, none⟩) : Option Addr) = some g → rowOf ((some ⟨w9.heap.size, 0, none⟩) : Option Addr) ≠ some g) := hide (fun g hg x => by have h1 := rX0 g hg; have h2 := rX2 g x; omega)
  have apX2X1 : Hid (∀ g, rowOf ((some ⟨w8.heap.size, 0, none⟩) : Option Addr) = some g → rowOf ((some ⟨w9.heap.size, 0, none⟩) : Option Addr) ≠ some g) := hide (fun g hg x => by have h1 := rX1 g hg; have h2 := rX2 g x; omega)
  have hzX2 : Hid (∀ g, rowOf ((some ⟨w9.heap.size, 0, none⟩) : Option Addr) = some g → w.heap.size ≤ g) := hide (fun g hg => by have h1 := rX2 g hg; have h2 := B11.out.size; omega)
  have apG0W0 : Hid (∀ g, rowOf AW0 = some g → rowOf AG0 ≠ some g) := hide (fun g hg x => by have h1 := rW0 g hg; have h2 := rG0 g x; omega)
  have hzG0 : Hid (∀ g, rowOf AG0 = some g → w.heap.size ≤ g) := hide (fun g hg => by have h1 := rG0 g hg; omega)
  clear rW0 rG0 rX0 rX1 rX2 rS0 rS1 rS2
  go_wp2_with fail
  refine (eqPairS_any _ _ (cmL l0 l1 l2 note) (cmL l0 l1 l2 note) (capG0) (capW0) _ hpm0 hpm0 G0_11.out.pin W0_11.out.pin).mono ?_
  rintro e w12 ⟨rfl, b12⟩
  have B12 := hide (B11.out.trans (b12.mono B11.out.size))
  have z12 := b12.size
  have W0_12 := hide (W0_11.out.below b12)
  have X0_12 := hide (X0_11.out.below b12)
  have X1_12 := hide (X1_11.out.below b12)
  have X2_12 := hide (X2_11.out.below b12)
  have G0_12 := hide (G0_11.out.below b12)
  clear b12 B11 W0_11 X0_11 X1_11 X2_11 G0_11
  go_wp2_with fail
  refine (toPairS_any A0 l0 cap0 _ hm0 ((IN0.out.below B12.out).more B12.out.size)).mono ?_
  rintro e w13 ⟨rfl, own13, b13⟩
  have B13 := hide (B12.out.trans (b13.mono B12.out.size))
  have z13 := b13.size
  have W0_13 := hide (W0_12.out.below b13)
  have X0_13 := hide (X0_12.out.below b13)
  have X1_13 := hide (X1_12.out.below b13)
  have X2_13 := hide (X2_12.out.below b13)
  have G0_13 := hide (G0_12.out.below b13)
  clear b13 B12 W0_12 X0_12 X1_12 X2_12 G0_12
  have rY := own13.row
  have Y_13 := hide own13
  clear own13
  go_wp2_with fail
  refine (eqPairS_any _ _ (l0) (l0) (l0.length) (l0.length) _ hl0 hl0 X0_13.out.pin Y_13.out.pin).mono ?_
  rintro e w14 ⟨rfl, b14⟩
  have B14 := hide (B13.out.trans (b14.mono B13.out.size))
  have z14 := b14.size
  have W0_14 := hide (W0_13.out.below b14)
  have X0_14 := hide (X0_13.out.below b14)
  have X1_14 := hide (X1_13.out.below b14)
  have X2_14 := hide (X2_13.out.below b14)
  have G0_14 := hide (G0_13.out.below b14)
  have Y_14 := hide (Y_13.out.below b14)
  clear b14 B13 W0_13 X0_13 X1_13 X2_13 G0_13 Y_13
  clear Y_14
  clear rY
  go_wp2_with fail
  refine (M.toPairS_any A1 l1 cap1 _ hm1 ((IN1.out.below B14.out).more B14.out.size)).mono ?_
  rintro e w15 ⟨rfl, own15, b15⟩
  have B15 := hide (B14.out.trans (b15.mono B14.out.size))
  have z15 := b15.size
  have W0_15 := hide (W0_14.out.below b15)
  have X0_15 := hide (X0_14.out.below b15)
  have X1_15 := hide (X1_14.out.below b15)
  have X2_15 := hide (X2_14.out.below b15)
  have G0_15 := hide (G0_14.out.below b15)
  clear b15 B14 W0_14 X0_14 X1_14 X2_14 G0_14
  have rY := own15.row
  have Y_15 := hide own15
  clear own15
  go_wp2_with fail
  refine (M.eqPairS_any _ _ (l1) (l1) (l1.length) (l1.length) _ hl1 hl1 X1_15.out.pin Y_15.out.pin).mono ?_
  rintro e w16 ⟨rfl, b16⟩
  have B16 := hide (B15.out.trans (b16.mono B15.out.size))
  have z16 := b16.size
  have W0_16 := hide (W0_15.out.below b16)
  have X0_16 := hide (X0_15.out.below b16)
  have X1_16 := hide (X1_15.out.below b16)
  have X2_16 := hide (X2_15.out.below b16)
  have G0_16 := hide (G0_15.out.below b16)
  have Y_16 := hide (Y_15.out.below b16)
  clear b16 B15 W0_15 X0_15 X1_15 X2_15 G0_15 Y_15
  clear Y_16
  clear rY
  go_wp2_with fail
  refine (toStringS_any A2 l2 cap2 _ hm2 ((IN2.out.below B16.out).more B16.out.size)).mono ?_
  rintro e w17 ⟨rfl, own17, b17⟩
  replace own17 := zown_row hl2 (Nat.le_refl _) own17
  have B17 := hide (B16.out.trans (b17.mono B16.out.size))
  have z17 := b17.size
  have W0_17 := hide (W0_16.out.below b17)
  have X0_17 := hide (X0_16.out.below b17)
  have X1_17 := hide (X1_16.out.below b17)
  have X2_17 := hide (X2_16.out.below b17)
  have G0_17 := hide (G0_16.out.below b17)
  clear b17 B16 W0_16 X0_16 X1_16 X2_16 G0_16
  have rY := own17.row
  have Y_17 := hide own17
  clear own17
  go_wp2_with fail
  refine (eqStringZ_same _ _ (l2) (l2.length) (l2.length) _ _ _ hl2 X2_17.out.zin Y_17.out.zin).mono ?_
  rintro e w18 ⟨rfl, b18⟩
  replace b18 := b18.below w17.heap.size
  have B18 := hide (B17.out.trans (b18.mono B17.out.size))
  have z18 := b18.size
  have W0_18 := hide (W0_17.out.below b18)
  have X0_18 := hide (X0_17.out.below b18)
  have X1_18 := hide (X1_17.out.below b18)
  have X2_18 := hide (X2_17.out.below b18)
  have G0_18 := hide (G0_17.out.below b18)
  have Y_18 := hide (Y_17.out.below b18)
  clear b18 B17 W0_17 X0_17 X1_17 X2_17 G0_17 Y_17
  clear Y_18
  clear rY
  go_wp2_with fail
  refine (markPairS_int _ (l0) (l0.length) (_) (1) _ _ (by omega) (by omega) (by omega) X0_18.out).mono ?_
  rintro e w19 ⟨rfl, ow19, g19⟩
  have B19 := hide (B18.out.grown g19 B18.out.size hzX0.out)
  have W0_19 := hide (W0_18.out.apart g19 apX0W0.out)
  have X1_19 := hide (X1_18.out.apart g19 apX0X1.out)
  have X2_19 := hide (X2_18.out.apart g19 apX0X2.out)
  have G0_19 := hide (G0_18.out.apart g19 apX0G0.out)
  clear B18 W0_18 X1_18 X2_18 G0_18
  clear X0_18 ow19 g19
  go_wp2_with fail
  refine (M.markPairS_int _ (l1) (l1.length) (_) (1 + 2 * l0.length) _ _ (by omega) (by omega) (by omega) X1_19.out).mono ?_
  rintro e w20 ⟨rfl, ow20, g20⟩
  have B20 := hide (B19.out.grown g20 B19.out.size hzX1.out)
  have W0_20 := hide (W0_19.out.apart g20 apX1W0.out)
  have X2_20 := hide (X2_19.out.apart g20 apX1X2.out)
  have G0_20 := hide (G0_19.out.apart g20 apX1G0.out)
  clear B19 W0_19 X2_19 G0_19
  clear X1_19 ow20 g20
  go_wp2_with fail
  refine (markStringS_int _ (l2) (l2.length) (_) (1 + 2 * l0.length + 2 * l1.length) _ _ (by omega) (by omega) (by omega) X2_20.out).mono ?_
  rintro e w21 ⟨rfl, ow21, g21⟩
  have B21 := hide (B20.out.grown g21 B20.out.size hzX2.out)
  have W0_21 := hide (W0_20.out.apart g21 apX2W0.out)
  have G0_21 := hide (G0_20.out.apart g21 apX2G0.out)
  clear B20 W0_20 G0_20
  clear X2_20 ow21 g21
  have hk1 : ¬ ((1 + 2 * l0.length + 2 * l1.length + l2.length : Nat) : Int) < 0 := by omega
  have hk2 : ¬ (1 + 2 * (l0.length : Int) + 2 * (l1.length : Int) + (l2.length : Int)) < 0 := by omega
  have hk3 : decide (((1 + 2 * l0.length + 2 * l1.length + l2.length : Nat) : Int) < 0) = false := decide_eq_false hk1
  have hk4 : decide ((1 + 2 * (l0.length : Int) + 2 * (l1.length : Int) + (l2.length : Int)) < 0) = false := decide_eq_false hk2
  go_wp2_with fail
  refine (eqPairS_any _ _ (cmL l0 l1 l2 note) (cmL l0 l1 l2 note) (capG0) (capW0) _ hpm0 hpm0 G0_21.out.pin W0_21.out.pin).mono ?_
  rintro e w22 ⟨rfl, b22⟩
  have B22 := hide (B21.out.trans (b22.mono B21.out.size))
  have z22 := b22.size
  have W0_22 := hide (W0_21.out.below b22)
  have G0_22 := hide (G0_21.out.below b22)
  clear b22 B21 W0_21 G0_21
  clear hk1 hk2 hk3 hk4
  go_wp2_with fail
  refine (markPairS_int _ (cmL l0 l1 l2 note) (capG0) (_) (1) _ _ (by omega) (by omega) (by omega) G0_22.out).mono ?_
  rintro e w23 ⟨rfl, ow23, g23⟩
  have B23 := hide (B22.out.grown g23 B22.out.size hzG0.out)
  have W0_23 := hide (W0_22.out.apart g23 apG0W0.out)
  clear B22 W0_22
  have G0_23 := hide ow23
  clear G0_22 ow23 g23
  go_wp2_with fail
  refine (heldPairS_any AG0 (cmL l0 l1 l2 note).length capG0 1 _ (by omega) (by omega) G0_23.out.pin).mono ?_
  rintro e w24 ⟨rfl, b24⟩
  have B24 := hide (B23.out.trans (b24.mono B23.out.size))
  have z24 := b24.size
  have W0_24 := hide (W0_23.out.below b24)
  have G0_24 := hide (G0_23.out.below b24)
  clear b24 B23 W0_23 G0_23
  have hq0 : ¬ ((1 + 2 * (cmL l0 l1 l2 note).length : Nat) : Int) < 0 := by omega
  have hqd0 : decide (((1 + 2 * (cmL l0 l1 l2 note).length : Nat) : Int) < 0) = false := decide_eq_false hq0
  have hqe0 : (((1 + 2 * (cmL l0 l1 l2 note).length : Nat) : Int) != ((1 + 2 * (cmL l0 l1 l2 note).length : Nat) : Int)) = false := by simp
  go_wp2_with fail
  refine (toPairS_any A0 l0 cap0 _ hm0 ((IN0.out.below B24.out).more B24.out.size)).mono ?_
  rintro e w25 ⟨rfl, own25, b25⟩
  have B25 := hide (B24.out.trans (b25.mono B24.out.size))
  have z25 := b25.size
  have W0_25 := hide (W0_24.out.below b25)
  have G0_25 := hide (G0_24.out.below b25)
  clear b25 B24 W0_24 G0_24
  have rT0 := own25.row
  have T0_25 := hide own25
  clear own25
  go_wp2_with fail
  refine (M.toPairS_any A1 l1 cap1 _ hm1 ((IN1.out.below B25.out).more B25.out.size)).mono ?_
  rintro e w26 ⟨rfl, own26, b26⟩
  have B26 := hide (B25.out.trans (b26.mono B25.out.size))
  have z26 := b26.size
  have W0_26 := hide (W0_25.out.below b26)
  have G0_26 := hide (G0_25.out.below b26)
  have T0_26 := hide (T0_25.out.below b26)
  clear b26 B25 W0_25 G0_25 T0_25
  have rT1 := own26.row
  have T1_26 := hide own26
  clear own26
  go_wp2_with fail
  refine (toStringS_any A2 l2 cap2 _ hm2 ((IN2.out.below B26.out).more B26.out.size)).mono ?_
  rintro e w27 ⟨rfl, own27, b27⟩
  replace own27 := zown_row hl2 (Nat.le_refl _) own27
  have B27 := hide (B26.out.trans (b27.mono B26.out.size))
  have z27 := b27.size
  have W0_27 := hide (W0_26.out.below b27)
  have G0_27 := hide (G0_26.out.below b27)
  have T0_27 := hide (T0_26.out.below b27)
  have T1_27 := hide (T1_26.out.below b27)
  clear b27 B26 W0_26 G0_26 T0_26 T1_26
  have rT2 := own27.row
  have T2_27 := hide own27
  clear own27
  go_wp2_with fail
  refine (implCommitted_any _ l0 l0.length _ l1 l1.length _ l2 l2.length note a _ hl0 (T0_27.out.pin) hl1 (T1_27.out.pin) hl2 (sin_of SL2.out T2_27.out.zin) hs3 (HT.out.below B27.out HB.out) (HE.out.below B27.out)).mono ?_
  rintro e w28 ⟨AH0, capH0, hcH, rfl, own28_0, b28⟩
  have B28 := hide (B27.out.trans (b28.mono B27.out.size))
  have z28 := b28.size
  have W0_28 := hide (W0_27.out.below b28)
  have G0_28 := hide (G0_27.out.below b28)
  have T0_28 := hide (T0_27.out.below b28)
  have T1_28 := hide (T1_27.out.below b28)
  have T2_28 := hide (T2_27.out.below b28)
  clear b28 B27 W0_27 G0_27 T0_27 T1_27 T2_27
  have rH0 := own28_0.row
  have H0_28 := hide own28_0
  clear own28_0
  clear T0_28
  clear T1_28
  clear T2_28
  go_wp2_with fail
  refine (eqPairS_any _ _ (cmL l0 l1 l2 note) (cmL l0 l1 l2 note) (capH0) (capW0) _ hpm0 hpm0 H0_28.out.pin W0_28.out.pin).mono ?_
  rintro e w29 ⟨rfl, b29⟩
  have B29 := hide (B28.out.trans (b29.mono B28.out.size))
  have z29 := b29.size
  have W0_29 := hide (W0_28.out.below b29)
  have G0_29 := hide (G0_28.out.below b29)
  have H0_29 := hide (H0_28.out.below b29)
  clear b29 B28 W0_28 G0_28 H0_28
  clear H0_29
  clear W0_29
  go_wp2_with fail
  refine (heldPairS_any AG0 (cmL l0 l1 l2 note).length capG0 1 _ (by omega) (by omega) G0_29.out.pin).mono ?_
  rintro e w30 ⟨rfl, b30⟩
  have B30 := hide (B29.out.trans (b30.mono B29.out.size))
  have z30 := b30.size
  have G0_30 := hide (G0_29.out.below b30)
  clear b30 B29 G0_29
  go_wp2
  go_ret
  exact ⟨rfl, B30.out⟩

theorem plainVars : ∀ n ∈ Rows.fnExactCommittedSpec.vars, n = "loop.example/g00652/impl.errNoCommit" ∨ ∀ g t, Tryz.prog.globalNamed n = some g → (Tryz.prog.globals[g]?).map (·.type) = some t → Tryz.prog.readableRec t = true ∧ t < Tryz.prog.types.size := by
  intro n hn
  have hb : (Rows.fnExactCommittedSpec.vars).all (fun n => n == "loop.example/g00652/impl.errNoCommit" || ((Tryz.prog.globalNamed n).bind fun g => (Tryz.prog.globals[g]?).map fun x => Tryz.prog.readableRec x.type && decide (x.type < Tryz.prog.types.size)).getD false) = true := by kernel_rfl
  have h := List.all_eq_true.1 hb n hn
  rw [Bool.or_eq_true] at h
  rcases h with h | h
  · exact .inl (by simpa using h)
  refine .inr fun g t h1 h2 => ?_
  rw [h1] at h
  obtain ⟨x, hx, rfl⟩ := Option.map_eq_some_iff.1 h2
  simp only [Option.bind_some, hx, Option.map_some, Option.getD_some, Bool.and_eq_true, decide_eq_true_eq] at h
  exact h
set_option maxRecDepth 100000 in
theorem contract (H : Type) (enc : TypeId × Value → H) (W : World) (base : Nat) (args : Array Value) (ds gs : List (DataW H)) (before : List MemPlace)
    (hval0 : ∀ (j : Nat) t v, Tryz.f3.params[j]? = some t → args[j]? = some v → Value.okWide Tryz.prog W .any base t v)
    (hW : DataW.Whole enc Tryz.prog Tryz.f3.params.toList Rows.fnExactCommittedSpec.vars false W args.toList ds gs before) (hL : laidMetH Tryz.prog Rows.fnExactCommittedRow.laid W) :
    Calls Tryz.prog 3 args W fun e W' => ∃ v, e = .returned v ∧ Rows.fnExactCommittedSpec.post enc Tryz.prog Tryz.f3 false true false false W args v W' := by
  have hval : ∀ (j : Nat) t v, Tryz.f3.params[j]? = some t → args[j]? = some v → Value.okWide Tryz.prog W .any base t v := hval0
  have hT : Tabs W := tabs_of (l := Rows.fnExactCommittedRow.laid) hL (List.mem_cons_self ..) (List.mem_cons_of_mem _ (List.mem_cons_self ..))
  obtain ⟨a, hE, hvar⟩ := errs_in (W := W) (laid_tail (laid_tail hL))
  have hW' := hW
  obtain ⟨p, q, hA0, hV, rfl, hfz, hnd⟩ := hW
  have hA : DataW.TrodAll enc Tryz.prog W 0 (fun _ => true) true Tryz.f3.params.toList args.toList ds p := hA0
  rw [Tryz.params3] at hA hval
  obtain ⟨v0, vs0, d0, ds0, p0, q0, hargs, rfl, rfl, h0, r0⟩ := trodAll_cons hA
  obtain ⟨v1, vs1, d1, ds1, p1, q1, rfl, rfl, rfl, h1, r1⟩ := trodAll_cons r0
  obtain ⟨v2, vs2, d2, ds2, p2, q2, rfl, rfl, rfl, h2, r2⟩ := trodAll_cons r1
  obtain ⟨v3, vs3, d3, ds3, p3, q3, rfl, rfl, rfl, h3, r3⟩ := trodAll_cons r2
  obtain ⟨rfl, rfl, rfl⟩ := trodAll_nil r3
  obtain rfl : args = #[v0, v1, v2, v3] := by cases args; simp_all
  obtain ⟨x0, x1, x2, rfl⟩ := list3 (vars_len hV)
  obtain ⟨A0, n0, cap0, rfl⟩ := okWide_slice Tryz.underlying22 (hval 0 22 v0 rfl rfl)
  have lt0 : ∀ x ∈ p0, x.block < W.heap.size := by obtain ⟨m, hm⟩ := h0; exact DataW.trod_lt m _ _ _ hm
  obtain ⟨l0, rfl, hl0, hin0⟩ := open_pairs h0
  obtain ⟨A1, n1, cap1, rfl⟩ := okWide_slice Tryz.underlying23 (hval 1 23 v1 rfl rfl)
  have lt1 : ∀ x ∈ p1, x.block < W.heap.size := by obtain ⟨m, hm⟩ := h1; exact DataW.trod_lt m _ _ _ hm
  obtain ⟨l1, rfl, hl1, hin1⟩ := M.open_pairs h1
  obtain ⟨A2, n2, cap2, rfl⟩ := okWide_slice Tryz.underlying24 (hval 2 24 v2 rfl rfl)
  have lt2 : ∀ x ∈ p2, x.block < W.heap.size := by obtain ⟨m, hm⟩ := h2; exact DataW.trod_lt m _ _ _ hm
  obtain ⟨l2, rfl, hl2, hin2⟩ := open_strs h2
  obtain ⟨s3, rfl, rfl, rfl, hs3⟩ := open_string Tryz.underlying9 (hval 3 9 v3 rfl rfl) h3
  clear hA0 hval0
  refine (walk A0 l0 cap0 A1 l1 cap1 A2 l2 cap2 s3 a W hl0 hin0 hl1 hin1 hl2 hin2 hs3 hT hE).mono fun e W' ⟨he, bel⟩ => ?_
  subst he
  exact ⟨_, rfl, _, _, _, [], _, q, hW', trodAll_mk1 (shut_bool Tryz.underlying4 _), (trodAll_cons_mk (Below.trod laidOut (by kernel_rfl) (of_decide_eq_true (by kernel_rfl)) h0 bel lt0) (trodAll_cons_mk (Below.trod laidOut (by kernel_rfl) (of_decide_eq_true (by kernel_rfl)) h1 bel lt1) (trodAll_cons_mk (Below.trod laidOut (by kernel_rfl) (of_decide_eq_true (by kernel_rfl)) h2 bel lt2) (trodAll_cons_mk (shut_string Tryz.underlying9 hs3) trodAll_mk0)))), vars_stayE laidOut bel hvar plainVars hV, bel.frame _, fun h => by cases h⟩

/-- a world for the witness: the tables hold what their initialisers lay -/
noncomputable def laidWorld (os : Os) : World := layAllE (World.holding Tryz.prog os ⟨#[], #[], []⟩)
theorem laid_met (os : Os) : laidMet Tryz.prog Rows.fnExactCommittedRow.laid ((laidWorld os).forCall (fun _ _ => 0) ⟨#[], #[.slice none 0 0, .slice none 0 0, .slice none 0 0, .string ByteArray.empty], []⟩).memory :=
  laidMet_of_run' 8 (by kernel_rfl) (by kernel_rfl)
theorem reads (os : Os) {H : Type} (enc : TypeId × Value → H) : ∃ x, DataW.whole enc Tryz.prog ((laidWorld os).forCall (fun _ _ => 0) ⟨#[], #[.slice none 0 0, .slice none 0 0, .slice none 0 0, .string ByteArray.empty], []⟩).memory Tryz.f3.params.toList Rows.fnExactCommittedSpec.vars false (#[.slice none 0 0, .slice none 0 0, .slice none 0 0, .string ByteArray.empty] : Array Value).toList 8 = some x :=
  Option.isSome_iff_exists.1 (by kernel_rfl)
set_option maxRecDepth 100000 in
theorem lifted (os : Os) (started : os.Started) (H : Type) (enc : TypeId × Value → H) (F : Stop.Interp) :
    ReturnsInHanded {} Tryz.checked os 3 .any ((OpenSpec.ofChange Rows.fnExactCommittedSpec).preRow enc Tryz.prog Tryz.f3 Rows.fnExactCommittedRow.domain false Rows.fnExactCommittedRow.laid) (((OpenSpec.ofChange Rows.fnExactCommittedSpec).at F).post enc Tryz.prog Tryz.f3 false true false false) := by
  obtain ⟨x, hx⟩ := reads os enc
  refine returnsInHanded_of_row (C := Tryz.checked) (s := OpenSpec.ofChange Rows.fnExactCommittedSpec) own started (by kernel_rfl) Tryz.func3
    (witness_row_at (enc := enc) (C := Tryz.checked) false (laidWorld os) #[.slice none 0 0, .slice none 0 0, .slice none 0 0, .string ByteArray.empty] rfl (by kernel_rfl) (by kernel_rfl) (by kernel_rfl)
      (OpenSpec.preRow_of_cond 8 hx rfl (fun k hk => by cases hk) (by kernel_rfl) (laid_met os))) ?_
  intro W base args ds gs before hval hW _ _ _ hL _ _
  exact contract H enc W base args ds gs before hval hW hL
theorem said : Rows.FnExactCommittedSaid :=
  OpenClaim.holds_of_cond 3 Tryz.f3 rfl rfl rfl rfl rfl rfl rfl ⟨rfl, rfl, rfl, rfl, rfl⟩ rfl rfl rfl rfl rfl (by kernel_rfl) Tryz.func3 (by kernel_rfl)
    (of_decide_eq_true (by kernel_rfl)) (by unfold Func.isWrapper; first | (rw [if_pos (by decide +kernel)]; kernel_rfl) | (rw [if_neg (by decide +kernel)]; exact ⟨rfl, rfl⟩))
    (fun os started H enc _ F => by rw [OpenClaim.pre_eq_preRow]; exact lifted os started H enc F)
theorem plain (f : FuncId) (fn : Func) (hf : Tryz.pinned.checked.prog.funcNamed "loop.example/g00652/laws.FnExactCommitted" = some f) (hfn : Tryz.pinned.checked.prog.funcs[f]? = some fn) :
    false = Tryz.pinned.checked.prog.looks [] ∧ ∀ (j : Nat) t, fn.params[j]? = some t → Tryz.pinned.checked.prog.wantsStandIn t = false := by
  obtain rfl : f = 3 := Option.some.inj ((show Tryz.prog.funcNamed "loop.example/g00652/laws.FnExactCommitted" = some 3 by kernel_rfl).symm.trans hf) |>.symm
  obtain rfl : fn = Tryz.f3 := (Option.some.inj (Tryz.func3.symm.trans hfn)).symm
  refine ⟨by kernel_rfl, fun j t ht => ?_⟩
  rw [Tryz.params3] at ht
  have hm := Array.mem_of_getElem? ht
  simp only [List.mem_toArray, List.mem_cons, List.not_mem_nil, or_false] at hm
  rcases hm with e | e | e | e <;> subst e
  · exact (show Tryz.prog.wantsStandIn 22 = false by kernel_rfl)
  · exact (show Tryz.prog.wantsStandIn 23 = false by kernel_rfl)
  · exact (show Tryz.prog.wantsStandIn 24 = false by kernel_rfl)
  · exact (show Tryz.prog.wantsStandIn 9 = false by kernel_rfl)
theorem card : Rows.FnExactCommittedCardSaid :=
  Claim7.holds_tied_plain_at .later [] _ _ _ _ said (fun _ h => by cases h) (by kernel_rfl) (fun _ h => by cases h) fnExactCommitted_row_tie rfl ⟨rfl, rfl⟩ (by kernel_rfl) rfl plain (by kernel_rfl)

end Go.Proofs.YtkhkcdmmagicmaaGreatDoor.ExCommitted
namespace Go.Proofs.YtkhkcdmmagicmaaGreatDoor
theorem fnExactCommitted_proved : Rows.FnExactCommittedCardSaid := ExCommitted.card
end Go.Proofs.YtkhkcdmmagicmaaGreatDoor
