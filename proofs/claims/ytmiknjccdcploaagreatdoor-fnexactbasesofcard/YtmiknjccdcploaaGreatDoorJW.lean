/-
  Texts that this proof leans on, joined: JW.
-/
import Derived.Test.YtmiknjccdcploaaGreatDoorJR
import Derived.RangeFuncNested
import Derived.RangeFuncBound
import Derived.RangeFuncCalls
import Derived.RangeFuncLeaves
import Derived.Shelf.Abstract
import Derived.Shelf.RegionOpen
import Derived.WalkKit
import Derived.OwnWalkIn
import Derived.TacticsInMore
import Derived.LoopNIn
import Derived.LoopIn
import Derived.Maps.OwnIn
import Derived.Sort.EveryDepth
import Derived.Test.YtmiknjccdcploaaGreatDoorJC
import Derived.BigQuiet
import Derived.IntWalk
import Derived.Test.YtmiknjccdcploaaGreatDoorJO
/-
  What is behind a commit: reached from it by parents; what a walk with a set of what was seen adds.
-/
namespace Go.Proofs.YtmiknjccdcploaaGreatDoor
open Go.RowKit

/-- the parents of the commit at a key -/
noncomputable def parK (l : List Pr) (k : ByteArray) : List ByteArray := if rdOk (valOf l k) = true then (rdC (valOf l k)).2.1 else []
noncomputable def treK (l : List Pr) (k : ByteArray) : ByteArray := if rdOk (valOf l k) = true then (rdC (valOf l k)).1 else ByteArray.empty
noncomputable def notK (l : List Pr) (k : ByteArray) : ByteArray := if rdOk (valOf l k) = true then (rdC (valOf l k)).2.2 else ByteArray.empty
theorem parK_no {l : List Pr} {k : ByteArray} (h : rdOk (valOf l k) = false) : parK l k = [] := by unfold parK; rw [h]; rfl
theorem parK_len (l : List Pr) (k : ByteArray) : (parK l k).length ≤ 2 := by
  cases h : rdOk (valOf l k)
  · rw [parK_no h]; simp
  · unfold parK; rw [if_pos h]; exact (rd_size h).2.1
theorem parK_size {l : List Pr} {k q : ByteArray} (h : q ∈ parK l k) : q.size = 16 := by
  cases hr : rdOk (valOf l k)
  · rw [parK_no hr] at h; cases h
  · unfold parK at h; rw [if_pos hr] at h; exact (rd_size hr).2.2 q h
theorem has_rd {l : List Pr} {k : ByteArray} (h : rdOk (valOf l k) = true) : hasB l k = true := by
  cases e : hasB l k
  · rw [valOf_no e, rdOk_empty] at h; cases h
  · rfl
theorem parK_com {l : List Pr} (hl : repoB l = true) {k q : ByteArray} (h : q ∈ parK l k) : rdOk (valOf l q) = true := by
  cases hr : rdOk (valOf l k)
  · rw [parK_no hr] at h; cases h
  · unfold parK at h
    rw [if_pos hr] at h
    obtain ⟨ho, hf⟩ := repoB_iff.1 hl
    obtain ⟨i, hi, e⟩ := has_at (has_rd hr)
    have h2 := (valOf_at (objsB_iff.1 ho).2.2 hi).2
    rw [e] at h2
    rw [h2] at h hr
    exact ((hf i hi hi).2 hr).2 q h |>.1
/-- reached from one by parents, itself too -/
inductive Reach (l : List Pr) (a : ByteArray) : ByteArray → Prop
  | self : Reach l a a
  | next {x q : ByteArray} : Reach l a x → q ∈ parK l x → Reach l a q
theorem Reach.trans {l : List Pr} {a b c : ByteArray} (h : Reach l a b) (k : Reach l b c) : Reach l a c := by
  induction k with
  | self => exact h
  | next _ hq ih => exact ih.next hq
theorem Reach.com {l : List Pr} (hl : repoB l = true) {a b : ByteArray} (h : Reach l a b) (ha : rdOk (valOf l a) = true) : rdOk (valOf l b) = true := by
  cases h with
  | self => exact ha
  | next _ hq => exact parK_com hl hq
theorem nodup_len {α : Type} : ∀ {S T : List α}, S.Nodup → (∀ z ∈ S, z ∈ T) → S.length ≤ T.length
  | [], _, _, _ => Nat.zero_le _
  | a :: r, T, hn, hs => by
    obtain ⟨u, v, rfl⟩ := List.append_of_mem (hs a (List.mem_cons_self ..))
    rw [List.nodup_cons] at hn
    have := nodup_len (T := u ++ v) hn.2 (fun z hz => by
      have := hs z (List.mem_cons_of_mem _ hz)
      rcases List.mem_append.1 this with h | h
      · exact List.mem_append.2 (.inl h)
      · rcases List.mem_cons.1 h with h | h
        · subst h; exact absurd hz hn.1
        · exact List.mem_append.2 (.inr h))
    simp only [List.length_cons, List.length_append] at this ⊢
    omega
/-- a set of commits, each once -/
def SetC (l : List Pr) (S : List ByteArray) : Prop := S.Nodup ∧ ∀ z ∈ S, rdOk (valOf l z) = true
theorem setC_len {l : List Pr} (ho : objsB l = true) {S : List ByteArray} (h : SetC l S) : S.length ≤ 60 := by
  have hs : ∀ z ∈ S, z ∈ l.map Prod.fst := by
    intro z hz
    obtain ⟨i, hi, e⟩ := has_at (has_rd (h.2 z hz))
    exact List.mem_map.2 ⟨l[i], List.getElem_mem hi, e⟩
  have h1 := nodup_len h.1 hs
  rw [List.length_map] at h1
  exact Nat.le_trans h1 (objsB_iff.1 ho).1
/-- what a walk from id adds: new ones, each once, reached; with all parents of them -/
structure Walked (l : List Pr) (S : List ByteArray) (id : ByteArray) (ext S' : List ByteArray) : Prop where
  set : SetC l S'
  mem : ∀ z, z ∈ S' ↔ z ∈ S ∨ z ∈ ext
  nod : ext.Nodup
  new : ∀ z ∈ ext, z ∉ S
  rch : ∀ z ∈ ext, Reach l id z
  clo : ∀ z ∈ ext, ∀ q ∈ parK l z, q ∈ S'
  has : rdOk (valOf l id) = true → id ∈ S'
theorem walked_none {l : List Pr} {S : List ByteArray} {id : ByteArray} (hS : SetC l S) (h : rdOk (valOf l id) = true → id ∈ S) : Walked l S id [] S :=
  ⟨hS, by simp, .nil, by simp, by simp, by simp, h⟩
/-- the walk at id, its first k parents behind it -/
structure Walking (l : List Pr) (S : List ByteArray) (id : ByteArray) (k : Nat) (ext S' : List ByteArray) : Prop where
  set : SetC l S'
  mem : ∀ z, z ∈ S' ↔ z ∈ S ∨ z = id ∨ z ∈ ext
  nod : ext.Nodup
  new : ∀ z ∈ ext, z ∉ S ∧ z ≠ id
  rch : ∀ z ∈ ext, Reach l id z
  clo : ∀ z ∈ ext, ∀ q ∈ parK l z, q ∈ S'
  par : ∀ i (h : i < (parK l id).length), i < k → (parK l id)[i] ∈ S'
theorem walking_start {l : List Pr} {S : List ByteArray} {id : ByteArray} (hS : SetC l S) (hr : rdOk (valOf l id) = true) (hn : id ∉ S) : Walking l S id 0 [] (S ++ [id]) := by
  refine ⟨⟨?_, ?_⟩, by simp, .nil, by simp, by simp, by simp, fun i h hk => absurd hk (by omega)⟩
  · rw [List.nodup_append]
    refine ⟨hS.1, by simp, ?_⟩
    intro x hx y hy e
    rw [List.mem_singleton] at hy
    subst hy e
    exact hn hx
  · intro z hz
    rw [List.mem_append, List.mem_singleton] at hz
    rcases hz with h | h
    · exact hS.2 z h
    · rw [h]; exact hr
theorem walking_step {l : List Pr} (hl : repoB l = true) {S : List ByteArray} {id : ByteArray} {k : Nat} {ext S' ext2 S2 : List ByteArray} (h : Walking l S id k ext S') (hk : k < (parK l id).length) (w : Walked l S' ((parK l id)[k]) ext2 S2) : Walking l S id (k + 1) (ext ++ ext2) S2 := by
  have hq : (parK l id)[k] ∈ parK l id := List.getElem_mem hk
  refine ⟨w.set, fun z => ?_, ?_, fun z hz => ?_, fun z hz => ?_, fun z hz q hqz => ?_, fun i hi hik => ?_⟩
  · rw [w.mem z, h.mem z, List.mem_append]
    constructor
    · rintro ((h1 | h1 | h1) | h1)
      · exact .inl h1
      · exact .inr (.inl h1)
      · exact .inr (.inr (.inl h1))
      · exact .inr (.inr (.inr h1))
    · rintro (h1 | h1 | h1 | h1)
      · exact .inl (.inl h1)
      · exact .inl (.inr (.inl h1))
      · exact .inl (.inr (.inr h1))
      · exact .inr h1
  · rw [List.nodup_append]
    refine ⟨h.nod, w.nod, ?_⟩
    intro x hx y hy e
    subst e
    exact w.new x hy ((h.mem x).2 (.inr (.inr hx)))
  · rcases List.mem_append.1 hz with h1 | h1
    · exact h.new z h1
    · have h2 := w.new z h1
      refine ⟨fun h3 => h2 ((h.mem z).2 (.inl h3)), fun h3 => h2 ((h.mem z).2 (.inr (.inl h3)))⟩
  · rcases List.mem_append.1 hz with h1 | h1
    · exact h.rch z h1
    · exact (Reach.self.next hq).trans (w.rch z h1)
  · rcases List.mem_append.1 hz with h1 | h1
    · exact (w.mem q).2 (.inl (h.clo z h1 q hqz))
    · exact w.clo z h1 q hqz
  · by_cases e : i = k
    · subst e
      exact w.has (parK_com hl hq)
    · exact (w.mem _).2 (.inl (h.par i hi (by omega)))
theorem walking_end {l : List Pr} {S : List ByteArray} {id : ByteArray} {ext S' : List ByteArray} (h : Walking l S id (parK l id).length ext S') (hn : id ∉ S) : Walked l S id (ext ++ [id]) S' := by
  refine ⟨h.set, fun z => ?_, ?_, fun z hz => ?_, fun z hz => ?_, fun z hz q hq => ?_, fun _ => (h.mem id).2 (.inr (.inl rfl))⟩
  · rw [h.mem z, List.mem_append, List.mem_singleton]
    constructor
    · rintro (h1 | h1 | h1)
      · exact .inl h1
      · exact .inr (.inr h1)
      · exact .inr (.inl h1)
    · rintro (h1 | h1 | h1)
      · exact .inl h1
      · exact .inr (.inr h1)
      · exact .inr (.inl h1)
  · rw [List.nodup_append]
    refine ⟨h.nod, by simp, ?_⟩
    intro x hx y hy e
    rw [List.mem_singleton] at hy
    subst hy e
    exact (h.new _ hx).2 rfl
  · rcases List.mem_append.1 hz with h1 | h1
    · exact (h.new z h1).1
    · rw [List.mem_singleton] at h1; subst h1; exact hn
  · rcases List.mem_append.1 hz with h1 | h1
    · exact h.rch z h1
    · rw [List.mem_singleton] at h1; subst h1; exact .self
  · rcases List.mem_append.1 hz with h1 | h1
    · exact h.clo z h1 q hq
    · rw [List.mem_singleton] at h1
      subst h1
      obtain ⟨i, hi, rfl⟩ := List.getElem_of_mem hq
      exact h.par i hi hi
/-- from nothing a walk adds just what is reached -/
theorem walked_all {l : List Pr} {id : ByteArray} {ext S' : List ByteArray} (h : Walked l [] id ext S') : ext.Nodup ∧ (∀ z ∈ ext, rdOk (valOf l z) = true) ∧ ∀ z, z ∈ ext ↔ rdOk (valOf l id) = true ∧ Reach l id z := by
  have hm : ∀ z, z ∈ S' ↔ z ∈ ext := fun z => by rw [h.mem z]; simp
  have hin : rdOk (valOf l id) = true → ∀ z, Reach l id z → z ∈ ext := fun hr z hz => by
    induction hz with
    | self => exact (hm id).1 (h.has hr)
    | next _ hq ih => exact (hm _).1 (h.clo _ ih _ hq)
  refine ⟨h.nod, fun z hz => h.set.2 z ((hm z).2 hz), fun z => ⟨fun hz => ⟨?_, h.rch z hz⟩, fun ⟨hr, hz⟩ => hin hr z hz⟩⟩
  · cases hr : rdOk (valOf l id)
    · have h1 := h.rch z hz
      have h2 : ∀ y, Reach l id y → y = id := by
        intro y hy
        induction hy with
        | self => rfl
        | next _ hq ih => rw [ih, parK_no hr] at hq; cases hq
      have h3 := h.set.2 z ((hm z).2 hz)
      rw [h2 z h1, hr] at h3
      cases h3
    · rfl
end Go.Proofs.YtmiknjccdcploaaGreatDoor
/-
  What a round of a range over behind keeps; the set of what was seen, in memory; the repository's commits as one function of their ids.
-/
namespace Go.Proofs.YtmiknjccdcploaaGreatDoor
open Go.RowKit Go.Maps

/-- boxes of repositories and of commits -/
def isBox (o : Obj) : Prop := (∃ c f, o = .cells c 88 f) ∨ (∃ c f, o = .cells c 139 f)
/-- nothing below block n₀ has turned, and no box -/
structure KB (n₀ : Nat) (W W' : World) : Prop where
  bel : Below n₀ W W'
  box : ∀ (k : Nat) (o : Obj), W.heap[k]? = some o → isBox o → W'.heap[k]? = some o
theorem KB.refl (n₀ : Nat) (W : World) : KB n₀ W W := ⟨Below.refl _ _, fun _ _ h _ => h⟩
theorem KB.trans {n₀ : Nat} {A B C : World} (h : KB n₀ A B) (k : KB n₀ B C) : KB n₀ A C := ⟨h.bel.trans k.bel, fun i o ho hk => k.box i o (h.box i o ho hk) hk⟩
theorem KB.alloc {n₀ : Nat} {W : World} (h : n₀ ≤ W.heap.size) (o : Obj) : KB n₀ W (W.alloc o) := ⟨(Below.refl _ _).alloc h o, fun k _ hk _ => (Below.heap_alloc W o k (Array.getElem?_eq_some_iff.1 hk).1).trans hk⟩
theorem KB.grown {n₀ r : Nat} {W W' : World} (hg : W.grownBy W' (some r)) (hr : n₀ ≤ r) (hs : n₀ ≤ W.heap.size) (ho : ∀ o, W.heap[r]? = some o → ¬ isBox o) : KB n₀ W W' := by
  refine ⟨⟨hg.os, hg.tape, hg.output, hg.size, fun k hk => hg.block k (by omega) (fun e => by injection e with e; omega)⟩, fun k o hk hk2 => ?_⟩
  refine (hg.block k (Array.getElem?_eq_some_iff.1 hk).1 (fun e => ?_)).trans hk
  injection e with e
  subst e
  exact ho o hk hk2
/-- what a round keeps: so, and maps from block n₁ on -/
structure Keep (n₀ n₁ : Nat) (W W' : World) : Prop extends KB n₀ W W' where
  mp : ∀ (k : Nat) (o : Obj), n₁ ≤ k → W.heap[k]? = some o → o.isWalk = true → W'.heap[k]? = some o
theorem Keep.refl (n₀ n₁ : Nat) (W : World) : Keep n₀ n₁ W W := ⟨KB.refl _ _, fun _ _ _ h _ => h⟩
theorem Keep.trans {n₀ n₁ : Nat} {A B C : World} (h : Keep n₀ n₁ A B) (k : Keep n₀ n₁ B C) : Keep n₀ n₁ A C := ⟨h.toKB.trans k.toKB, fun i o hi ho hw => k.mp i o hi (h.mp i o hi ho hw) hw⟩
theorem Keep.alloc {n₀ n₁ : Nat} {W : World} (h : n₀ ≤ W.heap.size) (o : Obj) : Keep n₀ n₁ W (W.alloc o) := ⟨KB.alloc h o, fun k _ _ hk _ => (Below.heap_alloc W o k (Array.getElem?_eq_some_iff.1 hk).1).trans hk⟩
theorem not_box {o : Obj} (h : o.isCells = false) : ¬ isBox o := by
  rintro (⟨c, f, rfl⟩ | ⟨c, f, rfl⟩) <;> cases h
theorem Keep.putObj {n₀ n₁ : Nat} (W : World) (l : Nat) (o o' : Obj) (hn : n₀ ≤ l) (hl : W.heap[l]? = some o) (hc : o.isCells = false) (hw : o.isWalk = false) : Keep n₀ n₁ W (W.putObj l o') := by
  have hg := grownBy_putObj' W l o'
  refine ⟨KB.grown hg hn (Nat.le_trans hn (Nat.le_of_lt (Array.getElem?_eq_some_iff.1 hl).1)) (fun o2 h => by rw [hl] at h; injection h with h; subst h; exact not_box hc), fun k o2 _ hk hk2 => ?_⟩
  by_cases e : k = l
  · subst e
    rw [hl] at hk
    injection hk with hk
    subst hk
    rw [hw] at hk2
    cases hk2
  · exact (hg.block k (Array.getElem?_eq_some_iff.1 hk).1 (fun e' => by injection e' with e'; exact e e')).trans hk
/-- a step that turns one block of cells, no box -/
theorem Keep.grown {n₀ n₁ r : Nat} {W W' : World} (hg : W.grownBy W' (some r)) (hr : n₀ ≤ r) (hs : n₀ ≤ W.heap.size) (ho : ∀ o, W.heap[r]? = some o → ¬ isBox o ∧ o.isCells = true) : Keep n₀ n₁ W W' := by
  refine ⟨KB.grown hg hr hs (fun o h => (ho o h).1), fun k o _ hk hw => ?_⟩
  refine (hg.block k (Array.getElem?_eq_some_iff.1 hk).1 (fun e => ?_)).trans hk
  injection e with e
  subst e
  have h1 := (ho o hk).2
  rw [Obj.not_cells_of_walk hw] at h1
  cases h1

/-- the set of what was seen -/
structure Seen (W : World) (bs : Nat) (S : List ByteArray) : Prop where
  map : HMap W bs S.length (S.map fun k => (k, .bool true))
  nod : S.Nodup
theorem seen_apart {S : List ByteArray} (h : S.Nodup) : (S.map fun k => (k, Value.bool true)).Pairwise fun x y => x.1 ≠ y.1 := List.pairwise_map.2 (h.imp fun hne e => hne e)
set_option maxRecDepth 100000 in
theorem Seen.look {W : World} {bs : Nat} {S : List ByteArray} (h : Seen W bs S) {k : ByteArray} (hk : k.size ≤ maxLen) :
    (Instr.lookup 132 (.map (some bs)) (.string k) false).run Tryz.prog W = .ok (.bool (memK S k)) W := by
  obtain ⟨v, h1, h2⟩ := h.map.get Tryz.underlying132 (z := .bool false) (by kernel_rfl) hk
  have e : v = .bool (memK S k) := by
    by_cases hm : k ∈ S
    · have h3 := (hD_hit (seen_apart h.nod) (show (k, Value.bool true) ∈ _ from List.mem_map.2 ⟨k, hm, rfl⟩)).2 (.held (.bool false))
      rw [h3] at h2
      injection h2 with h2
      rw [← h2, memK_iff.2 hm]
    · have h3 := (hD_miss (L := S.map fun k => (k, Value.bool true)) (k := k) (fun x hx e => by
        obtain ⟨z, hz, rfl⟩ := List.mem_map.1 hx
        exact hm (e ▸ hz))).2 (.held (.bool false))
      rw [h3] at h2
      injection h2 with h2
      rw [← h2, memK_no hm]
  rw [← e]
  exact h1
set_option maxRecDepth 100000 in
theorem Seen.store {W : World} {bs : Nat} {S : List ByteArray} (h : Seen W bs S) (hn : S.length < maxLen) {k : ByteArray} (hk : k.size ≤ maxLen) (hm : k ∉ S) :
    ∃ W', (Instr.mapUpdate 132 (.map (some bs)) (.string k) (.bool true)).run Tryz.prog W = .ok () W' ∧ Seen W' bs (S ++ [k]) ∧ W.grownBy W' (some bs) := by
  obtain ⟨W', h1, h2, h3⟩ := h.map.store Tryz.underlying132 hn hk (.bool true)
  refine ⟨W', h1, ⟨?_, ?_⟩, h3⟩
  · rw [List.map_append, List.length_append]
    exact h2
  · rw [List.nodup_append]
    refine ⟨h.nod, by simp, ?_⟩
    intro x hx y hy e
    rw [List.mem_singleton] at hy
    subst hy e
    exact hm hx
theorem Seen.obj {W : World} {bs : Nat} {S : List ByteArray} (h : Seen W bs S) : ∃ o : Obj, W.heap[bs]? = some o ∧ o.isWalk = true := by
  obtain ⟨⟨es, clock, hb, _⟩, _⟩ := h
  exact ⟨_, hb, rfl⟩
theorem Seen.same {W W' : World} {bs : Nat} {S : List ByteArray} (h : Seen W bs S) (hs : ∀ o, W.heap[bs]? = some o → W'.heap[bs]? = some o) : Seen W' bs S := by
  obtain ⟨⟨es, clock, hb, r⟩, n⟩ := h
  exact ⟨⟨es, clock, hs _ hb, r⟩, n⟩
theorem Seen.keep {n₀ n₁ : Nat} {W W' : World} {bs : Nat} {S : List ByteArray} (h : Seen W bs S) (hk : Keep n₀ n₁ W W') (hb : n₁ ≤ bs) : Seen W' bs S :=
  h.same fun o ho => by
    obtain ⟨o', ho', hw⟩ := h.obj
    rw [ho] at ho'
    injection ho' with e
    subst e
    exact hk.mp bs o hb ho hw

/-- a repository's commits, as one function of their ids -/
structure RepoW (w₀ : World) (B bm bc : Nat) (l : List Pr) (vs : List Value) (rA : ByteArray → Option Addr) (rC : ByteArray → Nat) : Prop where
  rep : repoB l = true
  mem : RepoM w₀ B bm bc 60 l vs
  com : ∀ W, Below w₀.heap.size w₀ W → ∀ k, k.size ≤ maxLen → (Instr.lookup 86 (.map (some bc)) (.string k) true).run Tryz.prog W = .ok (.tuple #[.agg #[.string (treK l k), .slice (rA k) (parK l k).length (rC k), .string (notK l k)], .bool (rdOk (valOf l k))]) W
  row : ∀ k, ZOwn w₀ B (rA k) (rC k) (parK l k)
set_option maxRecDepth 100000 in
theorem com_ex {w : World} {B bm bc n : Nat} {l : List Pr} {vs : List Value} (h : RepoM w B bm bc n l vs) (k : ByteArray) :
    ∃ A cap, (hD (comsE l vs)).atKey (keyL k) (.held (.agg #[.string ByteArray.empty, .slice none 0 0, .string ByteArray.empty])) = .held (.agg #[.string (treK l k), .slice A (parK l k).length cap, .string (notK l k)]) ∧ ZOwn w B A cap (parK l k) := by
  have hv : ∃ v, (hD (comsE l vs)).atKey (keyL k) (.held (.agg #[.string ByteArray.empty, .slice none 0 0, .string ByteArray.empty])) = .held v := by
    cases hh : has (hD (comsE l vs)) (keyL k)
    · exact ⟨_, atKey_of_not_has hh _⟩
    · obtain ⟨v, hm⟩ := hD_has hh
      exact ⟨v, (hD_hit (comsE_apart h.ris vs) hm).2 _⟩
  obtain ⟨v, hv⟩ := hv
  obtain ⟨A, cap, e, o⟩ := h.com k hv
  exact ⟨A, cap, by rw [hv, e]; rfl, o⟩
set_option maxRecDepth 100000 in
theorem RepoM.toW {w : World} {B bm bc : Nat} {l : List Pr} {vs : List Value} (h : RepoM w B bm bc 60 l vs) (hr : repoB l = true) : ∃ rA rC, RepoW w B bm bc l vs rA rC := by
  refine ⟨fun k => Classical.choose (com_ex h k), fun k => Classical.choose (Classical.choose_spec (com_ex h k)), hr, h, fun W hb k hk => ?_, fun k => (Classical.choose_spec (Classical.choose_spec (com_ex h k))).2⟩
  obtain ⟨v, h1, h2⟩ := (h.below hb).co.look Tryz.underlying86 (zeroC W) hk
  have h3 := (Classical.choose_spec (Classical.choose_spec (com_ex h k))).1
  rw [h3] at h2
  injection h2 with h2
  rw [has_coms h.ris h.len k, ← h2] at h1
  exact h1
end Go.Proofs.YtmiknjccdcploaaGreatDoor
/-
  What impl.repo's walk does with the rounds of a range over behind.
-/
namespace Go.Proofs.YtmiknjccdcploaaGreatDoor
open Go.RowKit Go.Shelf Go.Maps

attribute [local go_sem] Oper.semAt_some

theorem roomN {F : Fence} (hd : F.depth = none) (k : Nat) : F.room k := fun d h => by rw [hd] at h; cases h
theorem roundAny {F : Fence} (hd : F.depth = none) {m m' : Nat} {P : Program} {l : Nat} {f : FuncId} {tmps : Array Value} {assign body : Code} {w : World} {R : Ending → World → Prop}
    (h : RoundIn F m P l f tmps assign body w R) : RoundIn F m' P l f tmps assign body w R := ⟨h.1, fun c cs _ => h.2 c cs (roomN hd _)⟩
theorem yieldAny {F : Fence} (hd : F.depth = none) {m : Nat} (m' : Nat) {P : Program} {l : Nat} {args : Array Value} {W : World} {R : Ending → World → Prop} (h : YieldAt F m P l args W R) : YieldAt F m' P l args W R := by
  obtain ⟨fn, tmps, assign, body, hy, hR⟩ := h
  exact ⟨fn, tmps, assign, body, hy, roundAny hd hR⟩

/-- the commits of a repository, as rounds are handed them -/
abbrev ComI (l : List Pr) : Type := { k : ByteArray // rdOk (valOf l k) = true ∧ k.size ≤ maxLen }
def encC (l : List Pr) (tr nt : ByteArray → ByteArray) (pn : ByteArray → Nat) (rA : ByteArray → Option Addr) (rC : ByteArray → Nat) (x : ComI l) : Array Value := #[.string x.1, .agg #[.string (tr x.1), .slice (rA x.1) (pn x.1) (rC x.1), .string (nt x.1)]]
noncomputable def lenK (l : List Pr) (k : ByteArray) : Nat := (parK l k).length

set_option maxRecDepth 100000 in
set_option maxHeartbeats 2000000 in
theorem walk_in {w₀ : World} {B bm bc : Nat} {l : List Pr} {vs : List Value} {rA : ByteArray → Option Addr} {rC : ByteArray → Nat} (bt : Nat) (R : RepoW w₀ B bm bc l vs rA rC) (F : Fence) (hd : F.depth = none) (hf : F.fn 200) (hro : F.round = none) (lr n₁ base bs : Nat) (hn : w₀.heap.size ≤ n₁) (hnb : n₁ ≤ base) (hbs : base ≤ bs)
    (J Jx : List (ComI l) → World → Prop) (hJ : AbidesFrom base J)
    (hY : ∀ m pre x W, J pre W → pre.length < 60 → YieldAt F m Tryz.prog lr (encC l (treK l) (notK l) (lenK l) rA rC x) W fun e W' => (e = .returned (.bool true) ∧ J (pre ++ [x]) W' ∧ Keep w₀.heap.size n₁ W W') ∨ (e = .returned (.bool false) ∧ Jx (pre ++ [x]) W')) :
    ∀ (fuel n : Nat) (id : ByteArray) (S : List ByteArray) (pre : List (ComI l)) (W : World), 61 ≤ fuel + S.length → id.size ≤ maxLen → SetC l S → Seen W bs S → (pre.map fun z => z.1).Nodup → (∀ z ∈ pre, z.1 ∈ S) → base ≤ W.heap.size → Below w₀.heap.size w₀ W → J pre W →
      CallsIn F n Tryz.prog 200 #[.agg #[.map (some bt), .map (some bm), .map (some bc)], .string id, .map (some bs), .func (.yield lr) #[] #[]] W fun e W' =>
        (e = .returned (.bool true) ∧ ∃ ext S', Walked l S id (ext.map fun z => z.1) S' ∧ J (pre ++ ext) W' ∧ Seen W' bs S' ∧ KB w₀.heap.size W W') ∨ (e = .returned (.bool false) ∧ ∃ q : List (ComI l), (∀ z ∈ q, Reach l id z.1) ∧ Jx (pre ++ q) W') := by
  have hdd : ∀ k : Nat, (F.depth.isSome = true → 1 ≤ k) := fun k h => by rw [hd] at h; cases h
  have ho := (repoB_iff.1 R.rep).1
  intro fuel
  induction fuel with
  | zero =>
    intro n id S pre W hfu _ hS
    have := setC_len ho hS
    omega
  | succ fuel ih =>
    intro n id S pre W hfu hid hS hSe hpn hps hbW hbel hJ0
    have hbx : Below w₀.heap.size w₀ ((W.alloc (.cells #[.map (some bt), .map (some bm), .map (some bc)] 88))) := hbel.alloc hbel.size _
    have hlk := R.com _ hbx id hid
    have XR := hide (heap_alloc_new W (.cells #[.map (some bt), .map (some bm), .map (some bc)] 88))
    have x2 := cell_of_row _ _ 2 _ _ _ XR.out
    have bx := boxC_below (W.alloc (.cells #[.map (some bt), .map (some bm), .map (some bc)] 88)) (.string (treK l id)) (.slice (rA id) (parK l id).length (rC id)) (.string (notK l id))
    have XC := hide (boxC (W.alloc (.cells #[.map (some bt), .map (some bm), .map (some bc)] 88)) (treK l id) (notK l id) (rA id) (parK l id).length (rC id))
    have G2 : Hid (W.grownBy ((W.alloc (.cells #[.map (some bt), .map (some bm), .map (some bc)] 88)).alloc (.cells #[.string (treK l id), .slice (rA id) (parK l id).length (rC id), .string (notK l id)] 139)) none) := hide ((World.grownBy_alloc _ _ none).trans (World.grownBy_alloc _ _ none))
    have K2 : Hid (KB w₀.heap.size W ((W.alloc (.cells #[.map (some bt), .map (some bm), .map (some bc)] 88)).alloc (.cells #[.string (treK l id), .slice (rA id) (parK l id).length (rC id), .string (notK l id)] 139))) := hide ((KB.alloc hbel.size _).trans (KB.alloc hbx.size _))
    have J2 := hide (hJ _ _ _ none hJ0 G2.out (fun r e => by cases e))
    have SE2 : Hid (Seen ((W.alloc (.cells #[.map (some bt), .map (some bm), .map (some bc)] 88)).alloc (.cells #[.string (treK l id), .slice (rA id) (parK l id).length (rC id), .string (notK l id)] 139)) bs S) := hide (hSe.same fun o h => (G2.out.block bs (Array.getElem?_eq_some_iff.1 h).1 (by simp)).trans h)
    have hsl := SE2.out.look hid
    have hz := (R.row id).zin
    have PSZ := hide (fun (q : ByteArray) (h : q ∈ parK l id) => parK_size h)
    cases hr : rdOk (valOf l id)
    · have WN : Hid (Walked l S id [] S) := hide (walked_none hS (fun h => by rw [hr] at h; cases h))
      rw [hr] at hlk
      clear ih hY hz PSZ bx hbx XR XC G2 hsl
      generalize treK l id = tr at *
      generalize notK l id = nt at *
      generalize (parK l id).length = np at *
      refine callsIn_of_wp Tryz.func200 rfl hf ?_ hro
      simp only [Tryz.ntmps200, List.size_toArray, List.length_cons, List.length_nil, Nat.reduceAdd, Nat.reduceSub, Array.replicate_succ, Array.replicate_zero, List.push_toArray, List.append_toArray, List.nil_append, List.cons_append]
      gi_wp2
      go_ret
      exact .inl ⟨rfl, [], S, WN.out, by rw [List.append_nil]; exact J2.out, SE2.out, K2.out⟩
    · cases hm : memK S id
      · have hnin : id ∉ S := fun h => by rw [memK_iff.2 h] at hm; cases hm
        obtain ⟨W3, hst, se3, g3⟩ := SE2.out.store (by have := setC_len ho hS; unfold maxLen; omega) hid hnin
        have g3box : ∀ o, ((W.alloc (.cells #[.map (some bt), .map (some bm), .map (some bc)] 88)).alloc (.cells #[.string (treK l id), .slice (rA id) (parK l id).length (rC id), .string (notK l id)] 139)).heap[bs]? = some o → ¬ isBox o := fun o h => by
          obtain ⟨o', h', hw⟩ := SE2.out.obj
          rw [h] at h'
          injection h' with e
          subst e
          exact not_box (Obj.not_cells_of_walk hw)
        have KG := KB.grown (n₀ := w₀.heap.size) g3 (by omega) (Nat.le_trans hbel.size K2.out.bel.size) g3box
        have K3 := hide (K2.out.trans KG)
        have J3 := hide (hJ _ _ _ (some bs) J2.out g3 (fun r e => by injection e with e; subst e; exact ⟨hbs, SE2.out.obj⟩))
        have XR3 := hide (((KB.alloc hbx.size _).trans KG).box _ _ XR.out (.inl ⟨_, _, rfl⟩))
        have XC3 := hide (KG.box _ _ XC.out (.inr ⟨_, _, rfl⟩))
        have SE3 := hide se3
        have B3 := hide (hbel.trans K3.out.bel)
        have hs3 : base ≤ W3.heap.size := Nat.le_trans hbW K3.out.bel.size
        have WK0 := hide (walking_start hS hr hnin)
        have HN := hide hnin
        have YI : Hid (∀ m pre W, J pre W → pre.length < 60 → YieldAt F m Tryz.prog lr #[.string id, .agg #[.string (treK l id), .slice (rA id) (parK l id).length (rC id), .string (notK l id)]] W fun e W' => (e = .returned (.bool true) ∧ J (pre ++ [⟨id, hr, hid⟩]) W' ∧ Keep w₀.heap.size n₁ W W') ∨ (e = .returned (.bool false) ∧ Jx (pre ++ [⟨id, hr, hid⟩]) W')) := hide (fun m pre W h1 h2 => hY m pre ⟨id, hr, hid⟩ W h1 h2)
        have IH := hide ih
        have HS := hide hS
        have HPN := hide hpn
        have HPS := hide hps
        rw [hr] at hlk
        rw [hm] at hsl
        clear ih hY bx hbx XC XR G2 SE2 K2 J2 g3 se3 g3box KG hm hnin hbel hS hpn hps hJ0 hSe
        generalize treK l id = tr at *
        generalize notK l id = nt at *
        generalize rA id = A at *
        generalize rC id = c at *
        generalize hnp : (parK l id).length = np at hlk hsl hst K3 XR3 XC3 YI J3 B3 SE3 ⊢
        have NP := hide hnp
        clear hnp
        rw [World.size_alloc] at XC3
        have np2 : np ≤ 2 := by rw [← NP.out]; exact parK_len l id
        have z1 := cell_of_row _ _ 1 _ _ _ XC3.out
        refine callsIn_of_wp Tryz.func200 rfl hf ?_ hro
        simp only [Tryz.ntmps200, List.size_toArray, List.length_cons, List.length_nil, Nat.reduceAdd, Nat.reduceSub, Array.replicate_succ, Array.replicate_zero, List.push_toArray, List.append_toArray, List.nil_append, List.cons_append]
        gi_wp2
        gi_loopw [32] (fun iv wr => ∃ (k : Nat) (ext : List (ComI l)) (S' : List ByteArray), k ≤ np ∧ iv = .int .i64 k ∧ Hid (Walking l S id k (ext.map fun z => z.1) S') ∧ Hid (J (pre ++ ext) wr) ∧ Hid (Seen wr bs S') ∧ Hid (KB w₀.heap.size W3 wr)) (fun i _ => np - (intOf i).toNat)
        case atStart => exact ⟨0, [], S ++ [id], Nat.zero_le _, rfl, WK0, hide (by rw [List.append_nil]; exact J3.out), SE3, hide (KB.refl _ _)⟩
        case round =>
          obtain ⟨k, ext, S', hk, rfl, WK, JJ, SE, KK⟩ := hrel
          have belr := hide (B3.out.trans KK.out.bel)
          have hsr : base ≤ wr.heap.size := Nat.le_trans hs3 KK.out.bel.size
          have HPE : Hid (((pre ++ ext).map fun z => z.1).Nodup) := hide (by
            rw [List.map_append, List.nodup_append]
            refine ⟨HPN.out, WK.out.nod, ?_⟩
            intro x hx y hy e
            subst e
            obtain ⟨z, hz1, hz2⟩ := List.mem_map.1 hx
            exact (WK.out.new _ hy).1 (hz2 ▸ HPS.out z hz1))
          have HPM : Hid (∀ z ∈ pre ++ ext, z.1 ∈ S') := hide (fun z hz => by
            rcases List.mem_append.1 hz with h | h
            · exact (WK.out.mem _).2 (.inl (HPS.out z h))
            · exact (WK.out.mem _).2 (.inr (.inr (List.mem_map.2 ⟨z, h, rfl⟩))))
          have HL : S.length + 1 ≤ S'.length := by
            have h := nodup_len (S := S ++ [id]) (T := S') WK0.out.set.1 (fun z hz => by
              rcases List.mem_append.1 hz with h | h
              · exact (WK.out.mem _).2 (.inl h)
              · rw [List.mem_singleton] at h; exact (WK.out.mem _).2 (.inr (.inl h)))
            simpa using h
          by_cases hlt : k < np
          · have hkl : k < (parK l id).length := by rw [NP.out]; exact hlt
            obtain ⟨b, off, eA, hb, hc⟩ := hz (by omega)
            subst eA
            have c1 := (belr.out.cell (p := ⟨b, off + k, none⟩) hb).trans (hc k hkl)
            have XRr := hide (KK.out.box _ _ XR3.out (.inl ⟨_, _, rfl⟩))
            have x0 := cell_of_row _ _ 0 _ _ _ XRr.out
            have x1 := cell_of_row _ _ 1 _ _ _ XRr.out
            have x2' := cell_of_row _ _ 2 _ _ _ XRr.out
            have WS : Hid (∀ ext2 S2, Walked l S' ((parK l id)[k]'hkl) ext2 S2 → Walking l S id (k + 1) ((ext.map fun z => z.1) ++ ext2) S2) := hide (fun ext2 S2 h => walking_step R.rep WK.out hkl h)
            have qs := PSZ.out _ (List.getElem_mem hkl)
            have I1 := hide (IH.out (n - 1) ((parK l id)[k]'hkl) S' (pre ++ ext) wr (by omega) (by unfold maxLen; omega) WK.out.set SE.out HPE.out HPM.out hsr belr.out JJ.out)
            have RQ : Hid (∀ z, Reach l ((parK l id)[k]'hkl) z → Reach l id z) := hide (fun z h => (Reach.self.next (List.getElem_mem hkl)).trans h)
            have RE := hide WK.out.rch
            have HK1 := hide (show k + 1 ≤ np from hlt)
            clear hc WK HPE HPM IH SE JJ
            generalize (parK l id)[k]'hkl = q at *
            gi_wp2_with ((try refine ⟨hdd _, ?_⟩); gi_at_call 200; refine I1.out.mono ?_; rintro e W5 (⟨rfl, ext2, S2, hw5, hj5, se5, kb5⟩ | ⟨rfl, q2, hq2, hx5⟩))
            · have WW := hide (WS.out _ _ hw5)
              have J5 := hide hj5
              have SE5 := hide se5
              have KK5 := hide (KK.out.trans kb5)
              clear hw5 hj5 se5 kb5 I1
              go_roundw
              case rel => exact ⟨k + 1, ext ++ ext2, S2, HK1.out, by have := HK1.out; go_num, hide (by rw [List.map_append]; exact WW.out), hide (by rw [← List.append_assoc]; exact J5.out), SE5, KK5⟩
              case measure => have := HK1.out; simp [intOf]; omega
            · go_ret
              refine .inr ⟨rfl, ext ++ q2, fun z hz => ?_, by rw [← List.append_assoc]; exact hx5⟩
              rcases List.mem_append.1 hz with h | h
              · exact RE.out _ (List.mem_map.2 ⟨z, h, rfl⟩)
              · exact RQ.out _ (hq2 z h)
          · have ek : k = (parK l id).length := by rw [NP.out]; omega
            have WE : Hid (Walked l S id ((ext ++ [⟨id, hr, hid⟩] : List (ComI l)).map fun z => z.1) S') := hide (by
              rw [List.map_append]
              exact walking_end (by rw [← ek]; exact WK.out) HN.out)
            have hlen : (pre ++ ext).length < 60 := by
              have h1 : (((pre ++ ext).map fun z => z.1) ++ [id]).Nodup := by
                rw [List.nodup_append]
                refine ⟨HPE.out, by simp, ?_⟩
                intro x hx y hy e
                rw [List.mem_singleton] at hy
                subst hy e
                rw [List.map_append] at hx
                rcases List.mem_append.1 hx with h | h
                · obtain ⟨z, hz1, hz2⟩ := List.mem_map.1 h
                  exact HN.out (hz2 ▸ HPS.out z hz1)
                · exact (WK.out.new _ h).2 rfl
              have h2 := nodup_len (T := S') h1 (fun z hz => by
                rcases List.mem_append.1 hz with h | h
                · obtain ⟨y, hy1, hy2⟩ := List.mem_map.1 h
                  exact hy2 ▸ HPM.out y hy1
                · rw [List.mem_singleton] at h; rw [h]; exact (WK.out.mem _).2 (.inr (.inl rfl)))
              have h3 := setC_len ho WK.out.set
              rw [List.length_append, List.length_map, List.length_singleton] at h2
              omega
            have hgt : ¬ ((k : Int) < (np : Int)) := by omega
            have XCr := hide (KK.out.box _ _ XC3.out (.inr ⟨_, _, rfl⟩))
            have y0 := cell_of_row _ _ 0 _ _ _ XCr.out
            have y1 := cell_of_row _ _ 1 _ _ _ XCr.out
            have y2 := cell_of_row _ _ 2 _ _ _ XCr.out
            obtain ⟨fn, tmps, assign, body, hy, hR⟩ := YI.out (n - 1) (pre ++ ext) wr JJ.out hlen
            have RE := hide WK.out.rch
            have SEr := hide SE.out
            clear ek hlt YI IH WK HPE HPM JJ SE
            gi_wp2_with ((try refine ⟨hdd _, ?_⟩); refine hR.mono ?_; rintro e W5 (⟨rfl, hj5, kp5⟩ | ⟨rfl, hx5⟩))
            · go_ret
              exact .inl ⟨rfl, ext ++ [⟨id, hr, hid⟩], S', WE.out, by rw [← List.append_assoc]; exact hj5, SEr.out.keep kp5 (by omega), (K3.out.trans KK.out).trans kp5.toKB⟩
            · go_ret
              refine .inr ⟨rfl, ext ++ [⟨id, hr, hid⟩], fun z hz => ?_, by rw [← List.append_assoc]; exact hx5⟩
              rcases List.mem_append.1 hz with h | h
              · exact RE.out _ (List.mem_map.2 ⟨z, h, rfl⟩)
              · rw [List.mem_singleton] at h; subst h; exact .self
      · have WN : Hid (Walked l S id [] S) := hide (walked_none hS (fun _ => memK_iff.1 hm))
        rw [hr] at hlk
        rw [hm] at hsl
        clear ih hY hz PSZ bx hbx XR XC G2
        generalize treK l id = tr at *
        generalize notK l id = nt at *
        generalize (parK l id).length = np at *
        refine callsIn_of_wp Tryz.func200 rfl hf ?_ hro
        simp only [Tryz.ntmps200, List.size_toArray, List.length_cons, List.length_nil, Nat.reduceAdd, Nat.reduceSub, Array.replicate_succ, Array.replicate_zero, List.push_toArray, List.append_toArray, List.nil_append, List.cons_append]
        gi_wp2
        go_ret
        exact .inl ⟨rfl, [], S, WN.out, by rw [List.append_nil]; exact J2.out, SE2.out, K2.out⟩
end Go.Proofs.YtmiknjccdcploaaGreatDoor
/-
  What impl.repo's behind hands back: a value that ranges over what is behind a commit.
-/
namespace Go.Proofs.YtmiknjccdcploaaGreatDoor
open Go.RowKit Go.Shelf Go.Maps

attribute [local go_sem] Oper.semAt_some

/-- all have come · some of them have -/
def SAll (l : List Pr) (id : ByteArray) (xs : List (ComI l)) : Prop := (xs.map fun z => z.1).Nodup ∧ ∀ z, z ∈ (xs.map fun z => z.1) ↔ rdOk (valOf l id) = true ∧ Reach l id z
def SPart (l : List Pr) (id : ByteArray) (xs : List (ComI l)) : Prop := ∀ z ∈ xs, Reach l id z.1

set_option maxRecDepth 100000 in
set_option maxHeartbeats 1000000 in
theorem behind1_in {w₀ : World} {B bm bc : Nat} {l : List Pr} {vs : List Value} {rA : ByteArray → Option Addr} {rC : ByteArray → Nat} (bt : Nat) (R : RepoW w₀ B bm bc l vs rA rC) (F : Fence) (hd : F.depth = none) (h1 : F.fn 199) (hf : F.fn 200) (hro : F.round = none) (n lr n₁ br bi : Nat) (id : ByteArray) (hid : id.size ≤ maxLen) (W : World) (hn : w₀.heap.size ≤ n₁) (hnb : n₁ ≤ W.heap.size)
    (J Jx : List (ComI l) → World → Prop) (hJ : AbidesFrom W.heap.size J)
    (hY : ∀ pre x W, J pre W → pre.length < 60 → YieldAt F (n - 1) Tryz.prog lr (encC l (treK l) (notK l) (lenK l) rA rC x) W fun e W' => (e = .returned (.bool true) ∧ J (pre ++ [x]) W' ∧ Keep w₀.heap.size n₁ W W') ∨ (e = .returned (.bool false) ∧ Jx (pre ++ [x]) W'))
    (hbel : Below w₀.heap.size w₀ W) (hX : W.heap[br]? = some (.cells #[.map (some bt), .map (some bm), .map (some bc)] 88 (0, 0))) (hI : W.heap[bi]? = some (.cells #[.string id] 9 (0, 0))) (h0 : J [] W) :
    CallsIn F n Tryz.prog 199 #[.func (.yield lr) #[] #[], .pointer (some ⟨br, 0, none⟩), .pointer (some ⟨bi, 0, none⟩)] W fun e W' => (∃ v, e = .returned v) ∧ ((∃ xs, SAll l id xs ∧ J xs W') ∨ (∃ pre, SPart l id pre ∧ Jx pre W')) := by
  have hdd : ∀ k : Nat, (F.depth.isSome = true → 1 ≤ k) := fun k h => by rw [hd] at h; cases h
  have SE : Seen (W.alloc (.map #[] 0)) W.heap.size [] := ⟨hmap_made W, .nil⟩
  have hj1 := hJ _ _ _ none h0 (World.grownBy_alloc W (.map #[] 0) none) (fun r e => by cases e)
  have WK := hide (walk_in bt R F hd hf hro lr n₁ W.heap.size W.heap.size hn hnb (Nat.le_refl _) J Jx hJ (fun m pre x W hj hl => yieldAny hd m (hY pre x W hj hl)) 61 (n - 1) id [] [] (W.alloc (.map #[] 0)) (by simp) hid ⟨.nil, by simp⟩ SE .nil (by simp) (by simp) (hbel.alloc hbel.size _) hj1)
  have hmk := @run_makeMap Tryz.prog
  have x0 := cell_of_row _ _ 0 _ _ _ hX
  have x1 := cell_of_row _ _ 1 _ _ _ hX
  have x2 := cell_of_row _ _ 2 _ _ _ hX
  have y0 := cell_of_row _ _ 0 _ _ _ hI
  clear hY hJ hj1 h0 SE
  refine callsIn_of_wp Tryz.func199 rfl h1 ?_ hro
  simp only [Tryz.ntmps199, List.size_toArray, List.length_cons, List.length_nil, Nat.reduceAdd, Nat.reduceSub, Array.replicate_succ, Array.replicate_zero, List.push_toArray, List.append_toArray, List.nil_append, List.cons_append]
  gi_wp2_with ((try refine ⟨hdd _, ?_⟩); gi_at_call 200; refine WK.out.mono ?_; clear WK; rintro e W1 (⟨rfl, ext, S', hw, hj, _⟩ | ⟨rfl, q, hq, hx⟩))
  · go_end0
    obtain ⟨a1, _, a3⟩ := walked_all hw
    exact ⟨⟨_, rfl⟩, .inl ⟨ext, ⟨a1, a3⟩, by simpa using hj⟩⟩
  · go_end0
    exact ⟨⟨_, rfl⟩, .inr ⟨q, hq, by simpa using hx⟩⟩

set_option maxRecDepth 100000 in
set_option maxHeartbeats 1000000 in
theorem behind_in (F : Fence) (hf : F.fn 146) (hro : F.round = none) (n bt bm bc : Nat) (id : ByteArray) (w : World) :
    CallsIn F n Tryz.prog 146 #[.agg #[.map (some bt), .map (some bm), .map (some bc)], .string id] w fun e w' => e = .returned (.func (.func 199) #[] #[.pointer (some ⟨w.heap.size, 0, none⟩), .pointer (some ⟨w.heap.size + 1, 0, none⟩)]) ∧ w' = (w.alloc (.cells #[.map (some bt), .map (some bm), .map (some bc)] 88)).alloc (.cells #[.string id] 9) := by
  refine callsIn_of_wp Tryz.func146 rfl hf ?_ hro
  simp only [Tryz.ntmps146, List.size_toArray, List.length_cons, List.length_nil, Nat.reduceAdd, Nat.reduceSub, Array.replicate_succ, Array.replicate_zero, List.push_toArray, List.append_toArray, List.nil_append, List.cons_append]
  gi_wp2
  go_ret
  exact ⟨rfl, rfl⟩

theorem behind_stops {w₀ : World} {B bm bc : Nat} {l : List Pr} {vs : List Value} {rA : ByteArray → Option Addr} {rC : ByteArray → Nat} (bt : Nat) (R : RepoW w₀ B bm bc l vs rA rC) (F : Fence) (hd : F.depth = none) (h1 : F.fn 199) (hf : F.fn 200) (hro : F.round = none) (n n₁ br bi : Nat) (id : ByteArray) (hid : id.size ≤ maxLen) (w : World) (hn : w₀.heap.size ≤ n₁) (hnb : n₁ ≤ w.heap.size) (hbel : Below w₀.heap.size w₀ w)
    (hX : w.heap[br]? = some (.cells #[.map (some bt), .map (some bm), .map (some bc)] 88 (0, 0))) (hI : w.heap[bi]? = some (.cells #[.string id] 9 (0, 0))) :
    SeqStopsK F n Tryz.prog 199 #[.pointer (some ⟨br, 0, none⟩), .pointer (some ⟨bi, 0, none⟩)] (encC l (treK l) (notK l) (lenK l) rA rC) (Keep w₀.heap.size n₁) (SAll l id) (SPart l id) 60 w := fun lr J Jx W hW hJ _ hY h0 =>
  behind1_in bt R F hd h1 hf hro n lr n₁ br bi id hid W hn (Nat.le_trans hnb hW.size) J Jx hJ hY (hbel.trans (hW.mono hbel.size)) ((hW.block br (Array.getElem?_eq_some_iff.1 hX).1).trans hX) ((hW.block bi (Array.getElem?_eq_some_iff.1 hI).1).trans hI) h0
end Go.Proofs.YtmiknjccdcploaaGreatDoor
/-
  What the reference makes of what is behind: a rising list that grows till nothing is new.
-/
namespace Go.Proofs.YtmiknjccdcploaaGreatDoor
open Go.RowKit

noncomputable def stepK (l : List Pr) (out : List ByteArray) : List ByteArray := (out.flatMap (parK l)).foldl putK out
noncomputable def growK (l : List Pr) (ids : List ByteArray) : Nat → List ByteArray
  | 0 => ids
  | n + 1 => stepK l (growK l ids n)
theorem mem_puts : ∀ (L out : List ByteArray) (t : ByteArray), t ∈ L.foldl putK out ↔ t ∈ out ∨ t ∈ L
  | [], out, t => by simp
  | s :: L, out, t => by
    rw [List.foldl_cons, mem_puts L, mem_putK, List.mem_cons]
    constructor
    · rintro ((h | h) | h)
      · exact .inl h
      · exact .inr (.inl h)
      · exact .inr (.inr h)
    · rintro (h | h | h)
      · exact .inl (.inl h)
      · exact .inl (.inr h)
      · exact .inr h
theorem risK_puts : ∀ (L : List ByteArray) {out : List ByteArray}, RisK out → RisK (L.foldl putK out)
  | [], _, h => h
  | s :: L, _, h => risK_puts L (risK_put h s)
theorem risK_nodup {l : List ByteArray} (h : RisK l) : l.Nodup := h.imp fun {a b} hlt e => by subst e; rw [ltB_irrefl] at hlt; cases hlt
theorem mem_step {l : List Pr} {out : List ByteArray} {t : ByteArray} : t ∈ stepK l out ↔ t ∈ out ∨ ∃ k ∈ out, t ∈ parK l k := by
  unfold stepK
  rw [mem_puts, List.mem_flatMap]
/-- rising commits -/
def RisC (l : List Pr) (out : List ByteArray) : Prop := RisK out ∧ ∀ z ∈ out, rdOk (valOf l z) = true
theorem RisC.set {l : List Pr} {out : List ByteArray} (h : RisC l out) : SetC l out := ⟨risK_nodup h.1, h.2⟩
theorem RisC.len {l : List Pr} (ho : objsB l = true) {out : List ByteArray} (h : RisC l out) : out.length ≤ 60 := setC_len ho h.set
theorem setC_le {l : List Pr} {S : List ByteArray} (h : SetC l S) : S.length ≤ l.length := by
  have h1 := nodup_len h.1 (fun z hz => by
    obtain ⟨i, hi, e⟩ := has_at (has_rd (h.2 z hz))
    exact List.mem_map.2 ⟨l[i], List.getElem_mem hi, e⟩ : ∀ z ∈ S, z ∈ l.map Prod.fst)
  rw [List.length_map] at h1
  exact h1
theorem risC_puts {l : List Pr} {L out : List ByteArray} (h : RisC l out) (hL : ∀ z ∈ L, rdOk (valOf l z) = true) : RisC l (L.foldl putK out) :=
  ⟨risK_puts L h.1, fun z hz => ((mem_puts L out z).1 hz).elim (h.2 z) (hL z)⟩
theorem risC_step {l : List Pr} (hl : repoB l = true) {out : List ByteArray} (h : RisC l out) : RisC l (stepK l out) := risC_puts h (fun z hz => by
  obtain ⟨k, _, hk⟩ := List.mem_flatMap.1 hz
  exact parK_com hl hk)
theorem risC_grow {l : List Pr} (hl : repoB l = true) {ids : List ByteArray} (h : RisC l ids) : ∀ n, RisC l (growK l ids n)
  | 0 => h
  | n + 1 => risC_step hl (risC_grow hl h n)
def ClosedK (l : List Pr) (out : List ByteArray) : Prop := ∀ k ∈ out, ∀ q ∈ parK l k, q ∈ out
theorem step_longer {l : List Pr} {out : List ByteArray} (h : RisC l out) : ClosedK l out ∨ out.length + 1 ≤ (stepK l out).length := by
  by_cases hc : ClosedK l out
  · exact .inl hc
  · right
    have hx : ∃ k, k ∈ out ∧ ∃ q, q ∈ parK l k ∧ q ∉ out := by
      apply Classical.byContradiction
      intro hn
      refine hc fun k hk q hq => ?_
      apply Classical.byContradiction
      intro hq2
      exact hn ⟨k, hk, q, hq, hq2⟩
    obtain ⟨k, hk, q, hq, hn⟩ := hx
    have h1 : (q :: out).Nodup := List.nodup_cons.2 ⟨hn, risK_nodup h.1⟩
    have h2 := nodup_len (T := stepK l out) h1 (fun z hz => by
      rcases List.mem_cons.1 hz with e | e
      · subst e; exact mem_step.2 (.inr ⟨k, hk, hq⟩)
      · exact mem_step.2 (.inl e))
    simpa using h2
theorem closed_step {l : List Pr} {out : List ByteArray} (h : ClosedK l out) : ClosedK l (stepK l out) := by
  intro k hk q hq
  rcases mem_step.1 hk with h1 | ⟨x, hx, h1⟩
  · exact mem_step.2 (.inl (h k h1 q hq))
  · exact mem_step.2 (.inl (h k (h x hx k h1) q hq))
theorem grow_closed {l : List Pr} (hl : repoB l = true) {id : ByteArray} (hr : rdOk (valOf l id) = true) : ∀ n, ClosedK l (growK l [id] n) ∨ n + 1 ≤ (growK l [id] n).length
  | 0 => .inr (Nat.le_refl _)
  | n + 1 => by
    have h0 : RisC l [id] := ⟨List.pairwise_singleton .., fun z hz => by rw [List.mem_singleton] at hz; subst hz; exact hr⟩
    rcases grow_closed hl hr n with h | h
    · exact .inl (closed_step h)
    · rcases step_longer (risC_grow hl h0 n) with h1 | h1
      · exact .inl (closed_step h1)
      · exact .inr (Nat.le_trans (Nat.succ_le_succ h) h1)
theorem grow_reach {l : List Pr} {id : ByteArray} : ∀ n, ∀ z ∈ growK l [id] n, Reach l id z
  | 0, z, hz => by
    have : z = id := by simpa [growK] using hz
    subst this
    exact .self
  | n + 1, z, hz => by
    rcases mem_step.1 hz with h | ⟨k, hk, h⟩
    · exact grow_reach n z h
    · exact (grow_reach n k hk).next h
theorem grow_has {l : List Pr} {id : ByteArray} : ∀ n, id ∈ growK l [id] n
  | 0 => by simp [growK]
  | n + 1 => mem_step.2 (.inl (grow_has n))
theorem grow_mem {l : List Pr} (hl : repoB l = true) {id : ByteArray} (hr : rdOk (valOf l id) = true) (z : ByteArray) : z ∈ growK l [id] (l.length + 1) ↔ Reach l id z := by
  refine ⟨grow_reach _ z, fun h => ?_⟩
  have h0 : RisC l [id] := ⟨List.pairwise_singleton .., fun z hz => by rw [List.mem_singleton] at hz; subst hz; exact hr⟩
  have hc : ClosedK l (growK l [id] (l.length + 1)) := by
    rcases grow_closed hl hr (l.length + 1) with h1 | h1
    · exact h1
    · have := setC_le (risC_grow hl h0 (l.length + 1)).set
      omega
  induction h with
  | self => exact grow_has _
  | next _ hq ih => exact hc _ ih _ hq
/-- what is behind a commit, rising -/
noncomputable def ancK (l : List Pr) (id : ByteArray) : List ByteArray := if repoB l = true ∧ rdOk (valOf l id) = true then growK l [id] (l.length + 1) else []
theorem ancK_yes {l : List Pr} {id : ByteArray} (hl : repoB l = true) (hr : rdOk (valOf l id) = true) : ancK l id = growK l [id] (l.length + 1) := if_pos ⟨hl, hr⟩
theorem ancK_no {l : List Pr} {id : ByteArray} (h : ¬ (repoB l = true ∧ rdOk (valOf l id) = true)) : ancK l id = [] := if_neg h
theorem ancK_ris (l : List Pr) (id : ByteArray) : RisC l (ancK l id) := by
  by_cases h : repoB l = true ∧ rdOk (valOf l id) = true
  · rw [ancK_yes h.1 h.2]
    exact risC_grow h.1 ⟨List.pairwise_singleton .., fun z hz => by rw [List.mem_singleton] at hz; subst hz; exact h.2⟩ _
  · rw [ancK_no h]
    exact ⟨.nil, by simp⟩
theorem ancK_mem {l : List Pr} {id z : ByteArray} : z ∈ ancK l id ↔ repoB l = true ∧ rdOk (valOf l id) = true ∧ Reach l id z := by
  by_cases h : repoB l = true ∧ rdOk (valOf l id) = true
  · rw [ancK_yes h.1 h.2, grow_mem h.1 h.2]
    exact ⟨fun h1 => ⟨h.1, h.2, h1⟩, fun h1 => h1.2.2⟩
  · rw [ancK_no h]
    exact ⟨(fun h1 => by cases h1), fun h1 => absurd ⟨h1.1, h1.2.1⟩ h⟩
theorem ancK_len (l : List Pr) (id : ByteArray) : (ancK l id).length ≤ 60 := by
  by_cases h : repoB l = true ∧ rdOk (valOf l id) = true
  · exact (ancK_ris l id).len (repoB_iff.1 h.1).1
  · rw [ancK_no h]; simp
end Go.Proofs.YtmiknjccdcploaaGreatDoor
/-
  What spec.l4Commit answers.
-/
namespace Go.Proofs.YtmiknjccdcploaaGreatDoor
open Go.RowKit

set_option maxRecDepth 100000 in
set_option maxHeartbeats 1000000 in
theorem l4Commit_sz (A : Option Addr) (l : List Pr) (cap : Nat) (key : ByteArray) (w : World) (B : Nat) (hB : B ≤ w.heap.size) (hz : (valOf l key).size ≤ 1048576) (hl : l.length ≤ maxLen) (hin : PIn w B A l) :
    Calls Tryz.prog 107 #[.slice A l.length cap, .string key] w (RetCom (valOf l key) w) := by
  have b0 := (Below.refl w.heap.size w).alloc (Nat.le_refl _) (.cells #[.string ByteArray.empty, .slice none 0 0, .string ByteArray.empty] 139)
  have B0 := hide b0
  have X0 : Hid ((w.alloc (.cells #[.string ByteArray.empty, .slice none 0 0, .string ByteArray.empty] 139)).heap[w.heap.size]? = some (C3 ByteArray.empty none 0 0 ByteArray.empty)) := hide (heap_alloc_new w _)
  have S0 : Hid ((w.alloc (.cells #[.string ByteArray.empty, .slice none 0 0, .string ByteArray.empty] 139)).heap.size = w.heap.size + 1) := hide (by simp)
  have IN := hide ((hin.more hB).below b0)
  have F := hide (l3Find_any A l cap key _ w.heap.size hl IN.out)
  have Z : Hid (hasB l key = false → valOf l key = ByteArray.empty) := hide (fun h => valOf_no h)
  clear b0 hin
  generalize hn : l.length = n at *
  go_enter Tryz.func107, Tryz.ntmps107
  go_wp2_with fail
  refine F.out.mono ?_
  rintro e w1 ⟨rfl, hw1⟩
  have B1 : Hid (Below w.heap.size w w1) := hide (by rw [← hw1]; exact B0.out)
  have X1 : Hid (w1.heap[w.heap.size]? = some (C3 ByteArray.empty none 0 0 ByteArray.empty)) := hide (by rw [← hw1]; exact X0.out)
  have hs1 : w.heap.size + 1 ≤ w1.heap.size := by rw [← hw1, S0.out]; exact Nat.le_refl _
  clear hw1 F IN B0 X0 S0
  cases hb : hasB l key
  · have ZE := hide (Z.out hb)
    have g0 := cell_of_row _ _ 0 _ _ _ X1.out
    have g1 := cell_of_row _ _ 1 _ _ _ X1.out
    have g2 := cell_of_row _ _ 2 _ _ _ X1.out
    have k0 := frozen_of_row _ _ 0 _ _ X1.out
    have k1 := frozen_of_row _ _ 1 _ _ X1.out
    have k2 := frozen_of_row _ _ 2 _ _ X1.out
    have N : Hid (RetCom (valOf l key) w (.returned (.tuple #[.agg #[.string ByteArray.empty, .slice none 0 0, .string ByteArray.empty], .bool false])) (((w1.setCell ⟨w.heap.size, 0, none⟩ (.string ByteArray.empty)).setCell ⟨w.heap.size, 1, none⟩ (.slice none 0 0)).setCell ⟨w.heap.size, 2, none⟩ (.string ByteArray.empty))) := hide (by
      rw [ZE.out]
      obtain ⟨e1, e2⟩ := rd_no com_empty
      exact ⟨none, 0, by rw [e2, e1]; rfl, by rw [e2]; exact ZOwn.nil _ _, ((B1.out.setCell (p := ⟨w.heap.size, 0, none⟩) (Nat.le_refl _) _).setCell (p := ⟨w.heap.size, 1, none⟩) (Nat.le_refl _) _).setCell (p := ⟨w.heap.size, 2, none⟩) (Nat.le_refl _) _⟩)
    generalize valOf l key = t at *
    go_wp2
    exact bodyPost_ret (v := .tuple #[.agg #[.string ByteArray.empty, .slice none 0 0, .string ByteArray.empty], .bool false]) (by simp [results, Tryz.results107, go_sem, g0, g1, g2]; rfl) rfl N.out
  · generalize valOf l key = t at *
    go_wp2_with fail
    refine (specReadCommit_any t w1 (by omega)).mono ?_
    rintro e w2 ⟨A2, cap2, rfl, own2, b2⟩
    have X2 := hide ((b2.block w.heap.size (by omega)).trans X1.out)
    have B2 := hide (B1.out.trans (b2.mono (by omega)))
    have r2 := own2.row
    have O2 := hide own2
    have g0 := cell_of_row _ _ 0 _ _ _ X2.out
    have g1 := cell_of_row _ _ 1 _ _ _ X2.out
    have g2 := cell_of_row _ _ 2 _ _ _ X2.out
    have k0 := frozen_of_row _ _ 0 _ _ X2.out
    have k1 := frozen_of_row _ _ 1 _ _ X2.out
    have k2 := frozen_of_row _ _ 2 _ _ X2.out
    clear own2 b2
    have N : Hid (RetCom t w (.returned (.tuple #[.agg #[.string (rdC t).1, .slice A2 (rdC t).2.1.length cap2, .string (rdC t).2.2], .bool (rdOk t)])) (((w2.setCell ⟨w.heap.size, 0, none⟩ (.string (rdC t).1)).setCell ⟨w.heap.size, 1, none⟩ (.slice A2 (rdC t).2.1.length cap2)).setCell ⟨w.heap.size, 2, none⟩ (.string (rdC t).2.2))) := hide (by
      refine ⟨A2, cap2, rfl, ?_, ((B2.out.setCell (p := ⟨w.heap.size, 0, none⟩) (Nat.le_refl _) _).setCell (p := ⟨w.heap.size, 1, none⟩) (Nat.le_refl _) _).setCell (p := ⟨w.heap.size, 2, none⟩) (Nat.le_refl _) _⟩
      have hne : rowOf A2 ≠ some w.heap.size := fun e => by have := (r2 _ e).1; omega
      have gs : ∀ (W : World) (o : Nat) (v : Value), W.grownBy (W.setCell ⟨w.heap.size, o, none⟩ v) (some w.heap.size) := fun W o v => ⟨rfl, rfl, rfl, by simp [World.setCell], fun k _ hk => Below.heap_setCell W ⟨w.heap.size, o, none⟩ v k (fun e => hk (by rw [e]))⟩
      exact ((((O2.out.kept (gs _ _ _) hne).kept (gs _ _ _) hne).kept (gs _ _ _) hne)).more (by omega))
    generalize (rdC t).1 = c1 at *
    generalize (rdC t).2.2 = c3 at *
    generalize (rdC t).2.1.length = c2 at *
    generalize rdOk t = ok at *
    go_wp2
    exact bodyPost_ret (v := .tuple #[.agg #[.string c1, .slice A2 c2 cap2, .string c3], .bool ok]) (by simp [results, Tryz.results107, go_sem, g0, g1, g2]) rfl N.out
theorem l4Commit_any (A : Option Addr) (l : List Pr) (cap : Nat) (key : ByteArray) (w : World) (B : Nat) (hB : B ≤ w.heap.size) (ho : objsB l = true) (hl : l.length ≤ maxLen) (hin : PIn w B A l) :
    Calls Tryz.prog 107 #[.slice A l.length cap, .string key] w (RetCom (valOf l key) w) := l4Commit_sz A l cap key w B hB (by have := valOf_size ho key; omega) hl hin
end Go.Proofs.YtmiknjccdcploaaGreatDoor
/-
  What spec.l1Put answers exactly: the rising list with one more; the row is the call's own or the argument's.
-/
namespace Go.Proofs.YtmiknjccdcploaaGreatDoor
open Go.RowKit

def PutXRet (B : Nat) (l : List ByteArray) (w : World) (e : Ending) (w' : World) : Prop := ∃ A cap, e = .returned (.slice A l.length cap) ∧ ZOwn w' B A cap l ∧ Below w.heap.size w w'
set_option maxRecDepth 100000 in
set_option maxHeartbeats 2000000 in
theorem l1PutX_any (A : Option Addr) (l : List ByteArray) (cap : Nat) (s : ByteArray) (w : World) (B : Nat) (hl : l.length ≤ 1000) (hown : ZOwn w B A cap l) (hB : B ≤ w.heap.size) :
    Calls Tryz.prog 84 #[.slice A l.length cap, .string s] w (PutXRet B (putK l s) w) := by
  have O := hide hown
  have IN := hide hown.zin
  have hcap := hown.cap_le
  clear hown
  generalize hn : l.length = n at *
  have HN := hide hn
  clear hn
  go_enter Tryz.func84, Tryz.ntmps84
  go_wp2
  go_loop [5] (fun i => ∃ k : Nat, k ≤ n ∧ i = .int .i64 k ∧ Hid (∀ i (hi : i < l.length), i < k → ltB l[i] s = true)) (fun i => n - (intOf i).toNat)
  case atStart => exact ⟨0, Nat.zero_le _, rfl, hide (fun _ _ h => absurd h (by omega))⟩
  case round =>
    obtain ⟨k, hk, rfl, H⟩ := hrel
    have LAST : ∀ (A' : Option Addr), A = A' → True := fun _ _ => trivial
    by_cases hlt : k < n
    · have hkl : k < l.length := by rw [HN.out]; omega
      obtain ⟨b, off, rfl, hbB, hc⟩ := IN.out (by omega)
      have c1 := hc k hkl
      have hki : (k : Int) < (n : Int) := by omega
      have MM : Hid (l[k]'hkl ∈ l) := hide (List.getElem_mem hkl)
      have K1 := run_cutZ_h 24 Tryz.underlying24 (some ⟨b, off, none⟩) n cap k (by omega)
      have K2 := run_cutZ_l 24 Tryz.underlying24 (some ⟨b, off, none⟩) n cap k (by omega)
      have IN1 := hide (IN.out.take cap k)
      have IN2 := hide (IN.out.drop (cap := cap) (by rw [HN.out]; exact hcap) k)
      have E1 := hide (show (l.take k).length = k by rw [List.length_take]; omega)
      have E2 := hide (show (l.drop k).length = n - k by rw [List.length_drop, HN.out])
      have E3 : Hid ((([] ++ l.take k) ++ [s]) ++ l.drop k = l.take k ++ s :: l.drop k) := hide (by simp)
      have PT := hide (fun h => putK_there l s k hkl H.out h)
      have PN := hide (fun h => putK_new l s k (by omega) H.out h)
      have NX : Hid (ltB (l[k]'hkl) s = true → ∀ i (hi : i < l.length), i < k + 1 → ltB l[i] s = true) := hide (fun h i hi hik => by
        rcases Nat.lt_or_ge i k with g | g
        · exact H.out i hi g
        · obtain rfl : i = k := by omega
          exact h)
      have PN2 : Hid (ltB (l[k]'hkl) s = false → ¬ l[k]'hkl = s → putK l s = l.take k ++ s :: l.drop k) := hide (fun h1 h2 => PN.out (fun _ => ⟨h1, h2⟩))
      clear hc LAST PN H
      generalize l[k]'hkl = x at *
      cases hs : Op.bytesLess x.toList s.toList
      · by_cases he : x = s
        · have e1 := eqS_yes he
          have PE := hide (PT.out he)
          clear he
          go_wp2
          go_ret
          rw [PE.out]
          exact ⟨_, cap, by rw [HN.out]; rfl, O.out, Below.refl _ _⟩
        · have e1 := eqS_no he
          have PE := hide (PN2.out hs he)
          have O1 := hide (ZOwn.built w w.heap.size (Nat.le_refl _))
          have B2 := hide ((Below.refl w.heap.size w).alloc (Nat.le_refl _) (.cells #[] 9))
          clear he
          go_wp2_with (first
            | (at_builtin; refine wpList_appZ 24 Tryz.underlying24 rfl (.tmp 34) (.tmp 37) rfl rfl rfl rfl E1.out.symm O1.out (IN1.out.below B2.out) B2.out.size (by rw [E1.out]; simp; omega) ?_; intro A3 cap3 w3 own3 g3 r3; have B3 := hide (B2.out.trans (O1.out.grownBelow g3 B2.out.size)); have O3 := hide own3; clear own3 g3 r3)
            | (at_builtin; refine wpList_appZ (l' := [s]) 24 Tryz.underlying24 rfl (.tmp 39) (.tmp 41) rfl rfl rfl (by simp) rfl (O3.out.alloc _) (ZIn.one s _ rfl) (Nat.le_trans B3.out.size (by simp)) (by rw [List.length_append, E1.out]; simp; omega) ?_; intro A4 cap4 w4 own4 g4 r4; have b4 := (O3.out.alloc (.cells #[Value.string s] 9)).grownBelow g4 (Nat.le_trans B3.out.size (by simp)); have b4' := ((Below.refl w.heap.size w3).alloc B3.out.size (.cells #[Value.string s] 9)).trans b4; have B4 := hide (B3.out.trans b4'); have O4 := hide own4; clear own4 g4 r4 b4 b4')
            | (at_builtin; refine wpList_appZ 24 Tryz.underlying24 rfl (.tmp 43) (.tmp 46) rfl rfl rfl (by simp) E2.out.symm O4.out (IN2.out.below B4.out) B4.out.size (by rw [List.length_append, List.length_append, E1.out, E2.out]; simp; omega) ?_; intro A5 cap5 w5 own5 g5 r5; have b5 := O4.out.grownBelow g5 B4.out.size; have B5 := hide (B4.out.trans b5); have O5 := hide own5; clear own5 g5 r5 b5))
          go_ret
          have O6 := O5.out
          rw [E3.out] at O6
          rw [PE.out]
          exact ⟨A5, cap5, by rw [← E3.out]; simp, O6.more hB, B5.out⟩
      · have NX2 := hide (NX.out hs)
        clear IN1 IN2 K1 K2
        go_wp2
        go_round
        case rel => exact ⟨k + 1, by omega, by go_num, NX2⟩
        case measure => simp [intOf]; omega
    · obtain rfl : k = n := by omega
      have hkk : ¬ (k : Int) < (k : Int) := by omega
      have PE := hide (putK_new l s k (by rw [HN.out]; exact Nat.le_refl _) H.out (fun h => absurd h (by rw [HN.out]; omega)))
      have K1 := run_cutZ_h 24 Tryz.underlying24 A k cap k (by omega)
      have K2 := run_cutZ_l 24 Tryz.underlying24 A k cap k (by omega)
      have IN1 := hide (IN.out.take cap k)
      have IN2 := hide (IN.out.drop (cap := cap) (by rw [HN.out]; exact hcap) k)
      have E1 := hide (show (l.take k).length = k by rw [List.length_take]; rw [HN.out]; omega)
      have E2 := hide (show (l.drop k).length = k - k by rw [List.length_drop, HN.out])
      have E3 : Hid ((([] ++ l.take k) ++ [s]) ++ l.drop k = l.take k ++ s :: l.drop k) := hide (by simp)
      have O1 := hide (ZOwn.built w w.heap.size (Nat.le_refl _))
      have B2 := hide ((Below.refl w.heap.size w).alloc (Nat.le_refl _) (.cells #[] 9))
      clear hlt LAST
      go_wp2_with (first
        | (at_builtin; refine wpList_appZ 24 Tryz.underlying24 rfl (.tmp 34) (.tmp 37) rfl rfl rfl rfl E1.out.symm O1.out (IN1.out.below B2.out) B2.out.size (by rw [E1.out]; simp; omega) ?_; intro A3 cap3 w3 own3 g3 r3; have B3 := hide (B2.out.trans (O1.out.grownBelow g3 B2.out.size)); have O3 := hide own3; clear own3 g3 r3)
        | (at_builtin; refine wpList_appZ (l' := [s]) 24 Tryz.underlying24 rfl (.tmp 39) (.tmp 41) rfl rfl rfl (by simp) rfl (O3.out.alloc _) (ZIn.one s _ rfl) (Nat.le_trans B3.out.size (by simp)) (by rw [List.length_append, E1.out]; simp; omega) ?_; intro A4 cap4 w4 own4 g4 r4; have b4 := (O3.out.alloc (.cells #[Value.string s] 9)).grownBelow g4 (Nat.le_trans B3.out.size (by simp)); have b4' := ((Below.refl w.heap.size w3).alloc B3.out.size (.cells #[Value.string s] 9)).trans b4; have B4 := hide (B3.out.trans b4'); have O4 := hide own4; clear own4 g4 r4 b4 b4')
        | (at_builtin; refine wpList_appZ 24 Tryz.underlying24 rfl (.tmp 43) (.tmp 46) rfl rfl rfl (by simp) (by rw [E2.out]; simp) O4.out (IN2.out.below B4.out) B4.out.size (by rw [List.length_append, List.length_append, E1.out, E2.out]; simp; omega) ?_; intro A5 cap5 w5 own5 g5 r5; have b5 := O4.out.grownBelow g5 B4.out.size; have B5 := hide (B4.out.trans b5); have O5 := hide own5; clear own5 g5 r5 b5))
      go_ret
      have O6 := O5.out
      rw [E3.out] at O6
      rw [PE.out]
      exact ⟨A5, cap5, by rw [← E3.out]; simp, O6.more hB, B5.out⟩
end Go.Proofs.YtmiknjccdcploaaGreatDoor
/-
  What the laws' own szPairS tells of each text's size.
-/
namespace Go.Proofs.YtmiknjccdcploaaGreatDoor
open Go.RowKit

set_option maxHeartbeats 1000000 in
theorem szPair_each (a b : ByteArray) (left : Int) (w : World) (ha : a.size ≤ maxLen) (hb : b.size ≤ maxLen) (h0 : 0 ≤ left) (h1 : left ≤ 1048576) :
    Calls Tryz.prog 70 #[.agg #[.string a, .string b], .int .i64 left] w fun e w' => (e = .returned (.int .i64 (-1)) ∨ ∃ r : Int, 0 ≤ r ∧ r + a.size + b.size ≤ left ∧ e = .returned (.int .i64 r)) ∧ Below w.heap.size w w' := by
  unfold maxLen at ha hb
  by_cases c1 : left - a.size < 0
  · go_enter Tryz.func70, Tryz.ntmps70
    go_wp2
    go_ret
    exact ⟨.inl rfl, (Below.refl _ _).alloc (Nat.le_refl _) _⟩
  · by_cases c2 : left - a.size - b.size < 0
    · go_enter Tryz.func70, Tryz.ntmps70
      go_wp2
      go_ret
      exact ⟨.inl rfl, (Below.refl _ _).alloc (Nat.le_refl _) _⟩
    · go_enter Tryz.func70, Tryz.ntmps70
      go_wp2
      go_ret
      exact ⟨.inr ⟨left - a.size - b.size, by omega, by omega, rfl⟩, (Below.refl _ _).alloc (Nat.le_refl _) _⟩
/-- each text is short enough -/
def eachSz (l : List Pr) (k : Nat) : Prop := ∀ i (h : i < l.length), i < k → l[i].2.size ≤ 1048576
theorem eachSz_succ {l : List Pr} {k : Nat} (hk : k < l.length) (h : eachSz l k) (h1 : l[k].2.size ≤ 1048576) : eachSz l (k + 1) := by
  intro i hi hik
  by_cases e : i = k
  · subst e; exact h1
  · exact h i hi (by omega)
set_option maxRecDepth 100000 in
set_option maxHeartbeats 1000000 in
theorem szPairS_each (A : Option Addr) (l : List Pr) (cap : Nat) (left : Int) (w : World) (hl : l.length ≤ maxLen) (hin : PIn w w.heap.size A l) (h0 : 0 ≤ left) (h1 : left ≤ 1048576) :
    Calls Tryz.prog 17 #[.slice A l.length cap, .int .i64 left] w fun e w' => (e = .returned (.int .i64 (-1)) ∨ ∃ r : Int, 0 ≤ r ∧ r + l.length ≤ left ∧ eachSz l l.length ∧ e = .returned (.int .i64 r)) ∧ Below w.heap.size w w' := by
  unfold maxLen at hl
  generalize hn : l.length = n at *
  have HN := hide hn
  clear hn
  by_cases c1 : left - n < 0
  · go_enter Tryz.func17, Tryz.ntmps17
    go_wp2
    go_ret
    exact ⟨.inl rfl, Below.refl _ _⟩
  · go_enter Tryz.func17, Tryz.ntmps17
    go_wp2
    go_loopw [1, 5] (fun r i wr => ∃ (k : Nat) (q : Int), k ≤ n ∧ i = .int .i64 k ∧ r = .int .i64 q ∧ 0 ≤ q ∧ q ≤ left - n ∧ Hid (eachSz l k) ∧ Hid (Below w.heap.size w wr)) (fun _ i _ => n - (intOf i).toNat)
    case atStart => exact ⟨0, left - n, Nat.zero_le _, rfl, rfl, by omega, by omega, hide (fun _ _ h => absurd h (by omega)), Below.refl _ w⟩
    case round =>
      obtain ⟨k, q, hk, rfl, rfl, hq0, hq1, E, Q⟩ := hrel
      by_cases hlt : k < n
      · have hin2 := hin.below Q.out
        obtain ⟨b, off, rfl, hbB, hc⟩ := hin2.2 (by rw [HN.out]; omega)
        have hkl : k < l.length := by rw [HN.out]; omega
        obtain ⟨c1, c2⟩ := hc k hkl
        obtain ⟨s1, s2⟩ := hin2.1 k hkl
        have ES := hide (eachSz_succ hkl E.out)
        generalize (l[k]'hkl).1 = s at *
        generalize (l[k]'hkl).2 = v at *
        clear hin hin2 hc E
        go_wp2_with fail
        refine (szPair_each s v q _ s1 s2 hq0 (by omega)).mono ?_
        rintro e w' ⟨hr, hb⟩
        rcases hr with rfl | ⟨r, hr0, hr1, rfl⟩
        · go_wp2
          go_ret
          exact ⟨.inl rfl, Q.out.trans (hb.mono Q.out.size)⟩
        · have E2 := hide (ES.out (by omega))
          have hr2 : r ≤ left - n := by omega
          clear hr1 ES
          go_wp2
          go_roundw
          case rel => exact ⟨k + 1, r, by omega, by go_num, rfl, hr0, hr2, E2, Q.out.trans (hb.mono Q.out.size)⟩
          case measure => simp [intOf]; omega
      · have ek : k = n := by omega
        have EE : Hid (eachSz l n) := hide (by rw [← ek]; exact E.out)
        clear ek
        go_wp2
        go_ret
        exact ⟨.inr ⟨q, hq0, by omega, EE.out, rfl⟩, Q.out⟩
end Go.Proofs.YtmiknjccdcploaaGreatDoor
/-
  What spec.l1Has, spec.l5Grow, spec.l5Is, spec.Ancestors answer.
-/
namespace Go.Proofs.YtmiknjccdcploaaGreatDoor
open Go.RowKit

set_option maxRecDepth 100000 in
set_option maxHeartbeats 1000000 in
theorem l1Has_any (A : Option Addr) (l : List ByteArray) (cap : Nat) (s : ByteArray) (w : World) (B : Nat) (hl : l.length ≤ maxLen) (hin : ZIn w B A l) :
    Calls Tryz.prog 72 #[.slice A l.length cap, .string s] w fun e w' => e = .returned (.bool (memK l s)) ∧ w = w' := by
  unfold maxLen at hl
  have IN := hide hin
  clear hin
  generalize hn : l.length = n at *
  have HN := hide hn
  clear hn
  go_enter Tryz.func72, Tryz.ntmps72
  go_wp2
  go_loop [5] (fun iv => ∃ k : Nat, k ≤ n ∧ iv = .int .i64 k ∧ Hid (∀ i (h : i < l.length), i < k → ¬ l[i] = s)) (fun i => n - (intOf i).toNat)
  case atStart => exact ⟨0, Nat.zero_le _, rfl, hide (fun _ _ h => absurd h (by omega))⟩
  case round =>
    obtain ⟨k, hk, rfl, H⟩ := hrel
    by_cases hlt : k < n
    · have hkl : k < l.length := by rw [HN.out]; omega
      obtain ⟨b, off, rfl, _, hc⟩ := IN.out (by omega)
      have c1 := hc k hkl
      by_cases he : l[k]'hkl = s
      · have Z : Hid (memK l s = true) := hide (memK_iff.2 (he ▸ List.getElem_mem hkl))
        have d1 := eqS_yes he
        generalize l[k]'hkl = x at *
        clear hc he H
        go_wp2
        go_ret
        exact ⟨ret_bool Z.out.symm, rfl⟩
      · have d1 := eqS_no he
        have H2 : Hid (∀ i (h : i < l.length), i < k + 1 → ¬ l[i] = s) := hide (fun i hi hik => by
          rcases Nat.lt_or_ge i k with g | g
          · exact H.out i hi g
          · obtain rfl : i = k := by omega
            exact he)
        generalize l[k]'hkl = x at *
        clear hc he H
        go_wp2
        go_round
        case rel => exact ⟨k + 1, by omega, by go_num, H2⟩
        case measure => simp [intOf]; omega
    · have Z : Hid (memK l s = false) := hide (memK_no (fun hm => by
        obtain ⟨i, hi, hx⟩ := List.mem_iff_getElem.1 hm
        exact absurd hx (H.out i hi (by rw [HN.out] at hi; omega))))
      have hgt : ¬ ((k : Int) < (n : Int)) := by omega
      clear hlt
      go_wp2
      go_ret
      exact ⟨ret_bool Z.out.symm, rfl⟩

/-- a row of texts of the call's own comes back -/
def RetZ (B : Nat) (l : List ByteArray) (w : World) (e : Ending) (w' : World) : Prop := ∃ A cap, e = .returned (.slice A l.length cap) ∧ ZOwn w' B A cap l ∧ Below B w w'
/-- the list when k of it have given their parents, and j of the next one's -/
noncomputable def midK (l : List Pr) (out : List ByteArray) (k j : Nat) : List ByteArray := ((out.take k).flatMap (parK l) ++ (parK l (out.getD k ByteArray.empty)).take j).foldl putK out
theorem midK_start (l : List Pr) (out : List ByteArray) : midK l out 0 0 = out := by simp [midK]
theorem midK_end (l : List Pr) (out : List ByteArray) : midK l out out.length 0 = stepK l out := by simp [midK, stepK]
theorem midK_par {l : List Pr} {out : List ByteArray} {k j : Nat} (hk : k < out.length) (hj : j < (parK l out[k]).length) : midK l out k (j + 1) = putK (midK l out k j) ((parK l out[k])[j]) := by
  unfold midK
  have e : out.getD k ByteArray.empty = out[k] := by simp [hk]
  rw [e, List.take_succ_eq_append_getElem hj, ← List.append_assoc, List.foldl_append]
  rfl
theorem midK_next {l : List Pr} {out : List ByteArray} {k : Nat} (hk : k < out.length) : midK l out k (parK l out[k]).length = midK l out (k + 1) 0 := by
  unfold midK
  have e : out.getD k ByteArray.empty = out[k] := by simp [hk]
  rw [e, List.take_length, List.take_succ_eq_append_getElem hk, List.flatMap_append]
  simp
theorem risC_mid {l : List Pr} (hl : repoB l = true) {out : List ByteArray} (h : RisC l out) (k j : Nat) : RisC l (midK l out k j) := risC_puts h (fun z hz => by
  rcases List.mem_append.1 hz with h1 | h1
  · obtain ⟨x, _, hx⟩ := List.mem_flatMap.1 h1
    exact parK_com hl hx
  · exact parK_com hl (List.mem_of_mem_take h1))
theorem rd_par (l : List Pr) (k : ByteArray) : (rdC (valOf l k)).2.1 = parK l k := by
  cases hr : rdOk (valOf l k)
  · rw [parK_no hr]
    by_cases hc : ∃ c, isCom (valOf l k) c
    · obtain ⟨c, hc⟩ := hc
      rw [(rd_yes hc).1] at hr
      cases hr
    · rw [(rd_no hc).2]
  · unfold parK
    rw [if_pos hr]

set_option maxRecDepth 100000 in
set_option maxHeartbeats 2000000 in
theorem l5Grow_any (A : Option Addr) (l : List Pr) (cap : Nat) (Ai : Option Addr) (ids : List ByteArray) (capi : Nat) (w : World) (hl : l.length ≤ maxLen) (hin : PIn w w.heap.size A l) (hrep : repoB l = true) (hids : RisC l ids) (hini : ZIn w w.heap.size Ai ids) :
    Calls Tryz.prog 73 #[.slice A l.length cap, .slice Ai ids.length capi] w (RetZ w.heap.size (growK l ids (l.length + 1)) w) := by
  have ho := (repoB_iff.1 hrep).1
  have h60 := (objsB_iff.1 ho).1
  have HG := hide (fun n => risC_grow hrep hids n)
  have HM := hide (fun out (h : RisC l out) k j => risC_mid hrep h k j)
  have HL := hide (fun out (h : RisC l out) => h.len ho)
  have LC : Hid (∀ k W, Below w.heap.size w W → Calls Tryz.prog 107 #[.slice A l.length cap, .string k] W (RetCom (valOf l k) W)) := hide (fun k W hb => l4Commit_any A l cap k W w.heap.size hb.size ho hl (hin.below hb))
  have IN := hide hini
  have hidl := hids.len ho
  have G0 : Hid (growK l ids 0 = [] ++ ids) := hide (by simp [growK])
  clear hin hini hids hl ho
  generalize hn : l.length = n at *
  generalize hni : ids.length = ni at *
  have HNI := hide hni
  clear hn hni
  go_enter Tryz.func73, Tryz.ntmps73
  have O0 := hide (ZOwn.built w w.heap.size (Nat.le_refl _))
  have B0 := hide ((Below.refl w.heap.size w).alloc (Nat.le_refl _) (.cells #[] 9))
  go_wp2_with (at_builtin; refine wpList_appZ 24 Tryz.underlying24 rfl (.tmp 12) (.tmp 13) rfl rfl rfl rfl HNI.out.symm O0.out (IN.out.below B0.out) B0.out.size (by rw [HNI.out]; simp; omega) ?_; intro A1 cap1 w1 own1 g1 r1; have B1 := hide (B0.out.trans (O0.out.grownBelow g1 B0.out.size)); have O1 := hide own1; clear own1 g1 r1)
  rw [← G0.out] at O1
  go_loopw [5, 6] (fun ov iv wr => ∃ (i : Nat) (A : Option Addr) (cap : Nat), i ≤ n + 1 ∧ iv = .int .i64 i ∧ ov = .slice A (growK l ids i).length cap ∧ Hid (ZOwn wr w.heap.size A cap (growK l ids i)) ∧ Hid (Below w.heap.size w wr)) (fun _ i _ => n + 1 - (intOf i).toNat)
  case atStart => exact ⟨0, A1, cap1, Nat.zero_le _, rfl, rfl, O1, B1⟩
  case round =>
    clear O0 B0 O1 B1
    obtain ⟨i, A5, cap5, hi, rfl, rfl, O5, Q5⟩ := hrel
    have RC := hide (HG.out i)
    have GS : Hid (growK l ids (i + 1) = stepK l (growK l ids i)) := hide rfl
    have ho60 := HL.out _ RC.out
    by_cases hlt : i < n + 1
    · have hli : (i : Int) ≤ (n : Int) := by omega
      generalize growK l ids i = out at *
      have M0 : Hid (ZOwn wr w.heap.size A5 cap5 (midK l out 0 0)) := hide (by rw [midK_start]; exact O5.out)
      have ML : Hid ((midK l out 0 0).length = out.length) := hide (by rw [midK_start])
      obtain ⟨w5, hw5⟩ : ∃ w5, w5 = wr := ⟨wr, rfl⟩
      subst hw5
      generalize hon : out.length = on at *
      have ON := hide hon
      clear hon
      go_wp2_with fail
      go_loopw [7, 8] (fun nv kv wr => ∃ (k : Nat) (A : Option Addr) (cap : Nat), k ≤ on ∧ kv = .int .i64 k ∧ nv = .slice A (midK l out k 0).length cap ∧ Hid (ZOwn wr w.heap.size A cap (midK l out k 0)) ∧ Hid (Below w5.heap.size w5 wr)) (fun _ i _ => on - (intOf i).toNat)
      case atStart => exact ⟨0, A5, cap5, Nat.zero_le _, rfl, by rw [ML.out], M0, hide (Below.refl _ _)⟩
      case round =>
        clear M0
        obtain ⟨k, A7, cap7, hk, rfl, rfl, O7, Q7⟩ := hrel
        have hm60 := HL.out _ (HM.out _ RC.out k 0)
        have Q := hide (Q5.out.trans (Q7.out.mono Q5.out.size))
        by_cases hltk : k < on
        · have hkl : k < out.length := by rw [ON.out]; exact hltk
          obtain ⟨b, off, e5, hb, hc⟩ := (O5.out.zin.below Q7.out) (by omega)
          subst e5
          have c1 := hc k hkl
          have MN := hide (midK_next (l := l) hkl)
          have MP := hide (fun j => midK_par (l := l) (j := j) hkl)
          have PL := parK_len l (out[k]'hkl)
          have PR := hide (rd_par l (out[k]'hkl))
          have HMk := hide (fun j => HL.out _ (HM.out _ RC.out k j))
          clear hc
          generalize out[k]'hkl = q at *
          go_wp2_with fail
          refine (LC.out q _ Q.out).mono ?_
          rintro e w8 ⟨A8, cap8, rfl, own8, b8⟩
          rw [PR.out] at own8 ⊢
          have bx := boxC_below w8 (.string (rdC (valOf l q)).1) (.slice A8 (parK l q).length cap8) (.string (rdC (valOf l q)).2.2)
          have X9 := hide (boxC w8 (rdC (valOf l q)).1 (rdC (valOf l q)).2.2 A8 (parK l q).length cap8)
          have B9 := hide (b8.trans (bx.mono b8.size))
          have O9 := hide (O7.out.below B9.out)
          have P9 := hide (own8.zin.below bx)
          have S9 : Hid ((w8.alloc (.cells #[.string (rdC (valOf l q)).1, .slice A8 (parK l q).length cap8, .string (rdC (valOf l q)).2.2] 139)).heap.size = w8.heap.size + 1) := hide (by simp)
          clear own8 b8 bx
          generalize (rdC (valOf l q)).1 = q1 at *
          generalize (rdC (valOf l q)).2.2 = q3 at *
          generalize hpn : (parK l q).length = pn at PL X9 B9 O9 P9 S9 MN ⊢
          have PN := hide hpn
          clear hpn
          obtain ⟨w9, hw9⟩ : ∃ w9, w9 = w8.alloc (.cells #[.string q1, .slice A8 pn cap8, .string q3] 139) := ⟨_, rfl⟩
          rw [← hw9] at X9 B9 O9 P9 S9
          go_wp2_with fail
          rw [← hw9]
          clear hw9
          go_loopw [7, 11] (fun nv jv wr => ∃ (j : Nat) (A : Option Addr) (cap : Nat), j ≤ pn ∧ jv = .int .i64 j ∧ nv = .slice A (midK l out k j).length cap ∧ Hid (ZOwn wr w.heap.size A cap (midK l out k j)) ∧ Hid (Below w9.heap.size w9 wr)) (fun _ i _ => pn - (intOf i).toNat)
          case atStart => exact ⟨0, A7, cap7, Nat.zero_le _, rfl, rfl, O9, hide (Below.refl _ _)⟩
          case round =>
            clear O9 O7
            obtain ⟨j, A7, cap7, hj, rfl, rfl, O7, Q9⟩ := hrel
            have hs9 := S9.out
            have X10 := hide ((Q9.out.block w8.heap.size (by omega)).trans X9.out)
            have g1 := cell_of_row _ _ 1 _ _ _ X10.out
            have hmj := HMk.out j
            by_cases hltj : j < pn
            · have hjl : j < (parK l q).length := by rw [PN.out]; exact hltj
              obtain ⟨b', off', e8, hb', hc'⟩ := P9.out (by omega)
              subst e8
              have c2 := (Q9.out.cell (p := ⟨b', off' + j, none⟩) (by show b' < _; omega)).trans (hc' j hjl)
              have MPj := hide (MP.out j hjl)
              have hwr : w.heap.size ≤ wr.heap.size := Nat.le_trans Q.out.size (Nat.le_trans B9.out.size Q9.out.size)
              have PU := hide (l1PutX_any A7 (midK l out k j) cap7 ((parK l q)[j]'hjl) wr w.heap.size (by omega) O7.out hwr)
              rw [← MPj.out] at PU
              clear hc' MPj
              generalize (parK l q)[j]'hjl = p at *
              generalize (midK l out k j).length = mn at *
              go_wp2_with fail
              refine PU.out.mono ?_
              rintro e w11 ⟨A11, cap11, rfl, own11, b11⟩
              have O11 := hide own11
              have Q11 := hide (Q9.out.trans (b11.mono Q9.out.size))
              clear own11 b11 PU
              go_wp2_with fail
              go_roundw
              case rel => exact ⟨j + 1, A11, cap11, by omega, by go_num, rfl, O11, Q11⟩
              case measure => simp [intOf]; omega
            · have ej : j = pn := by omega
              have O12 : Hid (ZOwn wr w.heap.size A7 cap7 (midK l out (k + 1) 0)) := hide (by rw [← MN.out, ← ej]; exact O7.out)
              have L12 : Hid ((midK l out k j).length = (midK l out (k + 1) 0).length) := hide (by rw [← MN.out, ← ej])
              have Q12 := hide (Q7.out.trans ((B9.out.trans (Q9.out.mono B9.out.size)).mono Q7.out.size))
              have hgt : ¬ ((j : Int) < (pn : Int)) := by omega
              clear hltj
              go_wp2_with fail
              go_roundw
              case rel => exact ⟨k + 1, A7, cap7, by omega, by go_num, by rw [L12.out], O12, Q12⟩
              case measure => simp [intOf]; omega
        · have ek : k = out.length := by rw [ON.out]; omega
          have O8 : Hid (ZOwn wr w.heap.size A7 cap7 (growK l ids (i + 1))) := hide (by rw [GS.out, ← midK_end, ← ek]; exact O7.out)
          have L8 : Hid ((midK l out k 0).length = (growK l ids (i + 1)).length) := hide (by rw [GS.out, ← midK_end, ← ek])
          have hgt : ¬ ((k : Int) < (on : Int)) := by omega
          clear hltk ek
          go_wp2_with fail
          go_roundw
          case rel => exact ⟨i + 1, A7, cap7, by omega, by go_num, by rw [L8.out], O8, Q⟩
          case measure => simp [intOf]; omega
    · have ei : i = n + 1 := by omega
      have hgt : ¬ ((i : Int) ≤ (n : Int)) := by omega
      have R : Hid (RetZ w.heap.size (growK l ids (n + 1)) w (.returned (.slice A5 (growK l ids i).length cap5)) wr) := hide ⟨A5, cap5, by rw [ei], by rw [← ei]; exact O5.out, Q5.out⟩
      clear hlt ei
      go_wp2_with fail
      go_ret
      exact R.out

theorem valOf_each {l : List Pr} (h : eachSz l l.length) (k : ByteArray) : (valOf l k).size ≤ 1048576 := by
  cases hb : hasB l k
  · rw [valOf_no hb]; simp
  · obtain ⟨h1, h2⟩ := hasB_iff.1 hb
    rw [valOf_yes h1 h2]
    exact h _ h1 h1
set_option maxRecDepth 100000 in
set_option maxHeartbeats 1000000 in
theorem l5Is_any (A : Option Addr) (l : List Pr) (cap : Nat) (id : ByteArray) (w : World) (hl : l.length ≤ maxLen) (hin : PIn w w.heap.size A l) (hz : (valOf l id).size ≤ 1048576) :
    Calls Tryz.prog 79 #[.slice A l.length cap, .string id] w fun e w' => e = .returned (.bool (rdOk (valOf l id) && repoB l)) ∧ Below w.heap.size w w' := by
  have C := hide (l4Commit_sz A l cap id w w.heap.size (Nat.le_refl _) hz hl hin)
  have RO : Hid (∀ W, Below w.heap.size w W → Calls Tryz.prog 96 #[.slice A l.length cap] W fun e w' => e = .returned (.bool (repoB l)) ∧ Below W.heap.size W w') := hide (fun W hb => specRepoOk_any A l cap W hl ((hin.below hb).more hb.size))
  have Z : Hid (∀ x, (rdOk (valOf l id) && repoB l) = x → x = (rdOk (valOf l id) && repoB l)) := hide (fun x h => h.symm)
  clear hin hl hz
  generalize l.length = n at *
  go_enter Tryz.func79, Tryz.ntmps79
  go_wp2_with fail
  refine C.out.mono ?_
  rintro e w1 ⟨A1, cap1, rfl, _, b1⟩
  have bx := boxC_below w1 (.string (rdC (valOf l id)).1) (.slice A1 (rdC (valOf l id)).2.1.length cap1) (.string (rdC (valOf l id)).2.2)
  have B2 := hide (b1.trans (bx.mono b1.size))
  have R2 := hide (RO.out _ B2.out)
  clear b1 bx C RO
  generalize (rdC (valOf l id)).1 = c1 at *
  generalize (rdC (valOf l id)).2.2 = c3 at *
  generalize (rdC (valOf l id)).2.1.length = c2 at *
  clear Z
  cases hok : rdOk (valOf l id)
  · have HK := hide hok
    clear hok
    go_wp2_with fail
    go_ret
    exact ⟨ret_bool (by rw [HK.out]; rfl), B2.out⟩
  · have HK := hide hok
    clear hok
    go_wp2_with fail
    refine R2.out.mono ?_
    rintro e w3 ⟨rfl, b3⟩
    have B3 := hide (B2.out.trans (b3.mono B2.out.size))
    clear b3 R2
    go_wp2_with fail
    go_ret
    exact ⟨ret_bool (by rw [HK.out, Bool.true_and]), B3.out⟩

set_option maxRecDepth 100000 in
set_option maxHeartbeats 1000000 in
theorem specAncestors_any (A : Option Addr) (l : List Pr) (cap : Nat) (id : ByteArray) (w : World) (hl : l.length ≤ maxLen) (hin : PIn w w.heap.size A l) (hz : (valOf l id).size ≤ 1048576) :
    Calls Tryz.prog 71 #[.slice A l.length cap, .string id] w (RetZ w.heap.size (ancK l id) w) := by
  have I := hide (l5Is_any A l cap id w hl hin hz)
  have NO : Hid ((rdOk (valOf l id) && repoB l) = false → ∀ w', Below w.heap.size w w' → RetZ w.heap.size (ancK l id) w (.returned (.slice (some ⟨w'.heap.size, 0, none⟩) 0 0)) (w'.alloc (.cells #[] 9))) := hide (fun h w' hb => by
    rw [ancK_no (fun x => by rw [x.1, x.2] at h; cases h)]
    exact ⟨_, 0, rfl, ZOwn.built w' w.heap.size hb.size, hb.alloc hb.size _⟩)
  have G : Hid ((rdOk (valOf l id) && repoB l) = true → ∀ W, Below w.heap.size w W → Calls Tryz.prog 73 #[.slice A l.length cap, .slice (some ⟨W.heap.size, 0, none⟩) 1 1] (W.alloc (.cells #[.string id] 9)) (RetZ w.heap.size (ancK l id) w)) := hide (fun h W hb => by
    simp only [Bool.and_eq_true] at h
    have hbx := hb.alloc hb.size (.cells #[.string id] 9)
    refine (l5Grow_any A l cap (some ⟨W.heap.size, 0, none⟩) [id] 1 _ hl ((hin.below hbx).more hbx.size) h.2 ⟨List.pairwise_singleton .., fun z hz => by rw [List.mem_singleton] at hz; subst hz; exact h.1⟩ ((ZIn.one id 9 rfl).more (by simp))).mono ?_
    rintro e w' ⟨A2, cap2, rfl, o2, b2⟩
    rw [ancK_yes h.2 h.1]
    exact ⟨A2, cap2, rfl, o2.more hbx.size, hbx.trans (b2.mono hbx.size)⟩)
  clear hin hl hz
  generalize l.length = n at *
  go_enter Tryz.func71, Tryz.ntmps71
  go_wp2_with fail
  refine I.out.mono ?_
  rintro e w1 ⟨rfl, b1⟩
  have B1 := hide b1
  clear b1 I
  cases hi : (rdOk (valOf l id) && repoB l)
  · have Z := hide (NO.out hi _ B1.out)
    clear NO G hi
    go_wp2_with fail
    go_ret
    exact Z.out
  · have GG := hide (G.out hi _ B1.out)
    clear NO G hi
    go_wp2_with fail
    refine GG.out.mono ?_
    rintro e w2 ⟨A2, cap2, rfl, o2, b2⟩
    have F : Hid (RetZ w.heap.size (ancK l id) w (.returned (.slice A2 (ancK l id).length cap2)) w2) := hide ⟨A2, cap2, rfl, o2, b2⟩
    clear o2 b2 GG
    generalize (ancK l id).length = an at *
    go_wp2_with fail
    go_ret
    exact F.out

open Classical in
/-- is a behind b, in a repository? -/
noncomputable def isAncV (l : List Pr) (a b : ByteArray) : Bool := memK (ancK l b) a
set_option maxRecDepth 100000 in
set_option maxHeartbeats 1000000 in
theorem specIsAncestor_any (A : Option Addr) (l : List Pr) (cap : Nat) (a b : ByteArray) (w : World) (hl : l.length ≤ maxLen) (hin : PIn w w.heap.size A l) (hz : ∀ k, (valOf l k).size ≤ 1048576) :
    Calls Tryz.prog 81 #[.slice A l.length cap, .string a, .string b] w fun e w' => e = .returned (.bool (isAncV l a b)) ∧ Below w.heap.size w w' := by
  have I := hide (l5Is_any A l cap a w hl hin (hz a))
  have AN : Hid (∀ W, Below w.heap.size w W → Calls Tryz.prog 71 #[.slice A l.length cap, .string b] W (RetZ W.heap.size (ancK l b) W)) := hide (fun W hb => specAncestors_any A l cap b W hl ((hin.below hb).more hb.size) (hz b))
  have NO : Hid ((rdOk (valOf l a) && repoB l) = false → isAncV l a b = false) := hide (fun h => memK_no (fun hm => by
    obtain ⟨h1, h2, h3⟩ := ancK_mem.1 hm
    rw [h3.com h1 h2, h1] at h
    cases h))
  have hal := ancK_len l b
  have V : Hid (isAncV l a b = memK (ancK l b) a) := hide rfl
  clear hin hl hz
  generalize l.length = n at *
  go_enter Tryz.func81, Tryz.ntmps81
  go_wp2_with fail
  refine I.out.mono ?_
  rintro e w1 ⟨rfl, b1⟩
  have B1 := hide b1
  clear b1 I
  cases hi : (rdOk (valOf l a) && repoB l)
  · have Z := hide (NO.out hi)
    clear NO hi
    go_wp2_with fail
    go_ret
    exact ⟨ret_bool Z.out.symm, B1.out⟩
  · have AA := hide (AN.out _ B1.out)
    clear NO hi AN
    go_wp2_with fail
    refine AA.out.mono ?_
    rintro e w2 ⟨A2, cap2, rfl, o2, b2⟩
    have B2 := hide (B1.out.trans (b2.mono B1.out.size))
    have HH := hide (l1Has_any A2 (ancK l b) cap2 a w2 w2.heap.size (by unfold maxLen; omega) o2.zin)
    clear o2 b2 AA
    generalize (ancK l b).length = an at *
    go_wp2_with fail
    refine HH.out.mono ?_
    rintro e w3 ⟨rfl, rfl⟩
    rw [← V.out]
    clear V HH
    generalize hv : isAncV l a b = v at *
    have VV := hide hv
    clear hv
    go_wp2_with fail
    go_ret
    exact ⟨ret_bool VV.out.symm, B2.out⟩
end Go.Proofs.YtmiknjccdcploaaGreatDoor
