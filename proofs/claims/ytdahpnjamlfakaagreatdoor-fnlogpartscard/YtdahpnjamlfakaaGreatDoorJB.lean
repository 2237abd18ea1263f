/-
  Texts that this proof leans on, joined: JB.
-/
import Derived.Test.YtdahpnjamlfakaaGreatDoorJC
import Derived.Lib.SlicesCompact
import Derived.Sort.KeysCollected
import Derived.Test.YtdahpnjamlfakaaGreatDoorSLay
import Derived.Sort.OwnSorted
import Derived.Sort.Grow
import Derived.Lib.OwnBridge
import Derived.Lib.RowBridge
import Derived.Test.YtdahpnjamlfakaaGreatDoorJW
import Derived.Test.YtdahpnjamlfakaaGreatDoorJR
import Derived.Test.YtdahpnjamlfakaaGreatDoorJD
/-
  Texts sorted, each once: the rising list of the same members. Plain mathematics.
-/
namespace Go.Proofs.YtdahpnjamlfakaaGreatDoor
open Go.RowKit Go.Lib

theorem le_of_ltL : ∀ {x y : List UInt8}, Op.bytesLess x y = true → x ≤ y
  | _, [], h => by simp [Op.bytesLess] at h
  | [], _ :: _, _ => List.nil_le _
  | a :: x, b :: y, h => by
    simp only [Op.bytesLess, Bool.or_eq_true, Bool.and_eq_true, decide_eq_true_eq, beq_iff_eq] at h
    rw [List.cons_le_cons_iff]
    rcases h with h | ⟨h, h'⟩
    · exact .inl h
    · exact .inr ⟨h, le_of_ltL h'⟩
theorem ofL_toL (x : List UInt8) : (ByteArray.mk x.toArray).toList = x := by rw [Go.ByteArray.toList_eq]
theorem lt_of_le_ne {x y : List UInt8} (h : x ≤ y) (hne : x ≠ y) : ltB (ByteArray.mk x.toArray) (ByteArray.mk y.toArray) = true := by
  rcases ltB_tri (ByteArray.mk x.toArray) (ByteArray.mk y.toArray) with g | g | g
  · exact g
  · have e : (ByteArray.mk x.toArray).toList = (ByteArray.mk y.toArray).toList := by rw [g]
    rw [ofL_toL, ofL_toL] at e
    exact absurd e hne
  · unfold ltB at g
    rw [ofL_toL, ofL_toL] at g
    exact absurd (List.le_antisymm h (le_of_ltL g)) hne
theorem kept_first (d : Array (List UInt8)) (x : List UInt8) : ∀ i, d[i]! = x → ∃ j, j ≤ i ∧ keeps d j = true ∧ d[j]! = x
  | 0, h => ⟨0, Nat.le_refl _, by simp [keeps], h⟩
  | i + 1, h => by
    by_cases e : d[i + 1]! = d[i]!
    · obtain ⟨j, h1, h2, h3⟩ := kept_first d x i (by rw [← e]; exact h)
      exact ⟨j, by omega, h2, h3⟩
    · exact ⟨i + 1, Nat.le_refl _, keeps_pos e, h⟩
theorem compact_mem (zs : List (List UInt8)) (x : List UInt8) : x ∈ compact zs ↔ x ∈ zs := by
  have hget : ∀ i, i < zs.length → zs.toArray[i]! ∈ zs := fun i hi => by
    have : zs.toArray[i]! = zs[i] := by simp [hi]
    rw [this]
    exact List.getElem_mem hi
  unfold compact compactUpTo
  rw [List.mem_map]
  constructor
  · rintro ⟨i, hi, rfl⟩
    exact hget i (List.mem_range.1 (List.mem_filter.1 hi).1)
  · intro hx
    obtain ⟨i, hi, rfl⟩ := List.mem_iff_getElem.1 hx
    obtain ⟨j, h1, h2, h3⟩ := kept_first zs.toArray zs[i] i (by simp [hi])
    exact ⟨j, List.mem_filter.2 ⟨List.mem_range.2 (by omega), h2⟩, h3⟩
theorem compact_rise (zs : List (List UInt8)) (h : zs.Pairwise fun x y => x ≤ y) : (compact zs).Pairwise fun x y => x ≤ y ∧ x ≠ y := by
  have hget : ∀ i (hi : i < zs.length), zs.toArray[i]! = zs[i] := fun i hi => by simp [hi]
  have hle : ∀ i j, i ≤ j → j < zs.length → zs.toArray[i]! ≤ zs.toArray[j]! := fun i j hij hj => by
    rw [hget i (by omega), hget j hj]
    rcases Nat.lt_or_ge i j with g | g
    · exact List.pairwise_iff_getElem.1 h i j (by omega) hj g
    · obtain rfl : i = j := by omega
      exact List.le_refl _
  unfold compact compactUpTo
  rw [List.pairwise_map, List.pairwise_filter]
  refine List.Pairwise.imp_of_mem (R := fun i j => i < j) ?_ List.pairwise_lt_range
  intro i j hi hj hij _ hk
  have hj' := List.mem_range.1 hj
  refine ⟨hle i j (by omega) hj', fun e => ?_⟩
  have h1 := hle i (j - 1) (by omega) (by omega)
  have h2 := hle (j - 1) j (by omega) hj'
  rw [e] at h1
  have h3 := List.le_antisymm h2 h1
  unfold keeps at hk
  have hk := of_decide_eq_true hk
  rcases hk with x | x
  · omega
  · exact x h3.symm
/-- the texts of bs, sorted, each once -/
theorem uniq_keys {bs ks : List ByteArray} (hk : RisK ks) (hm : ∀ x, x ∈ ks ↔ x ∈ bs) : compact ((bs.map fun b => b.data.toList).mergeSort fun x y => decide (x ≤ y)) = ks.map fun b => b.data.toList := by
  have tr : ∀ a b c : List UInt8, decide (a ≤ b) = true → decide (b ≤ c) = true → decide (a ≤ c) = true := fun a b c h1 h2 => by simp only [decide_eq_true_eq] at *; exact List.le_trans h1 h2
  have to : ∀ a b : List UInt8, (decide (a ≤ b) || decide (b ≤ a)) = true := fun a b => by simp only [Bool.or_eq_true, decide_eq_true_eq]; exact List.le_total a b
  have hs := List.pairwise_mergeSort tr to (bs.map fun b => b.data.toList)
  have hr := compact_rise _ (hs.imp fun {x y} h => of_decide_eq_true h)
  have h1 : RisK ((compact ((bs.map fun b => b.data.toList).mergeSort fun x y => decide (x ≤ y))).map fun l => ByteArray.mk l.toArray) := List.pairwise_map.2 (hr.imp fun {x y} h => lt_of_le_ne h.1 h.2)
  have back : ∀ b : ByteArray, ByteArray.mk b.data.toList.toArray = b := fun b => by simp
  have e : (compact ((bs.map fun b => b.data.toList).mergeSort fun x y => decide (x ≤ y))).map (fun l => ByteArray.mk l.toArray) = ks := by
    refine RisK.ext h1 hk fun x => ?_
    rw [hm, List.mem_map]
    constructor
    · rintro ⟨l, hl, rfl⟩
      rw [compact_mem, List.mem_mergeSort, List.mem_map] at hl
      obtain ⟨b, hb, rfl⟩ := hl
      rw [back]
      exact hb
    · intro hx
      exact ⟨x.data.toList, (compact_mem _ _).2 (List.mem_mergeSort.2 (List.mem_map.2 ⟨x, hx, rfl⟩)), back x⟩
  rw [← e, List.map_map]
  conv => lhs; rw [← List.map_id (compact _)]
  refine List.map_congr_left fun l _ => ?_
  simp
end Go.Proofs.YtdahpnjamlfakaaGreatDoor
/-
  What slices.Sort and slices.Compact do to a row of texts of the call's own, by the library's contracts.
-/
namespace Go.Proofs.YtdahpnjamlfakaaGreatDoor
open Go.RowKit Go.Lib Go.Sort

/-- texts as lists of bytes -/
def toLs (bs : List ByteArray) : List (List UInt8) := bs.map fun b => b.data.toList
def sortL (zs : List (List UInt8)) : List (List UInt8) := zs.mergeSort fun x y => decide (x ≤ y)
theorem sortL_len (zs : List (List UInt8)) : (sortL zs).length = zs.length := List.length_mergeSort zs
theorem toLs_len (bs : List ByteArray) : (toLs bs).length = bs.length := by unfold toLs; simp
theorem toLs_enc (bs : List ByteArray) : (toLs bs).map encStr = bs.map Value.string := by
  unfold toLs
  rw [List.map_map]
  refine List.map_congr_left fun p _ => ?_
  simp [encStr]
/-- a row of the call's own, its texts as lists of bytes -/
def LOwn (w : World) (B : Nat) (A : Option Addr) (cap : Nat) (zs : List (List UInt8)) : Prop := w.ownsRow B 9 1 (.slice A zs.length cap) zs.length (zs.map encStr)
theorem ZOwn.toL {w : World} {B : Nat} {A : Option Addr} {cap : Nat} {bs : List ByteArray} (h : ZOwn w B A cap bs) : LOwn w B A cap (toLs bs) := by
  unfold LOwn
  rw [toLs_enc, toLs_len]
  exact h
theorem LOwn.toZ {w : World} {B : Nat} {A : Option Addr} {cap : Nat} {bs : List ByteArray} (h : LOwn w B A cap (toLs bs)) : ZOwn w B A cap bs := by
  unfold LOwn at h
  rw [toLs_enc, toLs_len] at h
  exact h
theorem LOwn.form {w : World} {B : Nat} {A : Option Addr} {cap : Nat} {zs : List (List UInt8)} (h : LOwn w B A cap zs) : (A = none ∧ cap = 0 ∧ zs = []) ∨ ∃ g cur, A = some ⟨g, 0, none⟩ ∧ B ≤ g ∧ g < w.heap.size ∧ w.heap[g]? = some (.cells cur 9 (0, 0)) ∧ zs.length ≤ cap ∧ cap ≤ maxLen ∧ cur.size = cap * 1 ∧ Holds encStr w g 0 zs.toArray := by
  rcases h.2 with ⟨e, e'⟩ | ⟨g, c, cur, e, hb, hg, h1, h2, h3, h4⟩
  · injection e with e1 e2 e3
    exact .inl ⟨e1, e3, List.eq_nil_of_length_eq_zero e2⟩
  · injection e with e1 e2 e3
    obtain ⟨g', cap', e', _, _, _, _, _, hH⟩ := holds_of_ownsRow h (by rw [e1]; simp)
    rw [e1] at e'
    injection e' with e4 e5 e6
    injection e4 with e4
    injection e4 with e4
    subst e4 e3
    exact .inr ⟨g, cur, e1, hb, (Array.getElem?_eq_some_iff.1 hg).1, hg, h1, h2, h3, hH⟩

theorem sort_any (A : Option Addr) (zs : List (List UInt8)) (cap : Nat) (w : World) (B : Nat) (hown : LOwn w B A cap zs) (hl : zs.length ≤ 100000) :
    Calls Tryz.prog 73 #[.slice A zs.length cap] w fun e w' => e = .returned (.tuple #[]) ∧ LOwn w' B A cap (sortL zs) ∧ w.grownBy w' (rowOf A) := by
  rcases hown.form with ⟨rfl, rfl, rfl⟩ | ⟨g, cur, rfl, hB, hg, hc, h1, h2, h3, hH⟩
  · refine (show Calls Tryz.prog 73 #[.slice none 0 0] w fun e w' => e = .returned (.tuple #[]) ∧ w' = w from AnyM.slices_Sort_string_none Tryz.sort73 none 0 w).mono ?_
    rintro e w' ⟨rfl, rfl⟩
    exact ⟨rfl, by simpa [sortL] using hown, World.grownBy.refl _ _⟩
  · refine (show Calls Tryz.prog 73 #[.slice (some ⟨g, 0, none⟩) zs.length cap] w _ from AnyM.slices_Sort_string Tryz.sort73 g 0 cap zs w hH hg (by omega)).mono ?_
    rintro e w' ⟨rfl, n, os, rfl⟩
    refine ⟨rfl, ?_, grownBy_sorted _⟩
    have hs := ownsRow_sorted (n := n) (os := os) (ts := sortL zs) (sortL_len zs) hB hc h1 h2 h3
    unfold LOwn
    rw [sortL_len]
    exact hs

/-- a row that is sorted, each once -/
theorem uniq_own {w : World} {B : Nat} {A : Option Addr} {cap : Nat} {bs ks : List ByteArray} (hk : RisK ks) (hm : ∀ x, x ∈ ks ↔ x ∈ bs) (h : LOwn w B A cap (compact (sortL (toLs bs)))) : ZOwn w B A cap ks ∧ (compact (sortL (toLs bs))).length = ks.length := by
  have e : compact (sortL (toLs bs)) = toLs ks := uniq_keys hk hm
  rw [e] at h ⊢
  exact ⟨h.toZ, toLs_len ks⟩
end Go.Proofs.YtdahpnjamlfakaaGreatDoor
/-
  What impl.repo's ancestors and impl.Ancestors answer.
-/
namespace Go.Proofs.YtdahpnjamlfakaaGreatDoor
open Go.RowKit Go.Shelf Go.Maps

attribute [local go_sem] Oper.semAt_some

theorem row_from {B k : Nat} {W W' : World} {row : Option Nat} {o : Obj} (h : W.heap[k]? = some o) (hk : k < B) (hg : W.grownBy W' row) (hr : ∀ r, row = some r → B ≤ r ∧ ∃ o : Obj, W.heap[r]? = some o ∧ o.isCells = false) : W'.heap[k]? = some o :=
  (hg.block k (Array.getElem?_eq_some_iff.1 h).1 (fun e => by have := (hr k e.symm).1; omega)).trans h
theorem below_from {B b : Nat} {w W W' : World} {row : Option Nat} (h : Below b w W) (hb : b ≤ B) (hbw : b ≤ W.heap.size) (hg : W.grownBy W' row) (hr : ∀ r, row = some r → B ≤ r ∧ ∃ o : Obj, W.heap[r]? = some o ∧ o.isCells = false) : Below b w W' :=
  h.grown hg hbw (fun k e => Nat.le_trans hb (hr k e).1)
theorem heap_alloc_l {w : World} {k : Nat} {o o' : Obj} (h : w.heap[k]? = some o) : (w.alloc o').heap[k]? = some o := (Below.heap_alloc w o' k (Array.getElem?_eq_some_iff.1 h).1).trans h
theorem heap_alloc_at {w : World} {k : Nat} {o : Obj} (h : w.heap.size = k) : (w.alloc o).heap[k]? = some o := by subst h; exact heap_alloc_new w o
/-- the row of texts is a block of strings -/
theorem zown_block {W : World} {B : Nat} {A : Option Addr} {cap : Nat} {bs : List ByteArray} (h : ZOwn W B A cap bs) {g : Nat} (hg : rowOf A = some g) : B ≤ g ∧ ∃ cs, W.heap[g]? = some (.cells cs 9 (0, 0)) := by
  rcases h.2 with ⟨e, _⟩ | ⟨g', c, cur, e, hb, hh, _⟩
  · injection e with e1
    rw [e1] at hg
    cases hg
  · injection e with e1
    rw [e1] at hg
    have : g' = g := rowOf_some hg
    subst this
    exact ⟨hb, _, hh⟩
theorem zown_from {B b : Nat} {W W' : World} {row : Option Nat} {A : Option Addr} {cap : Nat} {bs : List ByteArray} (h : ZOwn W b A cap bs) (hg : W.grownBy W' row) (hr : ∀ r, row = some r → B ≤ r ∧ ∃ o : Obj, W.heap[r]? = some o ∧ o.isCells = false) : ZOwn W' b A cap bs :=
  ZOwn.keptO h hg (fun g hg' e => by
    obtain ⟨_, o, ho, hc⟩ := hr g e.symm
    obtain ⟨_, cs, hh⟩ := zown_block h hg'
    rw [hh] at ho
    injection ho with ho
    subst ho
    cases hc)
theorem str_no_box {cs : Array Value} {f : Nat × Nat} : ¬ isBox (.cells cs 9 f) := by
  rintro (⟨c, f', e⟩ | ⟨c, f', e⟩) <;> (injection e with _ e2 _; exact absurd e2 (by decide))
theorem strs_no_box {cs : Array Value} {f : Nat × Nat} : ¬ isBox (.cells cs 28 f) := by
  rintro (⟨c, f', e⟩ | ⟨c, f', e⟩) <;> (injection e with _ e2 _; exact absurd e2 (by decide))
/-- an append in the fence -/
theorem wpListIn_appZ {F : Fence} {n : Nat} {w : World} {ops : Array Oper} {rest : List Oper} {o : Oper} {a : Act} {Q : Exit → Act → World → Prop} (t : TypeId) (ht : Tryz.prog.underlying t = some (.slice 9)) (hgd : o.guard = none) (s x : Operand)
    (ho : o.op = .call { callee := .builtin .append, args := #[s, x], argTypes := #[t, t] })
    {B B' : Nat} {A A' : Option Addr} {cap c k m : Nat} {l l' : List ByteArray} (hs : a.eval s = .slice A k cap) (hx : a.eval x = .slice A' m c) (hn : k = l.length) (hm : m = l'.length)
    (hown : ZOwn w B A cap l) (hin : ZIn w B' A' l') (hB : B ≤ w.heap.size) (hb : l.length + l'.length ≤ 3000000)
    (h : ∀ A2 cap2 w', ZOwn w' B A2 cap2 (l ++ l') → w.grownBy w' (rowOf A) → (rowOf A2 = rowOf A ∨ rowOf A2 = some w.heap.size) → wpListIn F n Tryz.prog ops Q rest (a.put o.dst (.slice A2 (l ++ l').length cap2)) w') : wpListIn F n Tryz.prog ops Q (o :: rest) a w := by
  refine wpListIn_plain hgd fun K hK' => ?_
  subst hn hm
  obtain ⟨A2, cap2, w', hrun, h2, h3, h4⟩ := run_appZ t o.type ht (c := c) hown hin hB hb
  unfold Oper.wpIn
  refine ⟨?_, ?_⟩
  · simp [Oper.about, ho, resolve, Target.leads, Sem.run_pure]
  · rw [Oper.semAt_plain F _ _ (by rw [ho]; intro c hc'; cases hc')]
    simp only [execOp, ho, resolve, invoke, builtin, Sem.run_bind, Sem.run_pure, Result.andThen_ok, List.map_toArray, List.map_cons, List.map_nil, hs, hx, hrun]
    exact hK' _ _ (h A2 cap2 w' h2 h3 h4)

theorem perm_nodup {α : Type} : ∀ {S T : List α}, S.Nodup → T.Nodup → (∀ z, z ∈ S ↔ z ∈ T) → S.Perm T
  | [], T, _, _, h => by
    have : T = [] := List.eq_nil_iff_forall_not_mem.2 (fun z hz => by have := (h z).2 hz; cases this)
    rw [this]
  | a :: r, T, hS, hT, h => by
    obtain ⟨u, v, rfl⟩ := List.append_of_mem ((h a).1 (List.mem_cons_self ..))
    rw [List.nodup_cons] at hS
    have hT' : (a :: (u ++ v)).Nodup := (List.perm_middle.nodup_iff).1 hT
    rw [List.nodup_cons] at hT'
    refine (List.Perm.cons a (perm_nodup hS.2 hT'.2 fun z => ?_)).trans List.perm_middle.symm
    have hz := h z
    rw [List.mem_cons, List.mem_append, List.mem_cons] at hz
    rw [List.mem_append]
    constructor
    · intro h1
      rcases hz.1 (.inr h1) with h2 | h2 | h2
      · exact .inl h2
      · subst h2; exact absurd h1 hS.1
      · exact .inr h2
    · intro h1
      rcases hz.2 (h1.elim .inl (fun h2 => .inr (.inr h2))) with h2 | h2
      · subst h2; exact absurd (List.mem_append.2 h1) hT'.1
      · exact h2
theorem sort_ris {xs ys : List ByteArray} (hx : xs.Nodup) (hy : RisK ys) (h : ∀ z, z ∈ xs ↔ z ∈ ys) : sortL (toLs xs) = toLs ys := by
  have hp : (toLs xs).Perm (toLs ys) := (perm_nodup hx (risK_nodup hy) h).map _
  have e1 : (toLs xs).mergeSort leB = (toLs ys).mergeSort leB := mergeSort_of_perm hp
  have e2 : (toLs ys).mergeSort leB = toLs ys := by
    refine List.mergeSort_of_pairwise ?_
    unfold toLs
    refine List.pairwise_map.2 (hy.imp fun {p q} hlt => ?_)
    unfold ltB at hlt
    rw [Go.ByteArray.toList_eq, Go.ByteArray.toList_eq] at hlt
    exact decide_eq_true (le_of_lt hlt)
  exact e1.trans e2

/-- what a collecting loop holds -/
def CollI (w : World) (B0 g1 : Nat) {l : List Pr} (pre : List (ComI l)) (W : World) : Prop :=
  ∃ A cap, W.heap[g1]? = some (.cells #[.slice A (pre.map fun z => z.1).length cap] 28 (0, 0)) ∧ ZOwn W B0 A cap (pre.map fun z => z.1) ∧ Below w.heap.size w W ∧ B0 ≤ W.heap.size

theorem coll_step {w W w1 : World} {n₀ n₁ B0 g1 n2 : Nat} {pm : List ByteArray} {x : ByteArray} {A A2 : Option Addr} {cap cap2 : Nat} (hg1 : g1 < B0) (hw : w.heap.size ≤ g1) (hn0 : n₀ ≤ g1) (hG : W.heap[g1]? = some (.cells #[.slice A pm.length cap] 28 (0, 0))) (hO : ZOwn W B0 A cap pm) (hB : Below w.heap.size w W) (hS : B0 ≤ W.heap.size)
    (own : ZOwn w1 B0 A2 cap2 (pm ++ [x])) (g : (W.alloc (.cells #[.string x] 9)).grownBy w1 (rowOf A)) (hn2 : n2 = (pm ++ [x]).length) :
    KeepsOthers W (w1.setCell ⟨g1, 0, none⟩ (.slice A2 n2 cap2)) ∧ Keep n₀ n₁ W (w1.setCell ⟨g1, 0, none⟩ (.slice A2 n2 cap2)) ∧ ((w1.setCell ⟨g1, 0, none⟩ (.slice A2 n2 cap2)).heap[g1]? = some (.cells #[.slice A2 (pm ++ [x]).length cap2] 28 (0, 0)) ∧ ZOwn (w1.setCell ⟨g1, 0, none⟩ (.slice A2 n2 cap2)) B0 A2 cap2 (pm ++ [x]) ∧ Below w.heap.size w (w1.setCell ⟨g1, 0, none⟩ (.slice A2 n2 cap2)) ∧ B0 ≤ (w1.setCell ⟨g1, 0, none⟩ (.slice A2 n2 cap2)).heap.size) := by
  subst hn2
  have hOa := hO.alloc (.cells #[.string x] 9)
  have hs1 : B0 ≤ w1.heap.size := Nat.le_trans hS (Nat.le_trans (by simp) g.size)
  have hlt : g1 < (W.alloc (.cells #[.string x] 9)).heap.size := Nat.lt_of_lt_of_le hg1 (Nat.le_trans hS (by simp))
  have G1 : w1.heap[g1]? = some (.cells #[.slice A pm.length cap] 28 (0, 0)) := (g.block g1 hlt (fun e => by have := (zown_block hOa e.symm).1; omega)).trans (heap_alloc_l hG)
  have gs : w1.grownBy (w1.setCell ⟨g1, 0, none⟩ (.slice A2 (pm ++ [x]).length cap2)) (some g1) := ⟨rfl, rfl, rfl, by simp [World.setCell], fun k _ hk => Below.heap_setCell w1 ⟨g1, 0, none⟩ _ k (fun e => hk (by rw [e]))⟩
  have K1 : Keep n₀ n₁ (W.alloc (.cells #[.string x] 9)) w1 := by
    cases hA : rowOf A with
    | none =>
      rw [hA] at g
      exact ⟨⟨⟨g.os, g.tape, g.output, g.size, fun k hk => g.block k (by omega) (by simp)⟩, fun k o hk _ => (g.block k (Array.getElem?_eq_some_iff.1 hk).1 (by simp)).trans hk⟩, fun k o _ hk _ => (g.block k (Array.getElem?_eq_some_iff.1 hk).1 (by simp)).trans hk⟩
    | some r =>
      rw [hA] at g
      obtain ⟨hb, cs, hc⟩ := zown_block hOa hA
      exact Keep.grown g (by omega) (by omega) (fun o ho => by rw [hc] at ho; injection ho with ho; subst ho; exact ⟨str_no_box, rfl⟩)
  have K2 : Keep n₀ n₁ w1 (w1.setCell ⟨g1, 0, none⟩ (.slice A2 (pm ++ [x]).length cap2)) := Keep.grown gs hn0 (by omega) (fun o ho => by rw [G1] at ho; injection ho with ho; subst ho; exact ⟨strs_no_box, rfl⟩)
  refine ⟨?_, (Keep.alloc (by omega) _).trans (K1.trans K2), heap_setCell_same w1 g1 0 _ _ _ G1, ZOwn.keptO own gs (fun r hr e => by injection e with e; have := (zown_block own hr).1; omega), ?_, ?_⟩
  · refine ((KeepsOthers.alloc W _).trans (KeepsOthers.of_grownBy g fun j o hj ho => ?_)).trans (KeepsOthers.setCell _ _ _)
    obtain ⟨_, cs, hc⟩ := zown_block hOa hj
    rw [hc] at ho
    injection ho with ho
    subst ho
    rfl
  · exact ((hB.alloc hB.size _).grown g (Nat.le_trans hB.size (by simp)) (fun k e => by have := (zown_block hOa e).1; omega)).setCell (p := ⟨g1, 0, none⟩) hw _
  · simpa [World.setCell] using hs1

set_option maxRecDepth 100000 in
set_option maxHeartbeats 2000000 in
theorem anc_any {w₀ : World} {B bm bc : Nat} {l : List Pr} {vs : List Value} (bt : Nat) (hM : RepoM w₀ B bm bc 60 l vs) (hrep : repoB l = true) (b : ByteArray) (hb : b.size ≤ maxLen) (w : World) (hbel : Below w₀.heap.size w₀ w) :
    Calls Tryz.prog 33 #[.agg #[.map (some bt), .map (some bm), .map (some bc)], .string b] w (RetZ w.heap.size (ancK l b) w) := by
  obtain ⟨rA, rC, R⟩ := hM.toW hrep
  have hd : Fence.wide.depth = none := rfl
  have hro : Fence.wide.round = none := rfl
  have XR := heap_alloc_new w (.cells #[.map (some bt), .map (some bm), .map (some bc)] 47)
  have x0 := cell_of_row _ _ 0 _ _ _ XR
  have x1 := cell_of_row _ _ 1 _ _ _ XR
  have x2 := cell_of_row _ _ 2 _ _ _ XR
  refine (callsIn_wide (n := 3)).1 ?_
  refine callsIn_of_wp_marks Tryz.func33 rfl trivial ?_ hro
  simp only [Tryz.ntmps33, List.size_toArray, List.length_cons, List.length_nil, Nat.reduceAdd, Nat.reduceSub, Array.replicate_succ, Array.replicate_zero, List.push_toArray, List.append_toArray, List.nil_append, List.cons_append]
  gi_wp2_with ((try refine ⟨trivial, ?_⟩); gi_at_call 64; refine (behind_in Fence.wide trivial hro 2 bt bm bc b _).mono ?_; rintro e w' ⟨rfl, rfl⟩)
  obtain ⟨W0, hW0⟩ : ∃ W0, ((((w.alloc (.cells #[.map (some bt), .map (some bm), .map (some bc)] 47)).alloc (.cells #[.slice none 0 0] 28)).alloc (.cells #[.map (some bt), .map (some bm), .map (some bc)] 47)).alloc (.cells #[.string b] 9)) = W0 := ⟨_, rfl⟩
  rw [hW0]
  have hB0 : Below w.heap.size w W0 := by rw [← hW0]; exact ((((Below.refl _ w).alloc (Nat.le_refl _) _).alloc (by simp) _).alloc (by simp; omega) _).alloc (by simp; omega) _
  have hs0 : W0.heap.size = w.heap.size + 4 := by rw [← hW0]; simp
  have hG : W0.heap[w.heap.size + 1]? = some (.cells #[.slice none 0 0] 28 (0, 0)) := by rw [← hW0]; exact heap_alloc_l (heap_alloc_l (heap_alloc_at (by simp)))
  have hX : W0.heap[w.heap.size + 1 + 1]? = some (.cells #[.map (some bt), .map (some bm), .map (some bc)] 47 (0, 0)) := by rw [← hW0]; exact heap_alloc_l (heap_alloc_at (by simp))
  have hI : W0.heap[w.heap.size + 1 + 1 + 1]? = some (.cells #[.string b] 9 (0, 0)) := by rw [← hW0]; exact heap_alloc_at (by simp)
  clear hW0 XR x0 x1 x2
  obtain ⟨g1, e1⟩ : ∃ g, w.heap.size + 1 = g := ⟨_, rfl⟩
  rw [e1] at hG hX hI ⊢
  obtain ⟨g2, e2⟩ : ∃ g, g1 + 1 = g := ⟨_, rfl⟩
  rw [e2] at hX hI ⊢
  obtain ⟨g3, e3⟩ : ∃ g, g2 + 1 = g := ⟨_, rfl⟩
  rw [e3] at hI ⊢
  have hw0 : w₀.heap.size ≤ w.heap.size := hbel.size
  have hr1 : g1 < W0.heap.size := by omega
  have hr3 : w.heap.size ≤ g1 := by omega
  have hr4 : w.heap.size ≤ W0.heap.size := by omega
  have hr5 : w₀.heap.size ≤ W0.heap.size := by omega
  have hr6 : w₀.heap.size ≤ g1 := by omega
  clear hs0
  refine wpIn_rangeFunc_ownF hro (by omega) (gf := 107) (lb := #[.pointer (some ⟨g2, 0, none⟩), .pointer (some ⟨g3, 0, none⟩)]) rfl trivial (enters_of Tryz.func107 (by kernel_rfl) rfl)
    (behind_stops bt R Fence.wide hd trivial trivial hro 2 W0.heap.size g2 g3 b hb W0 hr5 (Nat.le_refl _) (hbel.trans (hB0.mono hw0)) hX hI) (fun h k => Keep.trans h k) (fun W l o o' h1 h2 h3 h4 => Keep.putObj W l o o' (Nat.le_trans hr5 h1) h2 h3 h4) (Below.refl _ _) (fun _ => rfl)
    (fun pre W => CollI w W0.heap.size g1 pre W) (fun _ _ _ => False)
    (fun s A B row hs hg hr => by
      obtain ⟨A1, cap, h1, h2, h3, h4⟩ := hs
      exact ⟨A1, cap, row_from h1 hr1 hg hr, zown_from h2 hg hr, below_from h3 hr4 h3.size hg hr, Nat.le_trans h4 hg.size⟩)
    (fun _ _ _ _ _ hs _ _ => hs)
    ⟨none, 0, hG, ZOwn.nil _ _, hB0, Nat.le_refl _⟩
    (fun x => { tmps := #[.agg #[.map (some bt), .map (some bm), .map (some bc)], .string b, .pointer (some ⟨w.heap.size, 0, none⟩), undef, .slice none 0 0, .pointer (some ⟨g1, 0, none⟩), .string x.1, .agg #[.map (some bt), .map (some bm), .map (some bc)], .string b, .func (.func 107) #[] #[.pointer (some ⟨g2, 0, none⟩), .pointer (some ⟨g3, 0, none⟩)], .string x.1, .agg #[.string (treK l x.1), .slice (rA x.1) (lenK l x.1) (rC x.1), .string (notK l x.1)], undef, undef, undef, undef, undef, undef, undef], defers := [] }) ?assign ?body ?done ?stop
  case assign =>
    intro lr x W K hK
    simp only [encC]
    gi_wp2
    exact hK
  case body =>
    rintro lr pre x W ⟨A, cap, hG, hO, hB, hS⟩ hlen
    have hpl : (pre.map fun z => z.1).length < 60 := by rw [List.length_map]; exact hlen
    have hpx : (pre ++ [x]).map (fun z => z.1) = (pre.map fun z => z.1) ++ [x.1] := by simp
    have IX : Hid (∀ A2 cap2 w1 n2, ZOwn w1 W0.heap.size A2 cap2 ((pre.map fun z => z.1) ++ [x.1]) → (W.alloc (.cells #[.string x.1] 9)).grownBy w1 (rowOf A) → n2 = ((pre.map fun z => z.1) ++ [x.1]).length → KeepsOthers W (w1.setCell ⟨g1, 0, none⟩ (.slice A2 n2 cap2)) ∧ Keep w₀.heap.size W0.heap.size W (w1.setCell ⟨g1, 0, none⟩ (.slice A2 n2 cap2)) ∧ CollI w W0.heap.size g1 (pre ++ [x]) (w1.setCell ⟨g1, 0, none⟩ (.slice A2 n2 cap2))) := hide (fun A2 cap2 w1 n2 own g hn2 => by
      obtain ⟨h1, h2, h3⟩ := coll_step (n₁ := W0.heap.size) hr1 hr3 hr6 hG hO hB hS own g hn2
      exact ⟨h1, h2, A2, cap2, by rw [hpx]; exact h3⟩)
    have G1 : Hid (∀ w1, (W.alloc (.cells #[.string x.1] 9)).grownBy w1 (rowOf A) → w1.heap[g1]? = some (.cells #[.slice A (pre.map fun z => z.1).length cap] 28 (0, 0))) := hide (fun w1 g =>
      (g.block g1 (Nat.lt_of_lt_of_le hr1 (Nat.le_trans hS (by simp))) (fun e => by have := (zown_block (hO.alloc (.cells #[.string x.1] 9)) e.symm).1; omega)).trans (heap_alloc_l hG))
    have c1 := cell_of_row _ _ 0 _ _ _ hG
    have OA := hide hO
    have HS := hide hS
    clear hG hO hB hS hpx hlen
    generalize hpm : (pre.map fun z => z.1) = pm at *
    have HPM := hide hpm
    clear hpm
    generalize hnm : pm.length = nm at hpl c1 G1
    have NM := hide hnm
    clear hnm
    gi_wp2_with ((try refine ⟨trivial, ?_⟩); gi_at_builtin; refine wpListIn_appZ (l' := [x.1]) 28 Tryz.underlying28 rfl (.tmp 12) (.tmp 14) rfl rfl rfl NM.out.symm rfl (OA.out.alloc _) (ZIn.one x.1 _ rfl) (Nat.le_trans HS.out (by simp)) (by rw [NM.out]; simp; omega) ?_; intro A2 cap2 w1 own g r; have c2 := cell_of_row _ _ 0 _ _ _ (G1.out _ g); have f2 := frozen_of_row _ _ 0 _ _ (G1.out _ g); have FX := hide (IX.out A2 cap2 w1 (pm.length + 1) own g (by simp)); clear own g r)
    exact FX.out
  case done =>
    rintro D ys W hD ⟨hnd, hall⟩ ⟨A, cap, hG, hO, hB, hS⟩ hK
    have hex : Hid (sortL (toLs (ys.map fun z => z.1)) = toLs (ancK l b)) := hide (sort_ris hnd (ancK_ris l b).1 (fun z => (hall z).trans ⟨fun h => ancK_mem.2 ⟨hrep, h⟩, fun h => (ancK_mem.1 h).2⟩))
    have hlen : Hid ((ys.map fun z => z.1).length = (ancK l b).length) := hide (by
      have h1 := congrArg List.length hex.out
      rw [sortL_len, toLs_len, toLs_len] at h1
      exact h1)
    have hal := ancK_len l b
    have SO := hide (sort_any A (toLs (ys.map fun z => z.1)) cap W W0.heap.size hO.toL (by rw [toLs_len, hlen.out]; omega))
    rw [toLs_len, hex.out, hlen.out] at SO
    rw [hlen.out] at hG
    have c1 := cell_of_row _ _ 0 _ _ _ hG
    have HO := hide (fun g hg => zown_block hO (g := g) hg)
    have GG := hide hG
    have BB := hide hB
    have KK := hide hK
    clear hG hO hB hK hnd hall hex hlen
    have FIN : Hid (∀ W2, LOwn W2 W0.heap.size A cap (toLs (ancK l b)) → W.grownBy W2 (rowOf A) → W2.heap[g1]? = some (.cells #[.slice A (ancK l b).length cap] 28 (0, 0)) ∧ W2.heap[D]? = some (.deferred (some [])) ∧ RetZ w.heap.size (ancK l b) w (.returned (.slice A (ancK l b).length cap)) (W2.putObj D (.deferred none))) := hide (fun W2 hl2 hg2 => by
      have hD2 : W2.heap[D]? = some (.deferred (some [])) := (hg2.block D (Array.getElem?_eq_some_iff.1 KK.out).1 (fun e => by
        obtain ⟨_, cs, hc⟩ := HO.out D e.symm
        rw [KK.out] at hc
        injection hc with hc
        cases hc)).trans KK.out
      refine ⟨(hg2.block g1 (Array.getElem?_eq_some_iff.1 GG.out).1 (fun e => by have := (HO.out g1 e.symm).1; omega)).trans GG.out, hD2, A, cap, rfl, ?_, ?_⟩
      · refine ZOwn.more (ZOwn.keptO hl2.toZ (grownBy_putObj' _ D _) (fun g hg e => ?_)) hr4
        injection e with e
        subst e
        obtain ⟨_, cs, hc⟩ := zown_block hl2.toZ hg
        rw [hD2] at hc
        injection hc with hc
        cases hc
      · have b2 := BB.out.grown hg2 BB.out.size (fun k e => by have := (HO.out k e).1; omega)
        exact b2.trans (belowK_b (w := w) (Nat.le_refl _) W2 D _ _ (Nat.le_trans hr4 hD) hD2 rfl rfl))
    generalize (ancK l b).length = an at *
    gi_wp2_with ((try refine ⟨trivial, ?_⟩); gi_at_call 73; refine (callsIn_wide.2 SO.out).mono ?_; rintro e W2 ⟨rfl, hl2, hg2⟩; have F2 := hide (FIN.out _ hl2 hg2); have c2 := cell_of_row _ _ 0 _ _ _ F2.out.1; clear hl2 hg2)
    refine ⟨by simp, .inl ⟨_, _, rfl, run_takeDeferred F2.out.2.1, ?_⟩⟩
    exact ⟨_, results_tmp (t := 4) rfl _ _ _, F2.out.2.2⟩
  case stop =>
    rintro D c pre W hD hsp h hK
    exact h.elim

set_option maxRecDepth 100000 in
set_option maxHeartbeats 1000000 in
theorem implAncestors_any (A : Option Addr) (l : List Pr) (cap : Nat) (id : ByteArray) (a : Addr) (w : World) (hl : l.length ≤ maxLen) (hin : PIn w w.heap.size A l) (hid : id.size ≤ maxLen) (hT : Tabs w) (hE : ErrC w a) :
    Calls Tryz.prog 15 #[.slice A l.length cap, .string id] w (RetZ w.heap.size (ancK l id) w) := by
  have T := hide (repoOf_any A l cap a w hl hin hT hE)
  have NO : Hid (repoB l = false → ∀ w', Below w.heap.size w w' → RetZ w.heap.size (ancK l id) w (.returned (.slice none 0 0)) w') := hide (fun h w' hb => by
    rw [ancK_no (fun x => by rw [x.1] at h; cases h)]
    exact ⟨none, 0, rfl, ZOwn.nil _ _, hb⟩)
  clear hin hT hE hl
  generalize l.length = n at *
  go_enter Tryz.func15, Tryz.ntmps15
  go_wp2_with fail
  refine T.out.mono ?_
  rintro e w1 ⟨b1, ⟨hf, rfl⟩ | ⟨hf, bt, bm, bc, B, vs, rfl, _, _, _, _, _, _, rm⟩⟩
  · have Z := hide (NO.out hf)
    have B1 := hide (b1.alloc b1.size (.cells #[.map none, .map none, .map none] 47))
    clear b1 hf T NO
    go_wp2_with fail
    go_ret
    exact Z.out _ B1.out
  · have b2 := (Below.refl w1.heap.size w1).alloc (Nat.le_refl _) (.cells #[.map (some bt), .map (some bm), .map (some bc)] 47)
    have B2 := hide (b1.trans (b2.mono b1.size))
    have XR := hide (heap_alloc_new w1 (.cells #[.map (some bt), .map (some bm), .map (some bc)] 47))
    have IA := hide (anc_any bt rm hf id hid _ b2)
    have x0 := cell_of_row _ _ 0 _ _ _ XR.out
    have x1 := cell_of_row _ _ 1 _ _ _ XR.out
    have x2 := cell_of_row _ _ 2 _ _ _ XR.out
    clear b1 b2 hf T NO rm
    go_wp2_with fail
    refine IA.out.mono ?_
    rintro e w3 ⟨A3, cap3, rfl, o3, b3⟩
    have F : Hid (RetZ w.heap.size (ancK l id) w (.returned (.slice A3 (ancK l id).length cap3)) w3) := hide ⟨A3, cap3, rfl, o3.more B2.out.size, B2.out.trans (b3.mono B2.out.size)⟩
    clear o3 b3 IA x0 x1 x2 XR
    generalize (ancK l id).length = an at *
    go_wp2_with fail
    go_ret
    exact F.out
end Go.Proofs.YtdahpnjamlfakaaGreatDoor
/-
  Maps that are written on: what stands at a key is what was stored last; flags.
-/
namespace Go.Proofs.YtdahpnjamlfakaaGreatDoor
open Go.RowKit Go.Maps

theorem hD_same (L : List (ByteArray × Value)) (k : ByteArray) (v : Value) : has (hD (L ++ [(k, v)])) (keyL k) = true ∧ ∀ z, (hD (L ++ [(k, v)])).atKey (keyL k) z = .held v := by
  rw [hD_snoc]
  exact ⟨has_put_same (hD_isMap L) (keyL_key k) _, fun z => atKey_put_same (hD_isMap L) (keyL_key k) _ _⟩
theorem hD_other (L : List (ByteArray × Value)) {k k' : ByteArray} (v : Value) (hne : k' ≠ k) : has (hD (L ++ [(k, v)])) (keyL k') = has (hD L) (keyL k') ∧ ∀ z, (hD (L ++ [(k, v)])).atKey (keyL k') z = (hD L).atKey (keyL k') z := by
  rw [hD_snoc]
  have h : keyL k' ≠ keyL k := fun e => hne (keyL_inj e)
  exact ⟨has_put_other h _, fun z => atKey_put_other h _ z⟩
/-- flags: some may have been set more than once -/
def Flags (W : World) (bm n : Nat) (S : List ByteArray) : Prop := HMap W bm n (S.map fun k => (k, .bool true))
theorem flags_val (k : ByteArray) : ∀ (n : Nat) (S : List ByteArray), S.length = n → has (hD (S.map fun k => (k, Value.bool true))) (keyL k) = memK S k ∧ (hD (S.map fun k => (k, Value.bool true))).atKey (keyL k) (.held (.bool false)) = .held (.bool (memK S k))
  | 0, S, h => by
    obtain rfl := List.eq_nil_of_length_eq_zero h
    have := hD_miss (L := []) (k := k) (by simp)
    rw [memK_no (l := []) (s := k) (by simp)]
    exact ⟨this.1, this.2 _⟩
  | n + 1, S, h => by
    rcases List.eq_nil_or_concat S with e | ⟨T, y, e⟩
    · subst e; cases h
    · subst e
      rw [List.concat_eq_append] at h ⊢
      have hT : T.length = n := by simpa using h
      rw [List.map_append, List.map_cons, List.map_nil]
      by_cases hy : k = y
      · subst hy
        have h1 := hD_same (T.map fun k => (k, Value.bool true)) k (.bool true)
        rw [memK_iff.2 (show k ∈ T ++ [k] by simp)]
        exact ⟨h1.1, h1.2 _⟩
      · have h1 := hD_other (T.map fun k => (k, Value.bool true)) (.bool true) hy
        have ih := flags_val k n T hT
        have e : memK (T ++ [y]) k = memK T k := by
          cases hm : memK T k
          · refine memK_no fun h2 => ?_
            rcases List.mem_append.1 h2 with h3 | h3
            · rw [memK_iff.2 h3] at hm; cases hm
            · rw [List.mem_singleton] at h3; exact hy h3
          · exact memK_iff.2 (List.mem_append.2 (.inl (memK_iff.1 hm)))
        rw [e]
        exact ⟨h1.1.trans ih.1, (h1.2 _).trans ih.2⟩
set_option maxRecDepth 100000 in
theorem Flags.look {W : World} {bm n : Nat} {S : List ByteArray} (h : Flags W bm n S) {k : ByteArray} (hk : k.size ≤ maxLen) :
    (Instr.lookup 133 (.map (some bm)) (.string k) false).run Tryz.prog W = .ok (.bool (memK S k)) W := by
  obtain ⟨v, h1, h2⟩ := HMap.get Tryz.underlying133 (z := .bool false) (by kernel_rfl) h hk
  rw [(flags_val k _ S rfl).2] at h2
  injection h2 with h2
  rw [h2]
  exact h1
set_option maxRecDepth 100000 in
theorem Flags.store {W : World} {bm n : Nat} {S : List ByteArray} (h : Flags W bm n S) (hn : n < maxLen) {k : ByteArray} (hk : k.size ≤ maxLen) :
    ∃ W', (Instr.mapUpdate 133 (.map (some bm)) (.string k) (.bool true)).run Tryz.prog W = .ok () W' ∧ Flags W' bm (n + 1) (S ++ [k]) ∧ W.grownBy W' (some bm) := by
  obtain ⟨W', h1, h2, h3⟩ := HMap.store Tryz.underlying133 h hn hk (.bool true)
  refine ⟨W', h1, ?_, h3⟩
  unfold Flags
  rw [List.map_append]
  exact h2
theorem Flags.made (w : World) : Flags (w.alloc (.map #[] 0)) w.heap.size 0 [] := hmap_made w
theorem Flags.obj {W : World} {bm n : Nat} {S : List ByteArray} (h : Flags W bm n S) : ∃ o : Obj, W.heap[bm]? = some o ∧ o.isWalk = true := by
  obtain ⟨es, clock, hb, _⟩ := h
  exact ⟨_, hb, rfl⟩
theorem Flags.kept {W W' : World} {bm n : Nat} {S : List ByteArray} {row : Option Nat} (h : Flags W bm n S) (hg : W.grownBy W' row) (hne : some bm ≠ row) : Flags W' bm n S := HMap.kept h hg hne
theorem Flags.below {W W' : World} {bm n : Nat} {S : List ByteArray} (h : Flags W bm n S) (hb : Below W.heap.size W W') : Flags W' bm n S := HMap.below h hb
/-- a step that turns one map below n₁ keeps what a round keeps -/
theorem Keep.map {n₀ n₁ r : Nat} {W W' : World} {o : Obj} (hg : W.grownBy W' (some r)) (hr : n₀ ≤ r) (hr1 : r < n₁) (hs : n₀ ≤ W.heap.size) (ho : W.heap[r]? = some o) (hw : o.isWalk = true) : Keep n₀ n₁ W W' := by
  refine ⟨KB.grown hg hr hs (fun o' h => by rw [ho] at h; injection h with h; subst h; exact not_box (Obj.not_cells_of_walk hw)), fun k o' hk hk2 _ => ?_⟩
  exact (hg.block k (Array.getElem?_eq_some_iff.1 hk2).1 (fun e => by injection e with e; omega)).trans hk2
theorem Keep.quiet {n₀ n₁ : Nat} {W W' : World} (q : Quiet W W') : Keep n₀ n₁ W W' := by
  have hb := q.below n₀
  obtain ⟨m, rfl⟩ := q
  exact ⟨⟨hb, fun _ _ h _ => h⟩, fun _ _ _ h _ => h⟩
theorem KeepsFrom.quiet {B : Nat} {W W' : World} (q : Quiet W W') : KeepsFrom B W W' := by
  obtain ⟨m, rfl⟩ := q
  exact ⟨Nat.le_refl _, fun _ _ _ h _ => h⟩
end Go.Proofs.YtdahpnjamlfakaaGreatDoor
/-
  What impl.repo's isAncestor and impl.IsAncestor answer.
-/
namespace Go.Proofs.YtdahpnjamlfakaaGreatDoor
open Go.RowKit Go.Shelf Go.Maps

attribute [local go_sem] Oper.semAt_some

open Classical in
/-- is a behind b? -/
noncomputable def ancB (l : List Pr) (a b : ByteArray) : Bool := decide (rdOk (valOf l b) = true ∧ Reach l b a)
open Classical in
theorem ancB_iff {l : List Pr} {a b : ByteArray} : ancB l a b = true ↔ rdOk (valOf l b) = true ∧ Reach l b a := by unfold ancB; exact decide_eq_true_iff
theorem ancB_no {l : List Pr} {a b : ByteArray} (h : ¬ (rdOk (valOf l b) = true ∧ Reach l b a)) : ancB l a b = false := by
  cases e : ancB l a b
  · rfl
  · exact absurd (ancB_iff.1 e) h
theorem reach_com {l : List Pr} {a b : ByteArray} (h : Reach l b a) (ha : rdOk (valOf l a) = true) : rdOk (valOf l b) = true := by
  induction h with
  | self => exact ha
  | next hx hq ih =>
    rename_i x q
    refine ih ?_
    cases hr : rdOk (valOf l x)
    · rw [parK_no hr] at hq; cases hq
    · rfl
/-- what a block beyond B that is no cells may turn is not this one -/
theorem row_fromA {B k : Nat} {W W' : World} {row : Option Nat} {o : Obj} (h : W.heap[k]? = some o) (hk : k < B) (hg : W.grownBy W' row) (hr : ∀ r, row = some r → B ≤ r ∧ ∃ o : Obj, W.heap[r]? = some o ∧ o.isCells = false) : W'.heap[k]? = some o :=
  (hg.block k (Array.getElem?_eq_some_iff.1 h).1 (fun e => by have := (hr k e.symm).1; omega)).trans h
theorem below_fromA {B b : Nat} {w W W' : World} {row : Option Nat} (h : Below b w W) (hb : b ≤ B) (hbw : b ≤ W.heap.size) (hg : W.grownBy W' row) (hr : ∀ r, row = some r → B ≤ r ∧ ∃ o : Obj, W.heap[r]? = some o ∧ o.isCells = false) : Below b w W' :=
  h.grown hg hbw (fun k e => Nat.le_trans hb (hr k e).1)

theorem heap_alloc_lA {w : World} {k : Nat} {o o' : Obj} (h : w.heap[k]? = some o) : (w.alloc o').heap[k]? = some o := (Below.heap_alloc w o' k (Array.getElem?_eq_some_iff.1 h).1).trans h
theorem heap_alloc_atA {w : World} {k : Nat} {o : Obj} (h : w.heap.size = k) : (w.alloc o).heap[k]? = some o := by subst h; exact heap_alloc_new w o
def noneIs {l : List Pr} (a : ByteArray) (pre : List (ComI l)) : Prop := ∀ z ∈ pre, z.1 ≠ a
def oneIs {l : List Pr} (a : ByteArray) (pre : List (ComI l)) : Prop := ∃ z ∈ pre, z.1 = a
def isRet (c : Code) : Prop := c = .ret

set_option maxRecDepth 100000 in
set_option maxHeartbeats 2000000 in
theorem isAnc_in {w₀ : World} {B bm bc : Nat} {l : List Pr} {vs : List Value} {rA : ByteArray → Option Addr} {rC : ByteArray → Nat} (bt : Nat) (R : RepoW w₀ B bm bc l vs rA rC) (F : Fence) (hd : F.depth = none) (h0 : F.fn 36) (h1 : F.fn 64) (h2 : F.fn 107) (hf : F.fn 108) (hro : F.round = none) (n : Nat) (hn : 3 ≤ n) (a b : ByteArray) (hb : b.size ≤ maxLen) (w : World) (hbel : Below w₀.heap.size w₀ w) :
    CallsIn F n Tryz.prog 36 #[.agg #[.map (some bt), .map (some bm), .map (some bc)], .string a, .string b] w fun e w' => e = .returned (.bool (ancB l a b)) ∧ Below w.heap.size w w' := by
  have h1n : 1 ≤ n := by omega
  have hdd : ∀ k : Nat, (F.depth.isSome = true → 1 ≤ k) := fun k h => by rw [hd] at h; cases h
  have XR := heap_alloc_new w (.cells #[.map (some bt), .map (some bm), .map (some bc)] 47)
  have x0 := cell_of_row _ _ 0 _ _ _ XR
  have x1 := cell_of_row _ _ 1 _ _ _ XR
  have x2 := cell_of_row _ _ 2 _ _ _ XR
  refine callsIn_of_wp_marks Tryz.func36 rfl h0 ?_ hro
  simp only [Tryz.ntmps36, List.size_toArray, List.length_cons, List.length_nil, Nat.reduceAdd, Nat.reduceSub, Array.replicate_succ, Array.replicate_zero, List.push_toArray, List.append_toArray, List.nil_append, List.cons_append]
  gi_wp2_with ((try refine ⟨hdd _, ?_⟩); gi_at_call 64; refine (behind_in F h1 hro (n - 1) bt bm bc b _).mono ?_; rintro e w' ⟨rfl, rfl⟩)
  obtain ⟨W0, hW0⟩ : ∃ W0, (((((w.alloc (.cells #[.map (some bt), .map (some bm), .map (some bc)] 47)).alloc (.cells #[.string a] 9)).alloc (.cells #[.bool false] 4)).alloc (.cells #[.map (some bt), .map (some bm), .map (some bc)] 47)).alloc (.cells #[.string b] 9)) = W0 := ⟨_, rfl⟩
  rw [hW0]
  have hB0 : Below w.heap.size w W0 := by rw [← hW0]; exact (((((Below.refl _ w).alloc (Nat.le_refl _) _).alloc (by simp) _).alloc (by simp; omega) _).alloc (by simp; omega) _).alloc (by simp; omega) _
  have hS0 : Hid (W0.heap.size = w.heap.size + 5) := hide (by rw [← hW0]; simp)
  have hs0 := hS0.out
  have hA : W0.heap[w.heap.size + 1]? = some (.cells #[.string a] 9 (0, 0)) := by rw [← hW0]; exact heap_alloc_lA (heap_alloc_lA (heap_alloc_lA (heap_alloc_atA (by simp))))
  have hR : W0.heap[w.heap.size + 1 + 1]? = some (.cells #[.bool false] 4 (0, 0)) := by rw [← hW0]; exact heap_alloc_lA (heap_alloc_lA (heap_alloc_atA (by simp)))
  have hX : W0.heap[w.heap.size + 1 + 1 + 1]? = some (.cells #[.map (some bt), .map (some bm), .map (some bc)] 47 (0, 0)) := by rw [← hW0]; exact heap_alloc_lA (heap_alloc_atA (by simp))
  have hI : W0.heap[w.heap.size + 1 + 1 + 1 + 1]? = some (.cells #[.string b] 9 (0, 0)) := by rw [← hW0]; exact heap_alloc_atA (by simp)
  clear hW0 XR x0 x1 x2
  obtain ⟨g1, e1⟩ : ∃ g, w.heap.size + 1 = g := ⟨_, rfl⟩
  rw [e1] at hA hR hX hI ⊢
  obtain ⟨g2, e2⟩ : ∃ g, g1 + 1 = g := ⟨_, rfl⟩
  rw [e2] at hR hX hI ⊢
  obtain ⟨g3, e3⟩ : ∃ g, g2 + 1 = g := ⟨_, rfl⟩
  rw [e3] at hX hI ⊢
  obtain ⟨g4, e4⟩ : ∃ g, g3 + 1 = g := ⟨_, rfl⟩
  rw [e4] at hI ⊢
  have hw0 : w₀.heap.size ≤ w.heap.size := hbel.size
  have hr1 : g1 < W0.heap.size := by omega
  have hr2 : g2 < W0.heap.size := by omega
  have hr3 : w.heap.size ≤ g2 := by omega
  have hr4 : w.heap.size ≤ W0.heap.size := by omega
  have hr5 : w₀.heap.size ≤ W0.heap.size := by omega
  clear hs0
  refine wpIn_rangeFunc_ownF hro h1n (gf := 107) (lb := #[.pointer (some ⟨g3, 0, none⟩), .pointer (some ⟨g4, 0, none⟩)]) rfl h2 (enters_of Tryz.func107 (by kernel_rfl) rfl)
    (behind_stops bt R F hd h2 hf hro (n - 1) W0.heap.size g3 g4 b hb W0 hr5 (Nat.le_refl _) (hbel.trans (hB0.mono hw0)) hX hI) (fun h k => Keep.trans h k) (fun W l o o' h1 h2 h3 h4 => Keep.putObj W l o o' (Nat.le_trans hr5 h1) h2 h3 h4) (Below.refl _ _) (fun _ => rfl)
    (fun pre W => noneIs a pre ∧ W.heap[g1]? = some (.cells #[.string a] 9 (0, 0)) ∧ W.heap[g2]? = some (.cells #[.bool false] 4 (0, 0)) ∧ Below w.heap.size w W)
    (fun c pre W => isRet c ∧ oneIs a pre ∧ W.heap[g2]? = some (.cells #[.bool true] 4 (0, 0)) ∧ Below w.heap.size w W)
    (fun s A B row hs hg hr => ⟨hs.1, row_fromA hs.2.1 hr1 hg hr, row_fromA hs.2.2.1 hr2 hg hr, below_fromA hs.2.2.2 hr4 hs.2.2.2.size hg hr⟩)
    (fun c s A B row hs hg hr => ⟨hs.1, hs.2.1, row_fromA hs.2.2.1 hr2 hg hr, below_fromA hs.2.2.2 hr4 hs.2.2.2.size hg hr⟩)
    ⟨(fun z hz => by cases hz), hA, hR, hB0⟩
    (fun x => { tmps := #[.agg #[.map (some bt), .map (some bm), .map (some bc)], .string a, .string b, .pointer (some ⟨w.heap.size, 0, none⟩), .pointer (some ⟨g1, 0, none⟩), undef, .pointer (some ⟨g2, 0, none⟩), .string x.1, .agg #[.map (some bt), .map (some bm), .map (some bc)], .string b, .func (.func 107) #[] #[.pointer (some ⟨g3, 0, none⟩), .pointer (some ⟨g4, 0, none⟩)], .string x.1, .agg #[.string (treK l x.1), .slice (rA x.1) (lenK l x.1) (rC x.1), .string (notK l x.1)], undef, undef, undef], defers := [] }) ?assign ?body ?done ?stop
  case assign =>
    intro lr x W K hK
    simp only [encC]
    gi_wp2
    exact hK
  case body =>
    rintro lr pre x W ⟨hp, hA, hR, hB⟩ _
    have c1 := cell_of_row _ _ 0 _ _ _ hA
    have c2 := cell_of_row _ _ 0 _ _ _ hR
    have f2 := frozen_of_row _ _ 0 _ _ hR
    by_cases hxa : x.1 = a
    · have d := eqS_yes hxa
      have IX : Hid (KeepsOthers W (W.setCell ⟨g2, 0, none⟩ (.bool true)) ∧ (isRet Code.ret ∧ oneIs a (pre ++ [x]) ∧ (W.setCell ⟨g2, 0, none⟩ (.bool true)).heap[g2]? = some (.cells #[.bool true] 4 (0, 0)) ∧ Below w.heap.size w (W.setCell ⟨g2, 0, none⟩ (.bool true)))) := hide
        ⟨KeepsOthers.setCell _ _ _, rfl, ⟨x, by simp, hxa⟩, heap_setCell_same W g2 0 _ _ (.bool true) hR, hB.setCell (p := ⟨g2, 0, none⟩) hr3 _⟩
      clear hxa hp hA hR hB
      gi_wp2
      exact IX.out
    · have d := eqS_no hxa
      have IX : Hid (KeepsOthers W W ∧ Keep w₀.heap.size W0.heap.size W W ∧ (noneIs a (pre ++ [x]) ∧ W.heap[g1]? = some (.cells #[.string a] 9 (0, 0)) ∧ W.heap[g2]? = some (.cells #[.bool false] 4 (0, 0)) ∧ Below w.heap.size w W)) := hide
        ⟨KeepsOthers.refl _, Keep.refl _ _ _, fun z hz => by
          rcases List.mem_append.1 hz with h | h
          · exact hp z h
          · rw [List.mem_singleton] at h; subst h; exact hxa, hA, hR, hB⟩
      clear hxa hp hA hR hB
      gi_wp2
      exact IX.out
  case done =>
    rintro D ys W hD ⟨_, hall⟩ ⟨hp, hA, hR, hB⟩ hK
    have c2 := cell_of_row _ _ 0 _ _ _ hR
    have f2 := frozen_of_row _ _ 0 _ _ hR
    have hK' := (KeepsOthers.setCell W ⟨g2, 0, none⟩ (.bool false)).same D _ hK rfl
    have Z : ancB l a b = false := ancB_no (fun h => by
      obtain ⟨z, hz1, hz2⟩ := List.mem_map.1 ((hall a).2 h)
      exact hp z hz1 hz2)
    have hR' := heap_setCell_same W g2 0 _ _ (.bool false) hR
    have hB' := hB.setCell (p := ⟨g2, 0, none⟩) hr3 (.bool false)
    gi_wp2
    refine ⟨by simp, .inl ⟨_, _, rfl, run_takeDeferred hK', ?_⟩⟩
    have hc5 := cell_kept (cell_of_row _ _ 0 _ _ _ hR') (grownBy_putObj' _ D (.deferred none)) (fun r e => by cases e; exact ⟨_, hK', rfl⟩)
    refine ⟨.bool false, ?_, by rw [Z], hB'.trans (belowK_b (w := w) (Nat.le_refl _) _ D _ _ (Nat.le_trans hr4 hD) hK' rfl rfl)⟩
    simp [results, Tryz.f36, go_sem, hc5]
  case stop =>
    rintro D c pre W hD hsp ⟨rfl, ⟨z, hz, hza⟩, hR, hB⟩ hK
    have Z : ancB l a b = true := ancB_iff.2 (by
      have h := hsp z hz
      rw [hza] at h
      have hc := z.2.1
      rw [hza] at hc
      exact ⟨reach_com h hc, h⟩)
    gi_wp2
    refine ⟨by simp, .inl ⟨_, _, rfl, run_takeDeferred hK, ?_⟩⟩
    have hc5 := cell_kept (cell_of_row _ _ 0 _ _ _ hR) (grownBy_putObj' _ D (.deferred none)) (fun r e => by cases e; exact ⟨_, hK, rfl⟩)
    refine ⟨.bool true, ?_, by rw [Z], hB.trans (belowK_b (w := w) (Nat.le_refl _) W D _ _ (Nat.le_trans hr4 hD) hK rfl rfl)⟩
    simp [results, Tryz.f36, go_sem, hc5]
end Go.Proofs.YtdahpnjamlfakaaGreatDoor
/-
  What impl.IsAncestor answers.
-/
namespace Go.Proofs.YtdahpnjamlfakaaGreatDoor
open Go.RowKit Go.Shelf Go.Maps

theorem isAnc_any {w₀ : World} {B bm bc : Nat} {l : List Pr} {vs : List Value} (bt : Nat) (hM : RepoM w₀ B bm bc 60 l vs) (hr : repoB l = true) (a b : ByteArray) (hb : b.size ≤ maxLen) (w : World) (hbel : Below w₀.heap.size w₀ w) :
    Calls Tryz.prog 36 #[.agg #[.map (some bt), .map (some bm), .map (some bc)], .string a, .string b] w fun e w' => e = .returned (.bool (ancB l a b)) ∧ Below w.heap.size w w' := by
  obtain ⟨rA, rC, R⟩ := hM.toW hr
  exact callsIn_wide.1 (isAnc_in bt R Fence.wide rfl trivial trivial trivial trivial rfl 3 (Nat.le_refl _) a b hb w hbel)
theorem isAncV_yes {l : List Pr} (hr : repoB l = true) (a b : ByteArray) : isAncV l a b = ancB l a b := by
  cases h : ancB l a b
  · refine memK_no fun hm => ?_
    rw [ancB_iff.2 (ancK_mem.1 hm).2] at h
    cases h
  · exact memK_iff.2 (ancK_mem.2 ⟨hr, ancB_iff.1 h⟩)
theorem isAncV_no {l : List Pr} (hr : repoB l = false) (a b : ByteArray) : isAncV l a b = false := memK_no fun hm => by
  rw [(ancK_mem.1 hm).1] at hr
  cases hr

set_option maxRecDepth 100000 in
set_option maxHeartbeats 1000000 in
theorem implIsAncestor_any (A : Option Addr) (l : List Pr) (cap : Nat) (x y : ByteArray) (a : Addr) (w : World) (hl : l.length ≤ maxLen) (hin : PIn w w.heap.size A l) (hy : y.size ≤ maxLen) (hT : Tabs w) (hE : ErrC w a) :
    Calls Tryz.prog 19 #[.slice A l.length cap, .string x, .string y] w fun e w' => e = .returned (.bool (isAncV l x y)) ∧ Below w.heap.size w w' := by
  have T := hide (repoOf_any A l cap a w hl hin hT hE)
  have NO := hide (fun h => isAncV_no (l := l) h x y)
  have YES := hide (fun h => isAncV_yes (l := l) h x y)
  clear hin hT hE hl
  generalize l.length = n at *
  go_enter Tryz.func19, Tryz.ntmps19
  go_wp2_with fail
  refine T.out.mono ?_
  rintro e w1 ⟨b1, ⟨hf, rfl⟩ | ⟨hf, bt, bm, bc, B, vs, rfl, _, _, _, _, _, _, rm⟩⟩
  · have Z := hide (NO.out hf)
    have B1 := hide (b1.alloc b1.size (.cells #[.map none, .map none, .map none] 47))
    clear b1 hf T NO YES
    go_wp2_with fail
    go_ret
    exact ⟨ret_bool Z.out.symm, B1.out⟩
  · have Z := hide (YES.out hf)
    have b2 := (Below.refl w1.heap.size w1).alloc (Nat.le_refl _) (.cells #[.map (some bt), .map (some bm), .map (some bc)] 47)
    have B2 := hide (b1.trans (b2.mono b1.size))
    have XR := hide (heap_alloc_new w1 (.cells #[.map (some bt), .map (some bm), .map (some bc)] 47))
    have IA := hide (isAnc_any bt rm hf x y hy _ b2)
    have x0 := cell_of_row _ _ 0 _ _ _ XR.out
    have x1 := cell_of_row _ _ 1 _ _ _ XR.out
    have x2 := cell_of_row _ _ 2 _ _ _ XR.out
    clear b1 b2 hf T NO YES rm
    go_wp2_with fail
    refine IA.out.mono ?_
    rintro e w3 ⟨rfl, b3⟩
    have B3 := hide (B2.out.trans (b3.mono B2.out.size))
    clear b3 IA x0 x1 x2 XR
    generalize ancB l x y = v at *
    go_wp2_with fail
    go_ret
    exact ⟨ret_bool Z.out.symm, B3.out⟩
end Go.Proofs.YtdahpnjamlfakaaGreatDoor
/-
  What the laws on what is behind commits want: mathematics.
-/
namespace Go.Proofs.YtdahpnjamlfakaaGreatDoor
open Go.RowKit

theorem bestK_swap (l : List Pr) (a b : ByteArray) : bestK l b a = bestK l a b := by
  have hs : ∀ z, z ∈ bothK l b a ↔ z ∈ bothK l a b := fun z => by rw [bothK_mem, bothK_mem]; exact And.comm
  refine RisK.ext (bestK_ris l b a) (bestK_ris l a b) fun z => ?_
  rw [bestK_mem, bestK_mem, hs]
  constructor
  · rintro ⟨h1, h2⟩
    exact ⟨h1, fun y hy => h2 y ((hs y).2 hy)⟩
  · rintro ⟨h1, h2⟩
    exact ⟨h1, fun y hy => h2 y ((hs y).1 hy)⟩
theorem best_both {l : List Pr} {a b z : ByteArray} (h : z ∈ bestK l a b) : z ∈ bothK l a b := (bestK_mem.1 h).1
theorem best_in {l : List Pr} {a b z : ByteArray} (h : z ∈ bestK l a b) : z ∈ ancK l a ∧ z ∈ ancK l b := bothK_mem.1 (best_both h)
/-- what is behind another one of both isn't one of the best -/
theorem best_alone {l : List Pr} {a b x y : ByteArray} (hx : x ∈ bestK l a b) (hy : y ∈ bothK l a b) (h : x ∈ ancK l y) : y = x := by
  unfold bestK at hx
  rw [List.mem_filter, topK_iff] at hx
  obtain ⟨h1, h2, h3⟩ := ancK_mem.1 h
  rcases hx.2 y hy with e | e
  · exact e
  · rw [← ancK_yes h1 h2] at e; exact absurd h e
theorem best_under {l : List Pr} (hA : Acy l) {a b z : ByteArray} (hz : z ∈ bothK l a b) : ∃ y ∈ bestK l a b, z ∈ ancK l y := by
  obtain ⟨y, hy, hr, ht⟩ := hA.top (bothK l a b) hz
  have hl := bothK_repo hy
  refine ⟨y, bestK_mem.2 ⟨hy, fun u hu hp => ?_⟩, ancK_mem.2 ⟨hl, (bothK_ris l a b).2 y hy, hr⟩⟩
  have e := ht u hu (Reach.self.next hp)
  exact parK_own hl hp e.symm
theorem anc_sub {l : List Pr} {x id : ByteArray} (hx : x ∈ ancK l id) : ∀ z ∈ ancK l x, z ∈ ancK l id := fun z hz => by
  obtain ⟨h1, h2, h3⟩ := ancK_mem.1 hx
  obtain ⟨_, _, h4⟩ := ancK_mem.1 hz
  exact ancK_mem.2 ⟨h1, h2, h3.trans h4⟩
theorem anc_self {l : List Pr} {x id : ByteArray} (hx : x ∈ ancK l id) : x ∈ ancK l x := by
  obtain ⟨h1, h2, h3⟩ := ancK_mem.1 hx
  exact ancK_mem.2 ⟨h1, h3.com h1 h2, .self⟩
theorem base_self {l : List Pr} (hA : Acy l) {x id : ByteArray} (hx : x ∈ ancK l id) : bestK l x id = [x] := by
  refine RisK.ext (bestK_ris l x id) (List.pairwise_singleton ..) fun z => ?_
  rw [List.mem_singleton]
  have hxx := anc_self hx
  have hxb : x ∈ bothK l x id := bothK_mem.2 ⟨hxx, hx⟩
  constructor
  · intro hz
    exact (best_alone hz hxb (best_in hz).1).symm
  · rintro rfl
    refine bestK_mem.2 ⟨hxb, fun y hy hp => ?_⟩
    obtain ⟨h1, h2, h3⟩ := ancK_mem.1 (bothK_mem.1 hy).1
    have e := hA.anti h3 (Reach.self.next hp)
    exact parK_own h1 hp e
theorem anc_two {l : List Pr} (hA : Acy l) {a b : ByteArray} (h1 : a ∈ ancK l b) (h2 : b ∈ ancK l a) : a = b :=
  hA.anti (ancK_mem.1 h2).2.2 (ancK_mem.1 h1).2.2
/-- what is behind one: its parents, too; and all but itself are parents of one -/
theorem anc_par {l : List Pr} {id k q : ByteArray} (h : k ∈ ancK l id) (hq : q ∈ parK l k) : q ∈ ancK l id := by
  obtain ⟨h1, h2, h3⟩ := ancK_mem.1 h
  exact ancK_mem.2 ⟨h1, h2, h3.next hq⟩
theorem anc_of {l : List Pr} {id z : ByteArray} (h : z ∈ ancK l id) (hn : z ≠ id) : ∃ k ∈ ancK l id, z ∈ parK l k := by
  obtain ⟨h1, h2, h3⟩ := ancK_mem.1 h
  cases h3 with
  | self => exact absurd rfl hn
  | next hx hp => exact ⟨_, ancK_mem.2 ⟨h1, h2, hx⟩, hp⟩
theorem anc_rd {l : List Pr} {id z : ByteArray} (h : z ∈ ancK l id) : rdOk (valOf l z) = true := (ancK_ris l id).2 z h
theorem key_max {l : List Pr} (ho : objsB l = true) {k : ByteArray} (h : rdOk (valOf l k) = true) : k.size ≤ maxLen := by
  rw [← valOf_id ho (has_rd h)]
  exact idL_max _
/-- behind one of these? -/
noncomputable def anyK (l : List Pr) (S : List ByteArray) (z : ByteArray) : Bool := S.any (fun y => isAncV l z y)
theorem anyK_next {l : List Pr} {S : List ByteArray} {z y : ByteArray} : anyK l (S ++ [y]) z = (anyK l S z || isAncV l z y) := by unfold anyK; simp
theorem anyK_nil (l : List Pr) (z : ByteArray) : anyK l [] z = false := rfl
theorem anyK_best {l : List Pr} (hA : Acy l) {a b z : ByteArray} (h1 : z ∈ ancK l a) (h2 : z ∈ ancK l b) : anyK l (bestK l a b) z = true := by
  obtain ⟨y, hy, hz⟩ := best_under hA (bothK_mem.2 ⟨h1, h2⟩)
  exact List.any_eq_true.2 ⟨y, hy, memK_iff.2 hz⟩
theorem best_apart {l : List Pr} {a b x y : ByteArray} (hx : x ∈ bestK l a b) (hy : y ∈ bestK l a b) (hne : y ≠ x) : isAncV l x y = false := by
  cases e : isAncV l x y
  · rfl
  · exact absurd (best_alone hx (best_both hy) (memK_iff.1 e)) hne
end Go.Proofs.YtdahpnjamlfakaaGreatDoor
