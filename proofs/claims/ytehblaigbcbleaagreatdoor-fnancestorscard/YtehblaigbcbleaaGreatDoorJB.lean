/-
  Texts that this proof leans on, joined: JB.
-/
import Derived.Test.YtehblaigbcbleaaGreatDoorJC
import Derived.Lib.SlicesCompact
import Derived.Sort.KeysCollected
import Derived.Test.YtehblaigbcbleaaGreatDoorSLay
import Derived.Sort.OwnSorted
import Derived.Sort.Grow
import Derived.Lib.OwnBridge
import Derived.Lib.RowBridge
import Derived.Test.YtehblaigbcbleaaGreatDoorJW
import Derived.Test.YtehblaigbcbleaaGreatDoorJR
import Derived.Test.YtehblaigbcbleaaGreatDoorDLay
import Derived.Shelf.SlicesE.DeleteFunc
import Derived.Test.YtehblaigbcbleaaGreatDoorJD
import Derived.Test.YtehblaigbcbleaaGreatDoorJO
/-
  Texts sorted, each once: the rising list of the same members. Plain mathematics.
-/
namespace Go.Proofs.YtehblaigbcbleaaGreatDoor
open Go.RowKit Go.Lib

theorem le_of_ltL : ∀ {x y : List UInt8}, Op.bytesLess x y = true → x ≤ y
  | _, [], h => by simp [Op.bytesLess] at h
  | [], _ :: _, _ => List.nil_le _
  | a :: x, b :: y, h => by
    simp only [Op.bytesLess, Bool.or_eq_true, Bool.and_eq_true, decide_eq_true_eq, beq_iff_eq] at h
    rw [List.cons_le_cons_iff]
    rcases h with h | ⟨h, h'⟩
    · exact .inl h
    · exact .inr ⟨h, le_of_ltL h'⟩
theorem ofL_toL (x : List UInt8) : (ByteArray.mk x.toArray).toList = x := by rw [Go.ByteArray.toList_eq]
theorem lt_of_le_ne {x y : List UInt8} (h : x ≤ y) (hne : x ≠ y) : ltB (ByteArray.mk x.toArray) (ByteArray.mk y.toArray) = true := by
  rcases ltB_tri (ByteArray.mk x.toArray) (ByteArray.mk y.toArray) with g | g | g
  · exact g
  · have e : (ByteArray.mk x.toArray).toList = (ByteArray.mk y.toArray).toList := by rw [g]
    rw [ofL_toL, ofL_toL] at e
    exact absurd e hne
  · unfold ltB at g
    rw [ofL_toL, ofL_toL] at g
    exact absurd (List.le_antisymm h (le_of_ltL g)) hne
theorem kept_first (d : Array (List UInt8)) (x : List UInt8) : ∀ i, d[i]! = x → ∃ j, j ≤ i ∧ keeps d j = true ∧ d[j]! = x
  | 0, h => ⟨0, Nat.le_refl _, by simp [keeps], h⟩
  | i + 1, h => by
    by_cases e : d[i + 1]! = d[i]!
    · obtain ⟨j, h1, h2, h3⟩ := kept_first d x i (by rw [← e]; exact h)
      exact ⟨j, by omega, h2, h3⟩
    · exact ⟨i + 1, Nat.le_refl _, keeps_pos e, h⟩
theorem compact_mem (zs : List (List UInt8)) (x : List UInt8) : x ∈ compact zs ↔ x ∈ zs := by
  have hget : ∀ i, i < zs.length → zs.toArray[i]! ∈ zs := fun i hi => by
    have : zs.toArray[i]! = zs[i] := by simp [hi]
    rw [this]
    exact List.getElem_mem hi
  unfold compact compactUpTo
  rw [List.mem_map]
  constructor
  · rintro ⟨i, hi, rfl⟩
    exact hget i (List.mem_range.1 (List.mem_filter.1 hi).1)
  · intro hx
    obtain ⟨i, hi, rfl⟩ := List.mem_iff_getElem.1 hx
    obtain ⟨j, h1, h2, h3⟩ := kept_first zs.toArray zs[i] i (by simp [hi])
    exact ⟨j, List.mem_filter.2 ⟨List.mem_range.2 (by omega), h2⟩, h3⟩
theorem compact_rise (zs : List (List UInt8)) (h : zs.Pairwise fun x y => x ≤ y) : (compact zs).Pairwise fun x y => x ≤ y ∧ x ≠ y := by
  have hget : ∀ i (hi : i < zs.length), zs.toArray[i]! = zs[i] := fun i hi => by simp [hi]
  have hle : ∀ i j, i ≤ j → j < zs.length → zs.toArray[i]! ≤ zs.toArray[j]! := fun i j hij hj => by
    rw [hget i (by omega), hget j hj]
    rcases Nat.lt_or_ge i j with g | g
    · exact List.pairwise_iff_getElem.1 h i j (by omega) hj g
    · obtain rfl : i = j := by omega
      exact List.le_refl _
  unfold compact compactUpTo
  rw [List.pairwise_map, List.pairwise_filter]
  refine List.Pairwise.imp_of_mem (R := fun i j => i < j) ?_ List.pairwise_lt_range
  intro i j hi hj hij _ hk
  have hj' := List.mem_range.1 hj
  refine ⟨hle i j (by omega) hj', fun e => ?_⟩
  have h1 := hle i (j - 1) (by omega) (by omega)
  have h2 := hle (j - 1) j (by omega) hj'
  rw [e] at h1
  have h3 := List.le_antisymm h2 h1
  unfold keeps at hk
  have hk := of_decide_eq_true hk
  rcases hk with x | x
  · omega
  · exact x h3.symm
/-- the texts of bs, sorted, each once -/
theorem uniq_keys {bs ks : List ByteArray} (hk : RisK ks) (hm : ∀ x, x ∈ ks ↔ x ∈ bs) : compact ((bs.map fun b => b.data.toList).mergeSort fun x y => decide (x ≤ y)) = ks.map fun b => b.data.toList := by
  have tr : ∀ a b c : List UInt8, decide (a ≤ b) = true → decide (b ≤ c) = true → decide (a ≤ c) = true := fun a b c h1 h2 => by simp only [decide_eq_true_eq] at *; exact List.le_trans h1 h2
  have to : ∀ a b : List UInt8, (decide (a ≤ b) || decide (b ≤ a)) = true := fun a b => by simp only [Bool.or_eq_true, decide_eq_true_eq]; exact List.le_total a b
  have hs := List.pairwise_mergeSort tr to (bs.map fun b => b.data.toList)
  have hr := compact_rise _ (hs.imp fun {x y} h => of_decide_eq_true h)
  have h1 : RisK ((compact ((bs.map fun b => b.data.toList).mergeSort fun x y => decide (x ≤ y))).map fun l => ByteArray.mk l.toArray) := List.pairwise_map.2 (hr.imp fun {x y} h => lt_of_le_ne h.1 h.2)
  have back : ∀ b : ByteArray, ByteArray.mk b.data.toList.toArray = b := fun b => by simp
  have e : (compact ((bs.map fun b => b.data.toList).mergeSort fun x y => decide (x ≤ y))).map (fun l => ByteArray.mk l.toArray) = ks := by
    refine RisK.ext h1 hk fun x => ?_
    rw [hm, List.mem_map]
    constructor
    · rintro ⟨l, hl, rfl⟩
      rw [compact_mem, List.mem_mergeSort, List.mem_map] at hl
      obtain ⟨b, hb, rfl⟩ := hl
      rw [back]
      exact hb
    · intro hx
      exact ⟨x.data.toList, (compact_mem _ _).2 (List.mem_mergeSort.2 (List.mem_map.2 ⟨x, hx, rfl⟩)), back x⟩
  rw [← e, List.map_map]
  conv => lhs; rw [← List.map_id (compact _)]
  refine List.map_congr_left fun l _ => ?_
  simp
end Go.Proofs.YtehblaigbcbleaaGreatDoor
/-
  What slices.Sort and slices.Compact do to a row of texts of the call's own, by the library's contracts.
-/
namespace Go.Proofs.YtehblaigbcbleaaGreatDoor
open Go.RowKit Go.Lib Go.Sort

/-- texts as lists of bytes -/
def toLs (bs : List ByteArray) : List (List UInt8) := bs.map fun b => b.data.toList
def sortL (zs : List (List UInt8)) : List (List UInt8) := zs.mergeSort fun x y => decide (x ≤ y)
theorem sortL_len (zs : List (List UInt8)) : (sortL zs).length = zs.length := List.length_mergeSort zs
theorem toLs_len (bs : List ByteArray) : (toLs bs).length = bs.length := by unfold toLs; simp
theorem toLs_enc (bs : List ByteArray) : (toLs bs).map encStr = bs.map Value.string := by
  unfold toLs
  rw [List.map_map]
  refine List.map_congr_left fun p _ => ?_
  simp [encStr]
/-- a row of the call's own, its texts as lists of bytes -/
def LOwn (w : World) (B : Nat) (A : Option Addr) (cap : Nat) (zs : List (List UInt8)) : Prop := w.ownsRow B 9 1 (.slice A zs.length cap) zs.length (zs.map encStr)
theorem ZOwn.toL {w : World} {B : Nat} {A : Option Addr} {cap : Nat} {bs : List ByteArray} (h : ZOwn w B A cap bs) : LOwn w B A cap (toLs bs) := by
  unfold LOwn
  rw [toLs_enc, toLs_len]
  exact h
theorem LOwn.toZ {w : World} {B : Nat} {A : Option Addr} {cap : Nat} {bs : List ByteArray} (h : LOwn w B A cap (toLs bs)) : ZOwn w B A cap bs := by
  unfold LOwn at h
  rw [toLs_enc, toLs_len] at h
  exact h
theorem LOwn.form {w : World} {B : Nat} {A : Option Addr} {cap : Nat} {zs : List (List UInt8)} (h : LOwn w B A cap zs) : (A = none ∧ cap = 0 ∧ zs = []) ∨ ∃ g cur, A = some ⟨g, 0, none⟩ ∧ B ≤ g ∧ g < w.heap.size ∧ w.heap[g]? = some (.cells cur 9 (0, 0)) ∧ zs.length ≤ cap ∧ cap ≤ maxLen ∧ cur.size = cap * 1 ∧ Holds encStr w g 0 zs.toArray := by
  rcases h.2 with ⟨e, e'⟩ | ⟨g, c, cur, e, hb, hg, h1, h2, h3, h4⟩
  · injection e with e1 e2 e3
    exact .inl ⟨e1, e3, List.eq_nil_of_length_eq_zero e2⟩
  · injection e with e1 e2 e3
    obtain ⟨g', cap', e', _, _, _, _, _, hH⟩ := holds_of_ownsRow h (by rw [e1]; simp)
    rw [e1] at e'
    injection e' with e4 e5 e6
    injection e4 with e4
    injection e4 with e4
    subst e4 e3
    exact .inr ⟨g, cur, e1, hb, (Array.getElem?_eq_some_iff.1 hg).1, hg, h1, h2, h3, hH⟩

theorem sort_any (A : Option Addr) (zs : List (List UInt8)) (cap : Nat) (w : World) (B : Nat) (hown : LOwn w B A cap zs) (hl : zs.length ≤ 100000) :
    Calls Tryz.prog 117 #[.slice A zs.length cap] w fun e w' => e = .returned (.tuple #[]) ∧ LOwn w' B A cap (sortL zs) ∧ w.grownBy w' (rowOf A) := by
  rcases hown.form with ⟨rfl, rfl, rfl⟩ | ⟨g, cur, rfl, hB, hg, hc, h1, h2, h3, hH⟩
  · refine (show Calls Tryz.prog 117 #[.slice none 0 0] w fun e w' => e = .returned (.tuple #[]) ∧ w' = w from AnyM.slices_Sort_string_none Tryz.sort117 none 0 w).mono ?_
    rintro e w' ⟨rfl, rfl⟩
    exact ⟨rfl, by simpa [sortL] using hown, World.grownBy.refl _ _⟩
  · refine (show Calls Tryz.prog 117 #[.slice (some ⟨g, 0, none⟩) zs.length cap] w _ from AnyM.slices_Sort_string Tryz.sort117 g 0 cap zs w hH hg (by omega)).mono ?_
    rintro e w' ⟨rfl, n, os, rfl⟩
    refine ⟨rfl, ?_, grownBy_sorted _⟩
    have hs := ownsRow_sorted (n := n) (os := os) (ts := sortL zs) (sortL_len zs) hB hc h1 h2 h3
    unfold LOwn
    rw [sortL_len]
    exact hs

/-- a row that is sorted, each once -/
theorem uniq_own {w : World} {B : Nat} {A : Option Addr} {cap : Nat} {bs ks : List ByteArray} (hk : RisK ks) (hm : ∀ x, x ∈ ks ↔ x ∈ bs) (h : LOwn w B A cap (compact (sortL (toLs bs)))) : ZOwn w B A cap ks ∧ (compact (sortL (toLs bs))).length = ks.length := by
  have e : compact (sortL (toLs bs)) = toLs ks := uniq_keys hk hm
  rw [e] at h ⊢
  exact ⟨h.toZ, toLs_len ks⟩
end Go.Proofs.YtehblaigbcbleaaGreatDoor
/-
  What impl.repo's ancestors and impl.Ancestors answer.
-/
namespace Go.Proofs.YtehblaigbcbleaaGreatDoor
open Go.RowKit Go.Shelf Go.Maps

attribute [local go_sem] Oper.semAt_some

theorem row_from {B k : Nat} {W W' : World} {row : Option Nat} {o : Obj} (h : W.heap[k]? = some o) (hk : k < B) (hg : W.grownBy W' row) (hr : ∀ r, row = some r → B ≤ r ∧ ∃ o : Obj, W.heap[r]? = some o ∧ o.isCells = false) : W'.heap[k]? = some o :=
  (hg.block k (Array.getElem?_eq_some_iff.1 h).1 (fun e => by have := (hr k e.symm).1; omega)).trans h
theorem below_from {B b : Nat} {w W W' : World} {row : Option Nat} (h : Below b w W) (hb : b ≤ B) (hbw : b ≤ W.heap.size) (hg : W.grownBy W' row) (hr : ∀ r, row = some r → B ≤ r ∧ ∃ o : Obj, W.heap[r]? = some o ∧ o.isCells = false) : Below b w W' :=
  h.grown hg hbw (fun k e => Nat.le_trans hb (hr k e).1)
theorem heap_alloc_l {w : World} {k : Nat} {o o' : Obj} (h : w.heap[k]? = some o) : (w.alloc o').heap[k]? = some o := (Below.heap_alloc w o' k (Array.getElem?_eq_some_iff.1 h).1).trans h
theorem heap_alloc_at {w : World} {k : Nat} {o : Obj} (h : w.heap.size = k) : (w.alloc o).heap[k]? = some o := by subst h; exact heap_alloc_new w o
/-- the row of texts is a block of strings -/
theorem zown_block {W : World} {B : Nat} {A : Option Addr} {cap : Nat} {bs : List ByteArray} (h : ZOwn W B A cap bs) {g : Nat} (hg : rowOf A = some g) : B ≤ g ∧ ∃ cs, W.heap[g]? = some (.cells cs 9 (0, 0)) := by
  rcases h.2 with ⟨e, _⟩ | ⟨g', c, cur, e, hb, hh, _⟩
  · injection e with e1
    rw [e1] at hg
    cases hg
  · injection e with e1
    rw [e1] at hg
    have : g' = g := rowOf_some hg
    subst this
    exact ⟨hb, _, hh⟩
theorem zown_from {B b : Nat} {W W' : World} {row : Option Nat} {A : Option Addr} {cap : Nat} {bs : List ByteArray} (h : ZOwn W b A cap bs) (hg : W.grownBy W' row) (hr : ∀ r, row = some r → B ≤ r ∧ ∃ o : Obj, W.heap[r]? = some o ∧ o.isCells = false) : ZOwn W' b A cap bs :=
  ZOwn.keptO h hg (fun g hg' e => by
    obtain ⟨_, o, ho, hc⟩ := hr g e.symm
    obtain ⟨_, cs, hh⟩ := zown_block h hg'
    rw [hh] at ho
    injection ho with ho
    subst ho
    cases hc)
theorem str_no_box {cs : Array Value} {f : Nat × Nat} : ¬ isBox (.cells cs 9 f) := by
  rintro (⟨c, f', e⟩ | ⟨c, f', e⟩) <;> (injection e with _ e2 _; exact absurd e2 (by decide))
theorem strs_no_box {cs : Array Value} {f : Nat × Nat} : ¬ isBox (.cells cs 26 f) := by
  rintro (⟨c, f', e⟩ | ⟨c, f', e⟩) <;> (injection e with _ e2 _; exact absurd e2 (by decide))
/-- an append in the fence -/
theorem wpListIn_appZ {F : Fence} {n : Nat} {w : World} {ops : Array Oper} {rest : List Oper} {o : Oper} {a : Act} {Q : Exit → Act → World → Prop} (t : TypeId) (ht : Tryz.prog.underlying t = some (.slice 9)) (hgd : o.guard = none) (s x : Operand)
    (ho : o.op = .call { callee := .builtin .append, args := #[s, x], argTypes := #[t, t] })
    {B B' : Nat} {A A' : Option Addr} {cap c k m : Nat} {l l' : List ByteArray} (hs : a.eval s = .slice A k cap) (hx : a.eval x = .slice A' m c) (hn : k = l.length) (hm : m = l'.length)
    (hown : ZOwn w B A cap l) (hin : ZIn w B' A' l') (hB : B ≤ w.heap.size) (hb : l.length + l'.length ≤ 3000000)
    (h : ∀ A2 cap2 w', ZOwn w' B A2 cap2 (l ++ l') → w.grownBy w' (rowOf A) → (rowOf A2 = rowOf A ∨ rowOf A2 = some w.heap.size) → wpListIn F n Tryz.prog ops Q rest (a.put o.dst (.slice A2 (l ++ l').length cap2)) w') : wpListIn F n Tryz.prog ops Q (o :: rest) a w := by
  refine wpListIn_plain hgd fun K hK' => ?_
  subst hn hm
  obtain ⟨A2, cap2, w', hrun, h2, h3, h4⟩ := run_appZ t o.type ht (c := c) hown hin hB hb
  unfold Oper.wpIn
  refine ⟨?_, ?_⟩
  · simp [Oper.about, ho, resolve, Target.leads, Sem.run_pure]
  · rw [Oper.semAt_plain F _ _ (by rw [ho]; intro c hc'; cases hc')]
    simp only [execOp, ho, resolve, invoke, builtin, Sem.run_bind, Sem.run_pure, Result.andThen_ok, List.map_toArray, List.map_cons, List.map_nil, hs, hx, hrun]
    exact hK' _ _ (h A2 cap2 w' h2 h3 h4)

theorem perm_nodup {α : Type} : ∀ {S T : List α}, S.Nodup → T.Nodup → (∀ z, z ∈ S ↔ z ∈ T) → S.Perm T
  | [], T, _, _, h => by
    have : T = [] := List.eq_nil_iff_forall_not_mem.2 (fun z hz => by have := (h z).2 hz; cases this)
    rw [this]
  | a :: r, T, hS, hT, h => by
    obtain ⟨u, v, rfl⟩ := List.append_of_mem ((h a).1 (List.mem_cons_self ..))
    rw [List.nodup_cons] at hS
    have hT' : (a :: (u ++ v)).Nodup := (List.perm_middle.nodup_iff).1 hT
    rw [List.nodup_cons] at hT'
    refine (List.Perm.cons a (perm_nodup hS.2 hT'.2 fun z => ?_)).trans List.perm_middle.symm
    have hz := h z
    rw [List.mem_cons, List.mem_append, List.mem_cons] at hz
    rw [List.mem_append]
    constructor
    · intro h1
      rcases hz.1 (.inr h1) with h2 | h2 | h2
      · exact .inl h2
      · subst h2; exact absurd h1 hS.1
      · exact .inr h2
    · intro h1
      rcases hz.2 (h1.elim .inl (fun h2 => .inr (.inr h2))) with h2 | h2
      · subst h2; exact absurd (List.mem_append.2 h1) hT'.1
      · exact h2
theorem sort_ris {xs ys : List ByteArray} (hx : xs.Nodup) (hy : RisK ys) (h : ∀ z, z ∈ xs ↔ z ∈ ys) : sortL (toLs xs) = toLs ys := by
  have hp : (toLs xs).Perm (toLs ys) := (perm_nodup hx (risK_nodup hy) h).map _
  have e1 : (toLs xs).mergeSort leB = (toLs ys).mergeSort leB := mergeSort_of_perm hp
  have e2 : (toLs ys).mergeSort leB = toLs ys := by
    refine List.mergeSort_of_pairwise ?_
    unfold toLs
    refine List.pairwise_map.2 (hy.imp fun {p q} hlt => ?_)
    unfold ltB at hlt
    rw [Go.ByteArray.toList_eq, Go.ByteArray.toList_eq] at hlt
    exact decide_eq_true (le_of_lt hlt)
  exact e1.trans e2

/-- what a collecting loop holds -/
def CollI (w : World) (B0 g1 : Nat) {l : List Pr} (pre : List (ComI l)) (W : World) : Prop :=
  ∃ A cap, W.heap[g1]? = some (.cells #[.slice A (pre.map fun z => z.1).length cap] 26 (0, 0)) ∧ ZOwn W B0 A cap (pre.map fun z => z.1) ∧ Below w.heap.size w W ∧ B0 ≤ W.heap.size

theorem coll_step {w W w1 : World} {n₀ n₁ B0 g1 n2 : Nat} {pm : List ByteArray} {x : ByteArray} {A A2 : Option Addr} {cap cap2 : Nat} (hg1 : g1 < B0) (hw : w.heap.size ≤ g1) (hn0 : n₀ ≤ g1) (hG : W.heap[g1]? = some (.cells #[.slice A pm.length cap] 26 (0, 0))) (hO : ZOwn W B0 A cap pm) (hB : Below w.heap.size w W) (hS : B0 ≤ W.heap.size)
    (own : ZOwn w1 B0 A2 cap2 (pm ++ [x])) (g : (W.alloc (.cells #[.string x] 9)).grownBy w1 (rowOf A)) (hn2 : n2 = (pm ++ [x]).length) :
    KeepsOthers W (w1.setCell ⟨g1, 0, none⟩ (.slice A2 n2 cap2)) ∧ Keep n₀ n₁ W (w1.setCell ⟨g1, 0, none⟩ (.slice A2 n2 cap2)) ∧ ((w1.setCell ⟨g1, 0, none⟩ (.slice A2 n2 cap2)).heap[g1]? = some (.cells #[.slice A2 (pm ++ [x]).length cap2] 26 (0, 0)) ∧ ZOwn (w1.setCell ⟨g1, 0, none⟩ (.slice A2 n2 cap2)) B0 A2 cap2 (pm ++ [x]) ∧ Below w.heap.size w (w1.setCell ⟨g1, 0, none⟩ (.slice A2 n2 cap2)) ∧ B0 ≤ (w1.setCell ⟨g1, 0, none⟩ (.slice A2 n2 cap2)).heap.size) := by
  subst hn2
  have hOa := hO.alloc (.cells #[.string x] 9)
  have hs1 : B0 ≤ w1.heap.size := Nat.le_trans hS (Nat.le_trans (by simp) g.size)
  have hlt : g1 < (W.alloc (.cells #[.string x] 9)).heap.size := Nat.lt_of_lt_of_le hg1 (Nat.le_trans hS (by simp))
  have G1 : w1.heap[g1]? = some (.cells #[.slice A pm.length cap] 26 (0, 0)) := (g.block g1 hlt (fun e => by have := (zown_block hOa e.symm).1; omega)).trans (heap_alloc_l hG)
  have gs : w1.grownBy (w1.setCell ⟨g1, 0, none⟩ (.slice A2 (pm ++ [x]).length cap2)) (some g1) := ⟨rfl, rfl, rfl, by simp [World.setCell], fun k _ hk => Below.heap_setCell w1 ⟨g1, 0, none⟩ _ k (fun e => hk (by rw [e]))⟩
  have K1 : Keep n₀ n₁ (W.alloc (.cells #[.string x] 9)) w1 := by
    cases hA : rowOf A with
    | none =>
      rw [hA] at g
      exact ⟨⟨⟨g.os, g.tape, g.output, g.size, fun k hk => g.block k (by omega) (by simp)⟩, fun k o hk _ => (g.block k (Array.getElem?_eq_some_iff.1 hk).1 (by simp)).trans hk⟩, fun k o _ hk _ => (g.block k (Array.getElem?_eq_some_iff.1 hk).1 (by simp)).trans hk⟩
    | some r =>
      rw [hA] at g
      obtain ⟨hb, cs, hc⟩ := zown_block hOa hA
      exact Keep.grown g (by omega) (by omega) (fun o ho => by rw [hc] at ho; injection ho with ho; subst ho; exact ⟨str_no_box, rfl⟩)
  have K2 : Keep n₀ n₁ w1 (w1.setCell ⟨g1, 0, none⟩ (.slice A2 (pm ++ [x]).length cap2)) := Keep.grown gs hn0 (by omega) (fun o ho => by rw [G1] at ho; injection ho with ho; subst ho; exact ⟨strs_no_box, rfl⟩)
  refine ⟨?_, (Keep.alloc (by omega) _).trans (K1.trans K2), heap_setCell_same w1 g1 0 _ _ _ G1, ZOwn.keptO own gs (fun r hr e => by injection e with e; have := (zown_block own hr).1; omega), ?_, ?_⟩
  · refine ((KeepsOthers.alloc W _).trans (KeepsOthers.of_grownBy g fun j o hj ho => ?_)).trans (KeepsOthers.setCell _ _ _)
    obtain ⟨_, cs, hc⟩ := zown_block hOa hj
    rw [hc] at ho
    injection ho with ho
    subst ho
    rfl
  · exact ((hB.alloc hB.size _).grown g (Nat.le_trans hB.size (by simp)) (fun k e => by have := (zown_block hOa e).1; omega)).setCell (p := ⟨g1, 0, none⟩) hw _
  · simpa [World.setCell] using hs1

set_option maxRecDepth 100000 in
set_option maxHeartbeats 2000000 in
theorem anc_any {w₀ : World} {B bm bc : Nat} {l : List Pr} {vs : List Value} (bt : Nat) (hM : RepoM w₀ B bm bc 60 l vs) (hrep : repoB l = true) (b : ByteArray) (hb : b.size ≤ maxLen) (w : World) (hbel : Below w₀.heap.size w₀ w) :
    Calls Tryz.prog 72 #[.agg #[.map (some bt), .map (some bm), .map (some bc)], .string b] w (RetZ w.heap.size (ancK l b) w) := by
  obtain ⟨rA, rC, R⟩ := hM.toW hrep
  have hd : Fence.wide.depth = none := rfl
  have hro : Fence.wide.round = none := rfl
  have XR := heap_alloc_new w (.cells #[.map (some bt), .map (some bm), .map (some bc)] 68)
  have x0 := cell_of_row _ _ 0 _ _ _ XR
  have x1 := cell_of_row _ _ 1 _ _ _ XR
  have x2 := cell_of_row _ _ 2 _ _ _ XR
  refine (callsIn_wide (n := 3)).1 ?_
  refine callsIn_of_wp_marks Tryz.func72 rfl trivial ?_ hro
  simp only [Tryz.ntmps72, List.size_toArray, List.length_cons, List.length_nil, Nat.reduceAdd, Nat.reduceSub, Array.replicate_succ, Array.replicate_zero, List.push_toArray, List.append_toArray, List.nil_append, List.cons_append]
  gi_wp2_with ((try refine ⟨trivial, ?_⟩); gi_at_call 116; refine (behind_in Fence.wide trivial hro 2 bt bm bc b _).mono ?_; rintro e w' ⟨rfl, rfl⟩)
  obtain ⟨W0, hW0⟩ : ∃ W0, ((((w.alloc (.cells #[.map (some bt), .map (some bm), .map (some bc)] 68)).alloc (.cells #[.slice none 0 0] 26)).alloc (.cells #[.map (some bt), .map (some bm), .map (some bc)] 68)).alloc (.cells #[.string b] 9)) = W0 := ⟨_, rfl⟩
  rw [hW0]
  have hB0 : Below w.heap.size w W0 := by rw [← hW0]; exact ((((Below.refl _ w).alloc (Nat.le_refl _) _).alloc (by simp) _).alloc (by simp; omega) _).alloc (by simp; omega) _
  have hs0 : W0.heap.size = w.heap.size + 4 := by rw [← hW0]; simp
  have hG : W0.heap[w.heap.size + 1]? = some (.cells #[.slice none 0 0] 26 (0, 0)) := by rw [← hW0]; exact heap_alloc_l (heap_alloc_l (heap_alloc_at (by simp)))
  have hX : W0.heap[w.heap.size + 1 + 1]? = some (.cells #[.map (some bt), .map (some bm), .map (some bc)] 68 (0, 0)) := by rw [← hW0]; exact heap_alloc_l (heap_alloc_at (by simp))
  have hI : W0.heap[w.heap.size + 1 + 1 + 1]? = some (.cells #[.string b] 9 (0, 0)) := by rw [← hW0]; exact heap_alloc_at (by simp)
  clear hW0 XR x0 x1 x2
  obtain ⟨g1, e1⟩ : ∃ g, w.heap.size + 1 = g := ⟨_, rfl⟩
  rw [e1] at hG hX hI ⊢
  obtain ⟨g2, e2⟩ : ∃ g, g1 + 1 = g := ⟨_, rfl⟩
  rw [e2] at hX hI ⊢
  obtain ⟨g3, e3⟩ : ∃ g, g2 + 1 = g := ⟨_, rfl⟩
  rw [e3] at hI ⊢
  have hw0 : w₀.heap.size ≤ w.heap.size := hbel.size
  have hr1 : g1 < W0.heap.size := by omega
  have hr3 : w.heap.size ≤ g1 := by omega
  have hr4 : w.heap.size ≤ W0.heap.size := by omega
  have hr5 : w₀.heap.size ≤ W0.heap.size := by omega
  have hr6 : w₀.heap.size ≤ g1 := by omega
  clear hs0
  refine wpIn_rangeFunc_ownF hro (by omega) (gf := 144) (lb := #[.pointer (some ⟨g2, 0, none⟩), .pointer (some ⟨g3, 0, none⟩)]) rfl trivial (enters_of Tryz.func144 (by kernel_rfl) rfl)
    (behind_stops bt R Fence.wide hd trivial trivial hro 2 W0.heap.size g2 g3 b hb W0 hr5 (Nat.le_refl _) (hbel.trans (hB0.mono hw0)) hX hI) (fun h k => Keep.trans h k) (fun W l o o' h1 h2 h3 h4 => Keep.putObj W l o o' (Nat.le_trans hr5 h1) h2 h3 h4) (Below.refl _ _) (fun _ => rfl)
    (fun pre W => CollI w W0.heap.size g1 pre W) (fun _ _ _ => False)
    (fun s A B row hs hg hr => by
      obtain ⟨A1, cap, h1, h2, h3, h4⟩ := hs
      exact ⟨A1, cap, row_from h1 hr1 hg hr, zown_from h2 hg hr, below_from h3 hr4 h3.size hg hr, Nat.le_trans h4 hg.size⟩)
    (fun _ _ _ _ _ hs _ _ => hs)
    ⟨none, 0, hG, ZOwn.nil _ _, hB0, Nat.le_refl _⟩
    (fun x => { tmps := #[.agg #[.map (some bt), .map (some bm), .map (some bc)], .string b, .pointer (some ⟨w.heap.size, 0, none⟩), undef, .slice none 0 0, .pointer (some ⟨g1, 0, none⟩), .string x.1, .agg #[.map (some bt), .map (some bm), .map (some bc)], .string b, .func (.func 144) #[] #[.pointer (some ⟨g2, 0, none⟩), .pointer (some ⟨g3, 0, none⟩)], .string x.1, .agg #[.string (treK l x.1), .slice (rA x.1) (lenK l x.1) (rC x.1), .string (notK l x.1)], undef, undef, undef, undef, undef, undef, undef], defers := [] }) ?assign ?body ?done ?stop
  case assign =>
    intro lr x W K hK
    simp only [encC]
    gi_wp2
    exact hK
  case body =>
    rintro lr pre x W ⟨A, cap, hG, hO, hB, hS⟩ hlen
    have hpl : (pre.map fun z => z.1).length < 60 := by rw [List.length_map]; exact hlen
    have hpx : (pre ++ [x]).map (fun z => z.1) = (pre.map fun z => z.1) ++ [x.1] := by simp
    have IX : Hid (∀ A2 cap2 w1 n2, ZOwn w1 W0.heap.size A2 cap2 ((pre.map fun z => z.1) ++ [x.1]) → (W.alloc (.cells #[.string x.1] 9)).grownBy w1 (rowOf A) → n2 = ((pre.map fun z => z.1) ++ [x.1]).length → KeepsOthers W (w1.setCell ⟨g1, 0, none⟩ (.slice A2 n2 cap2)) ∧ Keep w₀.heap.size W0.heap.size W (w1.setCell ⟨g1, 0, none⟩ (.slice A2 n2 cap2)) ∧ CollI w W0.heap.size g1 (pre ++ [x]) (w1.setCell ⟨g1, 0, none⟩ (.slice A2 n2 cap2))) := hide (fun A2 cap2 w1 n2 own g hn2 => by
      obtain ⟨h1, h2, h3⟩ := coll_step (n₁ := W0.heap.size) hr1 hr3 hr6 hG hO hB hS own g hn2
      exact ⟨h1, h2, A2, cap2, by rw [hpx]; exact h3⟩)
    have G1 : Hid (∀ w1, (W.alloc (.cells #[.string x.1] 9)).grownBy w1 (rowOf A) → w1.heap[g1]? = some (.cells #[.slice A (pre.map fun z => z.1).length cap] 26 (0, 0))) := hide (fun w1 g =>
      (g.block g1 (Nat.lt_of_lt_of_le hr1 (Nat.le_trans hS (by simp))) (fun e => by have := (zown_block (hO.alloc (.cells #[.string x.1] 9)) e.symm).1; omega)).trans (heap_alloc_l hG))
    have c1 := cell_of_row _ _ 0 _ _ _ hG
    have OA := hide hO
    have HS := hide hS
    clear hG hO hB hS hpx hlen
    generalize hpm : (pre.map fun z => z.1) = pm at *
    have HPM := hide hpm
    clear hpm
    generalize hnm : pm.length = nm at hpl c1 G1
    have NM := hide hnm
    clear hnm
    gi_wp2_with ((try refine ⟨trivial, ?_⟩); gi_at_builtin; refine wpListIn_appZ (l' := [x.1]) 26 Tryz.underlying26 rfl (.tmp 12) (.tmp 14) rfl rfl rfl NM.out.symm rfl (OA.out.alloc _) (ZIn.one x.1 _ rfl) (Nat.le_trans HS.out (by simp)) (by rw [NM.out]; simp; omega) ?_; intro A2 cap2 w1 own g r; have c2 := cell_of_row _ _ 0 _ _ _ (G1.out _ g); have f2 := frozen_of_row _ _ 0 _ _ (G1.out _ g); have FX := hide (IX.out A2 cap2 w1 (pm.length + 1) own g (by simp)); clear own g r)
    exact FX.out
  case done =>
    rintro D ys W hD ⟨hnd, hall⟩ ⟨A, cap, hG, hO, hB, hS⟩ hK
    have hex : Hid (sortL (toLs (ys.map fun z => z.1)) = toLs (ancK l b)) := hide (sort_ris hnd (ancK_ris l b).1 (fun z => (hall z).trans ⟨fun h => ancK_mem.2 ⟨hrep, h⟩, fun h => (ancK_mem.1 h).2⟩))
    have hlen : Hid ((ys.map fun z => z.1).length = (ancK l b).length) := hide (by
      have h1 := congrArg List.length hex.out
      rw [sortL_len, toLs_len, toLs_len] at h1
      exact h1)
    have hal := ancK_len l b
    have SO := hide (sort_any A (toLs (ys.map fun z => z.1)) cap W W0.heap.size hO.toL (by rw [toLs_len, hlen.out]; omega))
    rw [toLs_len, hex.out, hlen.out] at SO
    rw [hlen.out] at hG
    have c1 := cell_of_row _ _ 0 _ _ _ hG
    have HO := hide (fun g hg => zown_block hO (g := g) hg)
    have GG := hide hG
    have BB := hide hB
    have KK := hide hK
    clear hG hO hB hK hnd hall hex hlen
    have FIN : Hid (∀ W2, LOwn W2 W0.heap.size A cap (toLs (ancK l b)) → W.grownBy W2 (rowOf A) → W2.heap[g1]? = some (.cells #[.slice A (ancK l b).length cap] 26 (0, 0)) ∧ W2.heap[D]? = some (.deferred (some [])) ∧ RetZ w.heap.size (ancK l b) w (.returned (.slice A (ancK l b).length cap)) (W2.putObj D (.deferred none))) := hide (fun W2 hl2 hg2 => by
      have hD2 : W2.heap[D]? = some (.deferred (some [])) := (hg2.block D (Array.getElem?_eq_some_iff.1 KK.out).1 (fun e => by
        obtain ⟨_, cs, hc⟩ := HO.out D e.symm
        rw [KK.out] at hc
        injection hc with hc
        cases hc)).trans KK.out
      refine ⟨(hg2.block g1 (Array.getElem?_eq_some_iff.1 GG.out).1 (fun e => by have := (HO.out g1 e.symm).1; omega)).trans GG.out, hD2, A, cap, rfl, ?_, ?_⟩
      · refine ZOwn.more (ZOwn.keptO hl2.toZ (grownBy_putObj' _ D _) (fun g hg e => ?_)) hr4
        injection e with e
        subst e
        obtain ⟨_, cs, hc⟩ := zown_block hl2.toZ hg
        rw [hD2] at hc
        injection hc with hc
        cases hc
      · have b2 := BB.out.grown hg2 BB.out.size (fun k e => by have := (HO.out k e).1; omega)
        exact b2.trans (belowK_b (w := w) (Nat.le_refl _) W2 D _ _ (Nat.le_trans hr4 hD) hD2 rfl rfl))
    generalize (ancK l b).length = an at *
    gi_wp2_with ((try refine ⟨trivial, ?_⟩); gi_at_call 117; refine (callsIn_wide.2 SO.out).mono ?_; rintro e W2 ⟨rfl, hl2, hg2⟩; have F2 := hide (FIN.out _ hl2 hg2); have c2 := cell_of_row _ _ 0 _ _ _ F2.out.1; clear hl2 hg2)
    refine ⟨by simp, .inl ⟨_, _, rfl, run_takeDeferred F2.out.2.1, ?_⟩⟩
    exact ⟨_, results_tmp (t := 4) rfl _ _ _, F2.out.2.2⟩
  case stop =>
    rintro D c pre W hD hsp h hK
    exact h.elim

set_option maxRecDepth 100000 in
set_option maxHeartbeats 1000000 in
theorem implAncestors_any (A : Option Addr) (l : List Pr) (cap : Nat) (id : ByteArray) (a : Addr) (w : World) (hl : l.length ≤ maxLen) (hin : PIn w w.heap.size A l) (hid : id.size ≤ maxLen) (hT : Tabs w) (hE : ErrC w a) :
    Calls Tryz.prog 27 #[.slice A l.length cap, .string id] w (RetZ w.heap.size (ancK l id) w) := by
  have T := hide (repoOf_any A l cap a w hl hin hT hE)
  have NO : Hid (repoB l = false → ∀ w', Below w.heap.size w w' → RetZ w.heap.size (ancK l id) w (.returned (.slice none 0 0)) w') := hide (fun h w' hb => by
    rw [ancK_no (fun x => by rw [x.1] at h; cases h)]
    exact ⟨none, 0, rfl, ZOwn.nil _ _, hb⟩)
  clear hin hT hE hl
  generalize l.length = n at *
  go_enter Tryz.func27, Tryz.ntmps27
  go_wp2_with fail
  refine T.out.mono ?_
  rintro e w1 ⟨b1, ⟨hf, rfl⟩ | ⟨hf, bt, bm, bc, B, vs, rfl, _, _, _, _, _, _, rm⟩⟩
  · have Z := hide (NO.out hf)
    have B1 := hide (b1.alloc b1.size (.cells #[.map none, .map none, .map none] 68))
    clear b1 hf T NO
    go_wp2_with fail
    go_ret
    exact Z.out _ B1.out
  · have b2 := (Below.refl w1.heap.size w1).alloc (Nat.le_refl _) (.cells #[.map (some bt), .map (some bm), .map (some bc)] 68)
    have B2 := hide (b1.trans (b2.mono b1.size))
    have XR := hide (heap_alloc_new w1 (.cells #[.map (some bt), .map (some bm), .map (some bc)] 68))
    have IA := hide (anc_any bt rm hf id hid _ b2)
    have x0 := cell_of_row _ _ 0 _ _ _ XR.out
    have x1 := cell_of_row _ _ 1 _ _ _ XR.out
    have x2 := cell_of_row _ _ 2 _ _ _ XR.out
    clear b1 b2 hf T NO rm
    go_wp2_with fail
    refine IA.out.mono ?_
    rintro e w3 ⟨A3, cap3, rfl, o3, b3⟩
    have F : Hid (RetZ w.heap.size (ancK l id) w (.returned (.slice A3 (ancK l id).length cap3)) w3) := hide ⟨A3, cap3, rfl, o3.more B2.out.size, B2.out.trans (b3.mono B2.out.size)⟩
    clear o3 b3 IA x0 x1 x2 XR
    generalize (ancK l id).length = an at *
    go_wp2_with fail
    go_ret
    exact F.out
end Go.Proofs.YtehblaigbcbleaaGreatDoor
/-
  Maps that are written on: what stands at a key is what was stored last; flags.
-/
namespace Go.Proofs.YtehblaigbcbleaaGreatDoor
open Go.RowKit Go.Maps

theorem hD_same (L : List (ByteArray × Value)) (k : ByteArray) (v : Value) : has (hD (L ++ [(k, v)])) (keyL k) = true ∧ ∀ z, (hD (L ++ [(k, v)])).atKey (keyL k) z = .held v := by
  rw [hD_snoc]
  exact ⟨has_put_same (hD_isMap L) (keyL_key k) _, fun z => atKey_put_same (hD_isMap L) (keyL_key k) _ _⟩
theorem hD_other (L : List (ByteArray × Value)) {k k' : ByteArray} (v : Value) (hne : k' ≠ k) : has (hD (L ++ [(k, v)])) (keyL k') = has (hD L) (keyL k') ∧ ∀ z, (hD (L ++ [(k, v)])).atKey (keyL k') z = (hD L).atKey (keyL k') z := by
  rw [hD_snoc]
  have h : keyL k' ≠ keyL k := fun e => hne (keyL_inj e)
  exact ⟨has_put_other h _, fun z => atKey_put_other h _ z⟩
/-- flags: some may have been set more than once -/
def Flags (W : World) (bm n : Nat) (S : List ByteArray) : Prop := HMap W bm n (S.map fun k => (k, .bool true))
theorem flags_val (k : ByteArray) : ∀ (n : Nat) (S : List ByteArray), S.length = n → has (hD (S.map fun k => (k, Value.bool true))) (keyL k) = memK S k ∧ (hD (S.map fun k => (k, Value.bool true))).atKey (keyL k) (.held (.bool false)) = .held (.bool (memK S k))
  | 0, S, h => by
    obtain rfl := List.eq_nil_of_length_eq_zero h
    have := hD_miss (L := []) (k := k) (by simp)
    rw [memK_no (l := []) (s := k) (by simp)]
    exact ⟨this.1, this.2 _⟩
  | n + 1, S, h => by
    rcases List.eq_nil_or_concat S with e | ⟨T, y, e⟩
    · subst e; cases h
    · subst e
      rw [List.concat_eq_append] at h ⊢
      have hT : T.length = n := by simpa using h
      rw [List.map_append, List.map_cons, List.map_nil]
      by_cases hy : k = y
      · subst hy
        have h1 := hD_same (T.map fun k => (k, Value.bool true)) k (.bool true)
        rw [memK_iff.2 (show k ∈ T ++ [k] by simp)]
        exact ⟨h1.1, h1.2 _⟩
      · have h1 := hD_other (T.map fun k => (k, Value.bool true)) (.bool true) hy
        have ih := flags_val k n T hT
        have e : memK (T ++ [y]) k = memK T k := by
          cases hm : memK T k
          · refine memK_no fun h2 => ?_
            rcases List.mem_append.1 h2 with h3 | h3
            · rw [memK_iff.2 h3] at hm; cases hm
            · rw [List.mem_singleton] at h3; exact hy h3
          · exact memK_iff.2 (List.mem_append.2 (.inl (memK_iff.1 hm)))
        rw [e]
        exact ⟨h1.1.trans ih.1, (h1.2 _).trans ih.2⟩
set_option maxRecDepth 100000 in
theorem Flags.look {W : World} {bm n : Nat} {S : List ByteArray} (h : Flags W bm n S) {k : ByteArray} (hk : k.size ≤ maxLen) :
    (Instr.lookup 134 (.map (some bm)) (.string k) false).run Tryz.prog W = .ok (.bool (memK S k)) W := by
  obtain ⟨v, h1, h2⟩ := HMap.get Tryz.underlying134 (z := .bool false) (by kernel_rfl) h hk
  rw [(flags_val k _ S rfl).2] at h2
  injection h2 with h2
  rw [h2]
  exact h1
set_option maxRecDepth 100000 in
theorem Flags.store {W : World} {bm n : Nat} {S : List ByteArray} (h : Flags W bm n S) (hn : n < maxLen) {k : ByteArray} (hk : k.size ≤ maxLen) :
    ∃ W', (Instr.mapUpdate 134 (.map (some bm)) (.string k) (.bool true)).run Tryz.prog W = .ok () W' ∧ Flags W' bm (n + 1) (S ++ [k]) ∧ W.grownBy W' (some bm) := by
  obtain ⟨W', h1, h2, h3⟩ := HMap.store Tryz.underlying134 h hn hk (.bool true)
  refine ⟨W', h1, ?_, h3⟩
  unfold Flags
  rw [List.map_append]
  exact h2
theorem Flags.made (w : World) : Flags (w.alloc (.map #[] 0)) w.heap.size 0 [] := hmap_made w
theorem Flags.obj {W : World} {bm n : Nat} {S : List ByteArray} (h : Flags W bm n S) : ∃ o : Obj, W.heap[bm]? = some o ∧ o.isWalk = true := by
  obtain ⟨es, clock, hb, _⟩ := h
  exact ⟨_, hb, rfl⟩
theorem Flags.kept {W W' : World} {bm n : Nat} {S : List ByteArray} {row : Option Nat} (h : Flags W bm n S) (hg : W.grownBy W' row) (hne : some bm ≠ row) : Flags W' bm n S := HMap.kept h hg hne
theorem Flags.below {W W' : World} {bm n : Nat} {S : List ByteArray} (h : Flags W bm n S) (hb : Below W.heap.size W W') : Flags W' bm n S := HMap.below h hb
/-- a step that turns one map below n₁ keeps what a round keeps -/
theorem Keep.map {n₀ n₁ r : Nat} {W W' : World} {o : Obj} (hg : W.grownBy W' (some r)) (hr : n₀ ≤ r) (hr1 : r < n₁) (hs : n₀ ≤ W.heap.size) (ho : W.heap[r]? = some o) (hw : o.isWalk = true) : Keep n₀ n₁ W W' := by
  refine ⟨KB.grown hg hr hs (fun o' h => by rw [ho] at h; injection h with h; subst h; exact not_box (Obj.not_cells_of_walk hw)), fun k o' hk hk2 _ => ?_⟩
  exact (hg.block k (Array.getElem?_eq_some_iff.1 hk2).1 (fun e => by injection e with e; omega)).trans hk2
theorem Keep.quiet {n₀ n₁ : Nat} {W W' : World} (q : Quiet W W') : Keep n₀ n₁ W W' := by
  have hb := q.below n₀
  obtain ⟨m, rfl⟩ := q
  exact ⟨⟨hb, fun _ _ h _ => h⟩, fun _ _ _ h _ => h⟩
theorem KeepsFrom.quiet {B : Nat} {W W' : World} (q : Quiet W W') : KeepsFrom B W W' := by
  obtain ⟨m, rfl⟩ := q
  exact ⟨Nat.le_refl _, fun _ _ _ h _ => h⟩
end Go.Proofs.YtehblaigbcbleaaGreatDoor
/-
  What slices.BinarySearch answers at rising texts, what slices.DeleteFunc leaves of texts.
-/
namespace Go.Proofs.YtehblaigbcbleaaGreatDoor
open Go.RowKit Go.Lib Go.Sort

theorem cmpNaN_any (a : ByteArray) (w : World) : Calls Tryz.prog 173 #[.string a] w fun e w' => e = .returned (.bool false) ∧ w = w' := by
  have d : (a.toList == a.toList) = true := by simp
  go_enter Tryz.func173, Tryz.ntmps173
  go_wp2
  go_ret
  exact ⟨rfl, rfl⟩
theorem slNaN_any (a : ByteArray) (w : World) : Calls Tryz.prog 149 #[.string a] w fun e w' => e = .returned (.bool false) ∧ w = w' := by
  have d : (a.toList == a.toList) = true := by simp
  go_enter Tryz.func149, Tryz.ntmps149
  go_wp2
  go_ret
  exact ⟨rfl, rfl⟩
set_option maxHeartbeats 1000000 in
theorem cmpLess_any (a b : ByteArray) (w : World) : Calls Tryz.prog 148 #[.string a, .string b] w fun e w' => e = .returned (.bool (ltB a b)) ∧ Quiet w w' := by
  unfold ltB
  go_enter Tryz.func148, Tryz.ntmps148
  go_wp2
  go_ret
  exact ⟨rfl, Quiet.refl _⟩

/-- what a search has left open: all ahead of lo are less, none from hi on is -/
def OpenK (l : List ByteArray) (k : ByteArray) (lo hi : Nat) : Prop := (∀ t (h : t < l.length), t < lo → ltB l[t] k = true) ∧ ∀ t (h : t < l.length), hi ≤ t → ltB l[t] k = false
theorem risK_lt {l : List ByteArray} (h : RisK l) {i j : Nat} (hi : i < l.length) (hj : j < l.length) (hij : i < j) : ltB l[i] l[j] = true := List.pairwise_iff_getElem.1 h i j hi hj hij
theorem OpenK.low {l : List ByteArray} {k : ByteArray} {lo hi m : Nat} (h : OpenK l k lo hi) (hr : RisK l) (hm : m < l.length) (hc : ltB l[m] k = true) : OpenK l k (m + 1) hi := by
  refine ⟨fun t ht hlt => ?_, h.2⟩
  rcases Nat.lt_or_ge t m with g | g
  · exact ltB_trans (risK_lt hr ht hm g) hc
  · obtain rfl : t = m := by omega
    exact hc
theorem OpenK.high {l : List ByteArray} {k : ByteArray} {lo hi m : Nat} (h : OpenK l k lo hi) (hr : RisK l) (hm : m < l.length) (hc : ltB l[m] k = false) : OpenK l k lo m := by
  refine ⟨h.1, fun t ht hlt => ?_⟩
  cases e : ltB l[t] k
  · rfl
  · rcases Nat.lt_or_ge m t with g | g
    · rw [ltB_trans (risK_lt hr hm ht g) e] at hc
      cases hc
    · obtain rfl : t = m := by omega
      rw [e] at hc
      cases hc
theorem OpenK.mem {l : List ByteArray} {k : ByteArray} {n : Nat} (h : OpenK l k n n) (hr : RisK l) : k ∈ l ↔ ∃ hn : n < l.length, l[n] = k := by
  constructor
  · intro hk
    obtain ⟨t, ht, e⟩ := List.getElem_of_mem hk
    have h1 : ¬ t < n := fun g => by
      have := h.1 t ht g
      rw [e, ltB_irrefl] at this
      cases this
    rcases Nat.lt_or_ge n t with g | g
    · have h2 := h.2 n (by omega) (Nat.le_refl _)
      have h3 := risK_lt hr (by omega) ht g
      rw [e, h2] at h3
      cases h3
    · obtain rfl : t = n := by omega
      exact ⟨ht, e⟩
  · rintro ⟨hn, e⟩
    rw [← e]
    exact List.getElem_mem hn
theorem openK_start (l : List ByteArray) (k : ByteArray) : OpenK l k 0 l.length := ⟨fun t _ h => absurd h (by omega), fun t h h' => absurd h (by omega)⟩

set_option maxRecDepth 100000 in
set_option maxHeartbeats 2000000 in
theorem binSearch_any (A : Option Addr) (l : List ByteArray) (cap : Nat) (key : ByteArray) (w : World) (B : Nat) (hl : l.length ≤ 65536) (hin : ZIn w B A l) (hr : RisK l) :
    Calls Tryz.prog 119 #[.slice A l.length cap, .string key] w fun e w' => (∃ p : Nat, e = .returned (.tuple #[.int .i64 p, .bool (memK l key)])) ∧ Quiet w w' := by
  have HR := hide hr
  have O0 := hide (openK_start l key)
  clear hr
  generalize hn : l.length = n at *
  have HN := hide hn
  clear hn
  go_enter Tryz.func119, Tryz.ntmps119
  go_wp2
  go_loopw [7, 8] (fun i j wr => ∃ lo hi : Nat, lo ≤ hi ∧ hi ≤ n ∧ i = .int .i64 lo ∧ j = .int .i64 hi ∧ Hid (OpenK l key lo hi) ∧ Hid (Quiet w wr)) (fun i j _ => (intOf j - intOf i).toNat)
  case atStart => exact ⟨0, n, Nat.zero_le _, Nat.le_refl _, rfl, rfl, O0, Quiet.refl w⟩
  case round =>
    clear O0
    obtain ⟨lo, hi, hlh, hhn, rfl, rfl, O, Q⟩ := hrel
    by_cases hlt : lo < hi
    · have hin2 := hin.below (Q.out.below B)
      have hml : (lo + hi) / 2 < l.length := by rw [HN.out]; omega
      obtain ⟨b, off, rfl, hbB, hc⟩ := hin2 (by omega)
      have c1 := hc ((lo + hi) / 2) hml
      cases hcm : ltB (l[(lo + hi) / 2]'hml) key
      · have Z := hide (O.out.high HR.out hml hcm)
        have C := hide (cmpLess_any (l[(lo + hi) / 2]'hml) key wr)
        rw [hcm] at C
        generalize (l[(lo + hi) / 2]'hml) = s at *
        clear hin hin2 hc hcm
        go_wp2_with (go_at_call 148; refine C.out.mono ?_; rintro e w' ⟨rfl, hq⟩)
        go_roundw
        case rel => exact ⟨lo, (lo + hi) / 2, by omega, by omega, rfl, by go_num, Z, Q.out.trans hq⟩
        case measure => simp [intOf]; omega
      · have Z := hide (O.out.low HR.out hml hcm)
        have C := hide (cmpLess_any (l[(lo + hi) / 2]'hml) key wr)
        rw [hcm] at C
        generalize (l[(lo + hi) / 2]'hml) = s at *
        clear hin hin2 hc hcm
        go_wp2_with (go_at_call 148; refine C.out.mono ?_; rintro e w' ⟨rfl, hq⟩)
        go_roundw
        case rel => exact ⟨(lo + hi) / 2 + 1, hi, by omega, hhn, by go_num, rfl, Z, Q.out.trans hq⟩
        case measure => simp [intOf]; omega
    · obtain rfl : hi = lo := by omega
      have E := hide (O.out.mem HR.out)
      by_cases hlast : hi < n
      · have hin2 := hin.below (Q.out.below B)
        have hml : hi < l.length := by rw [HN.out]; omega
        obtain ⟨b, off, rfl, hbB, hc⟩ := hin2 (by omega)
        have c1 := hc hi hml
        by_cases hcm : (l[hi]'hml) = key
        · have Z : Hid (memK l key = true) := hide (memK_iff.2 (E.out.2 ⟨hml, hcm⟩))
          have d := eqS_yes hcm
          generalize (l[hi]'hml) = s at *
          clear hin hin2 hc hcm E
          go_wp2
          go_ret2
          exact ⟨⟨hi, ret_ib rfl Z.out.symm⟩, Q.out⟩
        · have Z : Hid (memK l key = false) := hide (memK_no fun hm => by
            obtain ⟨hn2, e⟩ := E.out.1 hm
            exact hcm e)
          have d := eqS_no hcm
          generalize (l[hi]'hml) = s at *
          clear hin hin2 hc hcm E
          go_wp2
          go_ret2
          exact ⟨⟨hi, ret_ib rfl Z.out.symm⟩, Q.out⟩
      · have Z : Hid (memK l key = false) := hide (memK_no fun hm => by
          obtain ⟨hn2, e⟩ := E.out.1 hm
          rw [HN.out] at hn2
          exact hlast hn2)
        clear E
        go_wp2
        go_ret2
        exact ⟨⟨hi, ret_ib rfl Z.out.symm⟩, Q.out⟩

/-! slices.DeleteFunc -/
abbrev TxA := { b : ByteArray // b.size ≤ maxLen }
instance : Inhabited TxA := ⟨⟨ByteArray.empty, by simp⟩⟩
def encA (x : TxA) : Value := .string x.1
noncomputable def toA (b : ByteArray) : TxA := if h : b.size ≤ maxLen then ⟨b, h⟩ else default
theorem toA_of {b : ByteArray} (h : b.size ≤ maxLen) : (toA b).1 = b := by unfold toA; rw [dif_pos h]
noncomputable def toAs (bs : List ByteArray) : List TxA := bs.map toA
theorem toAs_len (bs : List ByteArray) : (toAs bs).length = bs.length := by unfold toAs; simp
theorem toAs_enc {bs : List ByteArray} (h : ∀ x ∈ bs, x.size ≤ maxLen) : (toAs bs).map encA = bs.map Value.string := by
  unfold toAs
  rw [List.map_map]
  refine List.map_congr_left fun p hp => ?_
  show Value.string (toA p).1 = _
  rw [toA_of (h p hp)]
theorem toAs_filter {bs : List ByteArray} (h : ∀ x ∈ bs, x.size ≤ maxLen) (q : ByteArray → Bool) : (toAs bs).filter (fun x => q x.1) = toAs (bs.filter q) := by
  induction bs with
  | nil => rfl
  | cons a r ih =>
    have ha := toA_of (h a (List.mem_cons_self ..))
    have ih' := ih (fun x hx => h x (List.mem_cons_of_mem _ hx))
    unfold toAs at ih' ⊢
    rw [List.map_cons, List.filter_cons, List.filter_cons]
    rw [ha]
    cases q a
    · exact ih'
    · show toA a :: _ = _
      rw [if_pos rfl, List.map_cons, ← ih']
theorem grownBy_sortedA {w : World} {g n : Nat} {os : Array Obj} (d : Array TxA) : w.grownBy (grow (putRow encA (Sort.ahead w n) g 0 d) os) (some g) := by
  refine ⟨rfl, rfl, rfl, by simp, fun k hk hne => ?_⟩
  rw [heap_grow_old _ _ (by simpa using hk)]
  have : g ≠ k := fun e => hne (by rw [e])
  simp [putRow, mapBlock, Sort.ahead, Array.getElem?_modify, this]

set_option maxRecDepth 100000 in
theorem basesPred_any (gp gm n : Nat) (S : List ByteArray) (x : ByteArray) (W : World) (hx : x.size ≤ maxLen) (hc : W.cell? ⟨gp, 0, none⟩ = some (.map (some gm))) (hS : Flags W gm n S) :
    Calls Tryz.prog 121 #[.string x, .pointer (some ⟨gp, 0, none⟩)] W fun e w' => e = .returned (.bool (memK S x)) ∧ W = w' := by
  have L := hS.look hx
  clear hS
  go_enter Tryz.func121, Tryz.ntmps121
  go_wp2
  go_ret
  exact ⟨rfl, rfl⟩
theorem indexNone_any (fv : Value) (cap : Nat) (w : World) : Calls Tryz.prog 150 #[.slice none 0 cap, fv] w fun e w' => e = .returned (.int .i64 (-1)) ∧ w = w' := by
  go_enter Tryz.func150, Tryz.ntmps150
  go_wp2
  go_loop [8] (fun iv => iv = .int .i64 0) (fun _ => 0)
  case atStart => rfl
  case round =>
    subst hrel
    go_wp2
    go_ret
    exact ⟨rfl, rfl⟩
theorem deleteNone_any (fv : Value) (w : World) : Calls Tryz.prog 120 #[.slice none 0 0, fv] w fun e w' => e = .returned (.slice none 0 0) ∧ w = w' := by
  go_enter Tryz.func120, Tryz.ntmps120
  go_wp2_with (go_at_call 150; refine (indexNone_any fv 0 _).mono ?_; rintro e w' ⟨rfl, rfl⟩)
  go_ret
  exact ⟨rfl, rfl⟩
set_option maxRecDepth 100000 in
theorem delete_any (A : Option Addr) (bs : List ByteArray) (cap : Nat) (w : World) (B gp gm n : Nat) (S : List ByteArray) (hown : ZOwn w B A cap bs) (hl : bs.length ≤ 100000) (hz : ∀ x ∈ bs, x.size ≤ maxLen)
    (hgp : w.heap[gp]? = some (.cells #[.map (some gm)] 134 (0, 0))) (hS : Flags w gm n S) (hne : ∀ g, rowOf A = some g → g ≠ gp ∧ g ≠ gm) :
    Calls Tryz.prog 120 #[.slice A bs.length cap, .func (.func 121) #[] #[.pointer (some ⟨gp, 0, none⟩)]] w fun e w' =>
      e = .returned (.slice A (bs.filter fun x => !memK S x).length cap) ∧ ZOwn w' B A cap (bs.filter fun x => !memK S x) ∧ w.grownBy w' (rowOf A) := by
  rcases hown.form with ⟨rfl, rfl, rfl⟩ | ⟨g, rfl, hB, hg⟩
  · refine (deleteNone_any _ w).mono ?_
    rintro e w' ⟨rfl, rfl⟩
    exact ⟨rfl, hown, World.grownBy.refl _ _⟩
  · have hne' := hne g rfl
    have hO : w.ownsRow B 9 1 (.slice (some ⟨g, 0, none⟩) bs.length cap) bs.length ((toAs bs).map encA) := by rw [toAs_enc hz]; exact hown
    obtain ⟨g', cap', e, _, hglt, hcap, hmx, _, hH⟩ := holds_of_ownsRow (enc := encA) hO (by simp)
    injection e with e1 _ e3
    injection e1 with e1
    injection e1 with e1
    subst e1 e3
    have eg : ∀ args w, (callFunc 121 args).run Tryz.prog w = .ok (.enter 121 args) w := enters_of Tryz.func121 (by kernel_rfl) rfl
    have hgplt : gp < w.heap.size := (Array.getElem?_eq_some_iff.1 hgp).1
    have hp : PredAt Tryz.prog 121 #[.pointer (some ⟨gp, 0, none⟩)] encA (fun x => memK S x.1) w := fun W x hb => by
      refine (show Calls Tryz.prog 121 #[.string x.1, .pointer (some ⟨gp, 0, none⟩)] W _ from (basesPred_any gp gm n S x.1 W x.2 (cell_of_row _ gp 0 _ _ _ ((hb.block gp hgplt).trans hgp)) (hS.below hb)).mono ?_)
      rintro e w' ⟨rfl, rfl⟩
      exact ⟨rfl, 0, rfl⟩
    have hpo : PredOver Tryz.prog 121 #[.pointer (some ⟨gp, 0, none⟩)] encA (fun x => memK S x.1) g 0 (toAs bs).toArray.size w := fun m os dk x _ => by
      have hgr : w.grownBy (sortWorld encA w g 0 m dk os) (some g) := grownBy_sortedA dk
      refine (show Calls Tryz.prog 121 #[.string x.1, .pointer (some ⟨gp, 0, none⟩)] _ _ from (basesPred_any gp gm n S x.1 _ x.2 (cell_of_row _ gp 0 _ _ _ ((hgr.block gp hgplt (fun e => by injection e with e; exact hne'.1 e.symm)).trans hgp)) (hS.kept hgr (fun e => by injection e with e; exact hne'.2 e.symm))).mono ?_)
      rintro e w' ⟨rfl, rfl⟩
      exact ⟨rfl, 0, rfl⟩
    have hD := AnyE.slices_DeleteFunc Tryz.delf120 encA (fun _ => rfl) (fun x => memK S x.1) 121 #[.pointer (some ⟨gp, 0, none⟩)] eg ⟨ByteArray.empty, by simp⟩ (zeroS) g 0 cap (toAs bs).toArray w hp hpo hH (by simp [toAs_len]; omega) (by simpa [toAs_len] using hcap)
    have e0 : (toAs bs).toArray.size = bs.length := by simp [toAs_len]
    have e1 : (toAs bs).toArray.toList.filter (fun x => !memK S x.1) = toAs (bs.filter fun x => !memK S x) := toAs_filter hz (fun x => !memK S x)
    rw [e1, e0] at hD
    refine (show Calls Tryz.prog 120 #[.slice (some ⟨g, 0, none⟩) bs.length cap, _] w _ from hD).mono ?_
    rintro e w' ⟨rfl, q, rfl⟩
    have hle : (bs.filter fun x => !memK S x).length ≤ bs.length := List.length_filter_le ..
    have hcc := ownsRow_putRow (q := q) (k := (bs.filter fun x => !memK S x).length) (ys := toAs (bs.filter fun x => !memK S x) ++ List.replicate (bs.length - (toAs (bs.filter fun x => !memK S x)).length) ⟨ByteArray.empty, by simp⟩) hO (by simp [toAs_len]; omega) hle
    rw [List.take_append_of_le_length (by rw [toAs_len]; exact Nat.le_refl _), List.take_of_length_le (by rw [toAs_len]; exact Nat.le_refl _), toAs_enc (fun x hx => hz x ((List.mem_filter.1 hx).1))] at hcc
    refine ⟨by rw [toAs_len], hcc, rfl, rfl, rfl, by simp [putRow, mapBlock, Sort.ahead], fun k hk hne => ?_⟩
    have : g ≠ k := fun e => hne (by rw [e]; rfl)
    simp [putRow, mapBlock, Sort.ahead, Array.getElem?_modify, this]
end Go.Proofs.YtehblaigbcbleaaGreatDoor
/-
  What impl.repo's bases and impl.BasesOf answer.
-/
namespace Go.Proofs.YtehblaigbcbleaaGreatDoor
open Go.RowKit Go.Shelf Go.Maps

attribute [local go_sem] Oper.semAt_some

/-- of what has come what is in common, too; their parents -/
noncomputable def basO {l : List Pr} (ofA : List ByteArray) (pre : List (ComI l)) : List ByteArray := (pre.map fun z => z.1).filter (memK ofA)
def basS {l : List Pr} (ofA : List ByteArray) (pre : List (ComI l)) (S : List ByteArray) : Prop := ∀ q, q ∈ S ↔ ∃ z ∈ pre, memK ofA z.1 = true ∧ q ∈ parK l z.1
theorem basO_snoc {l : List Pr} (ofA : List ByteArray) (pre : List (ComI l)) (x : ComI l) : basO ofA (pre ++ [x]) = if memK ofA x.1 = true then basO ofA pre ++ [x.1] else basO ofA pre := by
  unfold basO
  rw [List.map_append, List.filter_append]
  cases h : memK ofA x.1 <;> simp [h]
theorem basO_len {l : List Pr} (ofA : List ByteArray) (pre : List (ComI l)) : (basO ofA pre).length ≤ pre.length := by
  unfold basO
  exact Nat.le_trans (List.length_filter_le ..) (by simp)
theorem basS_no {l : List Pr} {ofA : List ByteArray} {pre : List (ComI l)} {S : List ByteArray} {x : ComI l} (h : basS ofA pre S) (hx : memK ofA x.1 = false) : basS ofA (pre ++ [x]) S := fun q => by
  rw [h q]
  constructor
  · rintro ⟨z, hz, h1, h2⟩
    exact ⟨z, List.mem_append.2 (.inl hz), h1, h2⟩
  · rintro ⟨z, hz, h1, h2⟩
    rcases List.mem_append.1 hz with h3 | h3
    · exact ⟨z, h3, h1, h2⟩
    · rw [List.mem_singleton] at h3
      subst h3
      rw [hx] at h1
      cases h1
theorem basS_yes {l : List Pr} {ofA : List ByteArray} {pre : List (ComI l)} {S : List ByteArray} {x : ComI l} (h : basS ofA pre S) (hx : memK ofA x.1 = true) : basS ofA (pre ++ [x]) (S ++ parK l x.1) := fun q => by
  rw [List.mem_append, h q]
  constructor
  · rintro (⟨z, hz, h1, h2⟩ | h1)
    · exact ⟨z, List.mem_append.2 (.inl hz), h1, h2⟩
    · exact ⟨x, by simp, hx, h1⟩
  · rintro ⟨z, hz, h1, h2⟩
    rcases List.mem_append.1 hz with h3 | h3
    · exact .inl ⟨z, h3, h1, h2⟩
    · rw [List.mem_singleton] at h3
      subst h3
      exact .inr h2
/-- what is left at the end is the best of both -/
theorem bas_best {l : List Pr} {a b : ByteArray} {xs : List (ComI l)} {S : List ByteArray} (hrep : repoB l = true) (hall : SAll l b xs) (hS : basS (ancK l a) xs S) :
    sortL (toLs ((basO (ancK l a) xs).filter fun x => !memK S x)) = toLs (bestK l a b) := by
  have hb : ∀ z, z ∈ (xs.map fun z => z.1) ↔ z ∈ ancK l b := fun z => (hall.2 z).trans ⟨fun h => ancK_mem.2 ⟨hrep, h⟩, fun h => (ancK_mem.1 h).2⟩
  refine sort_ris (List.Nodup.sublist List.filter_sublist (List.Nodup.sublist List.filter_sublist hall.1)) (bestK_ris l a b) fun z => ?_
  unfold basO
  rw [List.mem_filter, List.mem_filter, bestK_mem, bothK_mem, hb, memK_iff]
  constructor
  · rintro ⟨⟨h1, h2⟩, h3⟩
    refine ⟨⟨h2, h1⟩, fun y hy hp => ?_⟩
    obtain ⟨y1, y2⟩ := bothK_mem.1 hy
    obtain ⟨u, hu1, hu2⟩ := List.mem_map.1 ((hb y).2 y2)
    have : z ∈ S := (hS z).2 ⟨u, hu1, by rw [hu2]; exact memK_iff.2 y1, by rw [hu2]; exact hp⟩
    rw [memK_iff.2 this] at h3
    cases h3
  · rintro ⟨⟨h1, h2⟩, h3⟩
    refine ⟨⟨h2, h1⟩, ?_⟩
    have : z ∉ S := fun hz => by
      obtain ⟨u, hu1, hu2, hu3⟩ := (hS z).1 hz
      exact h3 u.1 (bothK_mem.2 ⟨memK_iff.1 hu2, (hb u.1).1 (List.mem_map.2 ⟨u, hu1, rfl⟩)⟩) hu3
    rw [memK_no this]
    rfl

/-- what the loop of bases holds -/
def BasI (w1 : World) (B0 g1 g2 g3 gm : Nat) (A1 : Option Addr) (cap1 : Nat) {l : List Pr} (ofA : List ByteArray) (pre : List (ComI l)) (W : World) : Prop :=
  (∃ A cap, W.heap[g3]? = some (.cells #[.slice A (basO ofA pre).length cap] 26 (0, 0)) ∧ ZOwn W B0 A cap (basO ofA pre)) ∧
  (∃ n S, n ≤ 2 * pre.length ∧ basS ofA pre S ∧ Flags W gm n S) ∧
  W.heap[g1]? = some (.cells #[.slice A1 ofA.length cap1] 26 (0, 0)) ∧ W.heap[g2]? = some (.cells #[.map (some gm)] 134 (0, 0)) ∧ Below g1 w1 W ∧ B0 ≤ W.heap.size
theorem BasI.quiet {w1 : World} {B0 g1 g2 g3 gm : Nat} {A1 : Option Addr} {cap1 : Nat} {l : List Pr} {ofA : List ByteArray} {pre : List (ComI l)} {W W' : World} (h : BasI w1 B0 g1 g2 g3 gm A1 cap1 ofA pre W) (q : Quiet W W') : BasI w1 B0 g1 g2 g3 gm A1 cap1 ofA pre W' := by
  obtain ⟨⟨A, cap, h1, h2⟩, ⟨n, S, h3, h4, h5⟩, h6, h7, h8, h9⟩ := h
  have e := q.heap
  refine ⟨⟨A, cap, by rw [e]; exact h1, h2.below (q.below _)⟩, ⟨n, S, h3, h4, h5.below (q.below _)⟩, by rw [e]; exact h6, by rw [e]; exact h7, h8.trans (q.below _), by rw [e]; exact h9⟩
theorem BasI.own {w1 : World} {B0 g1 g2 g3 gm : Nat} {A1 : Option Addr} {cap1 : Nat} {l : List Pr} {ofA : List ByteArray} (hg : g1 < B0 ∧ g2 < B0 ∧ g3 < B0 ∧ gm < B0) (hw : g1 ≤ w1.heap.size) : OwnFrom B0 (fun (pre : List (ComI l)) W => BasI w1 B0 g1 g2 g3 gm A1 cap1 ofA pre W) := by
  intro pre W W' row h hgr hr
  obtain ⟨⟨A, cap, h1, h2⟩, ⟨n, S, h3, h4, h5⟩, h6, h7, h8, h9⟩ := h
  exact ⟨⟨A, cap, row_from h1 hg.2.2.1 hgr hr, zown_from h2 hgr hr⟩, ⟨n, S, h3, h4, h5.kept hgr (fun e => by have := (hr _ e.symm).1; omega)⟩, row_from h6 hg.1 hgr hr, row_from h7 hg.2.1 hgr hr, below_from h8 (by omega) (Nat.le_trans hw h8.size) hgr hr, Nat.le_trans h9 hgr.size⟩
/-- a commit in a box of its own -/
noncomputable abbrev CBx (l : List Pr) (rA : ByteArray → Option Addr) (rC : ByteArray → Nat) (x : ComI l) : Obj := .cells #[.string (treK l x.1), .slice (rA x.1) (lenK l x.1) (rC x.1), .string (notK l x.1)] 38 (0, 0)
theorem box_own {W W' : World} {B k : Nat} {row : Option Nat} {c : Array Value} {t : TypeId} {f : Nat × Nat} (h : W.heap[k]? = some (.cells c t f)) (hg : W.grownBy W' row) (hr : ∀ r, row = some r → B ≤ r ∧ ∃ o : Obj, W.heap[r]? = some o ∧ o.isCells = false) : W'.heap[k]? = some (.cells c t f) :=
  (hg.block k (Array.getElem?_eq_some_iff.1 h).1 (fun e => by
    obtain ⟨_, o, ho, hc⟩ := hr k e.symm
    rw [h] at ho
    injection ho with ho
    subst ho
    cases hc)).trans h
/-- what an append to the box of the row turns, and what it doesn't -/
theorem app_turns {W w1 : World} {B0 g3 n2 : Nat} {pm : List ByteArray} {x : ByteArray} {A A2 : Option Addr} {cap cap2 : Nat} (hO : ZOwn W B0 A cap pm)
    (g : (W.alloc (.cells #[.string x] 9)).grownBy w1 (rowOf A)) {k : Nat} {o : Obj} (hk : W.heap[k]? = some o) (hne : k ≠ g3) (ho : k < B0 ∨ ∀ cs, o ≠ .cells cs 9 (0, 0)) : (w1.setCell ⟨g3, 0, none⟩ (.slice A2 n2 cap2)).heap[k]? = some o := by
  have hOa := hO.alloc (.cells #[.string x] 9)
  refine (Below.heap_setCell w1 ⟨g3, 0, none⟩ _ k hne).trans ?_
  refine (g.block k ?_ (fun e => ?_)).trans (heap_alloc_l hk)
  · have := (Array.getElem?_eq_some_iff.1 hk).1
    simp; omega
  · obtain ⟨hb, cs, hc⟩ := zown_block hOa e.symm
    rcases ho with h | h
    · omega
    · rw [heap_alloc_l hk] at hc
      injection hc with hc
      exact h cs hc

/-- what the loop over a commit's parents holds -/
structure BasR (w₀ w1 : World) (B0 g1 g2 g3 gm Bx n : Nat) (A1 : Option Addr) (cap1 : Nat) {l : List Pr} (ofA : List ByteArray) (rA : ByteArray → Option Addr) (rC : ByteArray → Nat) (pre : List (ComI l)) (x : ComI l) (S : List ByteArray) (W : World) (j : Nat) (wr : World) : Prop where
  keep : Keep w₀.heap.size B0 W wr
  from_ : KeepsFrom B0 W wr
  out : ∃ A cap, wr.heap[g3]? = some (.cells #[.slice A (basO ofA pre ++ [x.1]).length cap] 26 (0, 0)) ∧ ZOwn wr B0 A cap (basO ofA pre ++ [x.1])
  flg : Flags wr gm (n + j) (S ++ (parK l x.1).take j)
  b1 : wr.heap[g1]? = some (.cells #[.slice A1 ofA.length cap1] 26 (0, 0))
  b2 : wr.heap[g2]? = some (.cells #[.map (some gm)] 134 (0, 0))
  bx : wr.heap[Bx]? = some (CBx l rA rC x)
  bel : Below g1 w1 wr
  siz : B0 ≤ wr.heap.size
theorem BasR.start {w₀ w1 W W1 : World} {B0 g1 g2 g3 gm Bx n n2 : Nat} {A1 A A2 : Option Addr} {cap1 cap cap2 : Nat} {l : List Pr} {ofA : List ByteArray} {rA : ByteArray → Option Addr} {rC : ByteArray → Nat} {pre : List (ComI l)} {x : ComI l} {S : List ByteArray}
    (hg : g1 < B0 ∧ g2 < B0 ∧ g3 < B0 ∧ gm < B0) (hne : g1 < g3 ∧ g2 ≠ g3 ∧ gm ≠ g3 ∧ B0 ≤ Bx) (h1 : w1.heap.size = g1) (h0 : w₀.heap.size ≤ g1)
    (hG : W.heap[g3]? = some (.cells #[.slice A (basO ofA pre).length cap] 26 (0, 0))) (hO : ZOwn W B0 A cap (basO ofA pre)) (hF : Flags W gm n S) (hb1 : W.heap[g1]? = some (.cells #[.slice A1 ofA.length cap1] 26 (0, 0)))
    (hb2 : W.heap[g2]? = some (.cells #[.map (some gm)] 134 (0, 0))) (hbx : W.heap[Bx]? = some (CBx l rA rC x)) (hB : Below g1 w1 W) (hS : B0 ≤ W.heap.size)
    (own : ZOwn W1 B0 A2 cap2 (basO ofA pre ++ [x.1])) (g : (W.alloc (.cells #[.string x.1] 9)).grownBy W1 (rowOf A)) (hn2 : n2 = (basO ofA pre ++ [x.1]).length) :
    BasR w₀ w1 B0 g1 g2 g3 gm Bx n A1 cap1 ofA rA rC pre x S W 0 (W1.setCell ⟨g3, 0, none⟩ (.slice A2 n2 cap2)) := by
  have hcs := coll_step (w := w1) (n₀ := w₀.heap.size) (n₁ := B0) hg.2.2.1 (by omega) (by omega) hG hO (by rw [h1]; exact hB) hS own g hn2
  obtain ⟨k1, k2, k3, k4, k5, k6⟩ := hcs
  obtain ⟨of, hf1, hf2⟩ := hF.obj
  have hgm := app_turns (g3 := g3) (n2 := n2) (A2 := A2) (cap2 := cap2) hO g hf1 hne.2.2.1 (.inl hg.2.2.2)
  refine ⟨k2, k1.from _, ⟨A2, cap2, k3, k4⟩, ?_, app_turns hO g hb1 (by omega) (.inl hg.1), app_turns hO g hb2 hne.2.1 (.inl hg.2.1), app_turns hO g hbx (by omega) (.inr (fun cs e => by injection e with _ e2 _; exact absurd e2 (by decide))), by rw [← h1]; exact k5, k6⟩
  obtain ⟨es, clock, hbk, F, hs, hD⟩ := hF
  rw [List.take_zero, List.append_nil]
  rw [hf1] at hbk
  injection hbk with hbk
  subst hbk
  exact ⟨es, clock, hgm, F, hs, hD⟩
theorem BasR.step {w₀ w1 W wr W2 : World} {B0 g1 g2 g3 gm Bx n j : Nat} {A1 : Option Addr} {cap1 : Nat} {l : List Pr} {ofA : List ByteArray} {rA : ByteArray → Option Addr} {rC : ByteArray → Nat} {pre : List (ComI l)} {x : ComI l} {S : List ByteArray}
    (h : BasR w₀ w1 B0 g1 g2 g3 gm Bx n A1 cap1 ofA rA rC pre x S W j wr) (hg : g1 < gm ∧ gm < B0) (hne : g2 ≠ gm ∧ g3 ≠ gm ∧ gm ≠ Bx) (h1 : w1.heap.size = g1) (h0 : w₀.heap.size ≤ g1) (hj : j < (parK l x.1).length)
    (hf : Flags W2 gm (n + j + 1) (S ++ (parK l x.1).take j ++ [(parK l x.1)[j]])) (hgr : wr.grownBy W2 (some gm)) : BasR w₀ w1 B0 g1 g2 g3 gm Bx n A1 cap1 ofA rA rC pre x S W (j + 1) W2 := by
  obtain ⟨of, hf1, hf2⟩ := h.flg.obj
  have hsz : w₀.heap.size ≤ wr.heap.size := by have := h.siz; omega
  have K := Keep.map (n₀ := w₀.heap.size) (n₁ := B0) hgr (by omega) hg.2 hsz hf1 hf2
  obtain ⟨A, cap, o1, o2⟩ := h.out
  have blk : ∀ {k : Nat} {o : Obj}, wr.heap[k]? = some o → k ≠ gm → W2.heap[k]? = some o := fun {k o} hk hne => (hgr.block k (Array.getElem?_eq_some_iff.1 hk).1 (fun e => hne (by injection e))).trans hk
  refine ⟨h.keep.trans K, h.from_.trans (KeepsFrom.of_grownBy hgr (fun k e => by injection e with e; omega)), ⟨A, cap, blk o1 hne.2.1, o2.kept hgr (fun e => by have := (o2.row gm e).1; omega)⟩, ?_, blk h.b1 (by omega), blk h.b2 hne.1, blk h.bx (fun e => hne.2.2 e.symm), h.bel.grown hgr (by have := h.bel.size; omega) (fun k e => by injection e with e; omega), Nat.le_trans h.siz hgr.size⟩
  rw [List.take_succ_eq_append_getElem hj, ← List.append_assoc]
  exact hf
theorem BasR.fin {w₀ w1 W wr : World} {B0 g1 g2 g3 gm Bx n : Nat} {A1 : Option Addr} {cap1 : Nat} {l : List Pr} {ofA : List ByteArray} {rA : ByteArray → Option Addr} {rC : ByteArray → Nat} {pre : List (ComI l)} {x : ComI l} {S : List ByteArray}
    (h : BasR w₀ w1 B0 g1 g2 g3 gm Bx n A1 cap1 ofA rA rC pre x S W (parK l x.1).length wr) (hm : memK ofA x.1 = true) (hn : n ≤ 2 * pre.length) (hS : basS ofA pre S) : KeepsFrom B0 W wr ∧ Keep w₀.heap.size B0 W wr ∧ BasI w1 B0 g1 g2 g3 gm A1 cap1 ofA (pre ++ [x]) wr := by
  obtain ⟨A, cap, o1, o2⟩ := h.out
  have e : basO ofA (pre ++ [x]) = basO ofA pre ++ [x.1] := by rw [basO_snoc, if_pos hm]
  have hp := parK_len l x.1
  have hf := h.flg
  rw [List.take_length] at hf
  refine ⟨h.from_, h.keep, ⟨A, cap, by rw [e]; exact o1, by rw [e]; exact o2⟩, ⟨_, _, ?_, basS_yes hS hm, hf⟩, h.b1, h.b2, h.bel, h.siz⟩
  rw [List.length_append, List.length_singleton]
  omega

set_option maxRecDepth 100000 in
set_option maxHeartbeats 4000000 in
theorem bases_any {w₀ : World} {B bm bc : Nat} {l : List Pr} {vs : List Value} (bt : Nat) (hM : RepoM w₀ B bm bc 60 l vs) (hrep : repoB l = true) (a b : ByteArray) (ha : a.size ≤ maxLen) (hb : b.size ≤ maxLen) (w : World) (hbel : Below w₀.heap.size w₀ w) :
    Calls Tryz.prog 80 #[.agg #[.map (some bt), .map (some bm), .map (some bc)], .string a, .string b] w (RetZ w.heap.size (bestK l a b) w) := by
  have bX : Below w.heap.size w (w.alloc (.cells #[.map (some bt), .map (some bm), .map (some bc)] 68)) := (Below.refl _ w).alloc (Nat.le_refl _) _
  have IA := hide (anc_any bt hM hrep a ha _ (hbel.trans (bX.mono hbel.size)))
  obtain ⟨rA, rC, R⟩ := hM.toW hrep
  have hd : Fence.wide.depth = none := rfl
  have hro : Fence.wide.round = none := rfl
  have XR := heap_alloc_new w (.cells #[.map (some bt), .map (some bm), .map (some bc)] 68)
  have x0 := cell_of_row _ _ 0 _ _ _ XR
  have x1 := cell_of_row _ _ 1 _ _ _ XR
  have x2 := cell_of_row _ _ 2 _ _ _ XR
  have hmk := @run_makeMap Tryz.prog
  have hw0 : w₀.heap.size ≤ w.heap.size := hbel.size
  refine (callsIn_wide (n := 3)).1 ?_
  refine callsIn_of_wp_marks Tryz.func80 rfl trivial ?_ hro
  simp only [Tryz.ntmps80, List.size_toArray, List.length_cons, List.length_nil, Nat.reduceAdd, Nat.reduceSub, Array.replicate_succ, Array.replicate_zero, List.push_toArray, List.append_toArray, List.nil_append, List.cons_append]
  gi_wp2_with (first
    | ((try refine ⟨trivial, ?_⟩); gi_at_call 72; refine (callsIn_wide.2 IA.out).mono ?_; rintro e w1 ⟨A1, cap1, rfl, o1, b1⟩; have O1 := hide o1; have B1 := hide (bX.trans (b1.mono bX.size)); have XR1 := hide ((b1.block w.heap.size (by simp)).trans XR); have hs1 : w.heap.size < w1.heap.size := Nat.lt_of_lt_of_le (by simp) b1.size; have XR2 := hide (heap_alloc_l (o' := .cells #[.slice none 0 0] 26) (heap_alloc_l (o' := .cells #[.map (some (w1.heap.size + 1))] 134) (heap_alloc_l (o' := .map #[] 0) (heap_alloc_l (o' := .cells #[.slice A1 (ancK l a).length cap1] 26) XR1.out)))); have y0 := cell_of_row _ _ 0 _ _ _ XR2.out; have y1 := cell_of_row _ _ 1 _ _ _ XR2.out; have y2 := cell_of_row _ _ 2 _ _ _ XR2.out; clear o1 b1 XR x0 x1 x2 IA bX)
    | ((try refine ⟨trivial, ?_⟩); gi_at_call 116; refine (behind_in Fence.wide trivial hro 2 bt bm bc b _).mono ?_; rintro e w' ⟨rfl, rfl⟩))
  have hof : (ancK l a).length ≤ 60 := ancK_len l a
  obtain ⟨ofA, hofA⟩ : ∃ ofA, ancK l a = ofA := ⟨_, rfl⟩
  have HOF := hide hofA
  have HR := hide (ancK_ris l a).1
  rw [hofA] at hof O1 HR ⊢
  clear hofA
  obtain ⟨g1, e1⟩ : ∃ g, w1.heap.size = g := ⟨_, rfl⟩
  obtain ⟨W0, hW0⟩ : ∃ W0, ((((((w1.alloc (.cells #[.slice A1 ofA.length cap1] 26)).alloc (.map #[] 0)).alloc (.cells #[.map (some (w1.heap.size + 1))] 134)).alloc (.cells #[.slice none 0 0] 26)).alloc (.cells #[.map (some bt), .map (some bm), .map (some bc)] 68)).alloc (.cells #[.string b] 9)) = W0 := ⟨_, rfl⟩
  rw [hW0]
  have hB0 : Below w1.heap.size w1 W0 := by rw [← hW0]; exact ((((((Below.refl _ w1).alloc (Nat.le_refl _) _).alloc (by simp) _).alloc (by simp; omega) _).alloc (by simp; omega) _).alloc (by simp; omega) _).alloc (by simp; omega) _
  have hs0 : W0.heap.size = w1.heap.size + 6 := by rw [← hW0]; simp
  have h1 : W0.heap[w1.heap.size]? = some (.cells #[.slice A1 ofA.length cap1] 26 (0, 0)) := by rw [← hW0]; exact heap_alloc_l (heap_alloc_l (heap_alloc_l (heap_alloc_l (heap_alloc_l (heap_alloc_at rfl)))))
  have hF : Flags W0 (w1.heap.size + 1) 0 [] := by
    rw [← hW0]
    have f := Flags.made (w1.alloc (.cells #[.slice A1 ofA.length cap1] 26))
    rw [World.size_alloc] at f
    exact (((f.below ((Below.refl _ _).alloc (Nat.le_refl _) _)).below ((Below.refl _ _).alloc (Nat.le_refl _) _)).below ((Below.refl _ _).alloc (Nat.le_refl _) _)).below ((Below.refl _ _).alloc (Nat.le_refl _) _)
  have h2 : W0.heap[w1.heap.size + 1 + 1]? = some (.cells #[.map (some (w1.heap.size + 1))] 134 (0, 0)) := by rw [← hW0]; exact heap_alloc_l (heap_alloc_l (heap_alloc_l (heap_alloc_at (by simp))))
  have h3 : W0.heap[w1.heap.size + 1 + 1 + 1]? = some (.cells #[.slice none 0 0] 26 (0, 0)) := by rw [← hW0]; exact heap_alloc_l (heap_alloc_l (heap_alloc_at (by simp)))
  have hX : W0.heap[w1.heap.size + 1 + 1 + 1 + 1]? = some (.cells #[.map (some bt), .map (some bm), .map (some bc)] 68 (0, 0)) := by rw [← hW0]; exact heap_alloc_l (heap_alloc_at (by simp))
  have hI : W0.heap[w1.heap.size + 1 + 1 + 1 + 1 + 1]? = some (.cells #[.string b] 9 (0, 0)) := by rw [← hW0]; exact heap_alloc_at (by simp)
  clear hW0 y0 y1 y2 XR1 XR2
  have HS1 := hide e1
  rw [e1] at h1 hF h2 h3 hX hI hs0 hs1 hB0 ⊢
  clear e1
  obtain ⟨gm, em⟩ : ∃ g, g1 + 1 = g := ⟨_, rfl⟩
  rw [em] at hF h2 h3 hX hI ⊢
  obtain ⟨g2, e2⟩ : ∃ g, gm + 1 = g := ⟨_, rfl⟩
  rw [e2] at h2 h3 hX hI ⊢
  obtain ⟨g3, e3⟩ : ∃ g, g2 + 1 = g := ⟨_, rfl⟩
  rw [e3] at h3 hX hI ⊢
  obtain ⟨g4, e4⟩ : ∃ g, g3 + 1 = g := ⟨_, rfl⟩
  rw [e4] at hX hI ⊢
  obtain ⟨g5, e5⟩ : ∃ g, g4 + 1 = g := ⟨_, rfl⟩
  rw [e5] at hI ⊢
  have hgs : g1 < W0.heap.size ∧ g2 < W0.heap.size ∧ g3 < W0.heap.size ∧ gm < W0.heap.size := by omega
  have hr5 : w₀.heap.size ≤ W0.heap.size := by omega
  have hr4 : w.heap.size ≤ W0.heap.size := by omega
  have hgn : g1 < gm ∧ gm < g2 ∧ g2 < g3 := by omega
  have hg10 : w₀.heap.size ≤ g1 := by omega
  have hgw : w.heap.size ≤ g1 := by omega
  have hbW : Below w₀.heap.size w₀ W0 := (hbel.trans (B1.out.mono hw0)).trans (hB0.mono hg10)
  clear hs0 em e2 e3 e4 e5
  have hg1w : g1 ≤ w1.heap.size := by rw [HS1.out]; exact Nat.le_refl _
  have ZA := hide (show ZIn w1 g1 A1 ofA by have := O1.out.zin; rw [HS1.out] at this; exact this)
  refine wpIn_rangeFunc_ownH hro (by omega) (gf := 144) (lb := #[.pointer (some ⟨g4, 0, none⟩), .pointer (some ⟨g5, 0, none⟩)]) rfl trivial (enters_of Tryz.func144 (by kernel_rfl) rfl)
    (behind_stops bt R Fence.wide hd trivial trivial hro 2 W0.heap.size g4 g5 b hb W0 hr5 (Nat.le_refl _) hbW hX hI) (fun h k => Keep.trans h k) (fun W l o o' h1 h2 h3 h4 => Keep.putObj W l o o' (Nat.le_trans hr5 h1) h2 h3 h4) (Below.refl _ _) (fun _ => rfl)
    (fun pre W => BasI w1 W0.heap.size g1 g2 g3 gm A1 cap1 ofA pre W) (fun _ _ _ => False)
    (BasI.own hgs hg1w)
    (fun _ _ _ _ _ hs _ _ => hs)
    ⟨⟨none, 0, h3, ZOwn.nil _ _⟩, ⟨0, [], Nat.zero_le _, (fun q => by simp), hF⟩, h1, h2, hB0, Nat.le_refl _⟩
    (fun x a' W => ∃ Bx, W0.heap.size ≤ Bx ∧ W.heap[Bx]? = some (CBx l rA rC x) ∧ a' = { tmps := #[.agg #[.map (some bt), .map (some bm), .map (some bc)], .string a, .string b, .pointer (some ⟨w.heap.size, 0, none⟩), undef, undef, .slice none 0 0, .pointer (some ⟨g1, 0, none⟩), .pointer (some ⟨g2, 0, none⟩), .pointer (some ⟨g3, 0, none⟩), .string x.1, .pointer (some ⟨Bx, 0, none⟩), undef, undef, undef, undef, .agg #[.map (some bt), .map (some bm), .map (some bc)], .string a, .slice A1 ofA.length cap1, .map (some gm), .agg #[.map (some bt), .map (some bm), .map (some bc)], .string b, .func (.func 144) #[] #[.pointer (some ⟨g4, 0, none⟩), .pointer (some ⟨g5, 0, none⟩)], .string x.1, .agg #[.string (treK l x.1), .slice (rA x.1) (lenK l x.1) (rC x.1), .string (notK l x.1)], undef, undef, undef, undef, undef, undef, undef, undef, undef, undef, undef, undef, undef, undef, undef, undef, undef, undef, undef, undef, undef, undef, undef, undef, undef, undef, undef, undef], defers := [] })
    (fun x a' _ X Y row hs hg hr => by obtain ⟨Bx, k1, k2, k3⟩ := hs; exact ⟨Bx, k1, box_own k2 hg hr, k3⟩)
    ?assign ?body ?done ?stop
  case assign =>
    intro lr pre x W K hi hK
    simp only [encC]
    gi_wp2
    exact hK _ _ ((KeepsOthers.alloc _ _).from _) (Keep.alloc (Nat.le_trans hr5 hi.2.2.2.2.2) _) ((BasI.own hgs hg1w).alloc _ hi) ⟨W.heap.size, hi.2.2.2.2.2, heap_alloc_at rfl, rfl⟩
  case body =>
    rintro lr pre x a' W hlr ⟨r, hrr⟩ hi ⟨Bx, hBx, bx, rfl⟩ hlen
    have BS := hide (binSearch_any A1 ofA cap1 x.1 W g1 (by omega) (ZA.out.below hi.2.2.2.2.1) HR.out)
    have c1 := cell_of_row _ _ 0 _ _ _ hi.2.2.1
    cases hm : memK ofA x.1
    · rw [hm] at BS
      have IX : Hid (∀ W2, Quiet W W2 → KeepsFrom W0.heap.size W W2 ∧ Keep w₀.heap.size W0.heap.size W W2 ∧ BasI w1 W0.heap.size g1 g2 g3 gm A1 cap1 ofA (pre ++ [x]) W2) := hide (fun W2 q => by
        obtain ⟨⟨A, cap, i1, i2⟩, ⟨n, S, i3, i4, i5⟩, i6, i7, i8, i9⟩ := hi.quiet q
        refine ⟨KeepsFrom.quiet q, Keep.quiet q, ⟨A, cap, ?_, ?_⟩, ⟨n, S, by simp; omega, basS_no i4 hm, i5⟩, i6, i7, i8, i9⟩
        · rw [basO_snoc, hm]; exact i1
        · rw [basO_snoc, hm]; exact i2)
      clear hi hm bx
      gi_wp2_with ((try refine ⟨trivial, ?_⟩); gi_at_call 119; refine (CallsIn.inRound lr (callsIn_wide.2 BS.out)).mono ?_; rintro e W2 ⟨⟨p, rfl⟩, q2⟩; have Q2 := hide (IX.out W2 q2); clear q2)
      exact Q2.out
    · rw [hm] at BS
      have HM := hide hm
      obtain ⟨⟨A, cap, hG, hO⟩, ⟨n, S, hn, hS, hF⟩, hA, hP, hB, hZ⟩ := hi
      have hpl : (basO ofA pre).length < 60 := Nat.lt_of_le_of_lt (basO_len ofA pre) hlen
      have PRE : Hid (∀ W2, Quiet W W2 → W2.heap[g3]? = some (.cells #[.slice A (basO ofA pre).length cap] 26 (0, 0)) ∧ ZOwn W2 W0.heap.size A cap (basO ofA pre) ∧ W0.heap.size ≤ W2.heap.size ∧
          (∀ A2 cap2 W3 n2, ZOwn W3 W0.heap.size A2 cap2 (basO ofA pre ++ [x.1]) → (W2.alloc (.cells #[.string x.1] 9)).grownBy W3 (rowOf A) → n2 = (basO ofA pre ++ [x.1]).length → BasR w₀ w1 W0.heap.size g1 g2 g3 gm Bx n A1 cap1 ofA rA rC pre x S W2 0 (W3.setCell ⟨g3, 0, none⟩ (.slice A2 n2 cap2))) ∧
          (∀ wr, BasR w₀ w1 W0.heap.size g1 g2 g3 gm Bx n A1 cap1 ofA rA rC pre x S W2 (parK l x.1).length wr → KeepsFrom W0.heap.size W wr ∧ Keep w₀.heap.size W0.heap.size W wr ∧ BasI w1 W0.heap.size g1 g2 g3 gm A1 cap1 ofA (pre ++ [x]) wr)) := hide (fun W2 q => by
        have KQ := Keep.quiet (n₀ := w₀.heap.size) (n₁ := W0.heap.size) q
        have FQ := KeepsFrom.quiet (B := W0.heap.size) q
        have qb := q.below W.heap.size
        have e := q.heap
        refine ⟨by rw [e]; exact hG, hO.below qb, by rw [e]; exact hZ, fun A2 cap2 W3 n2 own g hn2 => ?_, fun wr h => ?_⟩
        · exact BasR.start hgs ⟨by omega, by omega, by omega, hBx⟩ HS1.out hg10 (by rw [e]; exact hG) (hO.below qb) (hF.below qb) (by rw [e]; exact hA) (by rw [e]; exact hP) (by rw [e]; exact bx) (hB.trans (q.below _)) (by rw [e]; exact hZ) own g hn2
        · obtain ⟨k1, k2, k3⟩ := h.fin HM.out hn hS
          exact ⟨FQ.trans k1, KQ.trans k2, k3⟩)
      have RW := hide (R.row x.1).zin
      have BW : Hid (∀ wr, Below g1 w1 wr → Below w₀.heap.size w₀ wr) := hide (fun wr h => (hbel.trans (B1.out.mono hw0)).trans (h.mono hg10))
      have hp2 := parK_len l x.1
      have PSZ : Hid (∀ i (h : i < (parK l x.1).length), ((parK l x.1)[i]).size = 16) := hide (fun i h => parK_size (List.getElem_mem h))
      have HN : n ≤ 120 := by omega
      clear hm bx hG hO hn hS hF hA hP hB hZ
      generalize hpm : basO ofA pre = pm at *
      have HPM := hide hpm
      clear hpm
      generalize hnm : pm.length = nm at hpl PRE
      have NM := hide hnm
      clear hnm
      gi_wp2_with (first
        | ((try refine ⟨trivial, ?_⟩); gi_at_call 119; refine (CallsIn.inRound lr (callsIn_wide.2 BS.out)).mono ?_; rintro e W2 ⟨⟨p, rfl⟩, q2⟩; have P2 := hide (PRE.out W2 q2); have c3 := cell_of_row _ _ 0 _ _ _ P2.out.1; clear q2 PRE BS c1)
        | ((try refine ⟨trivial, ?_⟩); gi_at_builtin; refine wpListIn_appZ (l' := [x.1]) 26 Tryz.underlying26 rfl (.tmp 33) (.tmp 35) rfl rfl rfl NM.out.symm rfl (P2.out.2.1.alloc _) (ZIn.one x.1 _ rfl) (Nat.le_trans P2.out.2.2.1 (by simp)) (by rw [NM.out]; simp; omega) ?_; intro A2 cap2 W3 own g r; have R0 := hide (P2.out.2.2.2.1 A2 cap2 W3 (pm.length + 1) own g (by simp)); have y1 := cell_of_row _ _ 1 _ _ _ R0.out.bx; have f4 : W3.heap[g3]? = _ := (g.block g3 (by have := P2.out.2.2.1; simp; omega) (fun e => by have := (zown_block (P2.out.2.1.alloc (.cells #[.string x.1] 9)) e.symm).1; omega)).trans (heap_alloc_l P2.out.1); have c5 := cell_of_row _ _ 0 _ _ _ f4; have f5 := frozen_of_row _ _ 0 _ _ f4; clear own g r f4 c3))
      clear y1 c5 f5
      obtain ⟨np, hnp⟩ : ∃ np, lenK l x.1 = np := ⟨_, rfl⟩
      have NP : Hid ((parK l x.1).length = np) := hide hnp
      rw [hnp]
      clear hnp
      have hnp2 : np ≤ 2 := by rw [← NP.out]; exact hp2
      generalize rA x.1 = Ar at *
      generalize rC x.1 = Cr at *
      gi_loopw [40] (fun iv wr => ∃ j : Nat, j ≤ np ∧ iv = .int .i64 j ∧ Hid (BasR w₀ w1 W0.heap.size g1 g2 g3 gm Bx n A1 cap1 ofA rA rC pre x S W2 j wr)) (fun i _ => np - (intOf i).toNat)
      case atStart => exact ⟨0, Nat.zero_le _, rfl, R0⟩
      case round =>
        clear R0
        obtain ⟨j, hj, rfl, RR⟩ := hrel
        by_cases hlt : j < np
        · have hjl : j < (parK l x.1).length := by rw [NP.out]; exact hlt
          have hpos : 0 < (parK l x.1).length := Nat.lt_of_le_of_lt (Nat.zero_le _) hjl
          obtain ⟨bq, off, eA, hbq, hcq⟩ := RW.out hpos
          subst eA
          have cq := ((BW.out wr RR.out.bel).cell (p := ⟨bq, off + j, none⟩) hbq).trans (hcq j hjl)
          have c2 := cell_of_row _ _ 0 _ _ _ RR.out.b2
          obtain ⟨W5, hst, fl5, gr5⟩ := RR.out.flg.store (k := (parK l x.1)[j]) (by unfold maxLen; omega) (by rw [PSZ.out j hjl]; unfold maxLen; omega)
          have R5 := hide (RR.out.step ⟨by omega, hgs.2.2.2⟩ ⟨by omega, by omega, by omega⟩ HS1.out hg10 hjl fl5 gr5)
          have HL := hide hlt
          clear fl5 gr5 hcq RR PSZ
          generalize (parK l x.1)[j]'hjl = q at *
          clear hjl
          gi_wp2
          go_roundw
          case rel => exact ⟨j + 1, HL.out, by have := HL.out; go_num, R5⟩
          case measure => have := HL.out; simp [intOf]; omega
        · have e9 : (parK l x.1).length = j := by rw [NP.out]; omega
          have R9 := RR.out
          rw [← e9] at R9
          have FX := hide (P2.out.2.2.2.2 wr R9)
          clear e9 R9
          have hgt : ¬ ((j : Int) < (np : Int)) := by omega
          clear hlt RR P2 RW BW PSZ
          gi_wp2
          exact FX.out
  case done =>
    rintro D ys W hD hall ⟨⟨A, cap, hG, hO⟩, ⟨n, S, hn, hS, hF⟩, hA, hP, hB, hZ⟩ hK
    have hsub : ∀ z ∈ basO ofA ys, z ∈ ofA := fun z hz => by
      unfold basO at hz
      exact memK_iff.1 (List.mem_filter.1 hz).2
    have hnd : (basO ofA ys).Nodup := List.Nodup.sublist List.filter_sublist hall.1
    have hol : (basO ofA ys).length ≤ 60 := Nat.le_trans (nodup_len hnd hsub) hof
    have hsz : ∀ z ∈ basO ofA ys, z.size ≤ maxLen := fun z hz => by
      unfold basO at hz
      obtain ⟨u, _, e⟩ := List.mem_map.1 (List.mem_filter.1 hz).1
      rw [← e]
      exact u.2.2
    have hex : Hid (sortL (toLs ((basO ofA ys).filter fun x => !memK S x)) = toLs (bestK l a b)) := hide (by
      have hS' := hS
      rw [← HOF.out] at hS' ⊢
      exact bas_best hrep hall hS')
    have hlen : Hid (((basO ofA ys).filter fun x => !memK S x).length = (bestK l a b).length) := hide (by
      have h1 := congrArg List.length hex.out
      rw [sortL_len, toLs_len, toLs_len] at h1
      exact h1)
    have hbl := bestK_len l a b
    have hbk := fun g hg => zown_block hO (g := g) hg
    have DL := hide (delete_any A (basO ofA ys) cap W W0.heap.size g2 gm n S hO (by omega) hsz hP hF (fun g hg => by have := (hbk g hg).1; omega))
    rw [hlen.out] at DL
    have SX : Hid (∀ W2, ZOwn W2 W0.heap.size A cap ((basO ofA ys).filter fun x => !memK S x) → W.grownBy W2 (rowOf A) → (W2.heap[g3]? = some (.cells #[.slice A (basO ofA ys).length cap] 26 (0, 0))) ∧
        Calls Tryz.prog 117 #[.slice A (bestK l a b).length cap] (W2.setCell ⟨g3, 0, none⟩ (.slice A (bestK l a b).length cap)) fun e W4 => e = .returned (.tuple #[]) ∧ W4.heap[g3]? = some (.cells #[.slice A (bestK l a b).length cap] 26 (0, 0)) ∧ W4.heap[D]? = some (.deferred (some [])) ∧ RetZ w.heap.size (bestK l a b) w (.returned (.slice A (bestK l a b).length cap)) (W4.putObj D (.deferred none))) := hide (fun W2 o2 gr2 => by
      have hne3 : ∀ {k : Nat}, rowOf A = some k → k ≠ g3 ∧ k ≠ D := fun {k} hk => by
        obtain ⟨q1, cs, q2⟩ := hbk k hk
        refine ⟨by omega, fun e => ?_⟩
        subst e
        rw [hK] at q2
        injection q2 with q2
        cases q2
      have hG2 := (gr2.block g3 (Array.getElem?_eq_some_iff.1 hG).1 (fun e => (hne3 e.symm).1 rfl)).trans hG
      have hD2 := (gr2.block D (Array.getElem?_eq_some_iff.1 hK).1 (fun e => (hne3 e.symm).2 rfl)).trans hK
      have b2 := (hB.grown gr2 (Nat.le_trans hg1w hB.size) (fun k e => by have := (hbk k e).1; omega))
      refine ⟨hG2, ?_⟩
      have hG3 := heap_setCell_same W2 g3 0 _ _ (.slice A (bestK l a b).length cap) hG2
      have hDg : D ≠ g3 := by omega
      have hD3 := (Below.heap_setCell W2 ⟨g3, 0, none⟩ (.slice A (bestK l a b).length cap) D hDg).trans hD2
      have b3 := b2.setCell (p := ⟨g3, 0, none⟩) (show g1 ≤ g3 by omega) (.slice A (bestK l a b).length cap)
      have o3 : ZOwn (W2.setCell ⟨g3, 0, none⟩ (.slice A (bestK l a b).length cap)) W0.heap.size A cap ((basO ofA ys).filter fun x => !memK S x) := ownsRow_setCell_below o2 (show g3 < W0.heap.size by omega) _
      have SO := sort_any A (toLs ((basO ofA ys).filter fun x => !memK S x)) cap _ W0.heap.size o3.toL (by rw [toLs_len, hlen.out]; omega)
      rw [toLs_len, hex.out, hlen.out] at SO
      refine SO.mono ?_
      rintro e W4 ⟨rfl, o4, gr4⟩
      have hG4 := (gr4.block g3 (Array.getElem?_eq_some_iff.1 hG3).1 (fun e => (hne3 e.symm).1 rfl)).trans hG3
      have hD4 := (gr4.block D (Array.getElem?_eq_some_iff.1 hD3).1 (fun e => (hne3 e.symm).2 rfl)).trans hD3
      refine ⟨rfl, hG4, hD4, A, cap, rfl, ?_, ?_⟩
      · refine ZOwn.more (ZOwn.keptO o4.toZ (grownBy_putObj' _ D _) (fun g hg e => ?_)) hr4
        injection e with e
        exact (hne3 hg).2 e
      · have b4 := b3.grown gr4 (Nat.le_trans hg1w b3.size) (fun k e => by have := (hbk k e).1; omega)
        have b5 : Below g1 w1 (W4.putObj D (.deferred none)) := b4.trans (belowK_b (w := w1) hg1w W4 D _ _ (by rw [HS1.out]; omega) hD4 rfl rfl)
        exact B1.out.trans (b5.mono hgw))
    have c1 : W.cell? ⟨g3, 0, none⟩ = some (.slice A (basO ofA ys).length cap) := cell_of_row _ _ 0 _ _ _ hG
    clear hG hO hn hS hF hA hP hB hZ hK hall hsub hnd hol hsz hex hlen hbk
    generalize (bestK l a b).length = nb at *
    generalize (basO ofA ys).length = no at *
    gi_wp2_with (first
      | ((try refine ⟨trivial, ?_⟩); gi_at_call 120; refine (callsIn_wide.2 DL.out).mono ?_; rintro e W2 ⟨rfl, o2, gr2⟩; have F2 := hide (SX.out W2 o2 gr2); have c2 := cell_of_row _ _ 0 _ _ _ F2.out.1; have f2 := frozen_of_row _ _ 0 _ _ F2.out.1; clear o2 gr2 DL SX c1)
      | ((try refine ⟨trivial, ?_⟩); gi_at_call 117; refine (callsIn_wide.2 F2.out.2).mono ?_; rintro e W4 ⟨rfl, F4⟩; have F5 := hide F4; have c4 := cell_of_row _ _ 0 _ _ _ F5.out.1; clear F4 F2 c2 f2))
    refine ⟨by simp, .inl ⟨_, _, rfl, run_takeDeferred F5.out.2.1, ?_⟩⟩
    exact ⟨_, results_tmp (t := 6) rfl _ _ _, F5.out.2.2⟩
  case stop =>
    rintro D c pre W hD hsp h hK
    exact h.elim

set_option maxRecDepth 100000 in
set_option maxHeartbeats 1000000 in
theorem implBases_any (A : Option Addr) (l : List Pr) (cap : Nat) (x y : ByteArray) (a : Addr) (w : World) (hl : l.length ≤ maxLen) (hin : PIn w w.heap.size A l) (hx : x.size ≤ maxLen) (hy : y.size ≤ maxLen) (hT : Tabs w) (hE : ErrC w a) :
    Calls Tryz.prog 38 #[.slice A l.length cap, .string x, .string y] w (RetZ w.heap.size (bestK l x y) w) := by
  have T := hide (repoOf_any A l cap a w hl hin hT hE)
  have NO : Hid (repoB l = false → ∀ w', Below w.heap.size w w' → RetZ w.heap.size (bestK l x y) w (.returned (.slice none 0 0)) w') := hide (fun h w' hb => by
    have e : bestK l x y = [] := by
      refine List.eq_nil_iff_forall_not_mem.2 fun z hz => ?_
      have h1 := bothK_repo (bestK_mem.1 hz).1
      rw [h] at h1
      cases h1
    rw [e]
    exact ⟨none, 0, rfl, ZOwn.nil _ _, hb⟩)
  clear hin hT hE hl
  generalize l.length = n at *
  go_enter Tryz.func38, Tryz.ntmps38
  go_wp2_with fail
  refine T.out.mono ?_
  rintro e w1 ⟨b1, ⟨hf, rfl⟩ | ⟨hf, bt, bm, bc, B, vs, rfl, _, _, _, _, _, _, rm⟩⟩
  · have Z := hide (NO.out hf)
    have B1 := hide (b1.alloc b1.size (.cells #[.map none, .map none, .map none] 68))
    clear b1 hf T NO
    go_wp2_with fail
    go_ret
    exact Z.out _ B1.out
  · have b2 := (Below.refl w1.heap.size w1).alloc (Nat.le_refl _) (.cells #[.map (some bt), .map (some bm), .map (some bc)] 68)
    have B2 := hide (b1.trans (b2.mono b1.size))
    have XR := hide (heap_alloc_new w1 (.cells #[.map (some bt), .map (some bm), .map (some bc)] 68))
    have IA := hide (bases_any bt rm hf x y hx hy _ b2)
    have x0 := cell_of_row _ _ 0 _ _ _ XR.out
    have x1 := cell_of_row _ _ 1 _ _ _ XR.out
    have x2 := cell_of_row _ _ 2 _ _ _ XR.out
    clear b1 b2 hf T NO rm
    go_wp2_with fail
    refine IA.out.mono ?_
    rintro e w3 ⟨A3, cap3, rfl, o3, b3⟩
    have F : Hid (RetZ w.heap.size (bestK l x y) w (.returned (.slice A3 (bestK l x y).length cap3)) w3) := hide ⟨A3, cap3, rfl, o3.more B2.out.size, B2.out.trans (b3.mono B2.out.size)⟩
    clear o3 b3 IA x0 x1 x2 XR
    generalize (bestK l x y).length = an at *
    go_wp2_with fail
    go_ret
    exact F.out
end Go.Proofs.YtehblaigbcbleaaGreatDoor
/-
  What spec.BasesOf answers.
-/
namespace Go.Proofs.YtehblaigbcbleaaGreatDoor
open Go.RowKit

theorem zown_fresh {W : World} {n n3 : Nat} {A A' : Option Addr} {cap : Nat} {bs : List ByteArray} (h : ZOwn W (n + 1) A cap bs) (hr : ∀ g, rowOf A = some g → g < n3) (hr' : ∀ g, rowOf A' = some g → g = n ∨ n3 ≤ g) {W' : World} (hg : W.grownBy W' (rowOf A')) : ZOwn W' (n + 1) A cap bs :=
  ZOwn.keptO h hg (fun g hg' e => by
    have h1 := (h.row g hg').1
    have h2 := hr g hg'
    have h3 := hr' g e.symm
    omega)

set_option maxRecDepth 100000 in
set_option maxHeartbeats 2000000 in
theorem specBases_any (A : Option Addr) (l : List Pr) (cap : Nat) (a b : ByteArray) (w : World) (hl : l.length ≤ maxLen) (hin : PIn w w.heap.size A l) (hz : ∀ k, (valOf l k).size ≤ 1048576) :
    Calls Tryz.prog 39 #[.slice A l.length cap, .string a, .string b] w (RetZ w.heap.size (bestK l a b) w) := by
  have AN : Hid (∀ k W, Below w.heap.size w W → Calls Tryz.prog 29 #[.slice A l.length cap, .string k] W (RetZ W.heap.size (ancK l k) W)) := hide (fun k W hb => specAncestors_any A l cap k W hl ((hin.below hb).more hb.size) (hz k))
  have ANA : Hid (∀ W, Below w.heap.size w W → Calls Tryz.prog 29 #[.slice A l.length cap, .string a] W (RetZ W.heap.size (ancK l a) W)) := hide (AN.out a)
  have ANB : Hid (∀ W, Below w.heap.size w W → Calls Tryz.prog 29 #[.slice A l.length cap, .string b] W (RetZ W.heap.size (ancK l b) W)) := hide (AN.out b)
  clear AN
  have GR : Hid (∀ y ∈ bothK l a b, ∀ W, Below w.heap.size w W → Calls Tryz.prog 75 #[.slice A l.length cap, .slice (some ⟨W.heap.size, 0, none⟩) 1 1] (W.alloc (.cells #[.string y] 9)) (RetZ W.heap.size (growK l [y] (l.length + 1)) W)) := hide (fun y hy W hb => by
    have hbx := hb.alloc hb.size (.cells #[.string y] 9)
    refine (l5Grow_any A l cap (some ⟨W.heap.size, 0, none⟩) [y] 1 _ hl ((hin.below hbx).more hbx.size) (bothK_repo hy) ⟨List.pairwise_singleton .., fun z hz => by rw [List.mem_singleton] at hz; subst hz; exact (bothK_ris l a b).2 _ hy⟩ ((ZIn.one y 9 rfl).more (by simp))).mono ?_
    rintro e w' ⟨A2, cap2, rfl, o2, b2⟩
    exact ⟨A2, cap2, rfl, o2.more (by simp), ((Below.refl _ W).alloc (Nat.le_refl _) _).trans (b2.mono (by simp))⟩)
  have GL : Hid (∀ y ∈ bothK l a b, (growK l [y] (l.length + 1)).length ≤ 60) := hide (fun y hy => by
    have hr := bothK_repo hy
    exact (risC_grow hr (ids := [y]) ⟨List.pairwise_singleton .., fun z hz => by rw [List.mem_singleton] at hz; subst hz; exact (bothK_ris l a b).2 _ hy⟩ (l.length + 1)).len (repoB_iff.1 hr).1)
  have TS : Hid (∀ S x y, topK l S x = true → y ≠ x → topK l (S ++ [y]) x = !memK (growK l [y] (l.length + 1)) x) := hide (fun S x y => topK_step)
  have hal := ancK_len l a
  have hbl := ancK_len l b
  have hol := bothK_len l a b
  have BK : Hid (bothK l a b = (ancK l a).filter (memK (ancK l b))) := hide rfl
  have BT : Hid (bestK l a b = (bothK l a b).filter (topK l (bothK l a b))) := hide rfl
  have NDB := hide (risK_nodup (bothK_ris l a b).1)
  clear hin hl hz
  generalize hbo : bothK l a b = both at *
  generalize bestK l a b = best at *
  clear hbo
  generalize ancK l a = sa at *
  generalize ancK l b = bs at *
  generalize hna : sa.length = na at *
  have NA := hide hna
  clear hna
  generalize hmb : both.length = mb at *
  have MB := hide hmb
  clear hmb
  generalize l.length = n at *
  go_enter Tryz.func39, Tryz.ntmps39
  have O0 := hide (ZOwn.built w w.heap.size (Nat.le_refl _))
  have B0 := hide ((Below.refl w.heap.size w).alloc (Nat.le_refl _) (.cells #[] 9))
  have S0 : Hid ((w.alloc (.cells #[] 9)).heap.size = w.heap.size + 1) := hide (by simp)
  have CA := hide (ANA.out _ B0.out)
  go_wp2_with fail
  refine CA.out.mono ?_
  rintro e w2 ⟨A2, cap2, rfl, o2, b2⟩
  rw [S0.out] at o2 b2
  have B2 := hide (B0.out.trans (b2.mono (Nat.le_succ _)))
  have O2 := hide (O0.out.below (S0.out ▸ b2))
  have CB := hide (ANB.out _ B2.out)
  have OA2 := hide o2
  have s2 := b2.size
  rw [S0.out] at s2
  clear o2 b2 CA ANA ANB O0 B0 S0
  rw [NA.out]
  go_wp2_with fail
  refine CB.out.mono ?_
  rintro e w3 ⟨A3, cap3, rfl, o3, b3⟩
  have B3 := hide (B2.out.trans (b3.mono B2.out.size))
  have O3 := hide (O2.out.below b3)
  have OA3 := hide (OA2.out.below b3)
  have OB3 := hide (o3.more s2)
  have RA := hide (fun g hg => (OA3.out.row g hg).2)
  have RB := hide (fun g hg => (OB3.out.row g hg).2)
  have s3 := b3.size
  clear o3 b3 CB O2 OA2 B2
  have L0 : Hid (((sa.take 0).filter (memK bs)) = []) := hide (by simp)
  generalize hnb : bs.length = nb at *
  have NB := hide hnb
  clear hnb
  obtain ⟨n3, hn3⟩ : ∃ n3, n3 = w3.heap.size := ⟨_, rfl⟩
  rw [← hn3] at RA RB s3
  have H3 := hide (Nat.le_of_eq hn3)
  clear hn3
  go_wp2_with fail
  go_loopw [7, 10] (fun bv iv wr => ∃ (k : Nat) (A : Option Addr) (cap : Nat), k ≤ na ∧ iv = .int .i64 k ∧ bv = .slice A ((sa.take k).filter (memK bs)).length cap ∧ Hid (ZOwn wr w.heap.size A cap ((sa.take k).filter (memK bs))) ∧ Hid (Below w.heap.size w wr) ∧ Hid (ZOwn wr (w.heap.size + 1) A2 cap2 sa) ∧ Hid (ZOwn wr (w.heap.size + 1) A3 cap3 bs) ∧ Hid (∀ g, rowOf A = some g → g = w.heap.size ∨ n3 ≤ g) ∧ Hid (n3 ≤ wr.heap.size)) (fun _ i _ => na - (intOf i).toNat)
  case atStart => exact ⟨0, some ⟨w.heap.size, 0, none⟩, 0, Nat.zero_le _, rfl, by rw [L0.out]; rfl, by rw [L0.out]; exact O3, B3, OA3, OB3, hide (fun g hg => .inl (rowOf_some hg).symm), H3⟩
  case round =>
    clear O3 B3 OA3 OB3 H3
    obtain ⟨k, A5, cap5, hk, rfl, rfl, O5, Q5, OA, OB, R5, S5⟩ := hrel
    have hfl : ((sa.take k).filter (memK bs)).length ≤ 60 := by
      refine Nat.le_trans (List.length_filter_le ..) (Nat.le_trans (List.length_take_le ..) ?_)
      omega
    by_cases hlt : k < na
    · have hkl : k < sa.length := by rw [NA.out]; exact hlt
      have FS := hide (filter_take_succ (p := memK bs) hkl)
      obtain ⟨ba, offa, ea, _, hc⟩ := OA.out.zin (by rw [NA.out]; omega)
      have c1 := hc k hkl
      have HH := hide (l1Has_any A3 bs cap3 (sa[k]'hkl) wr wr.heap.size (by unfold maxLen; rw [NB.out]; omega) OB.out.zin)
      rw [NB.out] at HH
      subst ea
      clear hc
      generalize sa[k]'hkl = x at *
      generalize hfk : (sa.take k).filter (memK bs) = fk at *
      clear hfk
      go_wp2_with fail
      refine HH.out.mono ?_
      rintro e w6 ⟨rfl, rfl⟩
      clear HH
      cases hm : memK bs x
      · have F1 : Hid (((sa.take (k + 1)).filter (memK bs)) = fk) := hide (by rw [FS.out, hm]; rfl)
        clear FS hm
        go_wp2_with fail
        go_roundw
        case rel => exact ⟨k + 1, A5, cap5, by omega, by go_num, by rw [F1.out], by rw [F1.out]; exact O5, Q5, OA, OB, R5, S5⟩
        case measure => simp [intOf]; omega
      · have F1 : Hid (((sa.take (k + 1)).filter (memK bs)) = fk ++ [x]) := hide (by rw [FS.out, hm]; rfl)
        clear FS hm
        generalize hfn : fk.length = fn at *
        have FN := hide hfn
        clear hfn
        go_wp2_with (at_builtin; (refine wpList_appZ (l' := [x]) 26 Tryz.underlying26 rfl (.tmp 34) (.tmp 39) rfl rfl rfl FN.out.symm rfl (O5.out.alloc _) (ZIn.one x _ rfl) (Nat.le_trans Q5.out.size (by simp)) (by rw [FN.out]; simp; omega) ?_; intro A6 cap6 w6 own6 g6 r6; have O6 : Hid (ZOwn w6 w.heap.size A6 cap6 ((sa.take (k + 1)).filter (memK bs))) := hide (by rw [F1.out]; exact own6); have Q6 := hide ((Q5.out.alloc Q5.out.size _).trans ((O5.out.alloc _).grownBelow g6 (Nat.le_trans Q5.out.size (by simp)))); have OA6 := hide (zown_fresh (OA.out.alloc _) RA.out R5.out g6); have OB6 := hide (zown_fresh (OB.out.alloc _) RB.out R5.out g6); have S6 : Hid (n3 ≤ w6.heap.size) := hide (Nat.le_trans S5.out (Nat.le_trans (by simp) g6.size)); have R6 : Hid (∀ g, rowOf A6 = some g → g = w.heap.size ∨ n3 ≤ g) := hide (fun g hg => r6.elim (fun e => R5.out g (e ▸ hg)) (fun e => by rw [e] at hg; injection hg with hg; right; rw [← hg]; exact Nat.le_trans S5.out (by simp))); clear own6 g6 r6))
        go_roundw
        case rel => exact ⟨k + 1, A6, cap6, by omega, by go_num, by rw [F1.out, List.length_append, FN.out]; rfl, O6, Q6, OA6, OB6, R6, S6⟩
        case measure => simp [intOf]; omega
    · have ek : k = na := by omega
      have FE : Hid ((sa.take k).filter (memK bs) = both) := hide (by rw [BK.out, ek, ← NA.out, List.take_length])
      have hgt : ¬ ((k : Int) < (na : Int)) := by omega
      rw [FE.out] at O5 ⊢
      rw [MB.out]
      have s5 := Q5.out.size
      have O9 := hide (ZOwn.built wr wr.heap.size (Nat.le_refl _))
      have B9 := hide ((Below.refl wr.heap.size wr).alloc (Nat.le_refl _) (.cells #[] 9))
      have IB := hide O5.out.zin
      have M0 : Hid ((both.take 0).filter (topK l both) = []) := hide (by simp)
      clear hlt ek FE O5 OA OB R5 S5 RA RB hfl
      obtain ⟨w4, hw4⟩ : ∃ w4, w4 = wr := ⟨wr, rfl⟩
      subst hw4
      go_wp2_with fail
      go_loopw [11, 12] (fun ov iv wr => ∃ (i : Nat) (A : Option Addr) (cap : Nat), i ≤ mb ∧ iv = .int .i64 i ∧ ov = .slice A ((both.take i).filter (topK l both)).length cap ∧ Hid (ZOwn wr w4.heap.size A cap ((both.take i).filter (topK l both))) ∧ Hid (Below w4.heap.size w4 wr)) (fun _ i _ => mb - (intOf i).toNat)
      case atStart => exact ⟨0, some ⟨w4.heap.size, 0, none⟩, 0, Nat.zero_le _, rfl, by rw [M0.out]; rfl, by rw [M0.out]; exact O9, B9⟩
      case round =>
        clear O9 B9 M0
        obtain ⟨i, A7, cap7, hi, rfl, rfl, O7, Q7⟩ := hrel
        have hgl : ((both.take i).filter (topK l both)).length ≤ 60 := by
          refine Nat.le_trans (List.length_filter_le ..) (Nat.le_trans (List.length_take_le ..) ?_)
          omega
        have s7 := Q7.out.size
        by_cases hlti : i < mb
        · have hil : i < both.length := by rw [MB.out]; exact hlti
          have FS := hide (filter_take_succ (p := topK l both) hil)
          have T0 : Hid (topK l (both.take 0) (both[i]'hil) = true) := hide (by rw [List.take_zero]; exact topK_nil _ _)
          have TE : Hid (topK l (both.take mb) (both[i]'hil) = topK l both (both[i]'hil)) := hide (by rw [← MB.out, List.take_length])
          have ND : Hid (∀ j (h : j < both.length), j ≠ i → both[j] ≠ both[i]'hil) := hide (fun j h hne e => hne ((List.getElem_inj NDB.out).1 e))
          have EQ : Hid (∀ j (h : j < both.length), j = i → both[j] = both[i]'hil) := hide (fun j h e => by subst e; rfl)
          have YM : Hid (∀ j (h : j < both.length), both[j] ∈ both) := hide (fun j h => List.getElem_mem h)
          have TK : Hid (∀ j (h : j < both.length), both.take (j + 1) = both.take j ++ [both[j]]) := hide (fun j h => List.take_succ_eq_append_getElem h)
          obtain ⟨bb, ob, eb, hbb, hcb⟩ := IB.out (by rw [MB.out]; omega)
          have HC := hide hcb
          have CI := hide (hcb i hil)
          clear hcb
          generalize both[i]'hil = x at *
          generalize hfk : (both.take i).filter (topK l both) = fk at *
          clear hfk
          obtain ⟨w5, hw5⟩ : ∃ w5, w5 = wr := ⟨wr, rfl⟩
          subst hw5
          go_wp2_with fail
          go_loopw [13, 14] (fun bv jv wr => ∃ j : Nat, j ≤ mb ∧ jv = .int .i64 j ∧ bv = .bool (topK l (both.take j) x) ∧ Hid (Below w5.heap.size w5 wr)) (fun _ i _ => mb - (intOf i).toNat)
          case atStart => exact ⟨0, Nat.zero_le _, rfl, by rw [T0.out], hide (Below.refl _ _)⟩
          case round =>
            obtain ⟨j, hj, rfl, rfl, Q8⟩ := hrel
            have s8 := Q8.out.size
            have Q48 := hide (Q7.out.trans (Q8.out.mono s7))
            have ci := cellB Q48.out hbb CI.out
            subst eb
            by_cases hltj : j < mb
            · have hjl : j < both.length := by rw [MB.out]; exact hltj
              have cj := cellB Q48.out hbb (HC.out j hjl)
              have TKj := hide (TK.out j hjl)
              have NDj := hide (ND.out j hjl)
              have EQj := hide (EQ.out j hjl)
              have ym := YM.out j hjl
              generalize both[j]'hjl = y at *
              cases htop : topK l (both.take j) x
              · have T1 : Hid (topK l (both.take (j + 1)) x = false) := hide (by rw [TKj.out]; exact topK_out htop)
                clear htop
                go_wp2_with fail
                refine wp_region_cls (by kernel_rfl) (by kernel_rfl) wr.heap.size ?_
                repeat (go_big_quiet_step ((fail)))
                refine wpQuiet_nil ?_
                intro _ hw'
                obtain ⟨u, hw''⟩ := hw'
                subst hw''
                have Q9 := hide (Q8.out.trans (u.below.mono s8))
                go_wp2_with fail
                go_roundw
                case rel => exact ⟨j + 1, by omega, by go_num, by rw [T1.out], Q9⟩
                case measure => simp [intOf]; omega
              · by_cases hji : j = i
                · have T1 : Hid (topK l (both.take (j + 1)) x = true) := hide (by rw [TKj.out]; exact topK_self htop (EQj.out hji))
                  have q1 : ((j : Int) == (i : Int)) = true := by rw [hji]; simp
                  have q2 : decide ((j : Int) = (i : Int)) = true := decide_eq_true (by rw [hji])
                  clear htop
                  go_wp2_with fail
                  refine wp_region_cls (by kernel_rfl) (by kernel_rfl) wr.heap.size ?_
                  repeat (go_big_quiet_step ((fail)))
                  refine wpQuiet_nil ?_
                  intro _ hw'
                  obtain ⟨u, hw''⟩ := hw'
                  subst hw''
                  have Q9 := hide (Q8.out.trans (u.below.mono s8))
                  go_wp2_with fail
                  go_roundw
                  case rel => exact ⟨j + 1, by omega, by go_num, by rw [T1.out], Q9⟩
                  case measure => simp [intOf]; omega
                · have T1 : Hid (topK l (both.take (j + 1)) x = !memK (growK l [y] (n + 1)) x) := hide (by rw [TKj.out]; exact TS.out _ _ _ htop (NDj.out hji))
                  have q1 : ((j : Int) == (i : Int)) = false := by simp only [beq_eq_false_iff_ne, ne_eq]; omega
                  have q2 : decide ((j : Int) = (i : Int)) = false := decide_eq_false (by omega)
                  have QD : Hid (Below w.heap.size w wr.drew) := hide ((Q5.out.trans (Q48.out.mono s5)).trans ((Below.refl _ wr).drew))
                  have CG := hide (GR.out y ym _ QD.out)
                  have hgy := GL.out y ym
                  have hbw : bb < wr.heap.size := by omega
                  have DJ : Hid (wr.drew.cell? ⟨bb, ob + j, none⟩ = some (.string y)) := hide cj
                  have DI : Hid (wr.drew.cell? ⟨bb, ob + i, none⟩ = some (.string x)) := hide ci
                  clear htop
                  generalize growK l [y] (n + 1) = gy at *
                  generalize hgn : gy.length = gn at *
                  have GN := hide hgn
                  clear hgn
                  go_wp2_with fail
                  go_region_held3 (fun w' => w'.cell? ⟨bb, ob + j, none⟩ = some (.string y) ∧ w'.cell? ⟨bb, ob + i, none⟩ = some (.string x)) (first | go_keep | exact ⟨cellB b9 hbw DJ.out, cellB b9 hbw DI.out⟩)
                    (first
                      | (go_at_call 75; refine CG.out.mono ?_; rintro e w9 ⟨A9, cap9, rfl, o9, b9⟩)
                      | (go_at_call 79; refine (l1Has_any A9 gy cap9 x w9 w9.heap.size (by unfold maxLen; rw [GN.out]; omega) o9.zin).mono ?_; rintro e w10 ⟨rfl, rfl⟩))
                  have Q9 := hide (Q8.out.trans (((Below.refl _ wr).drew.trans b9).mono s8))
                  go_wp2_with fail
                  go_roundw
                  case rel => exact ⟨j + 1, by omega, by go_num, by rw [T1.out], Q9⟩
                  case measure => simp [intOf]; omega
            · have ej : j = mb := by omega
              have hgt : ¬ ((j : Int) < (mb : Int)) := by omega
              have V : Hid (topK l (both.take j) x = topK l both x) := hide (by rw [ej]; exact TE.out)
              have Q9 := hide (Q7.out.trans (Q8.out.mono s7))
              have O9 := hide (O7.out.below Q8.out)
              rw [V.out]
              clear hltj ej
              cases hp : topK l both x
              · have F1 : Hid (((both.take (i + 1)).filter (topK l both)) = fk) := hide (by rw [FS.out, hp]; rfl)
                clear hp FS
                go_wp2_with fail
                go_roundw
                case rel => exact ⟨i + 1, A7, cap7, by omega, by go_num, by rw [F1.out], by rw [F1.out]; exact O9, Q9⟩
                case measure => simp [intOf]; omega
              · have F1 : Hid (((both.take (i + 1)).filter (topK l both)) = fk ++ [x]) := hide (by rw [FS.out, hp]; rfl)
                clear hp FS
                generalize hfn : fk.length = fn at *
                have FN := hide hfn
                clear hfn
                go_wp2_with (at_builtin; (refine wpList_appZ (l' := [x]) 26 Tryz.underlying26 rfl (.tmp 76) (.tmp 81) rfl rfl rfl FN.out.symm rfl (O9.out.alloc _) (ZIn.one x _ rfl) (Nat.le_trans Q9.out.size (by simp)) (by rw [FN.out]; simp; omega) ?_; intro A6 cap6 w6 own6 g6 r6; have O6 : Hid (ZOwn w6 w4.heap.size A6 cap6 ((both.take (i + 1)).filter (topK l both))) := hide (by rw [F1.out]; exact own6); have Q6 := hide ((Q9.out.alloc Q9.out.size _).trans ((O9.out.alloc _).grownBelow g6 (Nat.le_trans Q9.out.size (by simp)))); clear own6 g6 r6))
                go_roundw
                case rel => exact ⟨i + 1, A6, cap6, by omega, by go_num, by rw [F1.out, List.length_append, FN.out]; rfl, O6, Q6⟩
                case measure => simp [intOf]; omega
        · have ei : i = mb := by omega
          have hgt : ¬ ((i : Int) < (mb : Int)) := by omega
          have FE : Hid ((both.take i).filter (topK l both) = best) := hide (by rw [BT.out, ei, ← MB.out, List.take_length])
          rw [FE.out] at O7 ⊢
          have R : Hid (RetZ w.heap.size best w (.returned (.slice A7 best.length cap7)) wr) := hide ⟨A7, cap7, rfl, O7.out.more s5, Q5.out.trans (Q7.out.mono s5)⟩
          clear hlti ei FE O7
          generalize best.length = bn at *
          go_wp2_with fail
          go_ret
          exact R.out
end Go.Proofs.YtehblaigbcbleaaGreatDoor
/-
  What impl.repo's isAncestor and impl.IsAncestor answer.
-/
namespace Go.Proofs.YtehblaigbcbleaaGreatDoor
open Go.RowKit Go.Shelf Go.Maps

attribute [local go_sem] Oper.semAt_some

open Classical in
/-- is a behind b? -/
noncomputable def ancB (l : List Pr) (a b : ByteArray) : Bool := decide (rdOk (valOf l b) = true ∧ Reach l b a)
open Classical in
theorem ancB_iff {l : List Pr} {a b : ByteArray} : ancB l a b = true ↔ rdOk (valOf l b) = true ∧ Reach l b a := by unfold ancB; exact decide_eq_true_iff
theorem ancB_no {l : List Pr} {a b : ByteArray} (h : ¬ (rdOk (valOf l b) = true ∧ Reach l b a)) : ancB l a b = false := by
  cases e : ancB l a b
  · rfl
  · exact absurd (ancB_iff.1 e) h
theorem reach_com {l : List Pr} {a b : ByteArray} (h : Reach l b a) (ha : rdOk (valOf l a) = true) : rdOk (valOf l b) = true := by
  induction h with
  | self => exact ha
  | next hx hq ih =>
    rename_i x q
    refine ih ?_
    cases hr : rdOk (valOf l x)
    · rw [parK_no hr] at hq; cases hq
    · rfl
/-- what a block beyond B that is no cells may turn is not this one -/
theorem row_fromA {B k : Nat} {W W' : World} {row : Option Nat} {o : Obj} (h : W.heap[k]? = some o) (hk : k < B) (hg : W.grownBy W' row) (hr : ∀ r, row = some r → B ≤ r ∧ ∃ o : Obj, W.heap[r]? = some o ∧ o.isCells = false) : W'.heap[k]? = some o :=
  (hg.block k (Array.getElem?_eq_some_iff.1 h).1 (fun e => by have := (hr k e.symm).1; omega)).trans h
theorem below_fromA {B b : Nat} {w W W' : World} {row : Option Nat} (h : Below b w W) (hb : b ≤ B) (hbw : b ≤ W.heap.size) (hg : W.grownBy W' row) (hr : ∀ r, row = some r → B ≤ r ∧ ∃ o : Obj, W.heap[r]? = some o ∧ o.isCells = false) : Below b w W' :=
  h.grown hg hbw (fun k e => Nat.le_trans hb (hr k e).1)

theorem heap_alloc_lA {w : World} {k : Nat} {o o' : Obj} (h : w.heap[k]? = some o) : (w.alloc o').heap[k]? = some o := (Below.heap_alloc w o' k (Array.getElem?_eq_some_iff.1 h).1).trans h
theorem heap_alloc_atA {w : World} {k : Nat} {o : Obj} (h : w.heap.size = k) : (w.alloc o).heap[k]? = some o := by subst h; exact heap_alloc_new w o
def noneIs {l : List Pr} (a : ByteArray) (pre : List (ComI l)) : Prop := ∀ z ∈ pre, z.1 ≠ a
def oneIs {l : List Pr} (a : ByteArray) (pre : List (ComI l)) : Prop := ∃ z ∈ pre, z.1 = a
def isRet (c : Code) : Prop := c = .ret

set_option maxRecDepth 100000 in
set_option maxHeartbeats 2000000 in
theorem isAnc_in {w₀ : World} {B bm bc : Nat} {l : List Pr} {vs : List Value} {rA : ByteArray → Option Addr} {rC : ByteArray → Nat} (bt : Nat) (R : RepoW w₀ B bm bc l vs rA rC) (F : Fence) (hd : F.depth = none) (h0 : F.fn 78) (h1 : F.fn 116) (h2 : F.fn 144) (hf : F.fn 145) (hro : F.round = none) (n : Nat) (hn : 3 ≤ n) (a b : ByteArray) (hb : b.size ≤ maxLen) (w : World) (hbel : Below w₀.heap.size w₀ w) :
    CallsIn F n Tryz.prog 78 #[.agg #[.map (some bt), .map (some bm), .map (some bc)], .string a, .string b] w fun e w' => e = .returned (.bool (ancB l a b)) ∧ Below w.heap.size w w' := by
  have h1n : 1 ≤ n := by omega
  have hdd : ∀ k : Nat, (F.depth.isSome = true → 1 ≤ k) := fun k h => by rw [hd] at h; cases h
  have XR := heap_alloc_new w (.cells #[.map (some bt), .map (some bm), .map (some bc)] 68)
  have x0 := cell_of_row _ _ 0 _ _ _ XR
  have x1 := cell_of_row _ _ 1 _ _ _ XR
  have x2 := cell_of_row _ _ 2 _ _ _ XR
  refine callsIn_of_wp_marks Tryz.func78 rfl h0 ?_ hro
  simp only [Tryz.ntmps78, List.size_toArray, List.length_cons, List.length_nil, Nat.reduceAdd, Nat.reduceSub, Array.replicate_succ, Array.replicate_zero, List.push_toArray, List.append_toArray, List.nil_append, List.cons_append]
  gi_wp2_with ((try refine ⟨hdd _, ?_⟩); gi_at_call 116; refine (behind_in F h1 hro (n - 1) bt bm bc b _).mono ?_; rintro e w' ⟨rfl, rfl⟩)
  obtain ⟨W0, hW0⟩ : ∃ W0, (((((w.alloc (.cells #[.map (some bt), .map (some bm), .map (some bc)] 68)).alloc (.cells #[.string a] 9)).alloc (.cells #[.bool false] 4)).alloc (.cells #[.map (some bt), .map (some bm), .map (some bc)] 68)).alloc (.cells #[.string b] 9)) = W0 := ⟨_, rfl⟩
  rw [hW0]
  have hB0 : Below w.heap.size w W0 := by rw [← hW0]; exact (((((Below.refl _ w).alloc (Nat.le_refl _) _).alloc (by simp) _).alloc (by simp; omega) _).alloc (by simp; omega) _).alloc (by simp; omega) _
  have hS0 : Hid (W0.heap.size = w.heap.size + 5) := hide (by rw [← hW0]; simp)
  have hs0 := hS0.out
  have hA : W0.heap[w.heap.size + 1]? = some (.cells #[.string a] 9 (0, 0)) := by rw [← hW0]; exact heap_alloc_lA (heap_alloc_lA (heap_alloc_lA (heap_alloc_atA (by simp))))
  have hR : W0.heap[w.heap.size + 1 + 1]? = some (.cells #[.bool false] 4 (0, 0)) := by rw [← hW0]; exact heap_alloc_lA (heap_alloc_lA (heap_alloc_atA (by simp)))
  have hX : W0.heap[w.heap.size + 1 + 1 + 1]? = some (.cells #[.map (some bt), .map (some bm), .map (some bc)] 68 (0, 0)) := by rw [← hW0]; exact heap_alloc_lA (heap_alloc_atA (by simp))
  have hI : W0.heap[w.heap.size + 1 + 1 + 1 + 1]? = some (.cells #[.string b] 9 (0, 0)) := by rw [← hW0]; exact heap_alloc_atA (by simp)
  clear hW0 XR x0 x1 x2
  obtain ⟨g1, e1⟩ : ∃ g, w.heap.size + 1 = g := ⟨_, rfl⟩
  rw [e1] at hA hR hX hI ⊢
  obtain ⟨g2, e2⟩ : ∃ g, g1 + 1 = g := ⟨_, rfl⟩
  rw [e2] at hR hX hI ⊢
  obtain ⟨g3, e3⟩ : ∃ g, g2 + 1 = g := ⟨_, rfl⟩
  rw [e3] at hX hI ⊢
  obtain ⟨g4, e4⟩ : ∃ g, g3 + 1 = g := ⟨_, rfl⟩
  rw [e4] at hI ⊢
  have hw0 : w₀.heap.size ≤ w.heap.size := hbel.size
  have hr1 : g1 < W0.heap.size := by omega
  have hr2 : g2 < W0.heap.size := by omega
  have hr3 : w.heap.size ≤ g2 := by omega
  have hr4 : w.heap.size ≤ W0.heap.size := by omega
  have hr5 : w₀.heap.size ≤ W0.heap.size := by omega
  clear hs0
  refine wpIn_rangeFunc_ownF hro h1n (gf := 144) (lb := #[.pointer (some ⟨g3, 0, none⟩), .pointer (some ⟨g4, 0, none⟩)]) rfl h2 (enters_of Tryz.func144 (by kernel_rfl) rfl)
    (behind_stops bt R F hd h2 hf hro (n - 1) W0.heap.size g3 g4 b hb W0 hr5 (Nat.le_refl _) (hbel.trans (hB0.mono hw0)) hX hI) (fun h k => Keep.trans h k) (fun W l o o' h1 h2 h3 h4 => Keep.putObj W l o o' (Nat.le_trans hr5 h1) h2 h3 h4) (Below.refl _ _) (fun _ => rfl)
    (fun pre W => noneIs a pre ∧ W.heap[g1]? = some (.cells #[.string a] 9 (0, 0)) ∧ W.heap[g2]? = some (.cells #[.bool false] 4 (0, 0)) ∧ Below w.heap.size w W)
    (fun c pre W => isRet c ∧ oneIs a pre ∧ W.heap[g2]? = some (.cells #[.bool true] 4 (0, 0)) ∧ Below w.heap.size w W)
    (fun s A B row hs hg hr => ⟨hs.1, row_fromA hs.2.1 hr1 hg hr, row_fromA hs.2.2.1 hr2 hg hr, below_fromA hs.2.2.2 hr4 hs.2.2.2.size hg hr⟩)
    (fun c s A B row hs hg hr => ⟨hs.1, hs.2.1, row_fromA hs.2.2.1 hr2 hg hr, below_fromA hs.2.2.2 hr4 hs.2.2.2.size hg hr⟩)
    ⟨(fun z hz => by cases hz), hA, hR, hB0⟩
    (fun x => { tmps := #[.agg #[.map (some bt), .map (some bm), .map (some bc)], .string a, .string b, .pointer (some ⟨w.heap.size, 0, none⟩), .pointer (some ⟨g1, 0, none⟩), undef, .pointer (some ⟨g2, 0, none⟩), .string x.1, .agg #[.map (some bt), .map (some bm), .map (some bc)], .string b, .func (.func 144) #[] #[.pointer (some ⟨g3, 0, none⟩), .pointer (some ⟨g4, 0, none⟩)], .string x.1, .agg #[.string (treK l x.1), .slice (rA x.1) (lenK l x.1) (rC x.1), .string (notK l x.1)], undef, undef, undef], defers := [] }) ?assign ?body ?done ?stop
  case assign =>
    intro lr x W K hK
    simp only [encC]
    gi_wp2
    exact hK
  case body =>
    rintro lr pre x W ⟨hp, hA, hR, hB⟩ _
    have c1 := cell_of_row _ _ 0 _ _ _ hA
    have c2 := cell_of_row _ _ 0 _ _ _ hR
    have f2 := frozen_of_row _ _ 0 _ _ hR
    by_cases hxa : x.1 = a
    · have d := eqS_yes hxa
      have IX : Hid (KeepsOthers W (W.setCell ⟨g2, 0, none⟩ (.bool true)) ∧ (isRet Code.ret ∧ oneIs a (pre ++ [x]) ∧ (W.setCell ⟨g2, 0, none⟩ (.bool true)).heap[g2]? = some (.cells #[.bool true] 4 (0, 0)) ∧ Below w.heap.size w (W.setCell ⟨g2, 0, none⟩ (.bool true)))) := hide
        ⟨KeepsOthers.setCell _ _ _, rfl, ⟨x, by simp, hxa⟩, heap_setCell_same W g2 0 _ _ (.bool true) hR, hB.setCell (p := ⟨g2, 0, none⟩) hr3 _⟩
      clear hxa hp hA hR hB
      gi_wp2
      exact IX.out
    · have d := eqS_no hxa
      have IX : Hid (KeepsOthers W W ∧ Keep w₀.heap.size W0.heap.size W W ∧ (noneIs a (pre ++ [x]) ∧ W.heap[g1]? = some (.cells #[.string a] 9 (0, 0)) ∧ W.heap[g2]? = some (.cells #[.bool false] 4 (0, 0)) ∧ Below w.heap.size w W)) := hide
        ⟨KeepsOthers.refl _, Keep.refl _ _ _, fun z hz => by
          rcases List.mem_append.1 hz with h | h
          · exact hp z h
          · rw [List.mem_singleton] at h; subst h; exact hxa, hA, hR, hB⟩
      clear hxa hp hA hR hB
      gi_wp2
      exact IX.out
  case done =>
    rintro D ys W hD ⟨_, hall⟩ ⟨hp, hA, hR, hB⟩ hK
    have c2 := cell_of_row _ _ 0 _ _ _ hR
    have f2 := frozen_of_row _ _ 0 _ _ hR
    have hK' := (KeepsOthers.setCell W ⟨g2, 0, none⟩ (.bool false)).same D _ hK rfl
    have Z : ancB l a b = false := ancB_no (fun h => by
      obtain ⟨z, hz1, hz2⟩ := List.mem_map.1 ((hall a).2 h)
      exact hp z hz1 hz2)
    have hR' := heap_setCell_same W g2 0 _ _ (.bool false) hR
    have hB' := hB.setCell (p := ⟨g2, 0, none⟩) hr3 (.bool false)
    gi_wp2
    refine ⟨by simp, .inl ⟨_, _, rfl, run_takeDeferred hK', ?_⟩⟩
    have hc5 := cell_kept (cell_of_row _ _ 0 _ _ _ hR') (grownBy_putObj' _ D (.deferred none)) (fun r e => by cases e; exact ⟨_, hK', rfl⟩)
    refine ⟨.bool false, ?_, by rw [Z], hB'.trans (belowK_b (w := w) (Nat.le_refl _) _ D _ _ (Nat.le_trans hr4 hD) hK' rfl rfl)⟩
    simp [results, Tryz.f78, go_sem, hc5]
  case stop =>
    rintro D c pre W hD hsp ⟨rfl, ⟨z, hz, hza⟩, hR, hB⟩ hK
    have Z : ancB l a b = true := ancB_iff.2 (by
      have h := hsp z hz
      rw [hza] at h
      have hc := z.2.1
      rw [hza] at hc
      exact ⟨reach_com h hc, h⟩)
    gi_wp2
    refine ⟨by simp, .inl ⟨_, _, rfl, run_takeDeferred hK, ?_⟩⟩
    have hc5 := cell_kept (cell_of_row _ _ 0 _ _ _ hR) (grownBy_putObj' _ D (.deferred none)) (fun r e => by cases e; exact ⟨_, hK, rfl⟩)
    refine ⟨.bool true, ?_, by rw [Z], hB.trans (belowK_b (w := w) (Nat.le_refl _) W D _ _ (Nat.le_trans hr4 hD) hK rfl rfl)⟩
    simp [results, Tryz.f78, go_sem, hc5]
end Go.Proofs.YtehblaigbcbleaaGreatDoor
/-
  What impl.IsAncestor answers.
-/
namespace Go.Proofs.YtehblaigbcbleaaGreatDoor
open Go.RowKit Go.Shelf Go.Maps

theorem isAnc_any {w₀ : World} {B bm bc : Nat} {l : List Pr} {vs : List Value} (bt : Nat) (hM : RepoM w₀ B bm bc 60 l vs) (hr : repoB l = true) (a b : ByteArray) (hb : b.size ≤ maxLen) (w : World) (hbel : Below w₀.heap.size w₀ w) :
    Calls Tryz.prog 78 #[.agg #[.map (some bt), .map (some bm), .map (some bc)], .string a, .string b] w fun e w' => e = .returned (.bool (ancB l a b)) ∧ Below w.heap.size w w' := by
  obtain ⟨rA, rC, R⟩ := hM.toW hr
  exact callsIn_wide.1 (isAnc_in bt R Fence.wide rfl trivial trivial trivial trivial rfl 3 (Nat.le_refl _) a b hb w hbel)
theorem isAncV_yes {l : List Pr} (hr : repoB l = true) (a b : ByteArray) : isAncV l a b = ancB l a b := by
  cases h : ancB l a b
  · refine memK_no fun hm => ?_
    rw [ancB_iff.2 (ancK_mem.1 hm).2] at h
    cases h
  · exact memK_iff.2 (ancK_mem.2 ⟨hr, ancB_iff.1 h⟩)
theorem isAncV_no {l : List Pr} (hr : repoB l = false) (a b : ByteArray) : isAncV l a b = false := memK_no fun hm => by
  rw [(ancK_mem.1 hm).1] at hr
  cases hr

set_option maxRecDepth 100000 in
set_option maxHeartbeats 1000000 in
theorem implIsAncestor_any (A : Option Addr) (l : List Pr) (cap : Nat) (x y : ByteArray) (a : Addr) (w : World) (hl : l.length ≤ maxLen) (hin : PIn w w.heap.size A l) (hy : y.size ≤ maxLen) (hT : Tabs w) (hE : ErrC w a) :
    Calls Tryz.prog 35 #[.slice A l.length cap, .string x, .string y] w fun e w' => e = .returned (.bool (isAncV l x y)) ∧ Below w.heap.size w w' := by
  have T := hide (repoOf_any A l cap a w hl hin hT hE)
  have NO := hide (fun h => isAncV_no (l := l) h x y)
  have YES := hide (fun h => isAncV_yes (l := l) h x y)
  clear hin hT hE hl
  generalize l.length = n at *
  go_enter Tryz.func35, Tryz.ntmps35
  go_wp2_with fail
  refine T.out.mono ?_
  rintro e w1 ⟨b1, ⟨hf, rfl⟩ | ⟨hf, bt, bm, bc, B, vs, rfl, _, _, _, _, _, _, rm⟩⟩
  · have Z := hide (NO.out hf)
    have B1 := hide (b1.alloc b1.size (.cells #[.map none, .map none, .map none] 68))
    clear b1 hf T NO YES
    go_wp2_with fail
    go_ret
    exact ⟨ret_bool Z.out.symm, B1.out⟩
  · have Z := hide (YES.out hf)
    have b2 := (Below.refl w1.heap.size w1).alloc (Nat.le_refl _) (.cells #[.map (some bt), .map (some bm), .map (some bc)] 68)
    have B2 := hide (b1.trans (b2.mono b1.size))
    have XR := hide (heap_alloc_new w1 (.cells #[.map (some bt), .map (some bm), .map (some bc)] 68))
    have IA := hide (isAnc_any bt rm hf x y hy _ b2)
    have x0 := cell_of_row _ _ 0 _ _ _ XR.out
    have x1 := cell_of_row _ _ 1 _ _ _ XR.out
    have x2 := cell_of_row _ _ 2 _ _ _ XR.out
    clear b1 b2 hf T NO YES rm
    go_wp2_with fail
    refine IA.out.mono ?_
    rintro e w3 ⟨rfl, b3⟩
    have B3 := hide (B2.out.trans (b3.mono B2.out.size))
    clear b3 IA x0 x1 x2 XR
    generalize ancB l x y = v at *
    go_wp2_with fail
    go_ret
    exact ⟨ret_bool Z.out.symm, B3.out⟩
end Go.Proofs.YtehblaigbcbleaaGreatDoor
/-
  What the laws on what is behind commits want: mathematics.
-/
namespace Go.Proofs.YtehblaigbcbleaaGreatDoor
open Go.RowKit

theorem bestK_swap (l : List Pr) (a b : ByteArray) : bestK l b a = bestK l a b := by
  have hs : ∀ z, z ∈ bothK l b a ↔ z ∈ bothK l a b := fun z => by rw [bothK_mem, bothK_mem]; exact And.comm
  refine RisK.ext (bestK_ris l b a) (bestK_ris l a b) fun z => ?_
  rw [bestK_mem, bestK_mem, hs]
  constructor
  · rintro ⟨h1, h2⟩
    exact ⟨h1, fun y hy => h2 y ((hs y).2 hy)⟩
  · rintro ⟨h1, h2⟩
    exact ⟨h1, fun y hy => h2 y ((hs y).1 hy)⟩
theorem best_both {l : List Pr} {a b z : ByteArray} (h : z ∈ bestK l a b) : z ∈ bothK l a b := (bestK_mem.1 h).1
theorem best_in {l : List Pr} {a b z : ByteArray} (h : z ∈ bestK l a b) : z ∈ ancK l a ∧ z ∈ ancK l b := bothK_mem.1 (best_both h)
/-- what is behind another one of both isn't one of the best -/
theorem best_alone {l : List Pr} {a b x y : ByteArray} (hx : x ∈ bestK l a b) (hy : y ∈ bothK l a b) (h : x ∈ ancK l y) : y = x := by
  unfold bestK at hx
  rw [List.mem_filter, topK_iff] at hx
  obtain ⟨h1, h2, h3⟩ := ancK_mem.1 h
  rcases hx.2 y hy with e | e
  · exact e
  · rw [← ancK_yes h1 h2] at e; exact absurd h e
theorem best_under {l : List Pr} (hA : Acy l) {a b z : ByteArray} (hz : z ∈ bothK l a b) : ∃ y ∈ bestK l a b, z ∈ ancK l y := by
  obtain ⟨y, hy, hr, ht⟩ := hA.top (bothK l a b) hz
  have hl := bothK_repo hy
  refine ⟨y, bestK_mem.2 ⟨hy, fun u hu hp => ?_⟩, ancK_mem.2 ⟨hl, (bothK_ris l a b).2 y hy, hr⟩⟩
  have e := ht u hu (Reach.self.next hp)
  exact parK_own hl hp e.symm
theorem anc_sub {l : List Pr} {x id : ByteArray} (hx : x ∈ ancK l id) : ∀ z ∈ ancK l x, z ∈ ancK l id := fun z hz => by
  obtain ⟨h1, h2, h3⟩ := ancK_mem.1 hx
  obtain ⟨_, _, h4⟩ := ancK_mem.1 hz
  exact ancK_mem.2 ⟨h1, h2, h3.trans h4⟩
theorem anc_self {l : List Pr} {x id : ByteArray} (hx : x ∈ ancK l id) : x ∈ ancK l x := by
  obtain ⟨h1, h2, h3⟩ := ancK_mem.1 hx
  exact ancK_mem.2 ⟨h1, h3.com h1 h2, .self⟩
theorem base_self {l : List Pr} (hA : Acy l) {x id : ByteArray} (hx : x ∈ ancK l id) : bestK l x id = [x] := by
  refine RisK.ext (bestK_ris l x id) (List.pairwise_singleton ..) fun z => ?_
  rw [List.mem_singleton]
  have hxx := anc_self hx
  have hxb : x ∈ bothK l x id := bothK_mem.2 ⟨hxx, hx⟩
  constructor
  · intro hz
    exact (best_alone hz hxb (best_in hz).1).symm
  · rintro rfl
    refine bestK_mem.2 ⟨hxb, fun y hy hp => ?_⟩
    obtain ⟨h1, h2, h3⟩ := ancK_mem.1 (bothK_mem.1 hy).1
    have e := hA.anti h3 (Reach.self.next hp)
    exact parK_own h1 hp e
theorem anc_two {l : List Pr} (hA : Acy l) {a b : ByteArray} (h1 : a ∈ ancK l b) (h2 : b ∈ ancK l a) : a = b :=
  hA.anti (ancK_mem.1 h2).2.2 (ancK_mem.1 h1).2.2
/-- what is behind one: its parents, too; and all but itself are parents of one -/
theorem anc_par {l : List Pr} {id k q : ByteArray} (h : k ∈ ancK l id) (hq : q ∈ parK l k) : q ∈ ancK l id := by
  obtain ⟨h1, h2, h3⟩ := ancK_mem.1 h
  exact ancK_mem.2 ⟨h1, h2, h3.next hq⟩
theorem anc_of {l : List Pr} {id z : ByteArray} (h : z ∈ ancK l id) (hn : z ≠ id) : ∃ k ∈ ancK l id, z ∈ parK l k := by
  obtain ⟨h1, h2, h3⟩ := ancK_mem.1 h
  cases h3 with
  | self => exact absurd rfl hn
  | next hx hp => exact ⟨_, ancK_mem.2 ⟨h1, h2, hx⟩, hp⟩
theorem anc_rd {l : List Pr} {id z : ByteArray} (h : z ∈ ancK l id) : rdOk (valOf l z) = true := (ancK_ris l id).2 z h
theorem key_max {l : List Pr} (ho : objsB l = true) {k : ByteArray} (h : rdOk (valOf l k) = true) : k.size ≤ maxLen := by
  rw [← valOf_id ho (has_rd h)]
  exact idL_max _
/-- behind one of these? -/
noncomputable def anyK (l : List Pr) (S : List ByteArray) (z : ByteArray) : Bool := S.any (fun y => isAncV l z y)
theorem anyK_next {l : List Pr} {S : List ByteArray} {z y : ByteArray} : anyK l (S ++ [y]) z = (anyK l S z || isAncV l z y) := by unfold anyK; simp
theorem anyK_nil (l : List Pr) (z : ByteArray) : anyK l [] z = false := rfl
theorem anyK_best {l : List Pr} (hA : Acy l) {a b z : ByteArray} (h1 : z ∈ ancK l a) (h2 : z ∈ ancK l b) : anyK l (bestK l a b) z = true := by
  obtain ⟨y, hy, hz⟩ := best_under hA (bothK_mem.2 ⟨h1, h2⟩)
  exact List.any_eq_true.2 ⟨y, hy, memK_iff.2 hz⟩
theorem best_apart {l : List Pr} {a b x y : ByteArray} (hx : x ∈ bestK l a b) (hy : y ∈ bestK l a b) (hne : y ≠ x) : isAncV l x y = false := by
  cases e : isAncV l x y
  · rfl
  · exact absurd (best_alone hx (best_both hy) (memK_iff.1 e)) hne
end Go.Proofs.YtehblaigbcbleaaGreatDoor
