/-
  Texts that this proof leans on, joined: JF.
-/
import Derived.Test.YtjbbdggckagphaaGreatDoorJO
import Derived.Test.YtjbbdggckagphaaGreatDoorPMath
import Derived.Test.YtjbbdggckagphaaGreatDoorPCell
import Derived.WalkKit
import Derived.Deep.QuietTactic
import Derived.OwnWalk
import Derived.Below
import Derived.Test.YtjbbdggckagphaaGreatDoorChecked
import Derived.Maps.AppendAt
import Derived.Deep.RegionLaw
import Derived.Deep.Slices
import Derived.RegionTactic
import Derived.Deep.DeepMust
import Derived.BigQuiet
import Derived.IntWalk
import Derived.Deep.RegionHeld3
import Derived.ProofKit
import Derived.OpenShut
import Derived.Deep.SlicePairs
import Derived.Test.YtjbbdggckagphaaGreatDoorJC
import Derived.Laws.IdiomStrings
import Derived.Test.YtjbbdggckagphaaGreatDoorPQuiet
import Derived.Lib.Bytealg
import Derived.Deep.LoopGhost
import Derived.Test.YtjbbdggckagphaaGreatDoorJW
/-
  Words for memory: worlds that part by draws alone; a slice that reads as a list of pairs; rows of pairs of the call's own.
-/
namespace Go.Proofs.YtjbbdggckagphaaGreatDoor.R
open Go.RowKit

/-- the slice at A is a row of the call's own, from block B on, and holds the pairs l -/
def Own (w : World) (B : Nat) (A : Option Addr) (cap : Nat) (l : List Pr) : Prop := lens l ∧ w.ownsRow B 66 2 (.slice A l.length cap) l.length (pcells l)
theorem Own.nil (w : World) (B : Nat) : Own w B none 0 [] := ⟨lens_nil, World.ownsRow_nil _ _ _ _⟩
theorem Own.form {w : World} {B : Nat} {A : Option Addr} {cap : Nat} {l : List Pr} (h : Own w B A cap l) : (A = none ∧ cap = 0 ∧ l = []) ∨ ∃ g, A = some ⟨g, 0, none⟩ ∧ B ≤ g ∧ g < w.heap.size := by
  rcases h.2.2 with ⟨e, e'⟩ | ⟨g, c, cur, e, hb, hg, _⟩
  · injection e with e1 e2 e3
    exact .inl ⟨e1, e3, List.eq_nil_of_length_eq_zero e2⟩
  · injection e with e1 e2 e3
    exact .inr ⟨g, e1, hb, (Array.getElem?_eq_some_iff.1 hg).1⟩
theorem Own.pin {w : World} {B : Nat} {A : Option Addr} {cap : Nat} {l : List Pr} (h : Own w B A cap l) : PIn w w.heap.size A l := by
  refine ⟨h.1, fun hp => ?_⟩
  rcases h.form with ⟨_, _, rfl⟩ | ⟨g, rfl, _, hg⟩
  · simp at hp
  · refine ⟨g, 0, rfl, hg, fun i hi => ?_⟩
    obtain ⟨a, b⟩ := pcells_get l i hi
    have h1 := h.2.cellAt (i * 2) (by omega)
    have h2 := h.2.cellAt (i * 2 + 1) (by omega)
    rw [Nat.zero_add]
    exact ⟨h1.trans a, h2.trans b⟩
theorem Own.below {w w' : World} {B : Nat} {A : Option Addr} {cap : Nat} {l : List Pr} (h : Own w B A cap l) (hb : Below w.heap.size w w') : Own w' B A cap l := by
  refine ⟨h.1, h.2.kept (Below.toGrown hb none) ?_⟩
  cases hv : (Value.slice A l.length cap).ownBlock <;> simp
theorem Own.more {w : World} {B B' : Nat} {A : Option Addr} {cap : Nat} {l : List Pr} (h : Own w B A cap l) (hB : B' ≤ B) : Own w B' A cap l := by
  refine ⟨h.1, h.2.1, ?_⟩
  rcases h.2.2 with e | ⟨g, c, cur, e, hb, r⟩
  · exact .inl e
  · exact .inr ⟨g, c, cur, e, Nat.le_trans hB hb, r⟩
end Go.Proofs.YtjbbdggckagphaaGreatDoor.R
/-
  append, make and cuts over slices of pairs, in the words of PMem: what is appended to a row of the call's own is a row of the call's own.
-/
namespace Go.Proofs.YtjbbdggckagphaaGreatDoor.R
open Go.RowKit

theorem infoP : (Tryz.prog.info? 66).map (fun i => (i.zero, i.size, i.bytes)) = some (some (.agg #[.string ByteArray.empty, .string ByteArray.empty]), 2, 32) := by kernel_rfl

theorem Own.grownBelow {w w' : World} {B : Nat} {A : Option Addr} {cap : Nat} {l : List Pr} (h : Own w B A cap l) (hg : w.grownBy w' (Value.slice A l.length cap).ownBlock) (hB : B ≤ w.heap.size) : Below B w w' :=
  (Below.refl B w).grown hg hB (fun k hk => (h.2.lt k hk).1)

section
variable (t ty : TypeId) (ht : Tryz.prog.underlying t = some (.slice 66))
include ht
set_option maxRecDepth 100000 in
theorem run_app {w : World} {B B' : Nat} {A A' : Option Addr} {cap c : Nat} {l l' : List Pr} (hown : Own w B A cap l) (hin : PIn w B' A' l') (hB : B ≤ w.heap.size) (hb : l.length + l'.length ≤ 3000000) :
    ∃ A2 cap2 w', (Builtin.append_ #[t, t] ty #[.slice A l.length cap, .slice A' l'.length c]).run Tryz.prog w = .ok (.slice A2 (l ++ l').length cap2) w' ∧ Own w' B A2 cap2 (l ++ l') ∧ w.grownBy w' (rowOf A) ∧ (rowOf A2 = rowOf A ∨ rowOf A2 = some w.heap.size) := by
  obtain ⟨i, hi, hz0, hz1, hz2⟩ := info_parts infoP
  have hlen : (l ++ l').length = l.length + l'.length := List.length_append
  cases A' with
  | none =>
    have h0 : l' = [] := by
      rcases Nat.eq_zero_or_pos l'.length with e | e
      · exact List.eq_nil_of_length_eq_zero e
      · obtain ⟨_, _, x, _⟩ := hin.2 e
        cases x
    subst h0
    refine ⟨A, cap, w, ?_, by simpa using hown, World.grownBy.refl _ _, .inl rfl⟩
    rcases hown.2.2 with ⟨e, e'⟩ | ⟨g, cap', cur, e, _, _, hnc, _⟩
    · injection e with e1 e2 e3
      subst e1 e3
      simp [Builtin.append_, run_underlying ht, sizeOf, typeInfo, hi, Builtin.lenOf, Builtin.firstCells, e2]
    · injection e with e1 e2 e3
      subst e1 e3
      simp [Builtin.append_, run_underlying ht, sizeOf, typeInfo, hi, Builtin.lenOf, Builtin.firstCells, hnc, storeCells]
  | some a =>
    have hcells : ∀ j u, (pcells l')[j]? = some u → w.cell? (a.add j) = some u := by
      intro j u hu
      have hj : j < l'.length * 2 := by
        rw [← pcells_length]
        exact (List.getElem?_eq_some_iff.1 hu).1
      obtain ⟨b, off, e, _, hc⟩ := hin.2 (by omega)
      injection e with e
      subst e
      rw [add_pl]
      obtain ⟨p1, p2⟩ := pcells_get l' (j / 2) (by omega)
      obtain ⟨c1, c2⟩ := hc (j / 2) (by omega)
      rcases Nat.mod_two_eq_zero_or_one j with h | h
      · have hj2 : j / 2 * 2 = j := by omega
        rw [hj2] at p1 c1
        rw [p1] at hu
        rw [c1, hu]
      · have hj2 : j / 2 * 2 + 1 = j := by omega
        rw [hj2] at p2
        rw [show off + j / 2 * 2 + 1 = off + j by omega] at c2
        rw [p2] at hu
        rw [c2, hu]
    obtain ⟨v', w', hrun, h2, h3, _, h5⟩ := run_append_own_at (P := Tryz.prog) w B t ty 66 i _ 2 32 ht hi hz0 hz1 hz2 rfl (by omega) (.slice A l.length cap) l.length (pcells l) hown.2 a l'.length c (pcells l') (pcells_length l') hcells (pcells_one l')
      (by simp only [maxLen]; omega) (by omega) hB
    have hv : ∃ A2 cap2, v' = .slice A2 (l.length + l'.length) cap2 := by
      rcases h2.2 with ⟨e, e'⟩ | ⟨g, cap', cur, e, _⟩
      · exact ⟨none, 0, by rw [e, e']⟩
      · exact ⟨_, _, e⟩
    obtain ⟨A2, cap2, rfl⟩ := hv
    refine ⟨A2, cap2, w', by rw [hlen]; exact hrun, ⟨lens_append hown.1 hin.1, ?_⟩, by rw [← rowOf_own A l.length cap]; exact h3, ?_⟩
    · rw [hlen, pcells_append]
      exact h2
    · rw [rowOf_own, rowOf_own] at h5
      exact h5

theorem wp_app {w : World} {o : Oper} {a : Act} {K : Act → World → Prop} {Q : Exit → Act → World → Prop} (s x : Operand)
    (ho : o.op = .call { callee := .builtin .append, args := #[s, x], argTypes := #[t, t] })
    {B B' : Nat} {A A' : Option Addr} {cap c n m : Nat} {l l' : List Pr} (hs : a.eval s = .slice A n cap) (hx : a.eval x = .slice A' m c) (hn : n = l.length) (hm : m = l'.length)
    (hown : Own w B A cap l) (hin : PIn w B' A' l') (hB : B ≤ w.heap.size) (hb : l.length + l'.length ≤ 3000000)
    (h : ∀ A2 cap2 w', Own w' B A2 cap2 (l ++ l') → w.grownBy w' (rowOf A) → (rowOf A2 = rowOf A ∨ rowOf A2 = some w.heap.size) → K (a.put o.dst (.slice A2 (l ++ l').length cap2)) w') : o.wp Tryz.prog a w K Q := by
  subst hn hm
  obtain ⟨A2, cap2, w', hrun, h2, h3, h4⟩ := run_app t o.type ht (c := c) hown hin hB hb
  unfold Oper.wp execOp
  simp only [ho, resolve, invoke, builtin, Sem.run_bind, Sem.run_pure, Result.andThen_ok, List.map_toArray, List.map_cons, List.map_nil, hs, hx, hrun]
  exact h A2 cap2 w' h2 h3 h4

theorem wpList_app {w : World} {ops : Array Oper} {rest : List Oper} {o : Oper} {a : Act} {Q : Exit → Act → World → Prop} (hgd : o.guard = none) (s x : Operand)
    (ho : o.op = .call { callee := .builtin .append, args := #[s, x], argTypes := #[t, t] })
    {B B' : Nat} {A A' : Option Addr} {cap c n m : Nat} {l l' : List Pr} (hs : a.eval s = .slice A n cap) (hx : a.eval x = .slice A' m c) (hn : n = l.length) (hm : m = l'.length)
    (hown : Own w B A cap l) (hin : PIn w B' A' l') (hB : B ≤ w.heap.size) (hb : l.length + l'.length ≤ 3000000)
    (h : ∀ A2 cap2 w', Own w' B A2 cap2 (l ++ l') → w.grownBy w' (rowOf A) → (rowOf A2 = rowOf A ∨ rowOf A2 = some w.heap.size) → wpList Tryz.prog ops Q rest (a.put o.dst (.slice A2 (l ++ l').length cap2)) w') : wpList Tryz.prog ops Q (o :: rest) a w :=
  wpList_plain hgd fun _ hK => wp_app t ht s x ho hs hx hn hm hown hin hB hb fun A2 cap2 w' h2 h3 h4 => hK _ _ (h A2 cap2 w' h2 h3 h4)

theorem step_app {w : World} {ops : Array Oper} {o : Oper} {a : Act} {K : Act → World → Prop} {Q : Exit → Act → World → Prop} {E : Prop} (hgd : o.guard = none) (s x : Operand)
    (ho : o.op = .call { callee := .builtin .append, args := #[s, x], argTypes := #[t, t] })
    {B B' : Nat} {A A' : Option Addr} {cap c n m : Nat} {l l' : List Pr} (hs : a.eval s = .slice A n cap) (hx : a.eval x = .slice A' m c) (hn : n = l.length) (hm : m = l'.length)
    (hown : Own w B A cap l) (hin : PIn w B' A' l') (hB : B ≤ w.heap.size) (hb : l.length + l'.length ≤ 3000000)
    (h : ∀ A2 cap2 w', Own w' B A2 cap2 (l ++ l') → w.grownBy w' (rowOf A) → (rowOf A2 = rowOf A ∨ rowOf A2 = some w.heap.size) → K (a.put o.dst (.slice A2 (l ++ l').length cap2)) w') :
    if Region.wanted o (yielded ops a.tmps) = true then Oper.wp Tryz.prog o a w K Q else E := by
  have hw : Region.wanted o (yielded ops a.tmps) = true := by simp [Region.wanted, hgd]
  rw [if_pos hw]
  exact wp_app t ht s x ho hs hx hn hm hown hin hB hb h

theorem run_cut_h (A : Option Addr) (n cap k : Nat) (hk : k ≤ cap) (w : World) : (Instr.slice t (.slice A n cap) none (some (.int .i64 (k : Int))) none).run Tryz.prog w = .ok (.slice (cutA A cap 0) k cap) w := by
  have hs : ((sizeOf 66).run Tryz.prog w) = .ok 2 w := by kernel_rfl
  have he : Tryz.prog.elem t = 66 := by simp [Program.elem, ht]
  rw [run_slice_h (P := Tryz.prog) (t := t) (a := A) (len := n) (cap := cap) (w := w) (by rw [he]; exact ht) .i64 k (by omega) (by omega), he, hs]
  simp [Result.andThen, sliced, cutA]
theorem run_cut_l (A : Option Addr) (n cap k : Nat) (hk : k ≤ n) (w : World) : (Instr.slice t (.slice A n cap) (some (.int .i64 (k : Int))) none none).run Tryz.prog w = .ok (.slice (cutA A cap k) (n - k) (cap - k)) w := by
  have hs : ((sizeOf 66).run Tryz.prog w) = .ok 2 w := by kernel_rfl
  have he : Tryz.prog.elem t = 66 := by simp [Program.elem, ht]
  rw [run_slice_l (P := Tryz.prog) (t := t) (a := A) (len := n) (cap := cap) (w := w) (by rw [he]; exact ht) .i64 k (by omega) (by omega), he, hs]
  simp [Result.andThen, sliced, cutA]
end
end Go.Proofs.YtjbbdggckagphaaGreatDoor.R
/-
  Rows of pairs of the call's own, in words: what comes back, what is made, what lies apart.
-/
namespace Go.Proofs.YtjbbdggckagphaaGreatDoor.R
open Go.RowKit

/-- a row of the call's own comes back -/
def RetOwn (B : Nat) (l : List Pr) (w : World) (e : Ending) (w' : World) : Prop := ∃ A cap, l.length ≤ cap ∧ e = .returned (.slice A l.length cap) ∧ Own w' B A cap l ∧ Below B w w'
theorem Own.cap_le {w : World} {B : Nat} {A : Option Addr} {cap : Nat} {l : List Pr} (h : Own w B A cap l) : l.length ≤ cap := by
  rcases h.2.2 with ⟨e, e'⟩ | ⟨g, c, cur, e, _, _, hnc, _⟩
  · injection e with e1 e2 e3; omega
  · injection e with e1 e2 e3; omega
theorem Own.made {w : World} {B n cap : Nat} (h : w.ownsRow B 66 2 (.slice (some ⟨n, 0, none⟩) 0 cap) 0 []) : Own w B (some ⟨n, 0, none⟩) cap [] := ⟨lens_nil, h⟩
theorem Own.alloc {w : World} {B : Nat} {A : Option Addr} {cap : Nat} {l : List Pr} (h : Own w B A cap l) (o : Obj) : Own (w.alloc o) B A cap l := h.below ((Below.refl _ _).alloc (Nat.le_refl _) o)
theorem Own.built (w : World) (B : Nat) (hB : B ≤ w.heap.size) : Own (w.alloc (.cells #[] 66)) B (some ⟨w.heap.size, 0, none⟩) 0 [] :=
  ⟨lens_nil, World.ownsRow_made w #[] 0 hB (by simp [maxLen]) rfl⟩

theorem Own.drew {w : World} {B : Nat} {A : Option Addr} {cap : Nat} {l : List Pr} (h : Own w B A cap l) : Own w.drew B A cap l := h
/-- a list of pairs of the call's own, and whether there is one -/
def RetOwnB (B : Nat) (l : List Pr) (b : Bool) (w : World) (e : Ending) (w' : World) : Prop := ∃ A cap, l.length ≤ cap ∧ e = .returned (.tuple #[.slice A l.length cap, .bool b]) ∧ Own w' B A cap l ∧ Below B w w'
theorem retOwnB_no {B : Nat} {l : List Pr} {b : Bool} {w w' : World} (hl : l = []) (hb : b = false) (h : Below B w w') : RetOwnB B l b w (.returned (.tuple #[.slice none 0 0, .bool false])) w' := by
  subst hl hb; exact ⟨none, 0, by simp, rfl, Own.nil _ _, h⟩
theorem Own.apart {w w' : World} {B : Nat} {A A' : Option Addr} {cap : Nat} {l : List Pr} (h : Own w B A cap l) (hg : w.grownBy w' (rowOf A')) (hne : ∀ g, rowOf A = some g → rowOf A' ≠ some g) : Own w' B A cap l := by
  refine ⟨h.1, h.2.kept hg ?_⟩
  rw [rowOf_own]
  cases e : rowOf A with
  | none => exact .inl rfl
  | some g => exact .inr (fun x => hne g e x.symm)
theorem Own.row {w : World} {B : Nat} {A : Option Addr} {cap : Nat} {l : List Pr} (h : Own w B A cap l) : ∀ g, rowOf A = some g → B ≤ g ∧ g < w.heap.size := by
  intro g hg
  exact h.2.lt g (by rw [rowOf_own]; exact hg)
/-- .. with an id -/
def RetOwnI (B : Nat) (l : List Pr) (s : ByteArray) (b : Bool) (w : World) (e : Ending) (w' : World) : Prop := ∃ A cap, l.length ≤ cap ∧ e = .returned (.tuple #[.slice A l.length cap, .string s, .bool b]) ∧ Own w' B A cap l ∧ Below B w w'
theorem retOwnI_no {B : Nat} {l : List Pr} {s : ByteArray} {b : Bool} {w w' : World} (hl : l = []) (hs : s = ByteArray.empty) (hb : b = false) (h : Below B w w') : RetOwnI B l s b w (.returned (.tuple #[.slice none 0 0, .string ByteArray.empty, .bool false])) w' := by
  subst hl hs hb; exact ⟨none, 0, by simp, rfl, Own.nil _ _, h⟩
end Go.Proofs.YtjbbdggckagphaaGreatDoor.R
/-
  What the laws' own helpers on pairs answer: szPair, szPairS, toPair, toPairS, eqPair, eqPairS.
-/
namespace Go.Proofs.YtjbbdggckagphaaGreatDoor.R
open Go.RowKit

set_option maxHeartbeats 1000000 in
theorem szPair_any (a b : ByteArray) (left : Int) (w : World) (ha : a.size ≤ maxLen) (hb : b.size ≤ maxLen) (h0 : 0 ≤ left) (h1 : left ≤ 1048576) :
    Calls Tryz.prog 40 #[.agg #[.string a, .string b], .int .i64 left] w (SzRet 0 left w) := by
  unfold maxLen at ha hb
  by_cases c1 : left - a.size < 0
  · go_enter Tryz.func40, Tryz.ntmps40
    go_wp2
    go_ret
    exact ⟨.inl rfl, (Below.refl _ _).alloc (Nat.le_refl _) _⟩
  · by_cases c2 : left - a.size - b.size < 0
    · go_enter Tryz.func40, Tryz.ntmps40
      go_wp2
      go_ret
      exact ⟨.inl rfl, (Below.refl _ _).alloc (Nat.le_refl _) _⟩
    · go_enter Tryz.func40, Tryz.ntmps40
      go_wp2
      go_ret
      exact ⟨.inr ⟨left - a.size - b.size, by omega, by omega, rfl⟩, (Below.refl _ _).alloc (Nat.le_refl _) _⟩

theorem toPair_any (a b : ByteArray) (w : World) :
    Calls Tryz.prog 42 #[.agg #[.string a, .string b]] w fun e w' => e = .returned (.agg #[.string a, .string b]) ∧ Below w.heap.size w w' := by
  go_enter Tryz.func42, Tryz.ntmps42
  go_wp2
  exact bodyPost_ret (v := .agg #[.string a, .string b]) (by simp [results, Tryz.results42, go_sem]) rfl ⟨rfl, (((Below.refl _ _).alloc (Nat.le_refl _) _).alloc (by simp) _).alloc (by simp; omega) _⟩

set_option maxHeartbeats 1000000 in
theorem eqPair_any (a b c d : ByteArray) (w : World) :
    Calls Tryz.prog 43 #[.agg #[.string a, .string b], .agg #[.string c, .string d]] w fun e w' => e = .returned (.bool (eqPr (a, b) (c, d))) ∧ (w.alloc (.cells #[.string a, .string b] 66)).alloc (.cells #[.string c, .string d] 66) = w' := by
  by_cases h1 : a = c
  · by_cases h2 : b = d
    · subst h1 h2
      go_enter Tryz.func43, Tryz.ntmps43
      go_wp2
      go_ret
      exact ⟨ret_bool (eqPr_yes rfl).symm, rfl⟩
    · subst h1
      have hb := eqS_no h2
      have Z := hide h2
      clear h2
      go_enter Tryz.func43, Tryz.ntmps43
      go_wp2
      go_ret
      exact ⟨ret_bool (eqPr_no (by simp [Z.out])).symm, rfl⟩
  · have hb := eqS_no h1
    have Z := hide h1
    clear h1
    go_enter Tryz.func43, Tryz.ntmps43
    go_wp2
    go_ret
    exact ⟨ret_bool (eqPr_no (by simp [Z.out])).symm, rfl⟩

set_option maxRecDepth 100000 in
set_option maxHeartbeats 1000000 in
theorem szPairS_any (A : Option Addr) (l : List Pr) (cap : Nat) (left : Int) (w : World) (hl : l.length ≤ maxLen) (hin : PIn w w.heap.size A l) (h0 : 0 ≤ left) (h1 : left ≤ 1048576) :
    Calls Tryz.prog 15 #[.slice A l.length cap, .int .i64 left] w (SzRet l.length left w) := by
  unfold maxLen at hl
  generalize hn : l.length = n at *
  have HN := hide hn
  clear hn
  by_cases c1 : left - n < 0
  · go_enter Tryz.func15, Tryz.ntmps15
    go_wp2
    go_ret
    exact ⟨.inl rfl, Below.refl _ _⟩
  · go_enter Tryz.func15, Tryz.ntmps15
    go_wp2
    go_loopw [1, 5] (fun r i wr => ∃ (k : Nat) (q : Int), k ≤ n ∧ i = .int .i64 k ∧ r = .int .i64 q ∧ 0 ≤ q ∧ q ≤ left - n ∧ Hid (Below w.heap.size w wr)) (fun _ i _ => n - (intOf i).toNat)
    case atStart => exact ⟨0, left - n, Nat.zero_le _, rfl, rfl, by omega, by omega, Below.refl _ w⟩
    case round =>
      obtain ⟨k, q, hk, rfl, rfl, hq0, hq1, Q⟩ := hrel
      by_cases hlt : k < n
      · have hin2 := hin.below Q.out
        obtain ⟨b, off, rfl, hbB, hc⟩ := hin2.2 (by rw [HN.out]; omega)
        have hkl : k < l.length := by rw [HN.out]; omega
        obtain ⟨c1, c2⟩ := hc k hkl
        obtain ⟨s1, s2⟩ := hin2.1 k hkl
        generalize (l[k]'hkl).1 = s at *
        generalize (l[k]'hkl).2 = v at *
        clear hin hin2 hc
        go_wp2_with fail
        refine (szPair_any s v q _ s1 s2 hq0 (by omega)).mono ?_
        rintro e w' ⟨hr, hb⟩
        rcases hr with rfl | ⟨r, hr0, hr1, rfl⟩
        · go_wp2
          go_ret
          exact ⟨.inl rfl, Q.out.trans (hb.mono Q.out.size)⟩
        · go_wp2
          go_roundw
          case rel => exact ⟨k + 1, r, by omega, by go_num, rfl, hr0, by omega, Q.out.trans (hb.mono Q.out.size)⟩
          case measure => simp [intOf]; omega
      · go_wp2
        go_ret
        exact ⟨.inr ⟨q, hq0, by omega, rfl⟩, Q.out⟩
end Go.Proofs.YtjbbdggckagphaaGreatDoor.R
/-
  What the laws' own helpers on lists of pairs answer: toPairS, eqPairS.
-/
namespace Go.Proofs.YtjbbdggckagphaaGreatDoor.R
open Go.RowKit

theorem infoPair : (Tryz.prog.info? 66).map (fun i => (i.zero, i.size, i.bytes)) = some (some (.agg #[.string ByteArray.empty, .string ByteArray.empty]), 2, 32) := by kernel_rfl

set_option maxRecDepth 100000 in
set_option maxHeartbeats 1000000 in
theorem toPairS_any (A : Option Addr) (l : List Pr) (cap : Nat) (w : World) (hl : l.length ≤ 1048576) (hin : PIn w w.heap.size A l) :
    Calls Tryz.prog 17 #[.slice A l.length cap] w fun e w' => e = .returned (.slice (some ⟨w.heap.size, 0, none⟩) l.length l.length) ∧ Own w' w.heap.size (some ⟨w.heap.size, 0, none⟩) l.length l ∧ Below w.heap.size w w' := by
  generalize hn : l.length = n at *
  have HN := hide hn
  clear hn
  obtain ⟨i0, hi, hz0, hz1, hz2⟩ := info_parts infoPair
  go_enter Tryz.func17, Tryz.ntmps17
  go_wp2_with (at_make; refine wpList_make_full _ rfl _ _ 25 rfl w.heap.size 66 i0 _ 2 Tryz.underlying25 hi hz0 hz1 _ _ _ _ n rfl rfl rfl rfl ?c1 ?c2 ?c3 ?_)
  case c1 => rw [hz2]; omega
  case c2 => unfold maxLen; omega
  case c3 => exact Nat.le_refl _
  intro w1 hown hg
  rw [made_pairs] at hown
  have Q1 := hide ((Below.refl w.heap.size w).grown hg (Nat.le_refl _) (by simp))
  have O1 := hide hown
  clear hown hg
  go_wp2
  go_loopw [4] (fun i wr => ∃ k : Nat, k ≤ n ∧ i = .int .i64 k ∧ Hid (wr.ownsRow w.heap.size 66 2 (.slice (some ⟨w.heap.size, 0, none⟩) n n) n (pcells (l.take k ++ List.replicate (n - k) emp))) ∧ Hid (Below w.heap.size w wr)) (fun i _ => n - (intOf i).toNat)
  case atStart => exact ⟨0, Nat.zero_le _, rfl, by simpa using O1, Q1⟩
  case round =>
    clear Q1 O1
    obtain ⟨k, hk, rfl, O, Q⟩ := hrel
    by_cases hlt : k < n
    · have hin2 := hin.below Q.out
      have hkl : k < l.length := by rw [HN.out]; omega
      obtain ⟨b, off, rfl, hbB, hc⟩ := hin2.2 (by omega)
      obtain ⟨c1, c2⟩ := hc k hkl
      have E := hide (set_step l n k hkl HN.out)
      generalize (l[k]'hkl).1 = s at *
      generalize (l[k]'hkl).2 = v at *
      clear hin hin2 hc
      go_wp2_with fail
      refine (toPair_any s v _).mono ?_
      rintro e w2 ⟨rfl, hb⟩
      have O2 := hide (O.out.kept (Below.toGrown hb none) (.inr (by simp [Value.ownBlock])))
      have B2 := hide (Q.out.trans (hb.mono Q.out.size))
      have r1 := O2.out.cellAt (k * 2) (by omega)
      have r2 := O2.out.cellAt (k * 2 + 1) (by omega)
      obtain ⟨x1, r1'⟩ : ∃ x, w2.cell? ⟨w.heap.size, k * 2, none⟩ = some x := by rw [r1]; exact ⟨_, List.getElem?_eq_getElem (by rw [pcells_length]; simp; omega)⟩
      obtain ⟨x2, r2'⟩ : ∃ x, w2.cell? ⟨w.heap.size, k * 2 + 1, none⟩ = some x := by rw [r2]; exact ⟨_, List.getElem?_eq_getElem (by rw [pcells_length]; simp; omega)⟩
      have f1 := O2.out.frozenAt (k * 2)
      have f2 := O2.out.frozenAt (k * 2 + 1)
      clear r1 r2 hb
      go_wp2
      go_roundw
      case rel =>
        have S1 := O2.out.stored (k * 2) (.string s)
        have S2 := S1.1.stored (k * 2 + 1) (.string v)
        rw [pcells_set, E.out] at S2
        exact ⟨k + 1, by omega, by go_num, S2.1, (B2.out.setCell (Nat.le_refl _) _).setCell (Nat.le_refl _) _⟩
      case measure => simp [intOf]; omega
    · obtain rfl : k = n := by omega
      have F : Hid (l.take k ++ List.replicate (k - k) emp = l) := hide (by rw [← HN.out]; simp)
      go_wp2
      go_ret
      refine ⟨rfl, ⟨hin.1, ?_⟩, Q.out⟩
      have O2 := O.out
      rw [F.out] at O2
      rw [HN.out]
      exact O2

set_option maxRecDepth 100000 in
set_option maxHeartbeats 1000000 in
theorem eqPairS_any (A A' : Option Addr) (l l' : List Pr) (cap cap' : Nat) (w : World) (hl : l.length ≤ maxLen) (hl' : l'.length ≤ maxLen) (hin : PIn w w.heap.size A l) (hin' : PIn w w.heap.size A' l') :
    Calls Tryz.prog 18 #[.slice A l.length cap, .slice A' l'.length cap'] w fun e w' => e = .returned (.bool (eqL l l')) ∧ Below w.heap.size w w' := by
  unfold maxLen at hl hl'
  by_cases he : l.length = l'.length
  · rw [← he]
    rw [← he] at hl'
    generalize hn : l.length = n at *
    have HN := hide hn
    have HN' := hide he
    clear hn he hl'
    go_enter Tryz.func18, Tryz.ntmps18
    go_wp2
    go_loopw [5] (fun i wr => ∃ k : Nat, k ≤ n ∧ i = .int .i64 k ∧ Hid (l.take k = l'.take k) ∧ Hid (Below w.heap.size w wr)) (fun i _ => n - (intOf i).toNat)
    case atStart => exact ⟨0, Nat.zero_le _, rfl, rfl, Below.refl _ w⟩
    case round =>
      obtain ⟨k, hk, rfl, H, Q⟩ := hrel
      by_cases hlt : k < n
      · have hin2 := hin.below Q.out
        have hin2' := hin'.below Q.out
        have hkl : k < l.length := by rw [HN.out]; omega
        have hkl' : k < l'.length := by rw [← HN'.out]; omega
        obtain ⟨b, off, rfl, hbB, hc⟩ := hin2.2 (by omega)
        obtain ⟨b', off', rfl, hbB', hc'⟩ := hin2'.2 (by omega)
        obtain ⟨c1, c2⟩ := hc k hkl
        obtain ⟨c3, c4⟩ := hc' k hkl'
        by_cases hp : l[k]'hkl = l'[k]'hkl'
        · have Z : Hid (l.take (k + 1) = l'.take (k + 1)) := hide (by rw [List.take_succ_eq_append_getElem hkl, List.take_succ_eq_append_getElem hkl', H.out, hp])
          have d : eqPr ((l[k]'hkl).1, (l[k]'hkl).2) ((l'[k]'hkl').1, (l'[k]'hkl').2) = true := eqPr_yes hp
          generalize (l[k]'hkl).1 = s at *
          generalize (l[k]'hkl).2 = v at *
          generalize (l'[k]'hkl').1 = s' at *
          generalize (l'[k]'hkl').2 = v' at *
          clear hin hin2 hc hin' hin2' hc' hp
          go_wp2
          go_region_held3 (fun w' => w'.cell? ⟨b, off + k * 2, none⟩ = some (.string s) ∧ w'.cell? ⟨b, off + k * 2 + 1, none⟩ = some (.string v) ∧ w'.cell? ⟨b', off' + k * 2, none⟩ = some (.string s') ∧ w'.cell? ⟨b', off' + k * 2 + 1, none⟩ = some (.string v')) (go_keep)
            (first | (go_at_call 43; refine (eqPair_any s v s' v' _).mono ?_; rintro e w' ⟨rfl, rfl⟩))
          all_goals
            clear d
            go_wp2
            go_roundw
            case rel => exact ⟨k + 1, by omega, by go_num, Z, Q.out.trans ((((Below.refl _ _).drew).alloc Q.out.size _).alloc (by have := Q.out.size; simp; omega) _)⟩
            case measure => simp [intOf]; omega
        · have Z : Hid (eqL l l' = false) := hide (eqL_no (by rintro rfl; exact hp rfl))
          have d : eqPr ((l[k]'hkl).1, (l[k]'hkl).2) ((l'[k]'hkl').1, (l'[k]'hkl').2) = false := eqPr_no hp
          generalize (l[k]'hkl).1 = s at *
          generalize (l[k]'hkl).2 = v at *
          generalize (l'[k]'hkl').1 = s' at *
          generalize (l'[k]'hkl').2 = v' at *
          clear hin hin2 hc hin' hin2' hc' hp
          go_wp2
          go_region_held3 (fun w' => w'.cell? ⟨b, off + k * 2, none⟩ = some (.string s) ∧ w'.cell? ⟨b, off + k * 2 + 1, none⟩ = some (.string v) ∧ w'.cell? ⟨b', off' + k * 2, none⟩ = some (.string s') ∧ w'.cell? ⟨b', off' + k * 2 + 1, none⟩ = some (.string v')) (go_keep)
            (first | (go_at_call 43; refine (eqPair_any s v s' v' _).mono ?_; rintro e w' ⟨rfl, rfl⟩))
          all_goals
            clear d
            go_wp2
            go_ret
            exact ⟨ret_bool Z.out.symm, Q.out.trans ((((Below.refl _ _).drew).alloc Q.out.size _).alloc (by have := Q.out.size; simp; omega) _)⟩
      · obtain rfl : k = n := by omega
        have Z : Hid (eqL l l' = true) := hide (eqL_yes (by
          have h := H.out
          rw [List.take_of_length_le (by rw [HN.out]; exact Nat.le_refl _), List.take_of_length_le (by rw [← HN'.out]; exact Nat.le_refl _)] at h
          exact h))
        go_wp2
        go_ret
        exact ⟨ret_bool Z.out.symm, Q.out⟩
  · have Z : Hid (eqL l l' = false) := hide (eqL_no (by rintro rfl; exact he rfl))
    have d : ((l.length : Int) != (l'.length : Int)) = true := by simp; omega
    clear he
    go_enter Tryz.func18, Tryz.ntmps18
    go_wp2
    go_ret
    exact ⟨ret_bool Z.out.symm, Below.refl _ _⟩
end Go.Proofs.YtjbbdggckagphaaGreatDoor.R
/-
  An argument that is a list of pairs, opened.
-/
namespace Go.Proofs.YtjbbdggckagphaaGreatDoor.R
open Go.ChangeShapes Go.WideShapes Go.ChangeAt Go.RowKit Go.Deep

section
variable {H : Type} {enc : TypeId × Value → H} {W : World}
/-- An argument of type []laws.Pair: the pairs that it holds. -/
theorem open_pairs {A : Option Addr} {n cap : Nat} {d : DataW H} {p : List MemPlace} (h : DataW.Trod enc Tryz.prog W 0 (fun _ => true) true 37 (.slice A n cap) d p) :
    ∃ l : List Pr, n = l.length ∧ l.length ≤ maxLen ∧ PIn W W.heap.size A l := by
  obtain ⟨fuel, hf⟩ := h
  rcases open_slice_pairs Tryz.underlying37 Tryz.underlying80 (by kernel_rfl) (by rfl) (by rfl) (by kernel_rfl) (by kernel_rfl) hf with ⟨hcs, _⟩ | ⟨a, len, c, m, k, V0, V1, D0, D1, P0, P1, hcs, _, hlc, hm, hmm, _, hc⟩
  · simp [Value.cells] at hcs
    obtain ⟨rfl, rfl, rfl⟩ := hcs
    exact ⟨[], rfl, by simp [maxLen], PIn.nil _ _ _⟩
  · simp [Value.cells] at hcs
    obtain ⟨rfl, rfl, rfl⟩ := hcs
    simp only [if_true] at hmm
    subst hmm
    have hs : ∀ i, i < n → ∃ q : Pr, W.cell? (a.add (i * 2)) = some (.string q.1) ∧ W.cell? (a.add (i * 2 + 1)) = some (.string q.2) ∧ q.1.size ≤ maxLen ∧ q.2.size ≤ maxLen := by
      intro i hi
      obtain ⟨c0, c1, t0, t1⟩ := hc i (by omega)
      obtain ⟨s0, e0, _, z0⟩ := DataW.trod_string Tryz.underlying9 t0
      obtain ⟨s1, e1, _, z1⟩ := DataW.trod_string Tryz.underlying9 t1
      simp at e0 e1
      rw [e0] at c0
      rw [e1] at c1
      exact ⟨(s0, s1), c0, c1, z0, z1⟩
    obtain ⟨q, hq⟩ := choose_lt hs
    refine ⟨(List.range n).map q, by simp, by simp; omega, fun i hi => ?_, fun hp => ?_⟩
    · have hi' : i < n := by simpa using hi
      simp only [List.getElem_map, List.getElem_range]
      exact ⟨(hq i hi').2.2.1, (hq i hi').2.2.2⟩
    · have hn : 0 < n := by simpa using hp
      obtain ⟨b, off, spot⟩ := a
      have hc0 := (hq 0 hn).1
      have hspot : spot = none := by simpa [Addr.add] using World.cell?_spot hc0
      subst hspot
      refine ⟨b, off, rfl, ?_, fun i hi => ?_⟩
      · have := World.block_lt_of_cell? W _ hc0
        simpa [Addr.add] using this
      · have hi' : i < n := by simpa using hi
        simp only [List.getElem_map, List.getElem_range]
        have h1 := (hq i hi').1
        have h2 := (hq i hi').2.1
        rw [add_plain] at h1 h2
        exact ⟨h1, h2⟩
end
end Go.Proofs.YtjbbdggckagphaaGreatDoor.R
/-
  The laws' marks: markText, markPairS, heldPairS.
-/
namespace Go.Proofs.YtjbbdggckagphaaGreatDoor.R
open Go.RowKit

/-- the pairs of a row of the call's own are marked; nothing else is turned -/
def MarkRet (k : Nat) (w : World) (B : Nat) (A : Option Addr) (cap n : Nat) (e : Ending) (w' : World) : Prop := e = .returned (.int .i64 (k + 2 * n : Nat)) ∧ Own w' B A cap (marks k n) ∧ w.grownBy w' (rowOf A)

set_option maxRecDepth 100000 in
set_option maxHeartbeats 1000000 in
theorem markPairS_any (A : Option Addr) (l : List Pr) (cap k : Nat) (w : World) (B : Nat) (hk : 1 ≤ k) (hl : k + 2 * l.length ≤ 10000000) (hown : Own w B A cap l) :
    Calls Tryz.prog 21 #[.slice A l.length cap, .int .i64 k] w (MarkRet k w B A cap l.length) := by
  rcases hown.form with ⟨rfl, rfl, rfl⟩ | ⟨g, rfl, hBg, hgw⟩
  · go_enter Tryz.func21, Tryz.ntmps21
    go_wp2
    refine wp_loop_rounds 1 ?_
    rw [rounds_succ]
    go_wp2
    go_ret
    exact ⟨rfl, ⟨marks_lens k 0 (by omega), by simpa [marks] using hown.2⟩, World.grownBy.refl _ _⟩
  · have O0 := hide hown.2
    clear hown
    generalize hn : l.length = n at *
    have HN := hide hn
    clear hn
    go_enter Tryz.func21, Tryz.ntmps21
    go_wp2
    go_loopw [1, 5] (fun q i wr => ∃ j : Nat, j ≤ n ∧ i = .int .i64 j ∧ q = .int .i64 (k + 2 * j : Nat) ∧ Hid (wr.ownsRow B 66 2 (.slice (some ⟨g, 0, none⟩) n cap) n (pcells (marks k j ++ l.drop j))) ∧ Hid (w.grownBy wr (some g))) (fun _ i _ => n - (intOf i).toNat)
    case atStart => exact ⟨0, Nat.zero_le _, rfl, rfl, by simpa [marks] using O0, World.grownBy.refl _ _⟩
    case round =>
      clear O0
      obtain ⟨j, hj, rfl, rfl, O, G⟩ := hrel
      by_cases hlt : j < n
      · have hjl : j < l.length := by rw [HN.out]; omega
        have E := hide (marks_step k l j hjl)
        have hz : g < wr.heap.size := by have := G.out.size; omega
        have LN : Hid ((pcells (marks k j ++ l.drop j)).length = n * 2) := hide (by rw [pcells_length, List.length_append, marks_len, List.length_drop, HN.out]; omega)
        have E2 := hide (pcells_set (marks k j ++ l.drop j) j (markS (k + 2 * j)) (markS (k + 2 * j + 1)))
        rw [E.out] at E2
        have KK : Hid (k + 2 * (j + 1) = k + 2 * j + 1 + 1) := hide (by omega)
        have hkj : k + 2 * j + 2 ≤ 10000000 := by omega
        have hq1 : 1 ≤ k + 2 * j := by omega
        generalize marks k j ++ l.drop j = xs at *
        generalize k + 2 * j = q at *
        clear E
        go_wp2_with fail
        refine (markText_int _ q _ rfl (by omega) (by omega)).mono ?_
        rintro e w2 ⟨rfl, b2⟩
        have O2 := hide (O.out.kept (Below.toGrown b2 none) (.inr (by simp [Value.ownBlock])))
        have G2 := hide (World.grownBy.trans G.out (Below.toGrown b2 (some g)))
        obtain ⟨x1, r1⟩ : ∃ x, w2.cell? ⟨g, j * 2, none⟩ = some x := by rw [O2.out.cellAt (j * 2) (by omega)]; exact ⟨_, List.getElem?_eq_getElem (by rw [LN.out]; omega)⟩
        have f1 := O2.out.frozenAt (j * 2)
        have S2 := hide (O2.out.stored (j * 2) (.string (markS q)))
        clear b2
        generalize markS q = m1 at *
        go_wp2_with fail
        refine (markText_int _ (q + 1) _ (by omega) (by omega) (by omega)).mono ?_
        rintro e w3 ⟨rfl, b3⟩
        have O3 := hide (S2.out.1.kept (Below.toGrown b3 none) (.inr (by simp [Value.ownBlock])))
        have G3 := hide (World.grownBy.trans (World.grownBy.trans G2.out S2.out.2) (Below.toGrown b3 (some g)))
        obtain ⟨x2, r2⟩ : ∃ x, w3.cell? ⟨g, j * 2 + 1, none⟩ = some x := by rw [O3.out.cellAt (j * 2 + 1) (by omega)]; exact ⟨_, List.getElem?_eq_getElem (by rw [List.length_set, LN.out]; omega)⟩
        have f2 := O3.out.frozenAt (j * 2 + 1)
        have S3 := hide (O3.out.stored (j * 2 + 1) (.string (markS (q + 1))))
        clear b3
        generalize markS (q + 1) = m2 at *
        go_wp2
        go_roundw
        case rel =>
          have S4 := S3.out.1
          rw [E2.out] at S4
          exact ⟨j + 1, by omega, by go_num, by rw [KK.out]; go_num, S4, World.grownBy.trans G3.out S3.out.2⟩
        case measure => simp [intOf]; omega
      · obtain rfl : j = n := by omega
        have F : Hid (marks k j ++ l.drop j = marks k j) := hide (by rw [List.drop_of_length_le (by rw [HN.out]; exact Nat.le_refl _), List.append_nil])
        go_wp2
        go_ret
        refine ⟨rfl, ⟨marks_lens k j (by omega), ?_⟩, G.out⟩
        have O2 := O.out
        rw [F.out] at O2
        rw [marks_len]
        exact O2

set_option maxRecDepth 100000 in
set_option maxHeartbeats 1000000 in
theorem heldPairS_any (A : Option Addr) (n cap k : Nat) (w : World) (hk : 1 ≤ k) (hl : k + 2 * n ≤ 10000000) (hin : PIn w w.heap.size A (marks k n)) :
    Calls Tryz.prog 22 #[.slice A n cap, .int .i64 k] w fun e w' => e = .returned (.int .i64 (k + 2 * n : Nat)) ∧ Below w.heap.size w w' := by
  go_enter Tryz.func22, Tryz.ntmps22
  go_wp2
  go_loopw [1, 5] (fun q i wr => ∃ j : Nat, j ≤ n ∧ i = .int .i64 j ∧ q = .int .i64 (k + 2 * j : Nat) ∧ Hid (Below w.heap.size w wr)) (fun _ i _ => n - (intOf i).toNat)
  case atStart => exact ⟨0, Nat.zero_le _, rfl, rfl, Below.refl _ w⟩
  case round =>
    obtain ⟨j, hj, rfl, rfl, Q⟩ := hrel
    by_cases hlt : j < n
    · have hin2 := (hin.below Q.out).more Q.out.size
      have hjl : j < (marks k n).length := by rw [marks_len]; exact hlt
      obtain ⟨b, off, rfl, hbB, hc⟩ := hin2.2 (by omega)
      obtain ⟨c1, c2⟩ := hc j hjl
      rw [marks_get] at c1 c2
      simp only at c1 c2
      have KK : Hid (k + 2 * (j + 1) = k + 2 * j + 1 + 1) := hide (by omega)
      have hkj : k + 2 * j + 2 ≤ 10000000 := by omega
      have hq1 : 1 ≤ k + 2 * j := by omega
      clear hc hin2 hjl
      generalize k + 2 * j = q at *
      have M1 := fun W => markText_int (q : Int) q W rfl (by omega) (by omega)
      have M2 := fun W => markText_int ((q : Int) + 1) (q + 1) W (by omega) (by omega) (by omega)
      have M1h := hide M1
      have M2h := hide M2
      clear M1 M2
      generalize markS q = m1 at *
      generalize markS (q + 1) = m2 at *
      have e1 : (m1.toList == m1.toList) = true := by simp
      have e2 : (m2.toList == m2.toList) = true := by simp
      go_wp2
      go_region_held3 (fun w' => w'.cell? ⟨b, off + j * 2, none⟩ = some (.string m1)) (first | go_keep | exact cellB b2 (by simp; omega) (by simpa using c1))
        (first | (go_at_call 45; refine (M1h.out _).mono ?_; rintro e w2 ⟨rfl, b2⟩))
      have Q2 := hide (Q.out.trans (((Below.refl _ wr).drew).trans (b2.mono (by exact Q.out.size))))
      have c3 : w2.cell? ⟨b, off + j * 2 + 1, none⟩ = some (.string m2) := cellB b2 (by simpa using hbB) (by simpa using c2)
      have hb2 : b < w2.heap.size := by have := b2.size; simp at this; omega
      clear c1 c2 b2
      go_wp2
      go_region_held3 (fun w' => w'.cell? ⟨b, off + j * 2 + 1, none⟩ = some (.string m2)) (first | go_keep | exact cellB b3 (by simp; omega) (by simpa using c3))
        (first | (go_at_call 45; refine (M2h.out _).mono ?_; rintro e w3 ⟨rfl, b3⟩))
      have Q3 := hide (Q2.out.trans (((Below.refl _ w2).drew).trans (b3.mono (by exact Q2.out.size))))
      clear b3 c3
      go_wp2
      go_roundw
      case rel => exact ⟨j + 1, by omega, by go_num, by rw [KK.out]; go_num, Q3.out⟩
      case measure => simp [intOf]; omega
    · go_wp2
      go_ret
      obtain rfl : j = n := by omega
      exact ⟨rfl, Q.out⟩
end Go.Proofs.YtjbbdggckagphaaGreatDoor.R
/-
  Which lists of refs are right; what is set, what is dropped. Plain mathematics.
-/
namespace Go.Proofs.YtjbbdggckagphaaGreatDoor.R
open Go.RowKit

/-- the first k pairs are right, and rise -/
def refTo (l : List Pr) (k : Nat) : Prop :=
  (∀ i (h : i < l.length), i < k → keyB l[i].1 = true ∧ QI.idB l[i].2 = true) ∧ ∀ i (h : i + 1 < l.length), i + 1 < k → ltB l[i].1 l[i + 1].1 = true
theorem refTo_zero (l : List Pr) : refTo l 0 := ⟨fun _ _ h => absurd h (by omega), fun _ _ h => absurd h (by omega)⟩
theorem refTo_succ {l : List Pr} {k : Nat} (hk : k < l.length) (h : refTo l k) (h1 : keyB l[k].1 = true) (h2 : QI.idB l[k].2 = true) (h3 : ∀ (hp : 0 < k), ltB (l[k - 1]'(by omega)).1 l[k].1 = true) : refTo l (k + 1) := by
  refine ⟨fun i hi hik => ?_, fun i hi hik => ?_⟩
  · rcases Nat.lt_or_ge i k with g | g
    · exact h.1 i hi g
    · obtain rfl : i = k := by omega
      exact ⟨h1, h2⟩
  · rcases Nat.lt_or_ge (i + 1) k with g | g
    · exact h.2 i hi g
    · obtain rfl : k = i + 1 := by omega
      simpa using h3 (by omega)
open Classical in
noncomputable def refB (l : List Pr) : Bool := decide (l.length ≤ 20 ∧ refTo l l.length)
open Classical in
theorem refB_iff {l : List Pr} : refB l = true ↔ l.length ≤ 20 ∧ refTo l l.length := by unfold refB; exact decide_eq_true_iff
theorem refB_yes {l : List Pr} (h : l.length ≤ 20) (k : refTo l l.length) : refB l = true := refB_iff.2 ⟨h, k⟩
theorem refB_len {l : List Pr} (h : 20 < l.length) : refB l = false := by
  cases e : refB l
  · rfl
  · have := (refB_iff.1 e).1; omega
theorem refB_key {l : List Pr} {k : Nat} (hk : k < l.length) (h : keyB l[k].1 = false) : refB l = false := by
  cases e : refB l
  · rfl
  · have := ((refB_iff.1 e).2.1 k hk hk).1; rw [h] at this; cases this
theorem refB_val {l : List Pr} {k : Nat} (hk : k < l.length) (h : QI.idB l[k].2 = false) : refB l = false := by
  cases e : refB l
  · rfl
  · have := ((refB_iff.1 e).2.1 k hk hk).2; rw [h] at this; cases this
theorem refB_rise {l : List Pr} {k : Nat} (hk : k + 1 < l.length) (h : ltB l[k].1 l[k + 1].1 = false) : refB l = false := by
  cases e : refB l
  · rfl
  · have := (refB_iff.1 e).2.2 k hk hk; rw [h] at this; cases this
/-- pairs that are right, and do they rise: what the two loops of the program ask one behind the other -/
def refsTo (l : List Pr) (k : Nat) : Prop := ∀ i (h : i < l.length), i < k → keyB l[i].1 = true ∧ QI.idB l[i].2 = true
theorem refsTo_zero (l : List Pr) : refsTo l 0 := fun _ _ h => absurd h (by omega)
theorem refsTo_succ {l : List Pr} {k : Nat} (hk : k < l.length) (h : refsTo l k) (h1 : keyB l[k].1 = true) (h2 : QI.idB l[k].2 = true) : refsTo l (k + 1) := by
  intro i hi hik
  rcases Nat.lt_or_ge i k with g | g
  · exact h i hi g
  · obtain rfl : i = k := by omega
    exact ⟨h1, h2⟩
theorem refB_of {l : List Pr} (h : l.length ≤ 20) (hp : refsTo l l.length) : refB l = risesB l := by
  cases e : risesB l
  · cases e' : refB l
    · rfl
    · exact absurd (risesB_yes (refB_iff.1 e').2.2) (by rw [e]; simp)
  · exact refB_yes h ⟨hp, risesB_iff.1 e⟩

/-- without the name -/
def delL (l : List Pr) (k : ByteArray) : List Pr := if hasB l k = true then l.eraseIdx (atN l k) else l
/-- what the reference makes -/
def setS (l : List Pr) (k v : ByteArray) : List Pr := (delL l k).take (atN (delL l k) k) ++ (k, v) :: (delL l k).drop (atN (delL l k) k)
theorem setS_eq (l : List Pr) (k v : ByteArray) : (([] ++ (delL l k).take (atN (delL l k) k)) ++ [(k, v)]) ++ (delL l k).drop (atN (delL l k) k) = setS l k v := by unfold setS; simp
theorem delL_len (l : List Pr) (k : ByteArray) : (delL l k).length ≤ l.length := by
  unfold delL
  split
  · rw [List.length_eraseIdx]; split <;> omega
  · exact Nat.le_refl _
theorem erase_eq (l : List Pr) (k : Nat) : ([] ++ l.take k) ++ l.drop (k + 1) = l.eraseIdx k := by rw [List.nil_append, List.eraseIdx_eq_take_drop_succ]
theorem setS_setL {l : List Pr} (hr : risesTo l l.length) (k v : ByteArray) : setS l k v = setL l k v := by
  unfold setS setL
  cases hh : hasB l k
  · have hd : delL l k = l := by unfold delL; rw [hh]; simp
    rw [hd]
    simp
  · obtain ⟨hlt, he⟩ := hasB_iff.1 hh
    have hd : delL l k = l.eraseIdx (atN l k) := by unfold delL; rw [if_pos hh]
    have hel : (l.eraseIdx (atN l k)).length = l.length - 1 := by rw [List.length_eraseIdx, if_pos hlt]
    have ha : atN (l.eraseIdx (atN l k)) k = atN l k := by
      refine atN_eq (by omega) (fun i hi hik => ?_) (fun h => ?_)
      · rw [List.getElem_eraseIdx_of_lt (by omega) hik]
        exact atN_lt l k i hik (by omega)
      · rw [List.getElem_eraseIdx_of_ge (by omega) (Nat.le_refl _)]
        have h1 : atN l k + 1 < l.length := by omega
        have h2 := hr (atN l k) h1 h1
        rw [he] at h2
        exact ltB_asymm h2
    rw [hd, ha, List.eraseIdx_eq_take_drop_succ]
    have ht : (l.take (atN l k)).length = atN l k := by rw [List.length_take]; omega
    rw [List.take_append_of_le_length (by omega), List.take_take, Nat.min_self, List.drop_append_of_le_length (by omega), List.drop_of_length_le (by omega)]
    simp
theorem refB_ris {l : List Pr} (h : refB l = true) : Ris l := ris_iff.1 (refB_iff.1 h).2.2
theorem refB_all {l : List Pr} : refB l = true ↔ l.length ≤ 20 ∧ (∀ p ∈ l, keyB p.1 = true ∧ QI.idB p.2 = true) ∧ Ris l := by
  rw [refB_iff]
  constructor
  · rintro ⟨h, h1, h2⟩
    refine ⟨h, fun p hp => ?_, ris_iff.1 h2⟩
    obtain ⟨i, hi, rfl⟩ := List.mem_iff_getElem.1 hp
    exact h1 i hi hi
  · rintro ⟨h, h1, h2⟩
    exact ⟨h, fun i hi _ => h1 _ (List.getElem_mem hi), ris_iff.2 h2⟩
theorem refB_set {l : List Pr} {k v : ByteArray} (h : refB l = true) (hk : keyB k = true) (hv : QI.idB v = true) (hl : (setL l k v).length ≤ 20) : refB (setL l k v) = true := by
  obtain ⟨_, h2, h3⟩ := refB_all.1 h
  refine refB_all.2 ⟨hl, fun p hp => ?_, ris_set h3 k v⟩
  rcases (mem_set h3 k v p).1 hp with rfl | ⟨a, _⟩
  · exact ⟨hk, hv⟩
  · exact h2 p a
theorem refB_erase {l : List Pr} (h : refB l = true) (i : Nat) : refB (l.eraseIdx i) = true := by
  obtain ⟨h1, h2, h3⟩ := refB_all.1 h
  refine refB_all.2 ⟨?_, fun p hp => h2 p (List.eraseIdx_sublist _ _ |>.subset hp), ris_erase h3 i⟩
  rw [List.length_eraseIdx]; split <;> omega
noncomputable def gotB (l : List Pr) (k : ByteArray) : Bool := refB l && hasB l k
noncomputable def gotV (l : List Pr) (k : ByteArray) : ByteArray := if refB l = true then valOf l k else ByteArray.empty
noncomputable def stB (l : List Pr) (k v : ByteArray) : Bool := refB l && (keyB k && (QI.idB v && decide ((setL l k v).length ≤ 20)))
noncomputable def stL (l : List Pr) (k v : ByteArray) : List Pr := if stB l k v = true then setL l k v else []
noncomputable def drL (l : List Pr) (k : ByteArray) : List Pr := if gotB l k = true then l.eraseIdx (atN l k) else []
theorem gotB_no {l : List Pr} {k : ByteArray} (h : refB l = false) : gotB l k = false := by unfold gotB; rw [h]; rfl
theorem gotB_yes {l : List Pr} {k : ByteArray} (h : refB l = true) : gotB l k = hasB l k := by unfold gotB; rw [h]; rfl
theorem gotV_no {l : List Pr} {k : ByteArray} (h : refB l = false) : gotV l k = ByteArray.empty := by unfold gotV; rw [h]; rfl
theorem gotV_yes {l : List Pr} {k : ByteArray} (h : refB l = true) : gotV l k = valOf l k := by unfold gotV; rw [if_pos h]
theorem stB_iff {l : List Pr} {k v : ByteArray} : stB l k v = true ↔ refB l = true ∧ keyB k = true ∧ QI.idB v = true ∧ (setL l k v).length ≤ 20 := by
  unfold stB; simp only [Bool.and_eq_true, decide_eq_true_eq]
theorem stB_not {l : List Pr} {k v : ByteArray} (h : ¬ (refB l = true ∧ keyB k = true ∧ QI.idB v = true ∧ (setL l k v).length ≤ 20)) : stB l k v = false := by
  cases e : stB l k v
  · rfl
  · exact absurd (stB_iff.1 e) h
theorem stL_no {l : List Pr} {k v : ByteArray} (h : stB l k v = false) : stL l k v = [] := by unfold stL; rw [h]; rfl
theorem stL_yes {l : List Pr} {k v : ByteArray} (h : stB l k v = true) : stL l k v = setL l k v := by unfold stL; rw [if_pos h]
theorem drL_no {l : List Pr} {k : ByteArray} (h : gotB l k = false) : drL l k = [] := by unfold drL; rw [h]; rfl
theorem drL_yes {l : List Pr} {k : ByteArray} (h : gotB l k = true) : drL l k = l.eraseIdx (atN l k) := by unfold drL; rw [if_pos h]
theorem stL_len (l : List Pr) (k v : ByteArray) : (stL l k v).length ≤ 20 := by
  cases e : stB l k v
  · rw [stL_no e]; simp
  · rw [stL_yes e]; exact (stB_iff.1 e).2.2.2
theorem drL_len (l : List Pr) (k : ByteArray) : (drL l k).length ≤ 20 := by
  cases e : gotB l k
  · rw [drL_no e]; simp
  · rw [drL_yes e, List.length_eraseIdx]
    have h : refB l = true := by
      cases h : refB l
      · rw [gotB_no h] at e; cases e
      · rfl
    have := (refB_iff.1 h).1
    split <;> omega
end Go.Proofs.YtjbbdggckagphaaGreatDoor.R
/-
  What spec.RefsOk answers.
-/
namespace Go.Proofs.YtjbbdggckagphaaGreatDoor.R
open Go.RowKit

set_option maxRecDepth 100000 in
set_option maxHeartbeats 1000000 in
theorem specRefsOk_any (A : Option Addr) (l : List Pr) (cap : Nat) (w : World) (B : Nat) (hl : l.length ≤ maxLen) (hin : PIn w B A l) :
    Calls Tryz.prog 67 #[.slice A l.length cap] w fun e w' => e = .returned (.bool (refB l)) ∧ Quiet w w' := by
  unfold maxLen at hl
  generalize hn : l.length = n at *
  have HN := hide hn
  clear hn
  go_enter Tryz.func67, Tryz.ntmps67
  go_wp2
  go_loopw [3] (fun i wr => ∃ k : Nat, k ≤ n ∧ i = .int .i64 k ∧ Hid (refTo l k) ∧ Hid (Quiet w wr)) (fun i _ => n - (intOf i).toNat)
  case atStart => exact ⟨0, Nat.zero_le _, rfl, refTo_zero l, Quiet.refl w⟩
  case round =>
    obtain ⟨k, hk, rfl, H, Q⟩ := hrel
    by_cases hlt : k < n
    · have hin2 := hin.quiet Q.out
      obtain ⟨b, off, rfl, hbB, hc⟩ := hin2.2 (by rw [HN.out]; omega)
      have hkl : k < l.length := by rw [HN.out]; omega
      obtain ⟨c1, c2⟩ := hc k hkl
      obtain ⟨s1, s2⟩ := hin2.1 k hkl
      cases hkey : keyB (l[k]'hkl).1
      · have Z := hide (refB_key hkl hkey)
        generalize (l[k]'hkl).1 = s at *
        generalize (l[k]'hkl).2 = v at *
        clear hin hin2 hc
        go_wp2
        go_quiet ((go_at_call 69; exact quiet_same (l1Key_any s _ s1)))
        go_wp2
        go_ret
        exact ⟨ret_bool Z.out.symm, Q.out.drewN _⟩
      · cases hval : QI.idB (l[k]'hkl).2
        · have Z := hide (refB_val hkl hval)
          generalize (l[k]'hkl).1 = s at *
          generalize (l[k]'hkl).2 = v at *
          have hval2 : QI.idB v = false := hval
          clear hin hin2 hc hval
          go_wp2
          go_quiet ((first | (go_at_call 69; exact quiet_same (l1Key_any s _ s1)) | (go_at_call 70; exact quiet_same (QI.specIdOk_any v _ s2))))
          go_wp2
          go_ret
          exact ⟨ret_bool Z.out.symm, Q.out.drewN _⟩
        · by_cases h0 : 0 < k
          · obtain ⟨c3, _⟩ := hc (k - 1) (by omega)
            have e1 : ((k - 1 : Nat) : Int) = (k : Int) - 1 := by omega
            cases hrise : ltB (l[k - 1]'(by omega)).1 (l[k]'hkl).1
            · have Z := hide (refB_rise (l := l) (k := k - 1) (by omega) (by simpa [show k - 1 + 1 = k by omega] using hrise))
              generalize (l[k]'hkl).1 = s at *
              generalize (l[k]'hkl).2 = v at *
              generalize (l[k - 1]'(by omega)).1 = s0 at *
              have hval2 : QI.idB v = true := hval
              have hrise2 : Op.bytesLess s0.toList s.toList = false := hrise
              clear hin hin2 hc hval hrise
              have q1 : IntKind.i64.wrap ((k : Int) - 1) = (k : Int) - 1 := IntWalk.i64_in _ (by omega)
              have q2 : (0 : Int) ≤ (k : Int) - 1 := by omega
              have q3 : (1 : Int) ≤ (k : Int) := by omega
              have q4 : ((k : Int) - 1).toNat = k - 1 := by omega
              have q5 : (k : Int) - 1 < (n : Int) := by omega
              have q6 : decide (0 < k) = true := decide_eq_true h0
              clear e1
              go_wp2
              go_quiet ((first | (go_at_call 69; exact quiet_same (l1Key_any s _ s1)) | (go_at_call 70; exact quiet_same (QI.specIdOk_any v _ s2))))
              clear q1 q4
              go_wp2
              go_ret
              exact ⟨ret_bool Z.out.symm, Q.out.drewN _⟩
            · have Z := hide (refTo_succ hkl H.out hkey hval (fun _ => hrise))
              generalize (l[k]'hkl).1 = s at *
              generalize (l[k]'hkl).2 = v at *
              generalize (l[k - 1]'(by omega)).1 = s0 at *
              have hval2 : QI.idB v = true := hval
              have hrise2 : Op.bytesLess s0.toList s.toList = true := hrise
              clear hin hin2 hc hval hrise
              have q1 : IntKind.i64.wrap ((k : Int) - 1) = (k : Int) - 1 := IntWalk.i64_in _ (by omega)
              have q2 : (0 : Int) ≤ (k : Int) - 1 := by omega
              have q3 : (1 : Int) ≤ (k : Int) := by omega
              have q4 : ((k : Int) - 1).toNat = k - 1 := by omega
              have q5 : (k : Int) - 1 < (n : Int) := by omega
              have q6 : decide (0 < k) = true := decide_eq_true h0
              clear e1
              go_wp2
              go_quiet ((first | (go_at_call 69; exact quiet_same (l1Key_any s _ s1)) | (go_at_call 70; exact quiet_same (QI.specIdOk_any v _ s2))))
              clear q1 q4
              go_wp2
              go_roundw
              case rel => exact ⟨k + 1, by omega, by go_num, Z, Q.out.drewN _⟩
              case measure => simp [intOf]; omega
          · obtain rfl : k = 0 := by omega
            have Z := hide (refTo_succ hkl H.out hkey hval (fun h => absurd h (by omega)))
            generalize (l[0]'hkl).1 = s at *
            generalize (l[0]'hkl).2 = v at *
            have hval2 : QI.idB v = true := hval
            have c1' : wr.cell? ⟨b, off, none⟩ = some (.string s) := by simpa using c1
            have c2' : wr.cell? ⟨b, off + 1, none⟩ = some (.string v) := by simpa using c2
            have n0 : 0 < n := hlt
            clear hin hin2 hc hval c1 c2 hlt hk
            go_wp2
            go_quiet ((first | (go_at_call 69; exact quiet_same (l1Key_any s _ s1)) | (go_at_call 70; exact quiet_same (QI.specIdOk_any v _ s2))))
            go_wp2
            go_roundw
            case rel => exact ⟨0 + 1, by omega, rfl, Z, Q.out.drewN _⟩
            case measure => simp [intOf]; omega
    · obtain rfl : k = n := by omega
      by_cases h40 : k ≤ 20
      · have Z : Hid (refB l = true) := hide (refB_yes (by rw [HN.out]; omega) (by rw [HN.out]; exact H.out))
        have d : decide ((k : Int) ≤ 20) = true := decide_eq_true (by omega)
        go_wp2
        go_ret
        exact ⟨ret_bool Z.out.symm, Q.out⟩
      · have Z : Hid (refB l = false) := hide (refB_len (by rw [HN.out]; omega))
        have d : decide ((k : Int) ≤ 20) = false := decide_eq_false (by omega)
        go_wp2
        go_ret
        exact ⟨ret_bool Z.out.symm, Q.out⟩
end Go.Proofs.YtjbbdggckagphaaGreatDoor.R
/-
  Where a name stands, and lists without it, in the reference.
-/
namespace Go.Proofs.YtjbbdggckagphaaGreatDoor.R
open Go.RowKit

set_option maxRecDepth 100000 in
set_option maxHeartbeats 1000000 in
theorem l1At_any (A : Option Addr) (l : List Pr) (cap : Nat) (key : ByteArray) (w : World) (B : Nat) (hl : l.length ≤ maxLen) (hin : PIn w B A l) :
    Calls Tryz.prog 66 #[.slice A l.length cap, .string key] w fun e w' => e = .returned (.int .i64 (atN l key : Nat)) ∧ w = w' := by
  unfold maxLen at hl
  generalize hn : l.length = n at *
  have HN := hide hn
  clear hn
  go_enter Tryz.func66, Tryz.ntmps66
  go_wp2
  go_loop [5] (fun i => ∃ k : Nat, k ≤ n ∧ i = .int .i64 k ∧ Hid (∀ t (h : t < l.length), t < k → ltB l[t].1 key = true)) (fun i => n - (intOf i).toNat)
  case atStart => exact ⟨0, Nat.zero_le _, rfl, hide fun t _ h => absurd h (by omega)⟩
  case round =>
    obtain ⟨k, hk, rfl, H⟩ := hrel
    by_cases hlt : k < n
    · have hkl : k < l.length := by rw [HN.out]; omega
      obtain ⟨b, off, rfl, hbB, hc⟩ := hin.2 (by omega)
      obtain ⟨c1, _⟩ := hc k hkl
      cases hs : ltB (l[k]'hkl).1 key
      · have E : Hid (atN l key = k) := hide (atN_eq (by omega) H.out (fun _ => hs))
        have hs2 : Op.bytesLess (l[k]'hkl).1.toList key.toList = false := hs
        generalize (l[k]'hkl).1 = s at *
        clear hin hc hs
        go_wp2
        go_ret
        exact ⟨ret_int (by rw [E.out]), rfl⟩
      · have Z : Hid (∀ t (h : t < l.length), t < k + 1 → ltB l[t].1 key = true) := hide (fun t h h' => by
          rcases Nat.lt_or_ge t k with g | g
          · exact H.out t h g
          · obtain rfl : t = k := by omega
            exact hs)
        have hs2 : Op.bytesLess (l[k]'hkl).1.toList key.toList = true := hs
        generalize (l[k]'hkl).1 = s at *
        clear hin hc hs
        go_wp2
        go_round
        case rel => exact ⟨k + 1, by omega, by go_num, Z⟩
        case measure => simp [intOf]; omega
    · obtain rfl : k = n := by omega
      have E : Hid (atN l key = k) := hide (atN_eq (by rw [HN.out]; exact Nat.le_refl _) H.out (fun h => absurd h (by rw [HN.out]; omega)))
      have hk2 : ¬ (k : Int) < (k : Int) := by omega
      clear hlt
      go_wp2
      go_ret
      exact ⟨ret_int (by rw [E.out]), rfl⟩
set_option maxRecDepth 100000 in
set_option maxHeartbeats 1000000 in
theorem l1Drop_any (A : Option Addr) (l : List Pr) (cap : Nat) (k : ByteArray) (w : World) (hl : l.length ≤ 1200000) (hc : l.length ≤ cap) (hin : PIn w w.heap.size A l) :
    Calls Tryz.prog 71 #[.slice A l.length cap, .string k] w (RetOwn w.heap.size (delL l k) w) := by
  have R := hide (l1At_any A l cap k w w.heap.size (by unfold maxLen; omega) hin)
  have hle := atN_le l k
  cases hh : hasB l k
  · have HD : Hid ([] ++ l = delL l k) := hide (by unfold delL; rw [hh]; simp)
    by_cases hlt : atN l k < l.length
    · obtain ⟨b, off, rfl, hbB, hcc⟩ := hin.2 (by omega)
      obtain ⟨c1, c2⟩ := hcc (atN l k) hlt
      have ne : ((atN l k : Int) == (l.length : Int)) = false := by rw [beq_eq_false_iff_ne]; omega
      have he : ¬ (l[atN l k]'hlt).1 = k := fun e => by rw [hasB_yes hlt e] at hh; cases hh
      have d1 := eqS_no he
      generalize (l[atN l k]'hlt).1 = s at *
      generalize (l[atN l k]'hlt).2 = v at *
      generalize atN l k = m at *
      have IN := hide hin
      clear hcc he hin
      generalize hnn : l.length = n at *
      have HNN := hide hnn
      clear hnn
      go_enter Tryz.func71, Tryz.ntmps71
      go_wp2_with (first
        | (go_at_call 66; refine R.out.mono ?_; rintro e w' ⟨rfl, rfl⟩)
        | (at_builtin; refine wpList_app 25 Tryz.underlying25 rfl (.tmp 22) (.tmp 23) rfl rfl rfl rfl HNN.out.symm (Own.built w w.heap.size (Nat.le_refl _)) (IN.out.below ((Below.refl _ _).alloc (Nat.le_refl _) _)) (by simp) (by rw [HNN.out]; simp; omega) ?_; intro A3 cap3 w3 own3 g3 r3; have b3 := hide (((Below.refl _ w).alloc (Nat.le_refl _) _).trans ((Own.built w w.heap.size (Nat.le_refl _)).grownBelow (by rw [rowOf_own]; exact g3) (by simp))); have O3 := hide own3; clear own3 g3))
      go_ret
      have O4 := O3.out
      rw [HD.out] at O4
      exact ⟨A3, cap3, O4.cap_le, by rw [← HD.out]; simp, O4, b3.out⟩
    · have ne : ((atN l k : Int) == (l.length : Int)) = true := by rw [beq_iff_eq]; omega
      generalize atN l k = m at *
      have IN := hide hin
      clear hin
      generalize hnn : l.length = n at *
      have HNN := hide hnn
      clear hnn
      go_enter Tryz.func71, Tryz.ntmps71
      go_wp2_with (first
        | (go_at_call 66; refine R.out.mono ?_; rintro e w' ⟨rfl, rfl⟩)
        | (at_builtin; refine wpList_app 25 Tryz.underlying25 rfl (.tmp 22) (.tmp 23) rfl rfl rfl rfl HNN.out.symm (Own.built w w.heap.size (Nat.le_refl _)) (IN.out.below ((Below.refl _ _).alloc (Nat.le_refl _) _)) (by simp) (by rw [HNN.out]; simp; omega) ?_; intro A3 cap3 w3 own3 g3 r3; have b3 := hide (((Below.refl _ w).alloc (Nat.le_refl _) _).trans ((Own.built w w.heap.size (Nat.le_refl _)).grownBelow (by rw [rowOf_own]; exact g3) (by simp))); have O3 := hide own3; clear own3 g3))
      go_ret
      have O4 := O3.out
      rw [HD.out] at O4
      exact ⟨A3, cap3, O4.cap_le, by rw [← HD.out]; simp, O4, b3.out⟩
  · obtain ⟨hlt, he⟩ := hasB_iff.1 hh
    have HD : Hid (([] ++ l.take (atN l k)) ++ l.drop (atN l k + 1) = delL l k) := hide (by unfold delL; rw [if_pos hh]; exact erase_eq l _)
    obtain ⟨b, off, rfl, hbB, hcc⟩ := hin.2 (by omega)
    obtain ⟨c1, c2⟩ := hcc (atN l k) hlt
    have ne : ((atN l k : Int) == (l.length : Int)) = false := by rw [beq_eq_false_iff_ne]; omega
    have d1 := eqS_yes he
    have K1 := run_cut_h 25 Tryz.underlying25 (some ⟨b, off, none⟩) l.length cap (atN l k) (by omega)
    have K2 := run_cut_l 25 Tryz.underlying25 (some ⟨b, off, none⟩) l.length cap (atN l k + 1) (by omega)
    rw [show ((atN l k + 1 : Nat) : Int) = (atN l k : Int) + 1 by omega] at K2
    have IN1 := hide (hin.take cap (atN l k))
    have IN2 := hide (hin.drop hc (atN l k + 1))
    have E1 := hide (show (l.take (atN l k)).length = atN l k by rw [List.length_take]; omega)
    have E2 := hide (show (l.drop (atN l k + 1)).length = l.length - (atN l k + 1) by rw [List.length_drop])
    generalize (l[atN l k]'hlt).1 = s at *
    generalize (l[atN l k]'hlt).2 = v at *
    clear hcc he hin
    generalize l.take (atN l k) = la at *
    generalize l.drop (atN l k + 1) = lb at *
    generalize atN l k = m at *
    generalize hnn : l.length = n at *
    have HNN := hide hnn
    clear hnn
    have q1 : IntKind.i64.wrap ((m : Int) + 1) = (m : Int) + 1 := IntWalk.i64_in _ (by omega)
    go_enter Tryz.func71, Tryz.ntmps71
    go_wp2_with (go_at_call 66; refine R.out.mono ?_; rintro e w' ⟨rfl, rfl⟩)
    have O1 := hide (Own.built w w.heap.size (Nat.le_refl _)).drew
    have B1 := hide (((Below.refl w.heap.size w).alloc (Nat.le_refl _) (.cells #[] 66)).drew)
    have IN1b := hide (IN1.out.below B1.out)
    go_region_law (first
      | (refine step_app (n := 0) (m := m) (A := some ⟨w.heap.size, 0, none⟩) (cap := 0) (A' := cutA (some ⟨b, off, none⟩) cap 0) (c := cap) 25 Tryz.underlying25 rfl (.tmp 25) (.tmp 28) rfl (by simp [Act.eval]) (by simp [Act.eval]) rfl E1.out.symm O1.out IN1b.out B1.out.size (by rw [E1.out]; simp; omega) ?_; intro A3 cap3 w3 own3 g3 r3; have B3 := hide (B1.out.trans (O1.out.grownBelow (by rw [rowOf_own]; exact g3) B1.out.size)); have O3 := hide own3; clear own3 g3)
      | (refine step_app (n := la.length) (m := n - (m + 1)) (A := A3) (cap := cap3) (A' := cutA (some ⟨b, off, none⟩) cap (m + 1)) (c := cap - (m + 1)) 25 Tryz.underlying25 rfl (.tmp 29) (.tmp 33) rfl (by simp [Act.eval]) (by simp [Act.eval]) (by simp) E2.out.symm O3.out (IN2.out.below B3.out) B3.out.size (by rw [List.length_append, E1.out, E2.out]; simp; omega) ?_; intro A4 cap4 w4 own4 g4 r4; have B4 := hide (B3.out.trans (O3.out.grownBelow (by rw [rowOf_own]; exact g4) B3.out.size)); have O4 := hide own4; clear own4 g4))
    all_goals
      go_wp2
      go_ret
      have O5 := O4.out
      rw [HD.out] at O5
      have hlen : (delL l k).length = la.length + lb.length := by rw [← HD.out]; simp
      exact ⟨A4, cap4, O5.cap_le, by rw [hlen]; rfl, O5, B4.out⟩

end Go.Proofs.YtjbbdggckagphaaGreatDoor.R
/-
  What spec.RefOf, spec.SetRef, spec.SwapRef, spec.DropRef answer.
-/
namespace Go.Proofs.YtjbbdggckagphaaGreatDoor.R
open Go.RowKit

theorem emp_list {s : ByteArray} : (s.toList == ([] : List UInt8)) = decide (s = ByteArray.empty) := by
  have e1 : (ByteArray.empty).toList = [] := by rw [Go.ByteArray.toList_eq]; rfl
  by_cases h : s = ByteArray.empty
  · rw [decide_eq_true h, h, e1]; rfl
  · rw [decide_eq_false h, ← e1]; exact eqS_no h
theorem emp_arr {s : ByteArray} : (s.toList == (⟨#[]⟩ : ByteArray).toList) = decide (s = ByteArray.empty) := by
  have e1 : (⟨#[]⟩ : ByteArray).toList = [] := by rw [Go.ByteArray.toList_eq]
  rw [e1]; exact emp_list

set_option maxRecDepth 100000 in
set_option maxHeartbeats 1000000 in
theorem specRefOf_any (A : Option Addr) (l : List Pr) (cap : Nat) (key : ByteArray) (w : World) (B : Nat) (hl : l.length ≤ maxLen) (hin : PIn w B A l) :
    Calls Tryz.prog 33 #[.slice A l.length cap, .string key] w fun e w' => e = .returned (.tuple #[.string (gotV l key), .bool (gotB l key)]) ∧ Quiet w w' := by
  have R := hide (l1At_any A l cap key w B hl hin)
  have hle := atN_le l key
  cases hm : refB l
  · have Z := hide (ret_sb (gotV_no (k := key) hm) (gotB_no (k := key) hm))
    go_enter Tryz.func33, Tryz.ntmps33
    go_wp2_with (first | (go_at_call 66; refine R.out.mono ?_; rintro e w' ⟨rfl, rfl⟩) | (go_at_call 67; refine (specRefsOk_any A l cap _ B hl hin).mono ?_; rintro e w' ⟨rfl, q⟩))
    go_ret2
    exact ⟨Z.out.symm, q⟩
  · have RO := hide (specRefsOk_any A l cap w B hl hin)
    rw [hm] at RO
    by_cases hlt : atN l key < l.length
    · have ne : ((atN l key : Int) == (l.length : Int)) = false := by rw [beq_eq_false_iff_ne]; omega
      have hli : (atN l key : Int) < (l.length : Int) := by omega
      by_cases he : (l[atN l key]'hlt).1 = key
      · have Z := hide (ret_sb ((gotV_yes hm).trans (valOf_yes hlt he)) ((gotB_yes (k := key) hm).trans (hasB_yes hlt he)))
        have d1 := eqS_yes he
        have IN := hide hin
        go_enter Tryz.func33, Tryz.ntmps33
        go_wp2_with fail
        refine R.out.mono ?_
        rintro e w' ⟨rfl, rfl⟩
        go_wp2_with fail
        refine RO.out.mono ?_
        rintro e w1 ⟨rfl, q⟩
        obtain ⟨b, off, rfl, hbB, hc⟩ := (IN.out.quiet q).2 (by omega)
        obtain ⟨c1, c2⟩ := hc (atN l key) hlt
        generalize (l[atN l key]'hlt).1 = s at *
        generalize (l[atN l key]'hlt).2 = v at *
        generalize atN l key = m at *
        clear hin hc he IN R RO
        go_wp2
        go_ret2
        exact ⟨Z.out.symm, q⟩
      · have Z := hide (ret_sb ((gotV_yes hm).trans (valOf_no (hasB_no hlt he))) ((gotB_yes (k := key) hm).trans (hasB_no hlt he)))
        have d1 := eqS_no he
        have IN := hide hin
        go_enter Tryz.func33, Tryz.ntmps33
        go_wp2_with fail
        refine R.out.mono ?_
        rintro e w' ⟨rfl, rfl⟩
        go_wp2_with fail
        refine RO.out.mono ?_
        rintro e w1 ⟨rfl, q⟩
        obtain ⟨b, off, rfl, hbB, hc⟩ := (IN.out.quiet q).2 (by omega)
        obtain ⟨c1, c2⟩ := hc (atN l key) hlt
        generalize (l[atN l key]'hlt).1 = s at *
        generalize (l[atN l key]'hlt).2 = v at *
        generalize atN l key = m at *
        clear hin hc he IN R RO
        go_wp2
        go_ret2
        exact ⟨Z.out.symm, q⟩
    · have Z := hide (ret_sb ((gotV_yes hm).trans (valOf_no (hasB_end hlt))) ((gotB_yes (k := key) hm).trans (hasB_end hlt)))
      have ne : ((atN l key : Int) == (l.length : Int)) = true := by rw [beq_iff_eq]; omega
      clear hin
      go_enter Tryz.func33, Tryz.ntmps33
      go_wp2_with fail
      refine R.out.mono ?_
      rintro e w' ⟨rfl, rfl⟩
      go_wp2_with fail
      refine RO.out.mono ?_
      rintro e w1 ⟨rfl, q⟩
      go_wp2
      go_ret2
      exact ⟨Z.out.symm, q⟩

set_option maxRecDepth 100000 in
set_option maxHeartbeats 2000000 in
theorem specSetRef_any (A : Option Addr) (l : List Pr) (cap : Nat) (k v : ByteArray) (w : World) (hl : l.length ≤ maxLen) (hc : l.length ≤ cap) (hin : PIn w w.heap.size A l) (hks : k.size ≤ maxLen) (hvs : v.size ≤ maxLen) :
    Calls Tryz.prog 35 #[.slice A l.length cap, .string k, .string v] w (RetOwnB w.heap.size (stL l k v) (stB l k v) w) := by
  cases hm : refB l
  · have Z := hide (stB_not (l := l) (k := k) (v := v) (fun z => by rw [hm] at z; exact absurd z.1 (by simp)))
    go_enter Tryz.func35, Tryz.ntmps35
    go_wp2_with fail
    refine (specRefsOk_any A l cap _ _ hl hin).mono ?_
    rintro e w1 ⟨rfl, q1⟩
    rw [hm]
    go_wp2
    go_ret2
    exact retOwnB_no (stL_no Z.out) Z.out (q1.below _)
  have RO := hide (specRefsOk_any A l cap w _ hl hin)
  rw [hm] at RO
  cases hk : keyB k
  · have Z := hide (stB_not (l := l) (k := k) (v := v) (fun z => by rw [hk] at z; exact absurd z.2.1 (by simp)))
    go_enter Tryz.func35, Tryz.ntmps35
    go_wp2_with fail
    refine RO.out.mono ?_
    rintro e w1 ⟨rfl, q1⟩
    go_wp2_with fail
    refine (l1Key_any k _ hks).mono ?_
    rintro e w2 ⟨rfl, rfl⟩
    rw [hk]
    go_wp2
    go_ret2
    exact retOwnB_no (stL_no Z.out) Z.out (q1.below _)
  cases hv : QI.idB v
  · have Z := hide (stB_not (l := l) (k := k) (v := v) (fun z => by rw [hv] at z; exact absurd z.2.2.1 (by simp)))
    go_enter Tryz.func35, Tryz.ntmps35
    go_wp2_with fail
    refine RO.out.mono ?_
    rintro e w1 ⟨rfl, q1⟩
    go_wp2_with fail
    refine (l1Key_any k _ hks).mono ?_
    rintro e w2 ⟨rfl, rfl⟩
    rw [hk]
    go_wp2_with fail
    refine (QI.specIdOk_any v _ hvs).mono ?_
    rintro e w2 ⟨rfl, rfl⟩
    rw [hv]
    go_wp2
    go_ret2
    exact retOwnB_no (stL_no Z.out) Z.out (q1.below _)
  have HM := hide (setS_eq l k v)
  have HS := hide (setS_setL (refB_iff.1 hm).2.2 k v)
  have hdl := delL_len l k
  have h20 := (refB_iff.1 hm).1
  have hsl := (len_set_le l k v).2
  have HK := hide hk
  have HV := hide hv
  have HR := hide hm
  go_enter Tryz.func35, Tryz.ntmps35
  go_wp2_with fail
  refine RO.out.mono ?_
  rintro e w0 ⟨rfl, q0⟩
  go_wp2_with fail
  refine (l1Key_any k _ hks).mono ?_
  rintro e w' ⟨rfl, rfl⟩
  rw [hk]
  go_wp2_with fail
  refine (QI.specIdOk_any v _ hvs).mono ?_
  rintro e w' ⟨rfl, rfl⟩
  rw [hv]
  have B0 := hide (q0.below w.heap.size)
  clear q0 RO hm hk hv
  go_wp2_with fail
  refine (l1Drop_any A l cap k w0 (by omega) hc ((hin.below B0.out).more B0.out.size)).mono ?_
  rintro e w1 ⟨A1, cap1, hc1, rfl, own1, b1⟩
  have B1 := hide (B0.out.trans (b1.mono B0.out.size))
  have in1 := own1.pin
  clear b1 own1 hin B0
  generalize delL l k = d at *
  go_wp2_with fail
  refine (l1At_any A1 d cap1 k w1 w1.heap.size (by unfold maxLen; omega) in1).mono ?_
  rintro e w1' ⟨rfl, rfl⟩
  have hle := atN_le d k
  have K1 := run_cut_h 25 Tryz.underlying25 A1 d.length cap1 (atN d k) (by omega)
  have K2 := run_cut_l 25 Tryz.underlying25 A1 d.length cap1 (atN d k) (by omega)
  have IN1 := hide (in1.take cap1 (atN d k))
  have IN2 := hide (in1.drop hc1 (atN d k))
  have E1 := hide (show (d.take (atN d k)).length = atN d k by rw [List.length_take]; omega)
  have E2 := hide (show (d.drop (atN d k)).length = d.length - atN d k by rw [List.length_drop])
  have O1 := hide (Own.built w1 w1.heap.size (Nat.le_refl _))
  have B2 := hide ((Below.refl w1.heap.size w1).alloc (Nat.le_refl _) (.cells #[] 66))
  have IN1b := hide (IN1.out.below B2.out)
  clear in1
  generalize d.take (atN d k) = la at *
  generalize d.drop (atN d k) = lb at *
  generalize atN d k = m at *
  generalize hnn : d.length = n at *
  have HNN := hide hnn
  clear hnn
  have hsm : (setS l k v).length ≤ maxLen := by rw [HS.out]; unfold maxLen; omega
  go_wp2_with (first
    | (at_builtin; refine wpList_app 25 Tryz.underlying25 rfl (.tmp 30) (.tmp 33) rfl rfl rfl rfl E1.out.symm O1.out IN1b.out B2.out.size (by rw [E1.out]; simp; omega) ?_; intro A3 cap3 w3 own3 g3 r3; have b3 := O1.out.grownBelow (by rw [rowOf_own]; exact g3) B2.out.size; have B3 := hide (B2.out.trans b3); have O3 := hide own3; have IN3 := hide (IN2.out.below B3.out); clear own3 g3 b3)
    | (at_builtin; refine wpList_app 25 Tryz.underlying25 rfl (.tmp 35) (.tmp 39) rfl rfl rfl (by simp) rfl (O3.out.alloc _) (PIn.one w3 k v hks hvs _) (Nat.le_trans B3.out.size (by simp)) (by rw [List.length_append, E1.out]; simp; omega) ?_; intro A4 cap4 w4 own4 g4 r4; have b4 := (O3.out.alloc (.cells #[.string k, .string v] 66)).grownBelow (by rw [rowOf_own]; exact g4) (Nat.le_trans B3.out.size (by simp)); have b4' := ((Below.refl w1.heap.size w3).alloc B3.out.size (.cells #[.string k, .string v] 66)).trans b4; have B4 := hide (B3.out.trans b4'); have O4 := hide own4; have IN4 := hide (IN3.out.below b4'); clear own4 g4 b4 b4')
    | (at_builtin; refine wpList_app 25 Tryz.underlying25 rfl (.tmp 41) (.tmp 44) rfl rfl rfl (by simp) E2.out.symm O4.out IN4.out B4.out.size (by rw [List.length_append, List.length_append, E1.out, E2.out]; simp; omega) ?_; intro A5 cap5 w5 own5 g5 r5; have b5 := O4.out.grownBelow (by rw [rowOf_own]; exact g5) B4.out.size; have B5 := hide (B1.out.trans ((B4.out.trans b5).mono B1.out.size)); have O5 := hide own5; clear own5 g5 b5)
    | fail)
  have O6 := O5.out
  rw [HM.out] at O6
  have LL : Hid (la.length + (lb.length + 1) = (setS l k v).length) := hide (by rw [← HM.out]; simp)
  have O7 := hide (O6.more B1.out.size)
  have hcap := O6.cap_le
  have PI := hide O6.pin
  clear O6 O5
  rw [LL.out]
  cases hs : refB (setS l k v)
  · have Z := hide (stB_not (l := l) (k := k) (v := v) (fun z => by rw [HS.out, refB_set z.1 z.2.1 z.2.2.1 z.2.2.2] at hs; cases hs))
    refine (specRefsOk_any A5 (setS l k v) cap5 _ _ hsm PI.out).mono ?_
    rintro e w6 ⟨rfl, q6⟩
    rw [hs]
    have B6 := hide (B5.out.trans (q6.below _))
    go_wp2
    go_ret2
    exact retOwnB_no (stL_no Z.out) Z.out B6.out
  · have Z := hide (stB_iff.2 ⟨HR.out, HK.out, HV.out, by rw [← HS.out]; exact (refB_iff.1 hs).1⟩)
    refine (specRefsOk_any A5 (setS l k v) cap5 _ _ hsm PI.out).mono ?_
    rintro e w6 ⟨rfl, q6⟩
    rw [hs]
    have B6 := hide (B5.out.trans (q6.below _))
    have O8 := hide (O7.out.below (q6.below _))
    clear q6
    go_wp2
    go_ret2
    refine ⟨A5, cap5, ?_, ?_, ?_, B6.out⟩
    · rw [stL_yes Z.out, ← HS.out]; exact hcap
    · rw [stL_yes Z.out, Z.out, ← HS.out]; rfl
    · rw [stL_yes Z.out, ← HS.out]; exact O8.out
end Go.Proofs.YtjbbdggckagphaaGreatDoor.R
/-
  What spec.SwapRef, spec.DropRef answer.
-/
namespace Go.Proofs.YtjbbdggckagphaaGreatDoor.R
open Go.RowKit

noncomputable def swB (l : List Pr) (k o v : ByteArray) : Bool := decide (gotV l k = o) && stB l k v
noncomputable def swL (l : List Pr) (k o v : ByteArray) : List Pr := if gotV l k = o then stL l k v else []
theorem swB_no {l : List Pr} {k o v : ByteArray} (h : ¬ gotV l k = o) : swB l k o v = false := by unfold swB; rw [decide_eq_false h]; rfl
theorem swB_yes {l : List Pr} {k o v : ByteArray} (h : gotV l k = o) : swB l k o v = stB l k v := by unfold swB; rw [decide_eq_true h]; rfl
theorem swL_no {l : List Pr} {k o v : ByteArray} (h : ¬ gotV l k = o) : swL l k o v = [] := by unfold swL; rw [if_neg h]
theorem swL_yes {l : List Pr} {k o v : ByteArray} (h : gotV l k = o) : swL l k o v = stL l k v := by unfold swL; rw [if_pos h]
theorem swL_len (l : List Pr) (k o v : ByteArray) : (swL l k o v).length ≤ 20 := by
  unfold swL
  split
  · exact stL_len l k v
  · simp
theorem gotV_not {l : List Pr} {k : ByteArray} (h : gotB l k = false) : gotV l k = ByteArray.empty := by
  cases hm : refB l
  · exact gotV_no hm
  · rw [gotB_yes hm] at h; rw [gotV_yes hm, valOf_no h]

end Go.Proofs.YtjbbdggckagphaaGreatDoor.R
/-
  Words for memory: slices of pointers to refs; tables of refs of the call's own.
-/
namespace Go.Proofs.YtjbbdggckagphaaGreatDoor.R
open Go.RowKit

/-- a pointer to a block -/
def pv (g : Nat) : Value := .pointer (some ⟨g, 0, none⟩)
/-- the slice at A has the pointers to these blocks -/
def QIn (w : World) (B : Nat) (A : Option Addr) (bs : List Nat) : Prop :=
  0 < bs.length → ∃ b off, A = some ⟨b, off, none⟩ ∧ b < B ∧ ∀ i (h : i < bs.length), w.cell? ⟨b, off + i, none⟩ = some (pv bs[i])
theorem QIn.below {w w' : World} {B : Nat} {A : Option Addr} {bs : List Nat} (h : QIn w B A bs) (q : Below B w w') : QIn w' B A bs := fun hp => by
  obtain ⟨b, off, e, hb, hc⟩ := h hp
  exact ⟨b, off, e, hb, fun i hi => cellB q hb (hc i hi)⟩
theorem QIn.more {w : World} {B B' : Nat} {A : Option Addr} {bs : List Nat} (h : QIn w B A bs) (hB : B ≤ B') : QIn w B' A bs := fun hp => by
  obtain ⟨b, off, e, hb, hc⟩ := h hp
  exact ⟨b, off, e, by omega, hc⟩
def POwn (w : World) (B : Nat) (A : Option Addr) (cap : Nat) (bs : List Nat) : Prop := w.ownsRow B 73 1 (.slice A bs.length cap) bs.length (bs.map pv)
theorem POwn.nil (w : World) (B : Nat) : POwn w B none 0 [] := World.ownsRow_nil _ _ _ _
theorem POwn.form {w : World} {B : Nat} {A : Option Addr} {cap : Nat} {bs : List Nat} (h : POwn w B A cap bs) : (A = none ∧ cap = 0 ∧ bs = []) ∨ ∃ g, A = some ⟨g, 0, none⟩ ∧ B ≤ g ∧ g < w.heap.size := by
  rcases h.2 with ⟨e, e'⟩ | ⟨g, c, cur, e, hb, hg, _⟩
  · injection e with e1 e2 e3
    exact .inl ⟨e1, e3, List.eq_nil_of_length_eq_zero e2⟩
  · injection e with e1 e2 e3
    exact .inr ⟨g, e1, hb, (Array.getElem?_eq_some_iff.1 hg).1⟩
theorem POwn.qin {w : World} {B : Nat} {A : Option Addr} {cap : Nat} {bs : List Nat} (h : POwn w B A cap bs) : QIn w w.heap.size A bs := fun hp => by
  rcases h.form with ⟨_, _, rfl⟩ | ⟨g, rfl, _, hg⟩
  · simp at hp
  · refine ⟨g, 0, rfl, hg, fun i hi => ?_⟩
    have h1 := h.cellAt i (by omega)
    rw [Nat.zero_add]
    refine h1.trans ?_
    simp [hi]
theorem POwn.cap_le {w : World} {B : Nat} {A : Option Addr} {cap : Nat} {bs : List Nat} (h : POwn w B A cap bs) : bs.length ≤ cap := by
  rcases h.2 with ⟨e, e'⟩ | ⟨g, c, cur, e, _, _, hnc, _⟩
  · injection e with e1 e2 e3; omega
  · injection e with e1 e2 e3; omega
theorem POwn.below {w w' : World} {B : Nat} {A : Option Addr} {cap : Nat} {bs : List Nat} (h : POwn w B A cap bs) (hb : Below w.heap.size w w') : POwn w' B A cap bs := by
  refine World.ownsRow.kept h (Below.toGrown hb none) ?_
  cases hv : (Value.slice A bs.length cap).ownBlock <;> simp
theorem POwn.more {w : World} {B B' : Nat} {A : Option Addr} {cap : Nat} {bs : List Nat} (h : POwn w B A cap bs) (hB : B' ≤ B) : POwn w B' A cap bs := by
  refine ⟨h.1, ?_⟩
  rcases h.2 with e | ⟨g, c, cur, e, hb, r⟩
  · exact .inl e
  · exact .inr ⟨g, c, cur, e, Nat.le_trans hB hb, r⟩
theorem POwn.row {w : World} {B : Nat} {A : Option Addr} {cap : Nat} {bs : List Nat} (h : POwn w B A cap bs) : ∀ g, rowOf A = some g → B ≤ g ∧ g < w.heap.size := by
  intro g hg
  exact h.lt g (by rw [rowOf_own]; exact hg)
theorem POwn.grownBelow {w w' : World} {B : Nat} {A : Option Addr} {cap : Nat} {bs : List Nat} (h : POwn w B A cap bs) (hg : w.grownBy w' (rowOf A)) (hB : B ≤ w.heap.size) : Below B w w' :=
  (Below.refl B w).grown hg hB (fun k hk => (h.row k hk).1)
theorem QIn.one {w : World} (g : Nat) (t : TypeId) {s : Nat} (hs : w.heap.size = s) : QIn (w.alloc (.cells #[pv g] t)) (s + 1) (some ⟨s, 0, none⟩) [g] := fun _ => by
  subst hs
  refine ⟨w.heap.size, 0, rfl, by omega, fun i hi => ?_⟩
  obtain rfl : i = 0 := by simpa using hi
  exact cell_of_row _ w.heap.size 0 #[pv g] t (0, 0) (heap_alloc_new w (.cells #[pv g] t))
/-- where a slice of pointers that is cut from place k on begins -/
def cutP (A : Option Addr) (cap k : Nat) : Option Addr := if cap = k then A else A.map (·.add k)
theorem QIn.take {w : World} {B : Nat} {A : Option Addr} {bs : List Nat} (h : QIn w B A bs) (cap k : Nat) : QIn w B (cutP A cap 0) (bs.take k) := fun hp => by
  have e : cutP A cap 0 = A := by
    unfold cutP
    split
    · rfl
    · cases A <;> simp [Addr.add]
  rw [e]
  obtain ⟨b, off, e, hb, hc⟩ := h (by rw [List.length_take] at hp; omega)
  refine ⟨b, off, e, hb, fun i hi => ?_⟩
  rw [List.getElem_take]
  exact hc i (by rw [List.length_take] at hi; omega)
theorem QIn.drop {w : World} {B : Nat} {A : Option Addr} {bs : List Nat} (h : QIn w B A bs) {cap : Nat} (hc : bs.length ≤ cap) (k : Nat) : QIn w B (cutP A cap k) (bs.drop k) := fun hp => by
  rw [List.length_drop] at hp
  obtain ⟨b, off, e, hb, hc⟩ := h (by omega)
  refine ⟨b, off + k, ?_, hb, fun i hi => ?_⟩
  · unfold cutP
    rw [if_neg (by omega), e, Option.map_some, add_pl]
  · rw [List.length_drop] at hi
    rw [List.getElem_drop, Nat.add_assoc]
    exact hc (k + i) (by omega)
theorem infoR : (Tryz.prog.info? 73).map (fun i => (i.zero, i.size, i.bytes)) = some (some (.pointer none), 1, 8) := by kernel_rfl

section
variable (t ty : TypeId) (ht : Tryz.prog.underlying t = some (.slice 73))
include ht
set_option maxRecDepth 100000 in
theorem run_appP {w : World} {B B' : Nat} {A A' : Option Addr} {cap c : Nat} {l l' : List Nat} (hown : POwn w B A cap l) (hin : QIn w B' A' l') (hB : B ≤ w.heap.size) (hb : l.length + l'.length ≤ 3000000) :
    ∃ A2 cap2 w', (Builtin.append_ #[t, t] ty #[.slice A l.length cap, .slice A' l'.length c]).run Tryz.prog w = .ok (.slice A2 (l ++ l').length cap2) w' ∧ POwn w' B A2 cap2 (l ++ l') ∧ w.grownBy w' (rowOf A) ∧ (rowOf A2 = rowOf A ∨ rowOf A2 = some w.heap.size) := by
  obtain ⟨i, hi, hz0, hz1, hz2⟩ := info_parts infoR
  have hlen : (l ++ l').length = l.length + l'.length := List.length_append
  cases A' with
  | none =>
    have h0 : l' = [] := by
      rcases Nat.eq_zero_or_pos l'.length with e | e
      · exact List.eq_nil_of_length_eq_zero e
      · obtain ⟨_, _, x, _⟩ := hin e
        cases x
    subst h0
    refine ⟨A, cap, w, ?_, by simpa using hown, World.grownBy.refl _ _, .inl rfl⟩
    rcases hown.2 with ⟨e, e'⟩ | ⟨g, cap', cur, e, _, _, hnc, _⟩
    · injection e with e1 e2 e3
      subst e1 e3
      simp [Builtin.append_, run_underlying ht, sizeOf, typeInfo, hi, Builtin.lenOf, Builtin.firstCells, e2]
    · injection e with e1 e2 e3
      subst e1 e3
      simp [Builtin.append_, run_underlying ht, sizeOf, typeInfo, hi, Builtin.lenOf, Builtin.firstCells, hnc, storeCells]
  | some a =>
    have hcells : ∀ j u, (l'.map pv)[j]? = some u → w.cell? (a.add j) = some u := by
      intro j u hu
      have hj : j < l'.length := by
        have := (List.getElem?_eq_some_iff.1 hu).1
        rw [List.length_map] at this
        exact this
      obtain ⟨b, off, e, _, hc⟩ := hin (by omega)
      injection e with e
      subst e
      rw [add_pl, hc j hj, ← hu]
      simp [hj]
    obtain ⟨v', w', hrun, h2, h3, _, h5⟩ := run_append_own_at (P := Tryz.prog) w B t ty 73 i _ 1 8 ht hi hz0 hz1 hz2 rfl (by omega) (.slice A l.length cap) l.length (l.map pv) hown a l'.length c (l'.map pv) (by simp) hcells (by
        intro u hu
        obtain ⟨g, _, rfl⟩ := List.mem_map.1 hu
        rfl)
      (by simp only [maxLen]; omega) (by omega) hB
    have hv : ∃ A2 cap2, v' = .slice A2 (l.length + l'.length) cap2 := by
      rcases h2.2 with ⟨e, e'⟩ | ⟨g, cap', cur, e, _⟩
      · exact ⟨none, 0, by rw [e, e']⟩
      · exact ⟨_, _, e⟩
    obtain ⟨A2, cap2, rfl⟩ := hv
    refine ⟨A2, cap2, w', by rw [hlen]; exact hrun, ?_, by rw [← rowOf_own A l.length cap]; exact h3, ?_⟩
    · unfold POwn
      rw [hlen, List.map_append]
      exact h2
    · rw [rowOf_own, rowOf_own] at h5
      exact h5

theorem wp_appP {w : World} {o : Oper} {a : Act} {K : Act → World → Prop} {Q : Exit → Act → World → Prop} (s x : Operand)
    (ho : o.op = .call { callee := .builtin .append, args := #[s, x], argTypes := #[t, t] })
    {B B' : Nat} {A A' : Option Addr} {cap c n m : Nat} {l l' : List Nat} (hs : a.eval s = .slice A n cap) (hx : a.eval x = .slice A' m c) (hn : n = l.length) (hm : m = l'.length)
    (hown : POwn w B A cap l) (hin : QIn w B' A' l') (hB : B ≤ w.heap.size) (hb : l.length + l'.length ≤ 3000000)
    (h : ∀ A2 cap2 w', POwn w' B A2 cap2 (l ++ l') → w.grownBy w' (rowOf A) → (rowOf A2 = rowOf A ∨ rowOf A2 = some w.heap.size) → K (a.put o.dst (.slice A2 (l ++ l').length cap2)) w') : o.wp Tryz.prog a w K Q := by
  subst hn hm
  obtain ⟨A2, cap2, w', hrun, h2, h3, h4⟩ := run_appP t o.type ht (c := c) hown hin hB hb
  unfold Oper.wp execOp
  simp only [ho, resolve, invoke, builtin, Sem.run_bind, Sem.run_pure, Result.andThen_ok, List.map_toArray, List.map_cons, List.map_nil, hs, hx, hrun]
  exact h A2 cap2 w' h2 h3 h4

theorem wpList_appP {w : World} {ops : Array Oper} {rest : List Oper} {o : Oper} {a : Act} {Q : Exit → Act → World → Prop} (hgd : o.guard = none) (s x : Operand)
    (ho : o.op = .call { callee := .builtin .append, args := #[s, x], argTypes := #[t, t] })
    {B B' : Nat} {A A' : Option Addr} {cap c n m : Nat} {l l' : List Nat} (hs : a.eval s = .slice A n cap) (hx : a.eval x = .slice A' m c) (hn : n = l.length) (hm : m = l'.length)
    (hown : POwn w B A cap l) (hin : QIn w B' A' l') (hB : B ≤ w.heap.size) (hb : l.length + l'.length ≤ 3000000)
    (h : ∀ A2 cap2 w', POwn w' B A2 cap2 (l ++ l') → w.grownBy w' (rowOf A) → (rowOf A2 = rowOf A ∨ rowOf A2 = some w.heap.size) → wpList Tryz.prog ops Q rest (a.put o.dst (.slice A2 (l ++ l').length cap2)) w') : wpList Tryz.prog ops Q (o :: rest) a w :=
  wpList_plain hgd fun _ hK => wp_appP t ht s x ho hs hx hn hm hown hin hB hb fun A2 cap2 w' h2 h3 h4 => hK _ _ (h A2 cap2 w' h2 h3 h4)

theorem run_cutP_h (A : Option Addr) (n cap k : Nat) (hk : k ≤ cap) (w : World) : (Instr.slice t (.slice A n cap) none (some (.int .i64 (k : Int))) none).run Tryz.prog w = .ok (.slice (cutP A cap 0) k cap) w := by
  have hs : ((sizeOf 73).run Tryz.prog w) = .ok 1 w := by kernel_rfl
  have he : Tryz.prog.elem t = 73 := by simp [Program.elem, ht]
  rw [run_slice_h (P := Tryz.prog) (t := t) (a := A) (len := n) (cap := cap) (w := w) (by rw [he]; exact ht) .i64 k (by omega) (by omega), he, hs]
  simp [Result.andThen, sliced, cutP]
theorem run_cutP_l (A : Option Addr) (n cap k : Nat) (hk : k ≤ n) (w : World) : (Instr.slice t (.slice A n cap) (some (.int .i64 (k : Int))) none none).run Tryz.prog w = .ok (.slice (cutP A cap k) (n - k) (cap - k)) w := by
  have hs : ((sizeOf 73).run Tryz.prog w) = .ok 1 w := by kernel_rfl
  have he : Tryz.prog.elem t = 73 := by simp [Program.elem, ht]
  rw [run_slice_l (P := Tryz.prog) (t := t) (a := A) (len := n) (cap := cap) (w := w) (by rw [he]; exact ht) .i64 k (by omega) (by omega), he, hs]
  simp [Result.andThen, sliced, cutP]
end

/-- a block that holds one ref -/
def RefAt (w : World) (g : Nat) (p : Pr) : Prop := w.heap[g]? = some (.cells #[.string p.1, .string p.2] 66 (0, 0))
theorem RefAt.c1 {w : World} {g : Nat} {p : Pr} (h : RefAt w g p) : w.cell? ⟨g, 0, none⟩ = some (.string p.1) := cell_of_row _ g 0 _ _ (0, 0) h
theorem RefAt.c2 {w : World} {g : Nat} {p : Pr} (h : RefAt w g p) : w.cell? ⟨g, 1, none⟩ = some (.string p.2) := cell_of_row _ g 1 _ _ (0, 0) h
theorem RefAt.frozen {w : World} {g : Nat} {p : Pr} (h : RefAt w g p) (j : Nat) : w.frozen? ⟨g, j, none⟩ = false := by simp [World.frozen?, show w.heap[g]? = _ from h]
theorem RefAt.lt {w : World} {g : Nat} {p : Pr} (h : RefAt w g p) : g < w.heap.size := (Array.getElem?_eq_some_iff.1 h).1
/-- a table: its row of pointers, each to a ref of its own -/
def PRefs (w : World) (lo : Nat) (A : Option Addr) (cap : Nat) (bs : List Nat) (l : List Pr) : Prop :=
  POwn w lo A cap bs ∧ bs.length = l.length ∧ bs.Nodup ∧ lens l ∧ ∀ i (h : i < bs.length) (h' : i < l.length), lo ≤ bs[i] ∧ rowOf A ≠ some bs[i] ∧ RefAt w bs[i] l[i]
theorem PRefs.nil (w : World) (lo : Nat) : PRefs w lo none 0 [] [] := ⟨POwn.nil _ _, rfl, List.nodup_nil, lens_nil, fun _ h => absurd h (by simp)⟩
theorem PRefs.below {w w' : World} {lo : Nat} {A : Option Addr} {cap : Nat} {bs : List Nat} {l : List Pr} (h : PRefs w lo A cap bs l) (hb : Below w.heap.size w w') : PRefs w' lo A cap bs l :=
  ⟨h.1.below hb, h.2.1, h.2.2.1, h.2.2.2.1, fun i hi hi' => by
    obtain ⟨h1, h2, h3⟩ := h.2.2.2.2 i hi hi'
    exact ⟨h1, h2, (hb.block _ h3.lt).trans h3⟩⟩
theorem PRefs.more {w : World} {lo lo' : Nat} {A : Option Addr} {cap : Nat} {bs : List Nat} {l : List Pr} (h : PRefs w lo A cap bs l) (hB : lo' ≤ lo) : PRefs w lo' A cap bs l :=
  ⟨h.1.more hB, h.2.1, h.2.2.1, h.2.2.2.1, fun i hi hi' => by
    obtain ⟨h1, h2, h3⟩ := h.2.2.2.2 i hi hi'
    exact ⟨by omega, h2, h3⟩⟩
theorem PRefs.setLow {w : World} {lo : Nat} {A : Option Addr} {cap : Nat} {bs : List Nat} {l : List Pr} (h : PRefs w lo A cap bs l) {a : Addr} (ha : a.block < lo) (u : Value) : PRefs (w.setCell a u) lo A cap bs l :=
  ⟨ownsRow_setCell_below h.1 ha u, h.2.1, h.2.2.1, h.2.2.2.1, fun i hi hi' => by
    obtain ⟨h1, h2, h3⟩ := h.2.2.2.2 i hi hi'
    exact ⟨h1, h2, (Below.heap_setCell w a u _ (by omega)).trans h3⟩⟩
/-- what reads as refs behind pointers -/
def RIn (w : World) (B : Nat) (A : Option Addr) (l : List Pr) : Prop :=
  0 < l.length → ∃ b off, A = some ⟨b, off, none⟩ ∧ b < B ∧ ∀ i (h : i < l.length), ∃ g, g < B ∧ w.cell? ⟨b, off + i, none⟩ = some (pv g) ∧ w.cell? ⟨g, 0, none⟩ = some (.string l[i].1) ∧ w.cell? ⟨g, 1, none⟩ = some (.string l[i].2)
theorem RIn.below {w w' : World} {B : Nat} {A : Option Addr} {l : List Pr} (h : RIn w B A l) (q : Below B w w') : RIn w' B A l := fun hp => by
  obtain ⟨b, off, e, hb, hc⟩ := h hp
  refine ⟨b, off, e, hb, fun i hi => ?_⟩
  obtain ⟨g, h1, h2, h3, h4⟩ := hc i hi
  exact ⟨g, h1, cellB q hb h2, cellB q h1 h3, cellB q h1 h4⟩
theorem RIn.more {w : World} {B B' : Nat} {A : Option Addr} {l : List Pr} (h : RIn w B A l) (hB : B ≤ B') : RIn w B' A l := fun hp => by
  obtain ⟨b, off, e, hb, hc⟩ := h hp
  refine ⟨b, off, e, by omega, fun i hi => ?_⟩
  obtain ⟨g, h1, h2⟩ := hc i hi
  exact ⟨g, by omega, h2⟩
theorem PRefs.rin {w : World} {lo : Nat} {A : Option Addr} {cap : Nat} {bs : List Nat} {l : List Pr} (h : PRefs w lo A cap bs l) : RIn w w.heap.size A l := fun hp => by
  obtain ⟨b, off, e, hb, hc⟩ := h.1.qin (by rw [h.2.1]; exact hp)
  refine ⟨b, off, e, hb, fun i hi => ?_⟩
  have hi' : i < bs.length := by rw [h.2.1]; exact hi
  obtain ⟨_, _, h3⟩ := h.2.2.2.2 i hi' hi
  exact ⟨bs[i], h3.lt, hc i hi', h3.c1, h3.c2⟩
/-- one more ref -/
theorem PRefs.push {w w6 : World} {lo s : Nat} {A A6 : Option Addr} {cap cap6 : Nat} {bs : List Nat} {l : List Pr} {o1 o3 : Obj} {x y : ByteArray} (h : PRefs w lo A cap bs l) (hs : w.heap.size = s) (hlo : lo ≤ s)
    (hx : x.size ≤ maxLen) (hy : y.size ≤ maxLen)
    (hg : (((w.alloc o1).alloc (.cells #[.string x, .string y] 66)).alloc o3).grownBy w6 (rowOf A)) (hown : POwn w6 lo A6 cap6 (bs ++ [s + 1])) (hr : rowOf A6 = rowOf A ∨ rowOf A6 = some (s + 3)) : PRefs w6 lo A6 cap6 (bs ++ [s + 1]) (l ++ [(x, y)]) := by
  subst hs
  have hz1 : (w.alloc o1).heap.size = w.heap.size + 1 := by simp
  have hz3 : (((w.alloc o1).alloc (.cells #[.string x, .string y] 66)).alloc o3).heap.size = w.heap.size + 3 := by simp
  have hlt : ∀ i (hi : i < bs.length), bs[i] < w.heap.size := fun i hi => (h.2.2.2.2 i hi (by rw [← h.2.1]; exact hi)).2.2.lt
  refine ⟨hown, by simp [h.2.1], ?_, ?_, fun i hi hi' => ?_⟩
  · rw [List.nodup_append]
    refine ⟨h.2.2.1, by simp, fun a ha b hb => ?_⟩
    obtain ⟨i, hi, rfl⟩ := List.mem_iff_getElem.1 ha
    simp at hb
    have := hlt i hi
    omega
  · exact lens_append h.2.2.2.1 (fun i hi => by obtain rfl : i = 0 := by simpa using hi
                                                exact ⟨hx, hy⟩)
  · rcases Nat.lt_or_ge i bs.length with g | g
    · rw [List.getElem_append_left g, List.getElem_append_left (by rw [← h.2.1]; exact g)]
      obtain ⟨h1, h2, h3⟩ := h.2.2.2.2 i g (by rw [← h.2.1]; exact g)
      have hb := hlt i g
      refine ⟨h1, ?_, ?_⟩
      · rcases hr with e | e
        · rw [e]; exact h2
        · rw [e]; intro x; injection x with x; omega
      · have e1 := hg.block bs[i] (by omega) (fun x => h2 x.symm)
        unfold RefAt
        rw [e1, Below.heap_alloc _ _ _ (by simp; omega), Below.heap_alloc _ _ _ (by simp; omega), Below.heap_alloc _ _ _ hb]
        exact h3
    · have hi2 : i = bs.length := by rw [List.length_append] at hi; simp at hi; omega
      subst hi2
      have hrA : ∀ g, rowOf A = some g → g < w.heap.size := fun g hg => (h.1.row g hg).2
      rw [List.getElem_append_right (Nat.le_refl _), List.getElem_append_right (by rw [h.2.1]; exact Nat.le_refl _)]
      simp only [Nat.sub_self, List.getElem_cons_zero, h.2.1]
      refine ⟨by omega, ?_, ?_⟩
      · rcases hr with e | e
        · rw [e]; intro x; have := hrA _ x; omega
        · rw [e]; intro x; injection x with x; omega
      · have e1 := hg.block (w.heap.size + 1) (by omega) (fun x => by have := hrA _ x.symm; omega)
        unfold RefAt
        rw [e1, Below.heap_alloc _ _ _ (by simp)]
        have := heap_alloc_new (w.alloc o1) (.cells #[.string x, .string y] 66)
        rw [hz1] at this
        exact this
end Go.Proofs.YtjbbdggckagphaaGreatDoor.R
/-
  Refs behind pointers: their names; whether they rise; where a name stands.
-/
namespace Go.Proofs.YtjbbdggckagphaaGreatDoor.R
open Go.RowKit

theorem rsortKey_any (g : Nat) (x : ByteArray) (w : World) (h : w.cell? ⟨g, 0, none⟩ = some (.string x)) :
    Calls Tryz.prog 197 #[pv g] w fun e w' => e = .returned (.string x) ∧ w = w' := by
  unfold pv
  go_enter Tryz.func197, Tryz.ntmps197
  go_wp2
  go_ret
  exact ⟨rfl, rfl⟩
theorem method_rsortKey (v : Option Addr) (w : World) : (method 332 73 (.pointer v) "loop.example/g00652/impl.sortKey").run Tryz.prog w = .ok (197, .pointer v) w := by kernel_rfl
theorem same_below {P : Program} {f : FuncId} {args : Array Value} {w : World} {v : Value} (h : Calls P f args w fun e w' => e = .returned v ∧ w = w') : Calls P f args w fun e w' => e = .returned v ∧ Below w.heap.size w w' :=
  h.mono fun _ _ ⟨he, hw⟩ => ⟨he, hw ▸ Below.refl _ _⟩

set_option maxRecDepth 100000 in
set_option maxHeartbeats 2000000 in
theorem risesR_any (A : Option Addr) (l : List Pr) (cap : Nat) (w : World) (hl : l.length ≤ maxLen) (hin : RIn w w.heap.size A l) :
    Calls Tryz.prog 72 #[.slice A l.length cap] w fun e w' => e = .returned (.bool (risesB l)) ∧ Below w.heap.size w w' := by
  unfold maxLen at hl
  generalize hn : l.length = n at *
  have HN := hide hn
  have IN := hide hin
  clear hn hin
  have hme := method_rsortKey
  go_enter Tryz.func72, Tryz.ntmps72
  go_wp2
  go_loopw [3] (fun i wr => ∃ k : Nat, (k ≤ n ∨ k = 1) ∧ 1 ≤ k ∧ i = .int .i64 k ∧ Hid (risesTo l k) ∧ Hid (Below w.heap.size w wr)) (fun i _ => n - (intOf i).toNat)
  case atStart => exact ⟨1, .inr rfl, by omega, rfl, risesTo_one _, Below.refl _ w⟩
  case round =>
    obtain ⟨k, hk, h1, rfl, H, Q⟩ := hrel
    have hqs := Q.out.size
    by_cases hlt : k < n
    · have hkl : k < l.length := by rw [HN.out]; omega
      obtain ⟨b, off, rfl, hbB, hc⟩ := (IN.out.below Q.out) (by omega)
      obtain ⟨g, hg, c1, c2, c3⟩ := hc k hkl
      obtain ⟨g0, hg0, d1, d2, d3⟩ := hc (k - 1) (by omega)
      have hbw : b < wr.heap.size := by omega
      have hgw : g < wr.heap.size := by omega
      have hg0w : g0 < wr.heap.size := by omega
      have q1 : IntKind.i64.wrap ((k : Int) - 1) = (k : Int) - 1 := IntWalk.i64_in _ (by omega)
      have q2 : (0 : Int) ≤ (k : Int) - 1 := by omega
      have q3 : (1 : Int) ≤ (k : Int) := by omega
      have q4 : ((k : Int) - 1).toNat = k - 1 := by omega
      have q5 : (k : Int) - 1 < (n : Int) := by omega
      have y1 := cls_cell (B := wr.heap.size) hbw c1
      have y2 := cls_cell (B := wr.heap.size) hgw c2
      have u1 := cls_cell (B := wr.heap.size) hbw d1
      have u2 := cls_cell (B := wr.heap.size) hg0w d2
      clear c1 c2 c3 d1 d2 d3 hc
      simp only [pv] at y1 u1
      cases hrise : ltB (l[k - 1]'(by omega)).1 (l[k]'hkl).1
      · have Z := hide (risesB_no (l := l) (k := k - 1) (by omega) (by simpa [show k - 1 + 1 = k by omega] using hrise))
        have hrise2 : Op.bytesLess (l[k - 1]'(by omega)).1.toList (l[k]'hkl).1.toList = false := hrise
        generalize (l[k]'hkl).1 = s at *
        generalize (l[k - 1]'(by omega)).1 = s0 at *
        clear hrise hkl
        go_wp2
        refine wp_region_cls (by kernel_rfl) (by kernel_rfl) wr.heap.size ?_
        repeat (go_big_quiet_step ((first | (go_at_call 197; exact cls_call (Nat.le_refl _) (same_below (rsortKey_any g s _ (y2 _)))) | (go_at_call 197; exact cls_call (Nat.le_refl _) (same_below (rsortKey_any g0 s0 _ (u2 _)))))))
        refine wpQuiet_nil ?_
        intro _ hw'
        obtain ⟨u, hw''⟩ := hw'
        subst hw''
        clear q1 q4
        go_wp2
        go_ret
        exact ⟨ret_bool Z.out.symm, Q.out.trans (u.below.mono hqs)⟩
      · have Z := hide (risesTo_succ (l := l) (k := k - 1) (by omega) (by simpa [show k - 1 + 1 = k by omega] using H.out) (by simpa [show k - 1 + 1 = k by omega] using hrise))
        have hrise2 : Op.bytesLess (l[k - 1]'(by omega)).1.toList (l[k]'hkl).1.toList = true := hrise
        generalize (l[k]'hkl).1 = s at *
        generalize (l[k - 1]'(by omega)).1 = s0 at *
        clear hrise hkl
        go_wp2
        refine wp_region_cls (by kernel_rfl) (by kernel_rfl) wr.heap.size ?_
        repeat (go_big_quiet_step ((first | (go_at_call 197; exact cls_call (Nat.le_refl _) (same_below (rsortKey_any g s _ (y2 _)))) | (go_at_call 197; exact cls_call (Nat.le_refl _) (same_below (rsortKey_any g0 s0 _ (u2 _)))))))
        refine wpQuiet_nil ?_
        intro _ hw'
        obtain ⟨u, hw''⟩ := hw'
        subst hw''
        clear q1 q4
        go_wp2
        exact ⟨⟨k + 1, by omega, by omega, by go_num, by rw [show k + 1 = k - 1 + 2 by omega]; exact Z, hide (Q.out.trans (u.below.mono hqs))⟩, by simp [intOf]; omega⟩
    · have Z : Hid (risesB l = true) := hide (risesB_yes (by
        intro i hi hik
        exact H.out i hi (by rw [HN.out] at hi; omega)))
      go_wp2
      go_ret
      exact ⟨ret_bool Z.out.symm, Q.out⟩
end Go.Proofs.YtjbbdggckagphaaGreatDoor.R
/-
  Where a name stands: the closure that compares, slices.BinarySearchFunc over pointers, place.
-/
namespace Go.Proofs.YtjbbdggckagphaaGreatDoor.R
open Go.RowKit

set_option maxHeartbeats 1000000 in
set_option maxRecDepth 100000 in
theorem compareString_any (a b : ByteArray) (w : World) :
    Calls Tryz.prog 125 #[.string a, .string b] w fun e w' => e = .returned (.int .i64 (cmpS a b)) ∧ w = w' := by
  go_enter Tryz.func125, Tryz.ntmps125
  go_wp2
  rw [run_callFunc_extern Tryz.func153 (by kernel_rfl) (by kernel_rfl) (by kernel_rfl) (e := Extern.BytealgCompare.compare) (by kernel_rfl), Lib.run_compareString]
  simp only [Result.andThen]
  rw [Oper.upon_value]
  go_wp2
  go_ret
  exact ⟨rfl, rfl⟩

theorem compare_any (a b : ByteArray) (w : World) :
    Calls Tryz.prog 105 #[.string a, .string b] w fun e w' => e = .returned (.int .i64 (cmpS a b)) ∧ w = w' := by
  go_enter Tryz.func105, Tryz.ntmps105
  go_wp2_with (go_at_call 125; refine (compareString_any a b _).mono ?_; rintro e w' ⟨rfl, rfl⟩)
  go_ret
  exact ⟨rfl, rfl⟩

theorem placeCmpR_any (g : Nat) (a k : ByteArray) (w : World) (h : w.cell? ⟨g, 0, none⟩ = some (.string a)) :
    Calls Tryz.prog 104 #[.pointer (some ⟨g, 0, none⟩), .string k] w fun e w' => e = .returned (.int .i64 (cmpS a k)) ∧ Below w.heap.size w w' := by
  have hme := method_rsortKey
  go_enter Tryz.func104, Tryz.ntmps104
  go_wp2_with (first | (go_at_call 197; refine (rsortKey_any g a _ h).mono ?_; rintro e w' ⟨rfl, rfl⟩) | (go_at_call 105; refine (compare_any a k _).mono ?_; rintro e w' ⟨rfl, rfl⟩))
  go_ret
  exact ⟨rfl, Below.refl _ _⟩

/-- what a search has left open: all ahead of lo are less, none from hi on is -/
def Open (l : List Pr) (k : ByteArray) (lo hi : Nat) : Prop := (∀ t (h : t < l.length), t < lo → ltB l[t].1 k = true) ∧ ∀ t (h : t < l.length), hi ≤ t → ltB l[t].1 k = false
theorem Open.low {l : List Pr} {k : ByteArray} {lo hi m : Nat} (h : Open l k lo hi) (hr : risesTo l l.length) (hm : m < l.length) (hc : cmpS l[m].1 k < 0) : Open l k (m + 1) hi := by
  refine ⟨fun t ht hlt => ?_, h.2⟩
  have hc := cmpS_lt.1 hc
  rcases Nat.lt_or_ge t m with g | g
  · exact ltB_trans (rises_lt hr m hm t g) hc
  · obtain rfl : t = m := by omega
    exact hc
theorem Open.high {l : List Pr} {k : ByteArray} {lo hi m : Nat} (h : Open l k lo hi) (hr : risesTo l l.length) (hm : m < l.length) (hc : ¬ cmpS l[m].1 k < 0) : Open l k lo m := by
  refine ⟨h.1, fun t ht hlt => ?_⟩
  have hc : ltB l[m].1 k = false := by
    cases e : ltB l[m].1 k
    · rfl
    · exact absurd (cmpS_lt.2 e) hc
  cases e : ltB l[t].1 k
  · rfl
  · rcases Nat.lt_or_ge m t with g | g
    · rw [ltB_trans (rises_lt hr t ht m g) e] at hc
      cases hc
    · obtain rfl : t = m := by omega
      rw [e] at hc
      cases hc
theorem Open.at_ {l : List Pr} {k : ByteArray} {n : Nat} (h : Open l k n n) (hn : n ≤ l.length) : atN l k = n := atN_eq hn h.1 (fun h' => h.2 n h' (Nat.le_refl _))

set_option maxRecDepth 100000 in
set_option maxHeartbeats 2000000 in
theorem searchR_any (A : Option Addr) (l : List Pr) (cap : Nat) (key : ByteArray) (w : World) (hl : l.length ≤ 65536) (hin : RIn w w.heap.size A l) (hr : risesTo l l.length) :
    Calls Tryz.prog 103 #[.slice A l.length cap, .string key, .func (.func 104) #[] #[]] w fun e w' => e = .returned (.tuple #[.int .i64 (atN l key : Nat), .bool (hasB l key)]) ∧ Below w.heap.size w w' := by
  have HR := hide hr
  clear hr
  generalize hn : l.length = n at hl ⊢
  have HN := hide hn
  clear hn
  go_enter Tryz.func103, Tryz.ntmps103
  go_wp2
  go_loopw [9, 10] (fun i j wr => ∃ lo hi : Nat, lo ≤ hi ∧ hi ≤ n ∧ i = .int .i64 lo ∧ j = .int .i64 hi ∧ Hid (Open l key lo hi) ∧ Hid (Below w.heap.size w wr)) (fun i j _ => (intOf j - intOf i).toNat)
  case atStart => exact ⟨0, n, Nat.zero_le _, Nat.le_refl _, rfl, rfl, hide ⟨fun t _ h => absurd h (by omega), fun t h h' => absurd h (by rw [HN.out]; omega)⟩, Below.refl _ w⟩
  case round =>
    obtain ⟨lo, hi, hlh, hhn, rfl, rfl, O, Q⟩ := hrel
    by_cases hlt : lo < hi
    · have hin2 := hin.below Q.out
      have hml : (lo + hi) / 2 < l.length := by rw [HN.out]; omega
      obtain ⟨b, off, rfl, hbB, hc⟩ := hin2 (by omega)
      obtain ⟨g, hg, c1, c2, _⟩ := hc ((lo + hi) / 2) hml
      simp only [pv] at c1
      by_cases hcm : cmpS (l[(lo + hi) / 2]'hml).1 key < 0
      · have Z := hide (O.out.low HR.out hml hcm)
        generalize (l[(lo + hi) / 2]'hml).1 = s at *
        clear hin hin2 hc
        go_wp2_with (go_at_call 104; refine (placeCmpR_any g s key _ c2).mono ?_; rintro e w' ⟨rfl, hb⟩)
        go_roundw
        case rel => exact ⟨(lo + hi) / 2 + 1, hi, by omega, hhn, by go_num, rfl, Z, Q.out.trans (hb.mono Q.out.size)⟩
        case measure => simp [intOf]; omega
      · have Z := hide (O.out.high HR.out hml hcm)
        generalize (l[(lo + hi) / 2]'hml).1 = s at *
        clear hin hin2 hc
        go_wp2_with (go_at_call 104; refine (placeCmpR_any g s key _ c2).mono ?_; rintro e w' ⟨rfl, hb⟩)
        go_roundw
        case rel => exact ⟨lo, (lo + hi) / 2, by omega, by omega, rfl, by go_num, Z, Q.out.trans (hb.mono Q.out.size)⟩
        case measure => simp [intOf]; omega
    · obtain rfl : hi = lo := by omega
      have E := hide (O.out.at_ (by rw [HN.out]; exact hhn))
      by_cases hlast : hi < n
      · have hin2 := hin.below Q.out
        have hml : hi < l.length := by rw [HN.out]; omega
        obtain ⟨b, off, rfl, hbB, hc⟩ := hin2 (by omega)
        obtain ⟨g, hg, c1, c2, _⟩ := hc hi hml
        simp only [pv] at c1
        by_cases hcm : (l[hi]'hml).1 = key
        · have Z : Hid (hasB l key = true) := hide (hasB_iff.2 ⟨by rw [E.out]; exact hml, by simp only [E.out]; exact hcm⟩)
          have z0 : (cmpS (l[hi]'hml).1 key == 0) = true := by rw [beq_iff_eq]; exact cmpS_eq.2 hcm
          generalize (l[hi]'hml).1 = s at *
          clear hin hin2 hc hcm
          go_wp2_with (go_at_call 104; refine (placeCmpR_any g s key _ c2).mono ?_; rintro e w' ⟨rfl, hb⟩)
          go_ret2
          exact ⟨ret_ib (by rw [E.out]) Z.out.symm, Q.out.trans (hb.mono Q.out.size)⟩
        · have Z : Hid (hasB l key = false) := hide (hasB_no (by rw [E.out]; exact hml) (by simp only [E.out]; exact hcm))
          have z0 : (cmpS (l[hi]'hml).1 key == 0) = false := by rw [beq_eq_false_iff_ne]; exact fun h => hcm (cmpS_eq.1 h)
          generalize (l[hi]'hml).1 = s at *
          clear hin hin2 hc hcm
          go_wp2_with (go_at_call 104; refine (placeCmpR_any g s key _ c2).mono ?_; rintro e w' ⟨rfl, hb⟩)
          go_ret2
          exact ⟨ret_ib (by rw [E.out]) Z.out.symm, Q.out.trans (hb.mono Q.out.size)⟩
      · have Z : Hid (hasB l key = false) := hide (hasB_end (by rw [E.out, HN.out]; omega))
        go_wp2
        go_ret2
        exact ⟨ret_ib (by rw [E.out]) Z.out.symm, Q.out⟩

theorem placeR_any (A : Option Addr) (l : List Pr) (cap : Nat) (key : ByteArray) (w : World) (hl : l.length ≤ 65536) (hin : RIn w w.heap.size A l) (hr : risesTo l l.length) :
    Calls Tryz.prog 73 #[.slice A l.length cap, .string key] w fun e w' => e = .returned (.tuple #[.int .i64 (atN l key : Nat), .bool (hasB l key)]) ∧ Below w.heap.size w w' := by
  have R := hide (searchR_any A l cap key w hl hin hr)
  clear hin hr
  go_enter Tryz.func73, Tryz.ntmps73
  go_wp2_with (go_at_call 103; refine R.out.mono ?_; rintro e w' ⟨rfl, hb⟩)
  go_ret2
  exact ⟨rfl, hb⟩

end Go.Proofs.YtjbbdggckagphaaGreatDoor.R
/-
  What impl.refsOf answers.
-/
namespace Go.Proofs.YtjbbdggckagphaaGreatDoor.R
open Go.RowKit

/-- a block that holds a table -/
def TB (w : World) (g : Nat) (A : Option Addr) (n cap : Nat) : Prop := w.heap[g]? = some (.cells #[.slice A n cap] 70 (0, 0))
theorem TB.c {w : World} {g : Nat} {A : Option Addr} {n cap : Nat} (h : TB w g A n cap) : w.cell? ⟨g, 0, none⟩ = some (.slice A n cap) := cell_of_row _ g 0 _ _ (0, 0) h
theorem TB.frozen {w : World} {g : Nat} {A : Option Addr} {n cap : Nat} (h : TB w g A n cap) (j : Nat) : w.frozen? ⟨g, j, none⟩ = false := by simp [World.frozen?, show w.heap[g]? = _ from h]
theorem TB.lt {w : World} {g : Nat} {A : Option Addr} {n cap : Nat} (h : TB w g A n cap) : g < w.heap.size := (Array.getElem?_eq_some_iff.1 h).1
theorem TB.below {w w' : World} {g : Nat} {A : Option Addr} {n cap B : Nat} (h : TB w g A n cap) (hb : Below B w w') (hg : g < B) : TB w' g A n cap := (hb.block _ hg).trans h
theorem TB.other {w : World} {g : Nat} {A : Option Addr} {n cap : Nat} (h : TB w g A n cap) (a : Addr) (u : Value) (hne : g ≠ a.block) : TB (w.setCell a u) g A n cap := (Below.heap_setCell w a u g hne).trans h
theorem box_set {w : World} {g : Nat} {cs : Array Value} {t : TypeId} (h : w.heap[g]? = some (.cells cs t (0, 0))) (j : Nat) (u : Value) : (w.setCell ⟨g, j, none⟩ u).heap[g]? = some (.cells (cs.setIfInBounds j u) t (0, 0)) := by
  have hlt := lt_of_block h
  have h' : w.heap[g] = .cells cs t (0, 0) := by simpa [Array.getElem?_eq_getElem hlt] using h
  show (w.heap.modify g _)[g]? = _
  rw [Array.getElem?_eq_getElem (by simpa using hlt), Array.getElem_modify_self, h']
  rfl
theorem TB.set {w : World} {g : Nat} {A A' : Option Addr} {n n' cap cap' : Nat} (h : TB w g A n cap) : TB (w.setCell ⟨g, 0, none⟩ (.slice A' n' cap')) g A' n' cap' := box_set h 0 _
theorem TB.new (w : World) (A : Option Addr) (n cap : Nat) {s : Nat} (hs : w.heap.size = s) : TB (w.alloc (.cells #[.slice A n cap] 70)) s A n cap := by subst hs; exact heap_alloc_new w _

def RefsRet (l : List Pr) (w : World) (e : Ending) (w' : World) : Prop :=
  Below w.heap.size w w' ∧ ((refB l = false ∧ e = .returned (.tuple #[.agg #[.slice none 0 0], .bool false])) ∨ (refB l = true ∧ ∃ A cap bs, e = .returned (.tuple #[.agg #[.slice A l.length cap], .bool true]) ∧ PRefs w' w.heap.size A cap bs l))

set_option maxRecDepth 100000 in
set_option maxHeartbeats 4000000 in
theorem refsOf_any (A : Option Addr) (l : List Pr) (cap : Nat) (w : World) (hl : l.length ≤ maxLen) (hin : PIn w w.heap.size A l) :
    Calls Tryz.prog 36 #[.slice A l.length cap] w (RefsRet l w) := by
  unfold maxLen at hl
  by_cases h20 : 20 < l.length
  · have Z := hide (refB_len h20)
    have d : decide ((20 : Int) < (l.length : Int)) = true := decide_eq_true (by omega)
    go_enter Tryz.func36, Tryz.ntmps36
    go_wp2
    exact bodyPost_ret (v := .tuple #[.agg #[.slice none 0 0], .bool false]) (by simp [results, Tryz.results36, go_sem]) rfl ⟨((Below.refl _ _).alloc (Nat.le_refl _) _), .inl ⟨Z.out, rfl⟩⟩
  · have d : decide ((20 : Int) < (l.length : Int)) = false := decide_eq_false (by omega)
    have IN := hide hin
    clear hin
    generalize hn : l.length = n at *
    have HN := hide hn
    clear hn
    have T0 : Hid (TB ((w.alloc (.cells #[.slice none 0 0] 70)).alloc (.cells #[.slice none 0 0] 70)) w.heap.size none 0 0) := hide ((TB.new w none 0 0 rfl).below ((Below.refl _ _).alloc (Nat.le_refl _) _) (by simp))
    have T1 : Hid (TB ((w.alloc (.cells #[.slice none 0 0] 70)).alloc (.cells #[.slice none 0 0] 70)) (w.heap.size + 1) none 0 0) := hide (TB.new _ none 0 0 (by simp))
    have B0 : Hid (Below w.heap.size w ((w.alloc (.cells #[.slice none 0 0] 70)).alloc (.cells #[.slice none 0 0] 70))) := hide (((Below.refl _ _).alloc (Nat.le_refl _) _).alloc (by simp) _)
    have z0 : ((w.alloc (.cells #[.slice none 0 0] 70)).alloc (.cells #[.slice none 0 0] 70)).heap.size = w.heap.size + 2 := by simp
    go_enter Tryz.func36, Tryz.ntmps36
    go_wp2
    go_loopw [13] (fun iv wr => ∃ (k : Nat) (A2 : Option Addr) (cap2 : Nat) (bs : List Nat), k ≤ n ∧ iv = .int .i64 k ∧ Hid (bs.length = k) ∧ Hid (refsTo l k) ∧ Hid (TB wr w.heap.size none 0 0) ∧ Hid (TB wr (w.heap.size + 1) A2 k cap2) ∧ Hid (PRefs wr (w.heap.size + 2) A2 cap2 bs (l.take k)) ∧ Hid (Below w.heap.size w wr)) (fun i _ => n - (intOf i).toNat)
    case atStart => exact ⟨0, none, 0, [], Nat.zero_le _, rfl, hide rfl, hide (refsTo_zero l), T0, T1, hide (PRefs.nil _ _), B0⟩
    case round =>
      clear T0 T1 B0 z0
      obtain ⟨k, A2, cap2, bs, hk, rfl, BL, H, T0, T1, P, Q⟩ := hrel
      have hqs := Q.out.size
      have hz : w.heap.size + 1 < wr.heap.size := T1.out.lt
      by_cases hlt : k < n
      · have hkl : k < l.length := by rw [HN.out]; omega
        obtain ⟨b, off, rfl, hbB, hc⟩ := (IN.out.below Q.out).2 (by omega)
        obtain ⟨c1, c2⟩ := hc k hkl
        obtain ⟨s1, s2⟩ := IN.out.1 k hkl
        have KB := hide (fun h => refB_key hkl h)
        have VB := hide (fun h => refB_val hkl h)
        have FS := hide (fun h h' => refsTo_succ hkl H.out h h')
        have TK : Hid (l.take k ++ [((l[k]'hkl).1, (l[k]'hkl).2)] = l.take (k + 1)) := hide (by rw [List.take_succ_eq_append_getElem hkl])
        have hki : (k : Int) < (n : Int) := by omega
        clear hc
        generalize (l[k]'hkl).1 = x at *
        generalize (l[k]'hkl).2 = y at *
        -- the box of the ref
        have bx : Hid (Below wr.heap.size wr (wr.alloc (.cells #[.string x, .string y] 66))) := hide ((Below.refl _ _).alloc (Nat.le_refl _) _)
        have y1 : (wr.alloc (.cells #[.string x, .string y] 66)).cell? ⟨wr.heap.size, 0, none⟩ = some (.string x) := by simp [go_sem]
        have y2 : (wr.alloc (.cells #[.string x, .string y] 66)).cell? ⟨wr.heap.size, 1, none⟩ = some (.string y) := by simp [go_sem]
        have r0 := (T0.out.below bx.out (by omega)).c
        have f0 := (T0.out.below bx.out (by omega)).frozen 0
        cases hK : keyB x
        · have Z := hide (KB.out hK)
          have T0b := hide (T0.out.below bx.out (by omega))
          have Qb := hide (Q.out.trans (bx.out.mono hqs))
          go_wp2_with (go_at_call 60; refine (keyOk_any x _ s1).mono ?_; rintro e w' ⟨rfl, rfl⟩)
          have TS := (T0b.out.set (A' := none) (n' := 0) (cap' := 0)).c
          exact bodyPost_ret (v := .tuple #[.agg #[.slice none 0 0], .bool false]) (by simp [results, Tryz.results36, go_sem, TS]) rfl ⟨Qb.out.setCell (p := ⟨w.heap.size, 0, none⟩) (Nat.le_refl _) _, .inl ⟨Z.out, rfl⟩⟩
        · cases hV : QI.idB y
          · have Z := hide (VB.out hV)
            have Qb := hide (Q.out.trans (bx.out.mono hqs))
            have T0b := hide (T0.out.below bx.out (by omega))
            go_wp2_with (first | (go_at_call 60; refine (keyOk_any x _ s1).mono ?_; rintro e w' ⟨rfl, rfl⟩) | (go_at_call 61; refine (QI.implIdOk_any y _ s2).mono ?_; rintro e w' ⟨rfl, rfl⟩))
            have TS := (T0b.out.set (A' := none) (n' := 0) (cap' := 0)).c
            exact bodyPost_ret (v := .tuple #[.agg #[.slice none 0 0], .bool false]) (by simp [results, Tryz.results36, go_sem, TS]) rfl ⟨Qb.out.setCell (p := ⟨w.heap.size, 0, none⟩) (Nat.le_refl _) _, .inl ⟨Z.out, rfl⟩⟩
          · have FN := hide (FS.out hK hV)
            have r1 := (T1.out.below bx.out (by omega)).c
            have f1 := (T1.out.below bx.out (by omega)).frozen 0
            have b3 : Hid (Below wr.heap.size wr (((wr.alloc (.cells #[.string x, .string y] 66)).alloc (.cells #[.string x, .string y] 66)).alloc (.cells #[pv (wr.heap.size + 1)] 73))) := hide ((((Below.refl _ _).alloc (Nat.le_refl _) _).alloc (by simp) _).alloc (by simp; omega) _)
            have hbl : k = bs.length := BL.out.symm
            have BL2 := hide hbl
            clear hbl
            go_wp2_with (first
              | (go_at_call 60; refine (keyOk_any x _ s1).mono ?_; rintro e w' ⟨rfl, rfl⟩)
              | (go_at_call 61; refine (QI.implIdOk_any y _ s2).mono ?_; rintro e w' ⟨rfl, rfl⟩)
              | (at_builtin; refine wpList_appP (l := bs) (l' := [wr.heap.size + 1]) (B := w.heap.size + 2) 68 Tryz.underlying68 rfl (.tmp 29) (.tmp 36) rfl rfl rfl BL2.out rfl (P.out.1.below b3.out) (QIn.one (wr.heap.size + 1) _ (s := wr.heap.size + 2) (by simp)) (by simp; omega) (by rw [BL.out]; simp; omega) ?_; intro A6 cap6 w6 own6 g6 r6; have B6 := hide ((P.out.1.below b3.out).grownBelow g6 (by simp; omega)); have T6 := hide ((T1.out.below b3.out (by omega)).below B6.out (by omega)); have U6 := hide ((T0.out.below b3.out (by omega)).below B6.out (by omega)); have P6 := hide (PRefs.push P.out rfl (by omega) s1 s2 g6 own6 (by simpa using r6)); have r7 := T6.out.c; have f7 := T6.out.frozen 0; have Q6 := hide (Q.out.trans ((b3.out.mono hqs).trans (B6.out.mono (by omega)))); clear own6 g6 r6))
            have L6 : Hid ((bs ++ [wr.heap.size + 1]).length = k + 1) := hide (by rw [List.length_append, BL.out]; rfl)
            rw [TK.out] at P6
            have T8 : Hid (TB (w6.setCell ⟨w.heap.size + 1, 0, none⟩ (.slice A6 (bs ++ [wr.heap.size + 1]).length cap6)) (w.heap.size + 1) A6 (k + 1) cap6) := hide (by rw [L6.out]; exact T6.out.set)
            have U8 := hide (U6.out.other ⟨w.heap.size + 1, 0, none⟩ (.slice A6 (bs ++ [wr.heap.size + 1]).length cap6) (by simp))
            have P8 := hide (P6.out.setLow (a := ⟨w.heap.size + 1, 0, none⟩) (by simp) (.slice A6 (bs ++ [wr.heap.size + 1]).length cap6))
            have Q8 := hide (Q6.out.setCell (p := ⟨w.heap.size + 1, 0, none⟩) (by simp) (.slice A6 (bs ++ [wr.heap.size + 1]).length cap6))
            have EL : (bs ++ [wr.heap.size + 1]).length = bs.length + 1 := by simp
            rw [EL] at T8 U8 P8 Q8
            exact ⟨⟨k + 1, A6, cap6, bs ++ [wr.heap.size + 1], by omega, by go_num, L6, FN, U8, T8, P8, Q8⟩, by simp [intOf]; omega⟩
      · obtain rfl : k = n := by omega
        have TK : Hid (l.take k = l) := hide (by rw [← HN.out, List.take_length])
        rw [TK.out] at P
        have RR : Hid (refB l = risesB l) := hide (refB_of (by rw [HN.out]; omega) (by rw [HN.out]; exact H.out))
        have hkk : ¬ (k : Int) < (k : Int) := by omega
        have r1 := T1.out.c
        have hlm : l.length ≤ maxLen := by rw [HN.out]; unfold maxLen; omega
        have RI := hide (risesR_any A2 l cap2 wr hlm P.out.rin)
        rw [HN.out] at RI
        go_wp2_with fail
        refine RI.out.mono ?_
        rintro e w5 ⟨rfl, b5⟩
        have T05 := hide (T0.out.below b5 (by omega))
        have T15 := hide (T1.out.below b5 (by omega))
        have P5 := hide (P.out.below b5)
        have Q5 := hide (Q.out.trans (b5.mono hqs))
        have r2 := T05.out.c
        have f2 := T05.out.frozen 0
        have r3 := T15.out.c
        clear b5 r1 RI
        cases hr : risesB l
        · have Z : Hid (refB l = false) := hide (by rw [RR.out]; exact hr)
          go_wp2
          have TS := (T05.out.set (A' := none) (n' := 0) (cap' := 0)).c
          exact bodyPost_ret (v := .tuple #[.agg #[.slice none 0 0], .bool false]) (by simp [results, Tryz.results36, go_sem, TS]) rfl ⟨Q5.out.setCell (p := ⟨w.heap.size, 0, none⟩) (Nat.le_refl _) _, .inl ⟨Z.out, rfl⟩⟩
        · have Z : Hid (refB l = true) := hide (by rw [RR.out]; exact hr)
          go_wp2
          have TS := (T05.out.set (A' := A2) (n' := k) (cap' := cap2)).c
          have P6 := P5.out.setLow (a := ⟨w.heap.size, 0, none⟩) (by simp) (.slice A2 k cap2)
          exact bodyPost_ret (v := .tuple #[.agg #[.slice A2 k cap2], .bool true]) (by simp [results, Tryz.results36, go_sem, TS]) rfl ⟨Q5.out.setCell (p := ⟨w.heap.size, 0, none⟩) (Nat.le_refl _) _, .inr ⟨Z.out, A2, cap2, bs, by rw [HN.out], P6.more (by omega)⟩⟩
end Go.Proofs.YtjbbdggckagphaaGreatDoor.R
/-
  Tables of refs: impl.RefsOk, the ref of a name, impl.RefOf.
-/
namespace Go.Proofs.YtjbbdggckagphaaGreatDoor.R
open Go.RowKit
def NamedRet (l : List Pr) (bs : List Nat) (k : ByteArray) (w : World) (e : Ending) (w' : World) : Prop :=
  Below w.heap.size w w' ∧ ((hasB l k = false ∧ e = .returned (.pointer none)) ∨ (hasB l k = true ∧ ∃ h : atN l k < bs.length, e = .returned (.pointer (some ⟨bs[atN l k], 0, none⟩))))
set_option maxRecDepth 100000 in
set_option maxHeartbeats 1000000 in
theorem named_any (A : Option Addr) (l : List Pr) (cap : Nat) (bs : List Nat) (k : ByteArray) (w : World) (lo : Nat) (hl : l.length ≤ 65536) (hp : PRefs w lo A cap bs l) (hr : risesTo l l.length) :
    Calls Tryz.prog 37 #[.agg #[.slice A l.length cap], .string k] w (NamedRet l bs k w) := by
  have P := hide hp
  have HR := hide hr
  have bx : Hid (Below w.heap.size w (w.alloc (.cells #[.slice A l.length cap] 70))) := hide ((Below.refl _ _).alloc (Nat.le_refl _) _)
  have T := hide (TB.new w A l.length cap rfl)
  have hz : w.heap.size < (w.alloc (.cells #[.slice A l.length cap] 70)).heap.size := by simp
  have r1 := T.out.c
  clear hp hr
  go_enter Tryz.func37, Tryz.ntmps37
  go_wp2_with fail
  refine (placeR_any A l cap k _ hl (P.out.below bx.out).rin HR.out).mono ?_
  rintro e w1 ⟨rfl, b1⟩
  have B1 := hide (bx.out.trans (b1.mono bx.out.size))
  have r2 := (T.out.below b1 hz).c
  have P1 := hide ((P.out.below bx.out).below b1)
  clear b1 r1
  cases hh : hasB l k
  · have Z := hide hh
    go_wp2
    go_ret
    exact ⟨B1.out, .inl ⟨Z.out, rfl⟩⟩
  · obtain ⟨hlt, _⟩ := hasB_iff.1 hh
    have Z := hide hh
    have hlb : atN l k < bs.length := by rw [P1.out.2.1]; exact hlt
    obtain ⟨b, off, rfl, hbB, hc⟩ := P1.out.1.qin (by omega)
    have c1 := hc (atN l k) hlb
    simp only [pv] at c1
    have hli : (atN l k : Int) < (l.length : Int) := by omega
    clear hc
    generalize hg : bs[atN l k]'hlb = g at *
    have G := hide hg
    generalize ha : atN l k = m at *
    have HA := hide ha
    clear hg ha
    go_wp2
    go_ret
    exact ⟨B1.out, .inr ⟨Z.out, by rw [HA.out]; exact hlb, by simp only [HA.out, G.out]; rfl⟩⟩

set_option maxRecDepth 100000 in
set_option maxHeartbeats 1000000 in
theorem implRefOf_any (A : Option Addr) (l : List Pr) (cap : Nat) (k : ByteArray) (w : World) (hl : l.length ≤ maxLen) (hin : PIn w w.heap.size A l) :
    Calls Tryz.prog 11 #[.slice A l.length cap, .string k] w fun e w' => e = .returned (.tuple #[.string (gotV l k), .bool (gotB l k)]) ∧ Below w.heap.size w w' := by
  have R := hide (refsOf_any A l cap w hl hin)
  go_enter Tryz.func11, Tryz.ntmps11
  go_wp2_with fail
  refine R.out.mono ?_
  rintro e w1 ⟨b1, ⟨h, rfl⟩ | ⟨h, A2, cap2, bs, rfl, p1⟩⟩
  · have Z := hide (ret_sb (gotV_no (k := k) h) (gotB_no (k := k) h))
    go_wp2
    go_ret2
    exact ⟨Z.out.symm, b1.alloc b1.size _⟩
  · have h20 := (refB_iff.1 h).1
    have HR := hide (refB_iff.1 h).2.2
    have ZB := hide (gotB_yes (k := k) h)
    have ZV := hide (gotV_yes (k := k) h)
    have T := hide (TB.new w1 A2 l.length cap2 rfl)
    have bx : Hid (Below w1.heap.size w1 (w1.alloc (.cells #[.slice A2 l.length cap2] 70))) := hide ((Below.refl _ _).alloc (Nat.le_refl _) _)
    have P := hide (p1.below bx.out)
    have B1 := hide (b1.trans (bx.out.mono b1.size))
    have r1 := T.out.c
    clear p1 b1 h
    go_wp2_with fail
    refine (named_any A2 l cap2 bs k _ w.heap.size (by omega) P.out HR.out).mono ?_
    rintro e w2 ⟨b2, ⟨hh, rfl⟩ | ⟨hh, hlb, rfl⟩⟩
    · have Z := hide (ret_sb (ZV.out.trans (valOf_no hh)) (ZB.out.trans hh))
      go_wp2
      go_ret2
      exact ⟨Z.out.symm, B1.out.trans (b2.mono B1.out.size)⟩
    · obtain ⟨hlt, he⟩ := hasB_iff.1 hh
      have Z := hide (ret_sb (ZV.out.trans (valOf_yes hlt he)) (ZB.out.trans hh))
      obtain ⟨_, _, ra⟩ := (P.out.below b2).2.2.2.2 (atN l k) hlb hlt
      have c2 := ra.c2
      have B2 := hide (B1.out.trans (b2.mono B1.out.size))
      clear ra b2
      generalize bs[atN l k]'hlb = g at *
      generalize (l[atN l k]'hlt).2 = v at *
      go_wp2
      go_ret2
      exact ⟨Z.out.symm, B2.out⟩
end Go.Proofs.YtjbbdggckagphaaGreatDoor.R
/-
  Rows of pointers made out of others; the refs of a table, written out.
-/
namespace Go.Proofs.YtjbbdggckagphaaGreatDoor.R
open Go.RowKit

theorem POwn.made {w : World} {B n cap : Nat} (h : w.ownsRow B 73 1 (.slice (some ⟨n, 0, none⟩) 0 cap) 0 []) : POwn w B (some ⟨n, 0, none⟩) cap [] := h
theorem eraseN_eq (l : List Nat) (k : Nat) : ([] ++ l.take k) ++ l.drop (k + 1) = l.eraseIdx k := by rw [List.nil_append, List.eraseIdx_eq_take_drop_succ]
theorem POwn.alloc {w : World} {B : Nat} {A : Option Addr} {cap : Nat} {l : List Nat} (h : POwn w B A cap l) (o : Obj) : POwn (w.alloc o) B A cap l := h.below ((Below.refl _ _).alloc (Nat.le_refl _) o)
def RetP (B : Nat) (l : List Nat) (w : World) (e : Ending) (w' : World) : Prop := ∃ A cap, l.length ≤ cap ∧ e = .returned (.slice A l.length cap) ∧ POwn w' B A cap l ∧ Below B w w'

theorem withN_eq (bs : List Nat) (k g : Nat) : (([] ++ bs.take k) ++ [g]) ++ bs.drop k = bs.take k ++ g :: bs.drop k := by simp
set_option maxRecDepth 100000 in
set_option maxHeartbeats 2000000 in
theorem withR_any (A : Option Addr) (l : List Pr) (cap : Nat) (bs : List Nat) (g : Nat) (k v : ByteArray) (w : World) (lo : Nat) (hl : l.length ≤ 65536) (hp : PRefs w lo A cap bs l) (hr : risesTo l l.length) (hg : RefAt w g (k, v)) (hh : hasB l k = false) :
    Calls Tryz.prog 98 #[.slice A l.length cap, .pointer (some ⟨g, 0, none⟩)] w (RetP w.heap.size (bs.take (atN l k) ++ g :: bs.drop (atN l k)) w) := by
  obtain ⟨i0, hi, hz0, hz1, hz2⟩ := info_parts infoR
  have P := hide hp
  have HR := hide hr
  have c0 := hg.c1
  have hme := method_rsortKey
  have hle := atN_le l k
  have hcap := hp.1.cap_le
  have hbl := hp.2.1
  clear hp hr hg
  go_enter Tryz.func98, Tryz.ntmps98
  go_wp2_with fail
  refine (rsortKey_any g k _ c0).mono ?_
  rintro e w0 ⟨rfl, rfl⟩
  go_wp2_with fail
  refine (placeR_any A l cap k _ hl P.out.rin HR.out).mono ?_
  rintro e w1 ⟨rfl, b1⟩
  rw [hh]
  have B1 := hide b1
  have QI1 := hide (P.out.below b1).1.qin
  clear b1 c0 hme
  have K1 := run_cutP_h 68 Tryz.underlying68 A l.length cap (atN l k) (by omega)
  have K2 := run_cutP_l 68 Tryz.underlying68 A l.length cap (atN l k) (by omega)
  have IN1 := hide (QI1.out.take cap (atN l k))
  have IN2 := hide (QI1.out.drop hcap (atN l k))
  have E1 := hide (show (bs.take (atN l k)).length = atN l k by rw [List.length_take]; omega)
  have E2 := hide (show (bs.drop (atN l k)).length = l.length - atN l k by rw [List.length_drop, hbl])
  have E3 := hide (withN_eq bs (atN l k) g)
  clear QI1 P
  generalize bs.take (atN l k) = la at *
  generalize bs.drop (atN l k) = lb at *
  generalize atN l k = m at *
  generalize l.length = n at *
  go_wp2_with (at_make; refine wpList_make_own _ rfl _ _ 68 rfl w1.heap.size 73 i0 _ 1 Tryz.underlying68 hi hz0 hz1 _ _ _ (n + 1) rfl rfl (by omega) (by rw [hz2]; omega) (by unfold maxLen; omega) (Nat.le_refl _) ?_)
  intro w2 own2 g2
  have O2 := hide (POwn.made own2)
  have B2 := hide ((Below.refl w1.heap.size w1).grown g2 (Nat.le_refl _) (by simp))
  clear own2 g2
  go_wp2_with (first
    | (at_builtin; refine wpList_appP 68 Tryz.underlying68 rfl (.tmp 25) (.tmp 28) rfl rfl rfl rfl E1.out.symm O2.out (IN1.out.below B2.out) B2.out.size (by rw [E1.out]; simp; omega) ?_; intro A3 cap3 w3 own3 g3 r3; have B3 := hide (B2.out.trans (O2.out.grownBelow g3 B2.out.size)); have O3 := hide own3; clear own3 g3 r3)
    | (at_builtin; refine wpList_appP (l' := [g]) 68 Tryz.underlying68 rfl (.tmp 30) (.tmp 32) rfl rfl rfl (by simp) rfl (O3.out.alloc _) (QIn.one g _ rfl) (Nat.le_trans B3.out.size (by simp)) (by rw [List.length_append, E1.out]; simp; omega) ?_; intro A4 cap4 w4 own4 g4 r4; have b4 := (O3.out.alloc (.cells #[pv g] 73)).grownBelow g4 (Nat.le_trans B3.out.size (by simp)); have b4' := ((Below.refl w1.heap.size w3).alloc B3.out.size (.cells #[pv g] 73)).trans b4; have B4 := hide (B3.out.trans b4'); have O4 := hide own4; clear own4 g4 r4 b4 b4')
    | (at_builtin; refine wpList_appP 68 Tryz.underlying68 rfl (.tmp 34) (.tmp 37) rfl rfl rfl (by simp) E2.out.symm O4.out (IN2.out.below B4.out) B4.out.size (by rw [List.length_append, List.length_append, E1.out, E2.out]; simp; omega) ?_; intro A5 cap5 w5 own5 g5 r5; have b5 := O4.out.grownBelow g5 B4.out.size; have B5 := hide (B4.out.trans b5); have O5 := hide own5; clear own5 g5 r5 b5))
  go_ret
  have O6 := O5.out
  rw [E3.out] at O6
  exact ⟨A5, cap5, O6.cap_le, by rw [← E3.out]; simp, O6.more B1.out.size, B1.out.trans (B5.out.mono B1.out.size)⟩

set_option maxRecDepth 100000 in
set_option maxHeartbeats 2000000 in
theorem refs_any (A : Option Addr) (l : List Pr) (cap : Nat) (w : World) (hl : l.length ≤ 65536) (hln : lens l) (hin : RIn w w.heap.size A l) :
    Calls Tryz.prog 63 #[.agg #[.slice A l.length cap]] w (RetOwn w.heap.size l w) := by
  obtain ⟨i0, hi, hz0, hz1, hz2⟩ := info_parts infoP
  have IN := hide hin
  have LN := hide hln
  have T := hide (TB.new w A l.length cap rfl)
  have bx : Hid (Below w.heap.size w (w.alloc (.cells #[.slice A l.length cap] 70))) := hide ((Below.refl _ _).alloc (Nat.le_refl _) _)
  have hz : (w.alloc (.cells #[.slice A l.length cap] 70)).heap.size = w.heap.size + 1 := by simp
  have r1 := T.out.c
  clear hin hln
  generalize hn : l.length = n at *
  have HN := hide hn
  clear hn
  go_enter Tryz.func63, Tryz.ntmps63
  go_wp2_with (at_make; refine wpList_make_own _ rfl _ _ 25 rfl (w.heap.size + 1) 66 i0 _ 2 Tryz.underlying25 hi hz0 hz1 _ _ _ n rfl rfl (by omega) (by rw [hz2]; omega) (by unfold maxLen; omega) (by simp) ?_)
  intro w1 own1 g1
  have O1 := hide (Own.made own1)
  have b1 := (Below.refl (w.heap.size + 1) (w.alloc (.cells #[.slice A n cap] 70))).grown g1 (by simp) (by simp)
  have B1 := hide (bx.out.trans (b1.mono (by omega)))
  have r2 := (T.out.below b1 (by omega)).c
  have zz := b1.size
  rw [hz] at zz
  clear own1 g1 b1 r1
  go_wp2
  go_loopw [3, 13] (fun ov iv wr => ∃ (k : Nat) (A2 : Option Addr) (cap2 : Nat), k ≤ n ∧ iv = .int .i64 k ∧ ov = .slice A2 k cap2 ∧ w.heap.size + 1 ≤ wr.heap.size ∧ Hid (Own wr (w.heap.size + 1) A2 cap2 (l.take k)) ∧ Hid (Below w.heap.size w wr)) (fun _ i _ => n - (intOf i).toNat)
  case atStart => exact ⟨0, _, n, Nat.zero_le _, rfl, rfl, by have := zz; omega, O1, B1⟩
  case round =>
    clear O1 B1
    obtain ⟨k, A2, cap2, hk, rfl, rfl, hz2', O, Q⟩ := hrel
    have hqs := Q.out.size
    by_cases hlt : k < n
    · have hkl : k < l.length := by rw [HN.out]; omega
      obtain ⟨b, off, rfl, hbB, hc⟩ := (IN.out.below Q.out) (by omega)
      obtain ⟨g, hg, c1, c2, c3⟩ := hc k hkl
      simp only [pv] at c1
      obtain ⟨s1, s2⟩ := LN.out k hkl
      have TK : Hid (l.take k ++ [((l[k]'hkl).1, (l[k]'hkl).2)] = l.take (k + 1)) := hide (by rw [List.take_succ_eq_append_getElem hkl])
      have LK : Hid ((l.take k).length = k) := hide (by rw [List.length_take]; omega)
      have hki : (k : Int) < (n : Int) := by omega
      clear hc
      generalize (l[k]'hkl).1 = x at *
      generalize (l[k]'hkl).2 = y at *
      go_wp2_with (at_builtin; refine wpList_app (l := l.take k) (l' := [(x, y)]) 25 Tryz.underlying25 rfl (.tmp 17) (.tmp 21) rfl rfl rfl LK.out.symm rfl (O.out.alloc _) (PIn.one wr x y s1 s2 _) (Nat.le_trans hz2' (by simp)) (by rw [LK.out]; simp; omega) ?_; intro A6 cap6 w6 own6 g6 r6; have B6 := hide (Q.out.trans (((Below.refl _ wr).alloc hqs (.cells #[.string x, .string y] 66)).trans (((O.out.alloc (.cells #[.string x, .string y] 66)).grownBelow (by rw [rowOf_own]; exact g6) (Nat.le_trans hz2' (by simp))).mono (by omega)))); have O6 := hide own6; have z6 := g6.size; clear own6 g6 r6)
      rw [TK.out] at O6
      have z7 : w.heap.size + 1 ≤ w6.heap.size := by simp at z6; omega
      exact ⟨⟨k + 1, A6, cap6, by omega, by go_num, (by simp; omega), z7, O6, B6⟩, by simp [intOf]; omega⟩
    · obtain rfl : k = n := by omega
      have TK : Hid (l.take k = l) := hide (by rw [← HN.out, List.take_length])
      have hkk : ¬ (k : Int) < (k : Int) := by omega
      rw [TK.out] at O
      go_wp2
      go_ret
      have hcc := O.out.cap_le
      exact ⟨A2, cap2, hcc, by rw [HN.out]; rfl, O.out.more (by omega), Q.out⟩
end Go.Proofs.YtjbbdggckagphaaGreatDoor.R
/-
  A ref that is set in a table.
-/
namespace Go.Proofs.YtjbbdggckagphaaGreatDoor.R
open Go.RowKit

theorem grown_setCell (w : World) (a : Addr) (u : Value) : w.grownBy (w.setCell a u) (some a.block) :=
  ⟨rfl, rfl, rfl, by simp, fun k _ hne => Below.heap_setCell w a u k (fun e => hne (by rw [e]))⟩
theorem POwn.kept {w w' : World} {B r : Nat} {A : Option Addr} {cap : Nat} {bs : List Nat} (h : POwn w B A cap bs) (hg : w.grownBy w' (some r)) (hne : rowOf A ≠ some r) : POwn w' B A cap bs := by
  refine World.ownsRow.kept h hg ?_
  rw [rowOf_own]
  cases e : rowOf A with
  | none => exact .inl rfl
  | some g => exact .inr (fun x => hne (by rw [e, x]))
/-- what reads as the refs l, told block by block -/
theorem rin_of {w : World} {B : Nat} {A : Option Addr} {cap : Nat} {bs : List Nat} {l : List Pr} (h : POwn w B A cap bs) (hl : bs.length = l.length) (hr : ∀ i (h : i < bs.length) (h' : i < l.length), RefAt w bs[i] l[i]) : RIn w w.heap.size A l := fun hp => by
  obtain ⟨b, off, e, hb, hc⟩ := h.qin (by rw [hl]; exact hp)
  refine ⟨b, off, e, hb, fun i hi => ?_⟩
  have hi' : i < bs.length := by rw [hl]; exact hi
  have h3 := hr i hi' hi
  exact ⟨bs[i], h3.lt, hc i hi', h3.c1, h3.c2⟩
theorem RefAt.setId {w : World} {g : Nat} {p : Pr} (h : RefAt w g p) (v : ByteArray) : RefAt (w.setCell ⟨g, 1, none⟩ (.string v)) g (p.1, v) := box_set h 1 _
theorem RefAt.other {w : World} {g : Nat} {p : Pr} (h : RefAt w g p) (a : Addr) (u : Value) (hne : g ≠ a.block) : RefAt (w.setCell a u) g p := (Below.heap_setCell w a u g hne).trans h
theorem setL_has {l : List Pr} {k v : ByteArray} (hlt : atN l k < l.length) (he : l[atN l k].1 = k) : setL l k v = l.set (atN l k) (l[atN l k].1, v) := by
  unfold setL
  rw [if_pos (hasB_yes hlt he), List.set_eq_take_append_cons_drop, if_pos hlt, he]
theorem setL_new {l : List Pr} {k v : ByteArray} (hh : hasB l k = false) : setL l k v = l.take (atN l k) ++ (k, v) :: l.drop (atN l k) := by
  unfold setL
  rw [hh]
  rfl
theorem lens_set {l : List Pr} {k v : ByteArray} (h : lens l) (hk : k.size ≤ maxLen) (hv : v.size ≤ maxLen) : lens (setL l k v) := by
  intro i hi
  have hm : (setL l k v)[i] ∈ setL l k v := List.getElem_mem hi
  have hall : ∀ p ∈ setL l k v, p.1.size ≤ maxLen ∧ p.2.size ≤ maxLen := by
    intro p hp
    unfold setL at hp
    rw [List.mem_append, List.mem_cons] at hp
    have hl : ∀ p ∈ l, p.1.size ≤ maxLen ∧ p.2.size ≤ maxLen := fun p hp => by
      obtain ⟨i, hi, rfl⟩ := List.mem_iff_getElem.1 hp
      exact h i hi
    rcases hp with hp | rfl | hp
    · exact hl p (List.mem_of_mem_take hp)
    · exact ⟨hk, hv⟩
    · exact hl p (List.mem_of_mem_drop hp)
  exact hall _ hm

def SetRet (l : List Pr) (k v : ByteArray) (tb lo : Nat) (w : World) (e : Ending) (w' : World) : Prop :=
  e = .returned (.tuple #[]) ∧ Below lo w w' ∧ ∃ A cap, TB w' tb A (setL l k v).length cap ∧ RIn w' w'.heap.size A (setL l k v)

set_option maxRecDepth 100000 in
set_option maxHeartbeats 2000000 in
theorem set_any (A : Option Addr) (l : List Pr) (cap : Nat) (bs : List Nat) (k v : ByteArray) (w : World) (tb lo : Nat) (hl : l.length ≤ 65536) (ht : TB w tb A l.length cap) (hlo : lo ≤ tb) (hp : PRefs w lo A cap bs l) (hr : risesTo l l.length) (htr : rowOf A ≠ some tb) (htb : ∀ g ∈ bs, g ≠ tb) :
    Calls Tryz.prog 62 #[.pointer (some ⟨tb, 0, none⟩), .string k, .string v] w (SetRet l k v tb lo w) := by
  have T := hide ht
  have P := hide hp
  have HR := hide hr
  have TR := hide htr
  have TBN := hide htb
  have r1 := ht.c
  have hlw : lo ≤ w.heap.size := by have := ht.lt; omega
  clear ht hp hr htr htb
  go_enter Tryz.func62, Tryz.ntmps62
  go_wp2_with fail
  refine (named_any A l cap bs k _ lo hl P.out HR.out).mono ?_
  rintro e w1 ⟨b1, ⟨hh, rfl⟩ | ⟨hh, hlb, rfl⟩⟩
  · -- a new name
    have T1 := hide (T.out.below b1 T.out.lt)
    have P1 := hide (P.out.below b1)
    have B1 := hide b1
    have hz := T1.out.lt
    have bx : Hid (Below w1.heap.size w1 (w1.alloc (.cells #[.string k, .string v] 66))) := hide ((Below.refl _ _).alloc (Nat.le_refl _) _)
    have RA : Hid (RefAt (w1.alloc (.cells #[.string k, .string v] 66)) w1.heap.size (k, v)) := hide (heap_alloc_new w1 (.cells #[.string k, .string v] 66))
    have r2 := T1.out.c
    have HH := hide hh
    have ES := hide (setL_new (v := v) hh)
    clear b1 r1
    go_wp2_with fail
    refine (withR_any A l cap bs w1.heap.size k v _ lo hl (P1.out.below bx.out) HR.out RA.out HH.out).mono ?_
    rintro e w3 ⟨A3, cap3, hc3, rfl, own3, b3⟩
    have T3 := hide ((T1.out.below bx.out hz).below b3 (by simp; omega))
    have f3 := T3.out.frozen 0
    have r3 := T3.out.c
    have B3 := hide ((B1.out.trans ((bx.out.mono B1.out.size).trans (b3.mono (Nat.le_trans B1.out.size bx.out.size)))).mono hlw)
    have RA3 : Hid (RefAt w3 w1.heap.size (k, v)) := hide ((b3.block w1.heap.size (by simp)).trans RA.out)
    have P3 := hide ((P1.out.below bx.out).below b3)
    have hrow3 := own3.row
    have O3 := hide own3
    have hz3 : tb < (w1.alloc (.cells #[.string k, .string v] 66)).heap.size := by simp; omega
    have L3 : Hid ((bs.take (atN l k) ++ w1.heap.size :: bs.drop (atN l k)).length = (setL l k v).length) := hide (by
      rw [ES.out]
      simp only [List.length_append, List.length_cons, List.length_take, List.length_drop, P.out.2.1])
    have NR : Hid (rowOf A3 ≠ some tb) := hide (fun x => by have := (hrow3 tb x).1; omega)
    clear own3 b3 hrow3
    rw [L3.out]
    go_wp2
    refine bodyPost_ret (v := .tuple #[]) (by simp [results, Tryz.results62, go_sem]) rfl ⟨rfl, B3.out.setCell (p := ⟨tb, 0, none⟩) hlo _, A3, cap3, T3.out.set, ?_⟩
    generalize Value.slice A3 (setL l k v).length cap3 = u
    have O4 := O3.out.kept (grown_setCell w3 ⟨tb, 0, none⟩ u) NR.out
    refine rin_of O4 L3.out fun i hi hi' => ?_
    have hle : atN l k ≤ bs.length := by rw [P.out.2.1]; exact atN_le l k
    have ht1 : (bs.take (atN l k)).length = atN l k := by rw [List.length_take]; omega
    have ht2 : (l.take (atN l k)).length = atN l k := by rw [List.length_take, ← P.out.2.1]; omega
    have old : ∀ j (hj : j < bs.length) (hj' : j < l.length), RefAt (w3.setCell ⟨tb, 0, none⟩ u) bs[j] l[j] := fun j hj hj' =>
      (P3.out.2.2.2.2 j hj hj').2.2.other _ _ (TBN.out _ (List.getElem_mem hj))
    simp only [ES.out]
    rcases Nat.lt_trichotomy i (atN l k) with g | g | g
    · rw [List.getElem_append_left (by omega), List.getElem_append_left (by omega), List.getElem_take, List.getElem_take]
      exact old i (by omega) (by rw [← P.out.2.1]; omega)
    · subst g
      rw [List.getElem_append_right (by omega), List.getElem_append_right (by omega)]
      simp only [ht1, ht2, Nat.sub_self, List.getElem_cons_zero]
      exact RefAt.other RA3.out _ _ (by simp; omega)
    · obtain ⟨d, hd⟩ : ∃ d, i = atN l k + (d + 1) := ⟨i - atN l k - 1, by omega⟩
      subst hd
      rw [List.getElem_append_right (by omega), List.getElem_append_right (by omega)]
      simp only [ht1, ht2, Nat.add_sub_cancel_left, List.getElem_cons_succ, List.getElem_drop]
      have hi2 : atN l k + d < bs.length := by rw [List.length_append, List.length_cons, List.length_drop, ht1] at hi; omega
      exact old (atN l k + d) hi2 (by rw [← P.out.2.1]; exact hi2)
  · -- a name that is there
    obtain ⟨hlt, he⟩ := hasB_iff.1 hh
    have T1 := hide (T.out.below b1 T.out.lt)
    have P1 := hide (P.out.below b1)
    have B1 := hide (b1.mono hlw)
    obtain ⟨g1, g2, g3⟩ := P1.out.2.2.2.2 (atN l k) hlb hlt
    have c2 := g3.c2
    have f2 := g3.frozen 1
    have RA := hide g3
    have ES := hide (setL_has (v := v) hlt he)
    have LB := hide hlb
    have NT : Hid (bs[atN l k]'hlb ≠ tb) := hide (TBN.out _ (List.getElem_mem hlb))
    have GL := hide g1
    have GR := hide g2
    clear b1 r1 g3 g1 g2
    generalize hgg : bs[atN l k]'hlb = g at *
    have HG := hide hgg
    clear hgg
    generalize hv0 : (l[atN l k]'hlt).2 = v0 at c2
    clear hv0
    go_wp2
    refine bodyPost_ret (v := .tuple #[]) (by simp [results, Tryz.results62, go_sem]) rfl ⟨rfl, B1.out.setCell (p := ⟨g, 1, none⟩) GL.out _, A, cap, ?_, ?_⟩
    · rw [ES.out, List.length_set]
      exact T1.out.other _ _ (fun x => NT.out x.symm)
    · rw [ES.out]
      refine rin_of (P1.out.1.kept (grown_setCell w1 ⟨g, 1, none⟩ (.string v)) GR.out) (by rw [List.length_set]; exact P1.out.2.1) fun i hi hi' => ?_
      rw [List.length_set] at hi'
      rw [List.getElem_set]
      split
      next e =>
        subst e
        rw [HG.out]
        exact RA.out.setId v
      next e =>
        refine (P1.out.2.2.2.2 i hi hi').2.2.other _ _ ?_
        show bs[i] ≠ g
        rw [← HG.out]
        intro x
        have hnd := List.pairwise_iff_getElem.1 P1.out.2.2.1
        rcases Nat.lt_or_gt_of_ne e with h | h
        · exact hnd (atN l k) i LB.out hi h x.symm
        · exact hnd i (atN l k) hi LB.out h x
end Go.Proofs.YtjbbdggckagphaaGreatDoor.R
/-
  What impl.SetRef, impl.SwapRef, impl.DropRef answer.
-/
namespace Go.Proofs.YtjbbdggckagphaaGreatDoor.R
open Go.RowKit

theorem row_ne {w : World} {lo : Nat} {A : Option Addr} {cap : Nat} {bs : List Nat} {l : List Pr} (h : PRefs w lo A cap bs l) {s : Nat} (hs : w.heap.size = s) : rowOf A ≠ some s ∧ ∀ g ∈ bs, g ≠ s := by
  subst hs
  refine ⟨fun x => by have := (h.1.row _ x).2; omega, fun g hg => ?_⟩
  obtain ⟨i, hi, rfl⟩ := List.mem_iff_getElem.1 hg
  have := (h.2.2.2.2 i hi (by rw [← h.2.1]; exact hi)).2.2.lt
  omega

set_option maxRecDepth 100000 in
set_option maxHeartbeats 2000000 in
theorem implSetRef_any (A : Option Addr) (l : List Pr) (cap : Nat) (k v : ByteArray) (w : World) (hl : l.length ≤ maxLen) (hin : PIn w w.heap.size A l) (hks : k.size ≤ maxLen) (hvs : v.size ≤ maxLen) :
    Calls Tryz.prog 31 #[.slice A l.length cap, .string k, .string v] w (RetOwnB w.heap.size (stL l k v) (stB l k v) w) := by
  have R := hide (refsOf_any A l cap w hl hin)
  go_enter Tryz.func31, Tryz.ntmps31
  go_wp2_with fail
  refine R.out.mono ?_
  rintro e w1 ⟨b1, ⟨h, rfl⟩ | ⟨h, A2, cap2, bs, rfl, p1⟩⟩
  · have Z := hide (stB_not (l := l) (k := k) (v := v) (fun z => by rw [h] at z; exact absurd z.1 (by simp)))
    go_wp2
    go_ret2
    exact retOwnB_no (stL_no Z.out) Z.out (b1.alloc b1.size _)
  · have h20 := (refB_iff.1 h).1
    have HR := hide (refB_iff.1 h).2.2
    have HB := hide h
    have hln := p1.2.2.2.1
    have LN := hide hln
    have T := hide (TB.new w1 A2 l.length cap2 rfl)
    have bx : Hid (Below w1.heap.size w1 (w1.alloc (.cells #[.slice A2 l.length cap2] 70))) := hide ((Below.refl _ _).alloc (Nat.le_refl _) _)
    have NE := hide (row_ne p1 rfl)
    have P := hide (p1.below bx.out)
    have B1 := hide (b1.trans (bx.out.mono b1.size))
    have hw1 := b1.size
    have hsl := (len_set_le l k v).2
    clear p1 b1 h hln R hin
    cases hk : keyB k
    · have Z := hide (stB_not (l := l) (k := k) (v := v) (fun z => by rw [hk] at z; exact absurd z.2.1 (by simp)))
      go_wp2_with fail
      refine (keyOk_any k _ hks).mono ?_
      rintro e w' ⟨rfl, rfl⟩
      rw [hk]
      go_wp2
      go_ret2
      exact retOwnB_no (stL_no Z.out) Z.out B1.out
    cases hv : QI.idB v
    · have Z := hide (stB_not (l := l) (k := k) (v := v) (fun z => by rw [hv] at z; exact absurd z.2.2.1 (by simp)))
      go_wp2_with fail
      refine (keyOk_any k _ hks).mono ?_
      rintro e w' ⟨rfl, rfl⟩
      rw [hk]
      go_wp2_with fail
      refine (QI.implIdOk_any v _ hvs).mono ?_
      rintro e w' ⟨rfl, rfl⟩
      rw [hv]
      go_wp2
      go_ret2
      exact retOwnB_no (stL_no Z.out) Z.out B1.out
    have HK := hide hk
    have HV := hide hv
    have LS := hide (lens_set LN.out hks hvs)
    go_wp2_with fail
    refine (keyOk_any k _ hks).mono ?_
    rintro e w' ⟨rfl, rfl⟩
    rw [hk]
    go_wp2_with fail
    refine (QI.implIdOk_any v _ hvs).mono ?_
    rintro e w' ⟨rfl, rfl⟩
    rw [hv]
    clear hk hv
    go_wp2_with fail
    refine (set_any A2 l cap2 bs k v _ w1.heap.size w.heap.size (by omega) T.out hw1 P.out HR.out NE.out.1 NE.out.2).mono ?_
    rintro e w2 ⟨rfl, b2, A3, cap3, t3, in3⟩
    have B2 := hide (B1.out.trans b2)
    have r3 := t3.c
    have IN3 := hide in3
    clear b2 t3 in3
    by_cases hlen : 20 < (setL l k v).length
    · have Z := hide (stB_not (l := l) (k := k) (v := v) (fun z => by have := z.2.2.2; omega))
      have d : decide ((20 : Int) < ((setL l k v).length : Int)) = true := decide_eq_true (by omega)
      go_wp2
      go_ret2
      exact retOwnB_no (stL_no Z.out) Z.out B2.out
    · have Z := hide (stB_iff.2 ⟨HB.out, HK.out, HV.out, (show (setL l k v).length ≤ 20 by omega)⟩)
      have d : decide ((20 : Int) < ((setL l k v).length : Int)) = false := decide_eq_false (by omega)
      go_wp2_with fail
      refine (refs_any A3 (setL l k v) cap3 _ (by omega) LS.out IN3.out).mono ?_
      rintro e w4 ⟨A4, cap4, hc4, rfl, own4, b4⟩
      have B4 := hide (B2.out.trans (b4.mono B2.out.size))
      have O4 := hide (own4.more B2.out.size)
      clear b4 own4
      go_wp2
      go_ret2
      refine ⟨A4, cap4, ?_, ?_, ?_, B4.out⟩
      · rw [stL_yes Z.out]; exact hc4
      · rw [stL_yes Z.out, Z.out]; rfl
      · rw [stL_yes Z.out]; exact O4.out

end Go.Proofs.YtjbbdggckagphaaGreatDoor.R
/-
  Marks from a number that stands as an integer.
-/
namespace Go.Proofs.YtjbbdggckagphaaGreatDoor.R
open Go.RowKit
theorem markPairS_int (A : Option Addr) (l : List Pr) (cap : Nat) (x : Int) (k : Nat) (w : World) (B : Nat) (h : x = (k : Int)) (hk : 1 ≤ k) (hl : k + 2 * l.length ≤ 10000000) (hown : Own w B A cap l) :
    Calls Tryz.prog 21 #[.slice A l.length cap, .int .i64 x] w (MarkRet k w B A cap l.length) := by subst h; exact markPairS_any A l cap k w B hk hl hown
end Go.Proofs.YtjbbdggckagphaaGreatDoor.R
/-
  The laws of refs: plain mathematics.
-/
namespace Go.Proofs.YtjbbdggckagphaaGreatDoor.R
open Go.RowKit

theorem set_erase {l : List Pr} (h : Ris l) {k : ByteArray} (hh : hasB l k = true) : setL (l.eraseIdx (atN l k)) k (valOf l k) = l := by
  obtain ⟨v, hv⟩ := (has_iff h k).1 hh
  rw [val_of h hv]
  refine Ris.ext (ris_set (ris_erase h _) k v) h fun p => ?_
  rw [mem_set (ris_erase h _), mem_erase h hh]
  constructor
  · rintro (e | ⟨⟨e, _⟩, _⟩)
    · subst e; exact hv
    · exact e
  · intro e
    by_cases n : p.1 = k
    · left
      have : (k, p.2) ∈ l := by rw [← n]; exact e
      have := h.key this hv
      exact Prod.ext n this
    · exact .inr ⟨⟨e, n⟩, n⟩
theorem has_erase {l : List Pr} (h : Ris l) {k : ByteArray} (hh : hasB l k = true) (k' : ByteArray) : hasB (l.eraseIdx (atN l k)) k' = true ↔ k' ≠ k ∧ hasB l k' = true := by
  rw [has_iff (ris_erase h _), has_iff h]
  constructor
  · rintro ⟨x, hx⟩
    have := (mem_erase h hh _).1 hx
    exact ⟨this.2, x, this.1⟩
  · rintro ⟨n, x, hx⟩
    exact ⟨x, (mem_erase h hh _).2 ⟨hx, n⟩⟩

theorem refB_key' {l : List Pr} (h : refB l = true) {k : ByteArray} (hh : hasB l k = true) : keyB k = true ∧ QI.idB (valOf l k) = true := (refB_all.1 h).2.1 _ (mem_val hh)
theorem st_yes {l : List Pr} {k v : ByteArray} (h : stB l k v = true) : refB (stL l k v) = true ∧ stL l k v = setL l k v ∧ Ris l ∧ Ris (setL l k v) ∧ refB (setL l k v) = true := by
  obtain ⟨h1, h2, h3, h4⟩ := stB_iff.1 h
  have hs := refB_set h1 h2 h3 h4
  exact ⟨by rw [stL_yes h]; exact hs, stL_yes h, refB_ris h1, ris_set (refB_ris h1) k v, hs⟩
theorem st_got {l : List Pr} {k v : ByteArray} (h : stB l k v = true) : gotB (stL l k v) k = true ∧ gotV (stL l k v) k = v := by
  obtain ⟨h1, h2, h3, _, _⟩ := st_yes h
  rw [gotB_yes h1, gotV_yes h1, h2]
  exact ⟨(has_set h3 k v k).2 (.inl rfl), val_set h3 k v⟩
theorem st_other {l : List Pr} {k v a b : ByteArray} (h : stB l k v = true) (hm : (a, b) ∈ l) (hne : ¬ a = k) : gotB (stL l k v) a = true ∧ gotV (stL l k v) a = b := by
  obtain ⟨h1, h2, h3, _, _⟩ := st_yes h
  rw [gotB_yes h1, gotV_yes h1, h2]
  exact ⟨(has_set h3 k v a).2 (.inr ((has_iff h3 a).2 ⟨b, hm⟩)), by rw [val_set_ne h3 v hne]; exact val_of h3 hm⟩
theorem got_ref {l : List Pr} {k : ByteArray} (h : gotB l k = true) : refB l = true ∧ hasB l k = true := by
  cases e : refB l
  · rw [gotB_no e] at h; cases h
  · rw [gotB_yes e] at h; exact ⟨rfl, h⟩
theorem dr_yes {l : List Pr} {k : ByteArray} (h : gotB l k = true) : refB (drL l k) = true ∧ gotB (drL l k) k = false ∧ (drL l k).length + 1 = l.length := by
  obtain ⟨h1, h2⟩ := got_ref h
  obtain ⟨hlt, _⟩ := hasB_iff.1 h2
  have hr := refB_erase h1 (atN l k)
  rw [drL_yes h]
  refine ⟨hr, ?_, by rw [List.length_eraseIdx, if_pos hlt]; omega⟩
  rw [gotB_yes hr]
  cases e : hasB (l.eraseIdx (atN l k)) k
  · rfl
  · exact absurd rfl ((has_erase (refB_ris h1) h2 k).1 e).1
theorem dr_back {l : List Pr} {k : ByteArray} (h : gotB l k = true) : stB (drL l k) k (gotV l k) = true ∧ stL (drL l k) k (gotV l k) = l := by
  obtain ⟨h1, h2⟩ := got_ref h
  have hr := refB_erase h1 (atN l k)
  obtain ⟨hk, hv⟩ := refB_key' h1 h2
  have e : setL (drL l k) k (gotV l k) = l := by rw [drL_yes h, gotV_yes h1]; exact set_erase (refB_ris h1) h2
  have hs : stB (drL l k) k (gotV l k) = true := stB_iff.2 ⟨by rw [drL_yes h]; exact hr, hk, by rw [gotV_yes h1]; exact hv, by rw [e]; exact (refB_iff.1 h1).1⟩
  exact ⟨hs, by rw [stL_yes hs, e]⟩
theorem st_again {l : List Pr} {k v : ByteArray} (h : stB l k v = true) : stB (stL l k v) k v = true ∧ stL (stL l k v) k v = stL l k v := by
  obtain ⟨h1, h2, h3, h4, h5⟩ := st_yes h
  obtain ⟨_, g2, g3, g4⟩ := stB_iff.1 h
  have e : setL (stL l k v) k v = stL l k v := by rw [h2]; exact set_set h3 k v v
  have hs : stB (stL l k v) k v = true := stB_iff.2 ⟨h1, g2, g3, by rw [e, h2]; exact g4⟩
  exact ⟨hs, by rw [stL_yes hs, e]⟩
theorem sw_iff {l : List Pr} {k o v : ByteArray} : swB l k o v = true ↔ gotV l k = o ∧ stB l k v = true := by unfold swB; simp only [Bool.and_eq_true, decide_eq_true_eq]
theorem sw_again {l : List Pr} {k o v : ByteArray} (h : swB l k o v = true) : swB (swL l k o v) k o v = decide (v = o) := by
  obtain ⟨h1, h2⟩ := sw_iff.1 h
  rw [swL_yes h1]
  unfold swB
  rw [(st_again h2).1, (st_got h2).2, Bool.and_true]
theorem sw_back {l : List Pr} {k o v : ByteArray} (h : swB l k o v = true) (ho : ¬ o = ByteArray.empty) : swB (swL l k o v) k v o = true ∧ swL (swL l k o v) k v o = l := by
  obtain ⟨h1, h2⟩ := sw_iff.1 h
  obtain ⟨g1, g2, g3, g4⟩ := stB_iff.1 h2
  obtain ⟨e1, e2, e3, _, _⟩ := st_yes h2
  have hh : hasB l k = true := by
    cases e : hasB l k
    · exact absurd (by rw [← h1, gotV_yes g1, valOf_no e]) ho
    · rfl
  have hv : valOf l k = o := by rw [← gotV_yes g1]; exact h1
  have e : setL (stL l k v) k o = l := by rw [e2, set_set e3]; exact set_same e3 hh hv
  rw [swL_yes h1]
  have hs : stB (stL l k v) k o = true := stB_iff.2 ⟨e1, g2, by rw [← hv]; exact (refB_key' g1 hh).2, by rw [e]; exact (refB_iff.1 g1).1⟩
  have hg := (st_got h2).2
  exact ⟨sw_iff.2 ⟨hg, hs⟩, by rw [swL_yes hg, stL_yes hs, e]⟩
theorem gotV_size (l : List Pr) (k : ByteArray) (h : lens l) : (gotV l k).size ≤ maxLen := by
  have h0 : (ByteArray.empty).size ≤ maxLen := by simp [maxLen]
  cases hm : refB l
  · rw [gotV_no hm]; exact h0
  · rw [gotV_yes hm]
    cases hh : hasB l k
    · rw [valOf_no hh]; exact h0
    · obtain ⟨hlt, he⟩ := hasB_iff.1 hh
      rw [valOf_yes hlt he]
      exact (h _ hlt).2
/-- two names, in either order -/
theorem st_two {l : List Pr} {k v k' v' : ByteArray} (h : stB l k v = true) (hne : k ≠ k') (hk : keyB k' = true) (hv : QI.idB v' = true) (hl : l.length ≤ 18) :
    stB (stL l k v) k' v' = true ∧ stB l k' v' = true ∧ stB (stL l k' v') k v = true ∧ stL (stL l k v) k' v' = stL (stL l k' v') k v := by
  obtain ⟨g1, g2, g3, g4⟩ := stB_iff.1 h
  obtain ⟨e1, e2, e3, _, _⟩ := st_yes h
  have l1 := (len_set_le l k v).2
  have l2 := (len_set_le l k' v').2
  have l3 := (len_set_le (setL l k v) k' v').2
  have l4 := (len_set_le (setL l k' v') k v).2
  have a : stB (stL l k v) k' v' = true := stB_iff.2 ⟨e1, hk, hv, by rw [e2]; omega⟩
  have b : stB l k' v' = true := stB_iff.2 ⟨g1, hk, hv, by omega⟩
  obtain ⟨f1, f2, _, _, _⟩ := st_yes b
  have c : stB (stL l k' v') k v = true := stB_iff.2 ⟨f1, g2, g3, by rw [f2]; omega⟩
  exact ⟨a, b, c, by rw [stL_yes a, stL_yes c, e2, f2]; exact set_swap e3 v v' hne⟩
theorem st_over {l : List Pr} {k v v' : ByteArray} (h : stB l k v = true) (hv : QI.idB v' = true) (hl : l.length ≤ 18) : stB l k v' = true ∧ stB (stL l k v') k v = true ∧ stL (stL l k v') k v = stL l k v := by
  obtain ⟨g1, g2, g3, g4⟩ := stB_iff.1 h
  obtain ⟨_, e2, e3, _, _⟩ := st_yes h
  have l2 := (len_set_le l k v').2
  have b : stB l k v' = true := stB_iff.2 ⟨g1, g2, hv, by omega⟩
  obtain ⟨f1, f2, _, _, _⟩ := st_yes b
  have e : setL (stL l k v') k v = stL l k v := by rw [f2, e2]; exact set_set e3 k v v'
  have c : stB (stL l k v') k v = true := stB_iff.2 ⟨f1, g2, g3, by rw [e, e2]; exact g4⟩
  exact ⟨b, c, by rw [stL_yes c, e]⟩
end Go.Proofs.YtjbbdggckagphaaGreatDoor.R
/-
  What laws.sameMap answers.
-/
namespace Go.Proofs.YtjbbdggckagphaaGreatDoor.R
open Go.RowKit

set_option maxRecDepth 100000 in
set_option maxHeartbeats 1000000 in
theorem sameMap_any (A A' : Option Addr) (l l' : List Pr) (cap cap' : Nat) (w : World) (B B' : Nat) (hl : l.length ≤ maxLen) (hl' : l'.length ≤ maxLen) (hin : PIn w B A l) (hin' : PIn w B' A' l') :
    Calls Tryz.prog 10 #[.slice A l.length cap, .slice A' l'.length cap'] w fun e w' => e = .returned (.bool (eqL l l')) ∧ Quiet w w' := by
  unfold maxLen at hl hl'
  by_cases he : l.length = l'.length
  · rw [← he]
    rw [← he] at hl'
    generalize hn : l.length = n at *
    have HN := hide hn
    have HN' := hide he
    clear hn he hl'
    go_enter Tryz.func10, Tryz.ntmps10
    go_wp2
    go_loopw [5] (fun i wr => ∃ k : Nat, k ≤ n ∧ i = .int .i64 k ∧ Hid (l.take k = l'.take k) ∧ Hid (Quiet w wr)) (fun i _ => n - (intOf i).toNat)
    case atStart => exact ⟨0, Nat.zero_le _, rfl, rfl, Quiet.refl w⟩
    case round =>
      obtain ⟨k, hk, rfl, H, Q⟩ := hrel
      by_cases hlt : k < n
      · have hin2 := hin.quiet Q.out
        have hin2' := hin'.quiet Q.out
        have hkl : k < l.length := by rw [HN.out]; omega
        have hkl' : k < l'.length := by rw [← HN'.out]; omega
        obtain ⟨b, off, rfl, hbB, hc⟩ := hin2.2 (by omega)
        obtain ⟨b', off', rfl, hbB', hc'⟩ := hin2'.2 (by omega)
        obtain ⟨c1, c2⟩ := hc k hkl
        obtain ⟨c3, c4⟩ := hc' k hkl'
        by_cases hp : l[k]'hkl = l'[k]'hkl'
        · have Z : Hid (l.take (k + 1) = l'.take (k + 1)) := hide (by rw [List.take_succ_eq_append_getElem hkl, List.take_succ_eq_append_getElem hkl', H.out, hp])
          rw [← hp] at c3 c4
          generalize (l[k]'hkl).1 = s at *
          generalize (l[k]'hkl).2 = v at *
          clear hin hin2 hc hin' hin2' hc' hp
          go_wp2
          go_quiet (fail)
          go_wp2
          go_roundw
          case rel => exact ⟨k + 1, by omega, by go_num, Z, Q.out.drewN _⟩
          case measure => simp [intOf]; omega
        · have Z : Hid (eqL l l' = false) := hide (eqL_no (by rintro rfl; exact hp rfl))
          have hp2 : ¬ ((l[k]'hkl).1 = (l'[k]'hkl').1 ∧ (l[k]'hkl).2 = (l'[k]'hkl').2) := fun h => hp (Prod.ext h.1 h.2)
          generalize (l[k]'hkl).1 = s at *
          generalize (l[k]'hkl).2 = v at *
          generalize (l'[k]'hkl').1 = s' at *
          generalize (l'[k]'hkl').2 = v' at *
          clear hin hin2 hc hin' hin2' hc' hp
          by_cases h1 : s = s'
          · have h2 : ¬ v = v' := fun h => hp2 ⟨h1, h⟩
            subst h1
            have d2 := eqS_no h2
            clear hp2 h2
            go_wp2
            go_quiet (fail)
            go_wp2
            go_ret
            exact ⟨ret_bool Z.out.symm, Q.out.drewN _⟩
          · have d1 := eqS_no h1
            clear hp2 h1
            go_wp2
            go_quiet (fail)
            go_wp2
            go_ret
            exact ⟨ret_bool Z.out.symm, Q.out.drewN _⟩
      · obtain rfl : k = n := by omega
        have Z : Hid (eqL l l' = true) := hide (eqL_yes (by
          have h := H.out
          rw [List.take_of_length_le (by rw [HN.out]; exact Nat.le_refl _), List.take_of_length_le (by rw [← HN'.out]; exact Nat.le_refl _)] at h
          exact h))
        go_wp2
        go_ret
        exact ⟨ret_bool Z.out.symm, Q.out⟩
  · have Z : Hid (eqL l l' = false) := hide (eqL_no (by rintro rfl; exact he rfl))
    have d : ((l.length : Int) != (l'.length : Int)) = true := by simp; omega
    clear he
    go_enter Tryz.func10, Tryz.ntmps10
    go_wp2
    go_ret
    exact ⟨ret_bool Z.out.symm, Quiet.refl _⟩
end Go.Proofs.YtjbbdggckagphaaGreatDoor.R
/-
  What spec.Forward answers.
-/
namespace Go.Proofs.YtjbbdggckagphaaGreatDoor
open Go.RowKit

/-- may the ref go to this commit? -/
noncomputable def fwOk (l r : List Pr) (name id : ByteArray) : Bool := (rdOk (valOf l id) && repoB l) && !(R.gotB r name && !isAncV l (R.gotV r name) id)
noncomputable def fwB (l r : List Pr) (name id : ByteArray) : Bool := fwOk l r name id && R.stB r name id
noncomputable def fwL (l r : List Pr) (name id : ByteArray) : List Pr := if fwOk l r name id = true then R.stL r name id else []
theorem fw_no {l r : List Pr} {name id : ByteArray} (h : fwOk l r name id = false) : fwL l r name id = [] ∧ fwB l r name id = false := by
  unfold fwL fwB
  rw [h]
  exact ⟨rfl, rfl⟩
theorem fw_yes {l r : List Pr} {name id : ByteArray} (h : fwOk l r name id = true) : fwL l r name id = R.stL r name id ∧ fwB l r name id = R.stB r name id := by
  unfold fwL fwB
  rw [h]
  exact ⟨rfl, rfl⟩

set_option maxRecDepth 100000 in
set_option maxHeartbeats 1000000 in
theorem specForward_any (A : Option Addr) (l : List Pr) (cap : Nat) (A' : Option Addr) (r : List Pr) (cap' : Nat) (name id : ByteArray) (w : World) (hl : l.length ≤ maxLen) (hin : PIn w w.heap.size A l) (hz : ∀ k, (valOf l k).size ≤ 1048576) (hr : r.length ≤ maxLen) (hc : r.length ≤ cap') (hin' : PIn w w.heap.size A' r) (hn : name.size ≤ maxLen) (hid : id.size ≤ maxLen) :
    Calls Tryz.prog 9 #[.slice A l.length cap, .slice A' r.length cap', .string name, .string id] w (R.RetOwnB w.heap.size (fwL l r name id) (fwB l r name id) w) := by
  have I := hide (l5Is_any A l cap id w hl hin (hz id))
  have RO : Hid (∀ W, Below w.heap.size w W → Calls Tryz.prog 33 #[.slice A' r.length cap', .string name] W fun e w' => e = .returned (.tuple #[.string (R.gotV r name), .bool (R.gotB r name)]) ∧ Quiet W w') := hide (fun W hb => R.specRefOf_any A' r cap' name W w.heap.size hr (hin'.below hb))
  have IA : Hid (∀ W, Below w.heap.size w W → Calls Tryz.prog 34 #[.slice A l.length cap, .string (R.gotV r name), .string id] W fun e w' => e = .returned (.bool (isAncV l (R.gotV r name) id)) ∧ Below W.heap.size W w') := hide (fun W hb => specIsAncestor_any A l cap (R.gotV r name) id W hl ((hin.below hb).more hb.size) hz)
  have SR : Hid (∀ W, Below w.heap.size w W → Calls Tryz.prog 35 #[.slice A' r.length cap', .string name, .string id] W (R.RetOwnB W.heap.size (R.stL r name id) (R.stB r name id) W)) := hide (fun W hb => R.specSetRef_any A' r cap' name id W hr hc ((hin'.below hb).more hb.size) hn hid)
  have NO : Hid (fwOk l r name id = false → ∀ w', Below w.heap.size w w' → R.RetOwnB w.heap.size (fwL l r name id) (fwB l r name id) w (.returned (.tuple #[.slice none 0 0, .bool false])) w') := hide (fun h w' hb => by
    obtain ⟨h1, h2⟩ := fw_no h
    exact R.retOwnB_no h1 h2 hb)
  have YES := hide (fun h => fw_yes (l := l) (r := r) (name := name) (id := id) h)
  have OK : Hid (fwOk l r name id = ((rdOk (valOf l id) && repoB l) && !(R.gotB r name && !isAncV l (R.gotV r name) id))) := hide rfl
  clear hl hin hz hr hc hin' hn hid
  generalize l.length = ln at *
  generalize r.length = rn at *
  go_enter Tryz.func9, Tryz.ntmps9
  go_wp2_with fail
  refine I.out.mono ?_
  rintro e w1 ⟨rfl, b1⟩
  have B1 := hide b1
  clear b1 I
  cases hi : (rdOk (valOf l id) && repoB l)
  · have Z := hide (NO.out (by rw [OK.out, hi]; rfl) _ B1.out)
    clear hi NO YES OK
    go_wp2_with fail
    go_ret2
    exact Z.out
  · rw [hi] at OK
    clear hi
    have RR := hide (RO.out _ B1.out)
    go_wp2_with fail
    refine RR.out.mono ?_
    rintro e w2 ⟨rfl, q2⟩
    have B2 := hide (B1.out.trans ((q2.below _).mono B1.out.size))
    clear q2 RR RO B1
    have FIN : Hid (fwOk l r name id = true → ∀ W, Below w.heap.size w W → Calls Tryz.prog 35 #[.slice A' rn cap', .string name, .string id] W (R.RetOwnB w.heap.size (fwL l r name id) (fwB l r name id) w)) := hide (fun h W hb => (SR.out W hb).mono (by
      rintro e w' ⟨A5, cap5, hc5, rfl, o5, b5⟩
      obtain ⟨h1, h2⟩ := YES.out h
      rw [h1, h2]
      exact ⟨A5, cap5, hc5, rfl, o5.more hb.size, hb.trans (b5.mono hb.size)⟩))
    cases hg : R.gotB r name
    · have FF := hide (FIN.out (by rw [OK.out, hg]; rfl) _ B2.out)
      clear hg NO YES OK FIN IA SR
      generalize R.gotV r name = old at *
      go_wp2_with fail
      refine FF.out.mono ?_
      rintro e w5 ⟨A5, cap5, hc5, rfl, o5, b5⟩
      have Z : Hid (R.RetOwnB w.heap.size (fwL l r name id) (fwB l r name id) w (.returned (.tuple #[.slice A5 (fwL l r name id).length cap5, .bool (fwB l r name id)])) w5) := hide ⟨A5, cap5, hc5, rfl, o5, b5⟩
      clear hc5 o5 b5 FF
      generalize (fwL l r name id).length = fl at *
      go_wp2_with fail
      go_ret2
      exact Z.out
    · rw [hg] at OK
      have II := hide (IA.out _ B2.out)
      clear hg IA SR YES
      generalize R.gotV r name = old at *
      go_wp2_with fail
      refine II.out.mono ?_
      rintro e w3 ⟨rfl, b3⟩
      have B3 := hide (B2.out.trans (b3.mono B2.out.size))
      clear b3 II B2
      cases ha : isAncV l old id
      · have Z := hide (NO.out (by rw [OK.out, ha]; rfl) _ B3.out)
        clear ha NO OK FIN
        go_wp2_with fail
        go_ret2
        exact Z.out
      · have FF := hide (FIN.out (by rw [OK.out, ha]; rfl) _ B3.out)
        clear ha NO OK FIN
        go_wp2_with fail
        refine FF.out.mono ?_
        rintro e w5 ⟨A5, cap5, hc5, rfl, o5, b5⟩
        have Z : Hid (R.RetOwnB w.heap.size (fwL l r name id) (fwB l r name id) w (.returned (.tuple #[.slice A5 (fwL l r name id).length cap5, .bool (fwB l r name id)])) w5) := hide ⟨A5, cap5, hc5, rfl, o5, b5⟩
        clear hc5 o5 b5 FF
        generalize (fwL l r name id).length = fl at *
        go_wp2_with fail
        go_ret2
        exact Z.out
end Go.Proofs.YtjbbdggckagphaaGreatDoor
/-
  What impl.Forward answers.
-/
namespace Go.Proofs.YtjbbdggckagphaaGreatDoor
open Go.RowKit Go.Shelf Go.Maps

theorem comsAll_one (l : List Pr) (id : ByteArray) : comsAll l [id] = rdOk (valOf l id) := by
  cases h : rdOk (valOf l id)
  · exact comsAll_no fun hq => by have := hq id (by simp); rw [h] at this; cases this
  · exact comsAll_iff.2 fun q hq => by rw [List.mem_singleton] at hq; subst hq; exact h
set_option maxRecDepth 100000 in
set_option maxHeartbeats 1000000 in
theorem implForward_any (A : Option Addr) (l : List Pr) (cap : Nat) (A' : Option Addr) (r : List Pr) (cap' : Nat) (name id : ByteArray) (a : Addr) (w : World) (hl : l.length ≤ maxLen) (hin : PIn w w.heap.size A l) (hr : r.length ≤ maxLen) (hin' : PIn w w.heap.size A' r) (hn : name.size ≤ maxLen) (hid : id.size ≤ maxLen) (hT : Tabs w) (hE : ErrC w a) :
    Calls Tryz.prog 8 #[.slice A l.length cap, .slice A' r.length cap', .string name, .string id] w (R.RetOwnB w.heap.size (fwL l r name id) (fwB l r name id) w) := by
  have T := hide (repoOf_any A l cap a w hl hin hT hE)
  have NO : Hid (fwOk l r name id = false → ∀ w', Below w.heap.size w w' → R.RetOwnB w.heap.size (fwL l r name id) (fwB l r name id) w (.returned (.tuple #[.slice none 0 0, .bool false])) w') := hide (fun h w' hb => by
    obtain ⟨h1, h2⟩ := fw_no h
    exact R.retOwnB_no h1 h2 hb)
  have YES := hide (fun h => fw_yes (l := l) (r := r) (name := name) (id := id) h)
  have OK : Hid (fwOk l r name id = ((rdOk (valOf l id) && repoB l) && !(R.gotB r name && !isAncV l (R.gotV r name) id))) := hide rfl
  have RO : Hid (∀ W, Below w.heap.size w W → Calls Tryz.prog 11 #[.slice A' r.length cap', .string name] W fun e w' => e = .returned (.tuple #[.string (R.gotV r name), .bool (R.gotB r name)]) ∧ Below W.heap.size W w') := hide (fun W hb => R.implRefOf_any A' r cap' name W hr ((hin'.below hb).more hb.size))
  have SR : Hid (∀ W, Below w.heap.size w W → Calls Tryz.prog 31 #[.slice A' r.length cap', .string name, .string id] W (R.RetOwnB W.heap.size (R.stL r name id) (R.stB r name id) W)) := hide (fun W hb => R.implSetRef_any A' r cap' name id W hr ((hin'.below hb).more hb.size) hn hid)
  have VY := hide (fun h => isAncV_yes (l := l) h (R.gotV r name) id)
  clear hin hin' hT hE hl hr hn
  generalize l.length = ln at *
  generalize r.length = rn at *
  go_enter Tryz.func8, Tryz.ntmps8
  go_wp2_with fail
  refine T.out.mono ?_
  rintro e w1 ⟨b1, ⟨hf, rfl⟩ | ⟨hf, bt, bm, bc, B, vs, rfl, h1, h2, h3, h4, h5, tm, rm⟩⟩
  · have B1 := hide (b1.alloc b1.size (.cells #[.map none, .map none, .map none] 58))
    have Z := hide (NO.out (by rw [OK.out, hf]; simp) _ B1.out)
    clear b1 hf T NO YES OK RO SR VY B1
    go_wp2_with fail
    go_ret2
    exact Z.out
  · have HF := hide hf
    have b2 := (Below.refl w1.heap.size w1).alloc (Nat.le_refl _) (.cells #[.map (some bt), .map (some bm), .map (some bc)] 58)
    have B2 := hide (b1.trans (b2.mono b1.size))
    have XR := heap_alloc_new w1 (.cells #[.map (some bt), .map (some bm), .map (some bc)] 58)
    obtain ⟨w2, hw2⟩ : ∃ W, W = w1.alloc (.cells #[.map (some bt), .map (some bm), .map (some bc)] 58) := ⟨_, rfl⟩
    rw [← hw2] at b2 B2 XR
    have S2 : Hid (w2.heap.size = w1.heap.size + 1) := hide (by rw [hw2]; simp)
    have RM := hide (rm.below b2)
    have b3 := (Below.refl w2.heap.size w2).alloc (Nat.le_refl _) (.cells #[.string id] 9)
    have z3 : ZIn (w2.alloc (.cells #[.string id] 9)) (w2.heap.size + 1) (some ⟨w2.heap.size, 0, none⟩) [id] := ZIn.one id 9 rfl
    have hs3 : (w2.alloc (.cells #[.string id] 9)).heap.size = w2.heap.size + 1 := by simp
    have HC := hide (hasCommits_any bt bm bc B 60 l vs (some ⟨w2.heap.size, 0, none⟩) [id] 1 _ (by simp [maxLen]) (fun p hp => by rw [List.mem_singleton] at hp; subst hp; exact hid) (z3.more (by rw [hs3]; exact Nat.le_refl _)) (RM.out.below b3))
    rw [comsAll_one, show [id].length = 1 from rfl, S2.out] at HC
    have B3 := hide (B2.out.trans (b3.mono B2.out.size))
    have X3 := (b3.block w1.heap.size (by rw [S2.out]; omega)).trans XR
    have XR3 := hide X3
    have RM3 := hide (RM.out.below b3)
    have x0 := cell_of_row _ _ 0 _ _ _ XR
    have x1 := cell_of_row _ _ 1 _ _ _ XR
    have x2 := cell_of_row _ _ 2 _ _ _ XR
    rw [hw2] at x0 x1 x2
    clear b1 b2 b3 z3 X3 XR rm RM T h1 h2 h3 h4 h5 tm B2
    go_wp2_with fail
    rw [← hw2]
    refine HC.out.mono ?_
    rintro e w4 ⟨rfl, b4⟩
    have B4 := hide (B3.out.trans (b4.mono B3.out.size))
    have hlt3 : w1.heap.size < (w2.alloc (.cells #[.string id] 9)).heap.size := by rw [hs3, S2.out]; omega
    have X4 := hide ((b4.block w1.heap.size hlt3).trans XR3.out)
    have hlt4 : w1.heap.size < w4.heap.size := Nat.lt_of_lt_of_le hlt3 b4.size
    have RM4 := hide (RM3.out.below b4)
    clear b4 HC XR3 RM3 B3 hw2 x0 x1 x2 hlt3 hs3 S2
    cases hi : rdOk (valOf l id)
    · have Z := hide (NO.out (by rw [OK.out, hi]; simp) _ B4.out)
      clear hi NO YES OK RO SR VY B4 X4 RM4 HF
      go_wp2_with fail
      go_ret2
      exact Z.out
    · rw [hi, hf] at OK
      clear hi
      have RR := hide (RO.out _ B4.out)
      go_wp2_with fail
      refine RR.out.mono ?_
      rintro e w5 ⟨rfl, b5⟩
      have B5 := hide (B4.out.trans (b5.mono B4.out.size))
      have X5 := hide ((b5.block w1.heap.size hlt4).trans X4.out)
      have hlt5 : w1.heap.size < w5.heap.size := Nat.lt_of_lt_of_le hlt4 b5.size
      have RM5 := hide (RM4.out.below b5)
      clear b5 RR RO B4 X4 RM4
      have FIN : Hid (fwOk l r name id = true → ∀ W, Below w.heap.size w W → Calls Tryz.prog 31 #[.slice A' rn cap', .string name, .string id] W (R.RetOwnB w.heap.size (fwL l r name id) (fwB l r name id) w)) := hide (fun h W hb => (SR.out W hb).mono (by
        rintro e w' ⟨A5, cap5, hc5, rfl, o5, b5⟩
        obtain ⟨h1, h2⟩ := YES.out h
        rw [h1, h2]
        exact ⟨A5, cap5, hc5, rfl, o5.more hb.size, hb.trans (b5.mono hb.size)⟩))
      cases hg : R.gotB r name
      · have FF := hide (FIN.out (by rw [OK.out, hg]; rfl) _ B5.out)
        clear hg NO YES OK FIN SR VY X5 RM5
        generalize R.gotV r name = old at *
        go_wp2_with fail
        refine FF.out.mono ?_
        rintro e w6 ⟨A6, cap6, hc6, rfl, o6, b6⟩
        have Z : Hid (R.RetOwnB w.heap.size (fwL l r name id) (fwB l r name id) w (.returned (.tuple #[.slice A6 (fwL l r name id).length cap6, .bool (fwB l r name id)])) w6) := hide ⟨A6, cap6, hc6, rfl, o6, b6⟩
        clear hc6 o6 b6 FF
        generalize (fwL l r name id).length = fl at *
        go_wp2_with fail
        go_ret2
        exact Z.out
      · rw [hg] at OK
        have IA := hide (isAnc_any bt RM5.out hf (R.gotV r name) id hid w5 (Below.refl _ _))
        rw [← VY.out hf] at IA
        have x0 := cell_of_row _ _ 0 _ _ _ X5.out
        have x1 := cell_of_row _ _ 1 _ _ _ X5.out
        have x2 := cell_of_row _ _ 2 _ _ _ X5.out
        clear hg SR YES VY RM5
        generalize R.gotV r name = old at *
        go_wp2_with fail
        refine IA.out.mono ?_
        rintro e w6 ⟨rfl, b6⟩
        have B6 := hide (B5.out.trans (b6.mono B5.out.size))
        clear b6 IA B5 x0 x1 x2 X5
        cases ha : isAncV l old id
        · have Z := hide (NO.out (by rw [OK.out, ha]; rfl) _ B6.out)
          clear ha NO OK FIN
          go_wp2_with fail
          go_ret2
          exact Z.out
        · have FF := hide (FIN.out (by rw [OK.out, ha]; rfl) _ B6.out)
          clear ha NO OK FIN
          go_wp2_with fail
          refine FF.out.mono ?_
          rintro e w7 ⟨A7, cap7, hc7, rfl, o7, b7⟩
          have Z : Hid (R.RetOwnB w.heap.size (fwL l r name id) (fwB l r name id) w (.returned (.tuple #[.slice A7 (fwL l r name id).length cap7, .bool (fwB l r name id)])) w7) := hide ⟨A7, cap7, hc7, rfl, o7, b7⟩
          clear hc7 o7 b7 FF
          generalize (fwL l r name id).length = fl at *
          go_wp2_with fail
          go_ret2
          exact Z.out
end Go.Proofs.YtjbbdggckagphaaGreatDoor
/-
  How long the refs are that Forward answers.
-/
namespace Go.Proofs.YtjbbdggckagphaaGreatDoor
theorem fwL_len (l r : List Pr) (k id : ByteArray) : (fwL l r k id).length ≤ 20 := by
  unfold fwL
  split
  · exact R.stL_len _ _ _
  · simp
end Go.Proofs.YtjbbdggckagphaaGreatDoor
