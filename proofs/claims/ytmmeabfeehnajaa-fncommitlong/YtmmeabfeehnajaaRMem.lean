/-
  Words for memory: slices of pointers to refs; tables of refs of the call's own.
-/
import Derived.Test.YtmmeabfeehnajaaRMath
import Derived.Test.YtmmeabfeehnajaaQRow
import Derived.Maps.AppendAt
import Derived.Deep.Slices
namespace Go.Proofs.Ytmmeabfeehnajaa
open Go.RowKit

/-- a pointer to a block -/
def pv (g : Nat) : Value := .pointer (some ⟨g, 0, none⟩)
/-- the slice at A has the pointers to these blocks -/
def QIn (w : World) (B : Nat) (A : Option Addr) (bs : List Nat) : Prop :=
  0 < bs.length → ∃ b off, A = some ⟨b, off, none⟩ ∧ b < B ∧ ∀ i (h : i < bs.length), w.cell? ⟨b, off + i, none⟩ = some (pv bs[i])
theorem QIn.below {w w' : World} {B : Nat} {A : Option Addr} {bs : List Nat} (h : QIn w B A bs) (q : Below B w w') : QIn w' B A bs := fun hp => by
  obtain ⟨b, off, e, hb, hc⟩ := h hp
  exact ⟨b, off, e, hb, fun i hi => cellB q hb (hc i hi)⟩
theorem QIn.more {w : World} {B B' : Nat} {A : Option Addr} {bs : List Nat} (h : QIn w B A bs) (hB : B ≤ B') : QIn w B' A bs := fun hp => by
  obtain ⟨b, off, e, hb, hc⟩ := h hp
  exact ⟨b, off, e, by omega, hc⟩
def POwn (w : World) (B : Nat) (A : Option Addr) (cap : Nat) (bs : List Nat) : Prop := w.ownsRow B 63 1 (.slice A bs.length cap) bs.length (bs.map pv)
theorem POwn.nil (w : World) (B : Nat) : POwn w B none 0 [] := World.ownsRow_nil _ _ _ _
theorem POwn.form {w : World} {B : Nat} {A : Option Addr} {cap : Nat} {bs : List Nat} (h : POwn w B A cap bs) : (A = none ∧ cap = 0 ∧ bs = []) ∨ ∃ g, A = some ⟨g, 0, none⟩ ∧ B ≤ g ∧ g < w.heap.size := by
  rcases h.2 with ⟨e, e'⟩ | ⟨g, c, cur, e, hb, hg, _⟩
  · injection e with e1 e2 e3
    exact .inl ⟨e1, e3, List.eq_nil_of_length_eq_zero e2⟩
  · injection e with e1 e2 e3
    exact .inr ⟨g, e1, hb, (Array.getElem?_eq_some_iff.1 hg).1⟩
theorem POwn.qin {w : World} {B : Nat} {A : Option Addr} {cap : Nat} {bs : List Nat} (h : POwn w B A cap bs) : QIn w w.heap.size A bs := fun hp => by
  rcases h.form with ⟨_, _, rfl⟩ | ⟨g, rfl, _, hg⟩
  · simp at hp
  · refine ⟨g, 0, rfl, hg, fun i hi => ?_⟩
    have h1 := h.cellAt i (by omega)
    rw [Nat.zero_add]
    refine h1.trans ?_
    simp [hi]
theorem POwn.cap_le {w : World} {B : Nat} {A : Option Addr} {cap : Nat} {bs : List Nat} (h : POwn w B A cap bs) : bs.length ≤ cap := by
  rcases h.2 with ⟨e, e'⟩ | ⟨g, c, cur, e, _, _, hnc, _⟩
  · injection e with e1 e2 e3; omega
  · injection e with e1 e2 e3; omega
theorem POwn.below {w w' : World} {B : Nat} {A : Option Addr} {cap : Nat} {bs : List Nat} (h : POwn w B A cap bs) (hb : Below w.heap.size w w') : POwn w' B A cap bs := by
  refine World.ownsRow.kept h (Below.toGrown hb none) ?_
  cases hv : (Value.slice A bs.length cap).ownBlock <;> simp
theorem POwn.more {w : World} {B B' : Nat} {A : Option Addr} {cap : Nat} {bs : List Nat} (h : POwn w B A cap bs) (hB : B' ≤ B) : POwn w B' A cap bs := by
  refine ⟨h.1, ?_⟩
  rcases h.2 with e | ⟨g, c, cur, e, hb, r⟩
  · exact .inl e
  · exact .inr ⟨g, c, cur, e, Nat.le_trans hB hb, r⟩
theorem POwn.row {w : World} {B : Nat} {A : Option Addr} {cap : Nat} {bs : List Nat} (h : POwn w B A cap bs) : ∀ g, rowOf A = some g → B ≤ g ∧ g < w.heap.size := by
  intro g hg
  exact h.lt g (by rw [rowOf_own]; exact hg)
theorem POwn.grownBelow {w w' : World} {B : Nat} {A : Option Addr} {cap : Nat} {bs : List Nat} (h : POwn w B A cap bs) (hg : w.grownBy w' (rowOf A)) (hB : B ≤ w.heap.size) : Below B w w' :=
  (Below.refl B w).grown hg hB (fun k hk => (h.row k hk).1)
theorem QIn.one {w : World} (g : Nat) (t : TypeId) {s : Nat} (hs : w.heap.size = s) : QIn (w.alloc (.cells #[pv g] t)) (s + 1) (some ⟨s, 0, none⟩) [g] := fun _ => by
  subst hs
  refine ⟨w.heap.size, 0, rfl, by omega, fun i hi => ?_⟩
  obtain rfl : i = 0 := by simpa using hi
  exact cell_of_row _ w.heap.size 0 #[pv g] t (0, 0) (heap_alloc_new w (.cells #[pv g] t))
/-- where a slice of pointers that is cut from place k on begins -/
def cutP (A : Option Addr) (cap k : Nat) : Option Addr := if cap = k then A else A.map (·.add k)
theorem QIn.take {w : World} {B : Nat} {A : Option Addr} {bs : List Nat} (h : QIn w B A bs) (cap k : Nat) : QIn w B (cutP A cap 0) (bs.take k) := fun hp => by
  have e : cutP A cap 0 = A := by
    unfold cutP
    split
    · rfl
    · cases A <;> simp [Addr.add]
  rw [e]
  obtain ⟨b, off, e, hb, hc⟩ := h (by rw [List.length_take] at hp; omega)
  refine ⟨b, off, e, hb, fun i hi => ?_⟩
  rw [List.getElem_take]
  exact hc i (by rw [List.length_take] at hi; omega)
theorem QIn.drop {w : World} {B : Nat} {A : Option Addr} {bs : List Nat} (h : QIn w B A bs) {cap : Nat} (hc : bs.length ≤ cap) (k : Nat) : QIn w B (cutP A cap k) (bs.drop k) := fun hp => by
  rw [List.length_drop] at hp
  obtain ⟨b, off, e, hb, hc⟩ := h (by omega)
  refine ⟨b, off + k, ?_, hb, fun i hi => ?_⟩
  · unfold cutP
    rw [if_neg (by omega), e, Option.map_some, add_pl]
  · rw [List.length_drop] at hi
    rw [List.getElem_drop, Nat.add_assoc]
    exact hc (k + i) (by omega)
theorem infoR : (Try.prog.info? 63).map (fun i => (i.zero, i.size, i.bytes)) = some (some (.pointer none), 1, 8) := by kernel_rfl

section
variable (t ty : TypeId) (ht : Try.prog.underlying t = some (.slice 63))
include ht
set_option maxRecDepth 100000 in
theorem run_appP {w : World} {B B' : Nat} {A A' : Option Addr} {cap c : Nat} {l l' : List Nat} (hown : POwn w B A cap l) (hin : QIn w B' A' l') (hB : B ≤ w.heap.size) (hb : l.length + l'.length ≤ 3000000) :
    ∃ A2 cap2 w', (Builtin.append_ #[t, t] ty #[.slice A l.length cap, .slice A' l'.length c]).run Try.prog w = .ok (.slice A2 (l ++ l').length cap2) w' ∧ POwn w' B A2 cap2 (l ++ l') ∧ w.grownBy w' (rowOf A) ∧ (rowOf A2 = rowOf A ∨ rowOf A2 = some w.heap.size) := by
  obtain ⟨i, hi, hz0, hz1, hz2⟩ := info_parts infoR
  have hlen : (l ++ l').length = l.length + l'.length := List.length_append
  cases A' with
  | none =>
    have h0 : l' = [] := by
      rcases Nat.eq_zero_or_pos l'.length with e | e
      · exact List.eq_nil_of_length_eq_zero e
      · obtain ⟨_, _, x, _⟩ := hin e
        cases x
    subst h0
    refine ⟨A, cap, w, ?_, by simpa using hown, World.grownBy.refl _ _, .inl rfl⟩
    rcases hown.2 with ⟨e, e'⟩ | ⟨g, cap', cur, e, _, _, hnc, _⟩
    · injection e with e1 e2 e3
      subst e1 e3
      simp [Builtin.append_, run_underlying ht, sizeOf, typeInfo, hi, Builtin.lenOf, Builtin.firstCells, e2]
    · injection e with e1 e2 e3
      subst e1 e3
      simp [Builtin.append_, run_underlying ht, sizeOf, typeInfo, hi, Builtin.lenOf, Builtin.firstCells, hnc, storeCells]
  | some a =>
    have hcells : ∀ j u, (l'.map pv)[j]? = some u → w.cell? (a.add j) = some u := by
      intro j u hu
      have hj : j < l'.length := by
        have := (List.getElem?_eq_some_iff.1 hu).1
        rw [List.length_map] at this
        exact this
      obtain ⟨b, off, e, _, hc⟩ := hin (by omega)
      injection e with e
      subst e
      rw [add_pl, hc j hj, ← hu]
      simp [hj]
    obtain ⟨v', w', hrun, h2, h3, _, h5⟩ := run_append_own_at (P := Try.prog) w B t ty 63 i _ 1 8 ht hi hz0 hz1 hz2 rfl (by omega) (.slice A l.length cap) l.length (l.map pv) hown a l'.length c (l'.map pv) (by simp) hcells (by
        intro u hu
        obtain ⟨g, _, rfl⟩ := List.mem_map.1 hu
        rfl)
      (by simp only [maxLen]; omega) (by omega) hB
    have hv : ∃ A2 cap2, v' = .slice A2 (l.length + l'.length) cap2 := by
      rcases h2.2 with ⟨e, e'⟩ | ⟨g, cap', cur, e, _⟩
      · exact ⟨none, 0, by rw [e, e']⟩
      · exact ⟨_, _, e⟩
    obtain ⟨A2, cap2, rfl⟩ := hv
    refine ⟨A2, cap2, w', by rw [hlen]; exact hrun, ?_, by rw [← rowOf_own A l.length cap]; exact h3, ?_⟩
    · unfold POwn
      rw [hlen, List.map_append]
      exact h2
    · rw [rowOf_own, rowOf_own] at h5
      exact h5

theorem wp_appP {w : World} {o : Oper} {a : Act} {K : Act → World → Prop} {Q : Exit → Act → World → Prop} (s x : Operand)
    (ho : o.op = .call { callee := .builtin .append, args := #[s, x], argTypes := #[t, t] })
    {B B' : Nat} {A A' : Option Addr} {cap c n m : Nat} {l l' : List Nat} (hs : a.eval s = .slice A n cap) (hx : a.eval x = .slice A' m c) (hn : n = l.length) (hm : m = l'.length)
    (hown : POwn w B A cap l) (hin : QIn w B' A' l') (hB : B ≤ w.heap.size) (hb : l.length + l'.length ≤ 3000000)
    (h : ∀ A2 cap2 w', POwn w' B A2 cap2 (l ++ l') → w.grownBy w' (rowOf A) → (rowOf A2 = rowOf A ∨ rowOf A2 = some w.heap.size) → K (a.put o.dst (.slice A2 (l ++ l').length cap2)) w') : o.wp Try.prog a w K Q := by
  subst hn hm
  obtain ⟨A2, cap2, w', hrun, h2, h3, h4⟩ := run_appP t o.type ht (c := c) hown hin hB hb
  unfold Oper.wp execOp
  simp only [ho, resolve, invoke, builtin, Sem.run_bind, Sem.run_pure, Result.andThen_ok, List.map_toArray, List.map_cons, List.map_nil, hs, hx, hrun]
  exact h A2 cap2 w' h2 h3 h4

theorem wpList_appP {w : World} {ops : Array Oper} {rest : List Oper} {o : Oper} {a : Act} {Q : Exit → Act → World → Prop} (hgd : o.guard = none) (s x : Operand)
    (ho : o.op = .call { callee := .builtin .append, args := #[s, x], argTypes := #[t, t] })
    {B B' : Nat} {A A' : Option Addr} {cap c n m : Nat} {l l' : List Nat} (hs : a.eval s = .slice A n cap) (hx : a.eval x = .slice A' m c) (hn : n = l.length) (hm : m = l'.length)
    (hown : POwn w B A cap l) (hin : QIn w B' A' l') (hB : B ≤ w.heap.size) (hb : l.length + l'.length ≤ 3000000)
    (h : ∀ A2 cap2 w', POwn w' B A2 cap2 (l ++ l') → w.grownBy w' (rowOf A) → (rowOf A2 = rowOf A ∨ rowOf A2 = some w.heap.size) → wpList Try.prog ops Q rest (a.put o.dst (.slice A2 (l ++ l').length cap2)) w') : wpList Try.prog ops Q (o :: rest) a w :=
  wpList_plain hgd fun _ hK => wp_appP t ht s x ho hs hx hn hm hown hin hB hb fun A2 cap2 w' h2 h3 h4 => hK _ _ (h A2 cap2 w' h2 h3 h4)

theorem run_cutP_h (A : Option Addr) (n cap k : Nat) (hk : k ≤ cap) (w : World) : (Instr.slice t (.slice A n cap) none (some (.int .i64 (k : Int))) none).run Try.prog w = .ok (.slice (cutP A cap 0) k cap) w := by
  have hs : ((sizeOf 63).run Try.prog w) = .ok 1 w := by kernel_rfl
  have he : Try.prog.elem t = 63 := by simp [Program.elem, ht]
  rw [run_slice_h (P := Try.prog) (t := t) (a := A) (len := n) (cap := cap) (w := w) (by rw [he]; exact ht) .i64 k (by omega) (by omega), he, hs]
  simp [Result.andThen, sliced, cutP]
theorem run_cutP_l (A : Option Addr) (n cap k : Nat) (hk : k ≤ n) (w : World) : (Instr.slice t (.slice A n cap) (some (.int .i64 (k : Int))) none none).run Try.prog w = .ok (.slice (cutP A cap k) (n - k) (cap - k)) w := by
  have hs : ((sizeOf 63).run Try.prog w) = .ok 1 w := by kernel_rfl
  have he : Try.prog.elem t = 63 := by simp [Program.elem, ht]
  rw [run_slice_l (P := Try.prog) (t := t) (a := A) (len := n) (cap := cap) (w := w) (by rw [he]; exact ht) .i64 k (by omega) (by omega), he, hs]
  simp [Result.andThen, sliced, cutP]
end

/-- a block that holds one ref -/
def RefAt (w : World) (g : Nat) (p : Pr) : Prop := w.heap[g]? = some (.cells #[.string p.1, .string p.2] 37 (0, 0))
theorem RefAt.c1 {w : World} {g : Nat} {p : Pr} (h : RefAt w g p) : w.cell? ⟨g, 0, none⟩ = some (.string p.1) := cell_of_row _ g 0 _ _ (0, 0) h
theorem RefAt.c2 {w : World} {g : Nat} {p : Pr} (h : RefAt w g p) : w.cell? ⟨g, 1, none⟩ = some (.string p.2) := cell_of_row _ g 1 _ _ (0, 0) h
theorem RefAt.frozen {w : World} {g : Nat} {p : Pr} (h : RefAt w g p) (j : Nat) : w.frozen? ⟨g, j, none⟩ = false := by simp [World.frozen?, show w.heap[g]? = _ from h]
theorem RefAt.lt {w : World} {g : Nat} {p : Pr} (h : RefAt w g p) : g < w.heap.size := (Array.getElem?_eq_some_iff.1 h).1
/-- a table: its row of pointers, each to a ref of its own -/
def PRefs (w : World) (lo : Nat) (A : Option Addr) (cap : Nat) (bs : List Nat) (l : List Pr) : Prop :=
  POwn w lo A cap bs ∧ bs.length = l.length ∧ bs.Nodup ∧ lens l ∧ ∀ i (h : i < bs.length) (h' : i < l.length), lo ≤ bs[i] ∧ rowOf A ≠ some bs[i] ∧ RefAt w bs[i] l[i]
theorem PRefs.nil (w : World) (lo : Nat) : PRefs w lo none 0 [] [] := ⟨POwn.nil _ _, rfl, List.nodup_nil, lens_nil, fun _ h => absurd h (by simp)⟩
theorem PRefs.below {w w' : World} {lo : Nat} {A : Option Addr} {cap : Nat} {bs : List Nat} {l : List Pr} (h : PRefs w lo A cap bs l) (hb : Below w.heap.size w w') : PRefs w' lo A cap bs l :=
  ⟨h.1.below hb, h.2.1, h.2.2.1, h.2.2.2.1, fun i hi hi' => by
    obtain ⟨h1, h2, h3⟩ := h.2.2.2.2 i hi hi'
    exact ⟨h1, h2, (hb.block _ h3.lt).trans h3⟩⟩
theorem PRefs.more {w : World} {lo lo' : Nat} {A : Option Addr} {cap : Nat} {bs : List Nat} {l : List Pr} (h : PRefs w lo A cap bs l) (hB : lo' ≤ lo) : PRefs w lo' A cap bs l :=
  ⟨h.1.more hB, h.2.1, h.2.2.1, h.2.2.2.1, fun i hi hi' => by
    obtain ⟨h1, h2, h3⟩ := h.2.2.2.2 i hi hi'
    exact ⟨by omega, h2, h3⟩⟩
theorem PRefs.setLow {w : World} {lo : Nat} {A : Option Addr} {cap : Nat} {bs : List Nat} {l : List Pr} (h : PRefs w lo A cap bs l) {a : Addr} (ha : a.block < lo) (u : Value) : PRefs (w.setCell a u) lo A cap bs l :=
  ⟨ownsRow_setCell_below h.1 ha u, h.2.1, h.2.2.1, h.2.2.2.1, fun i hi hi' => by
    obtain ⟨h1, h2, h3⟩ := h.2.2.2.2 i hi hi'
    exact ⟨h1, h2, (Below.heap_setCell w a u _ (by omega)).trans h3⟩⟩
/-- what reads as refs behind pointers -/
def RIn (w : World) (B : Nat) (A : Option Addr) (l : List Pr) : Prop :=
  0 < l.length → ∃ b off, A = some ⟨b, off, none⟩ ∧ b < B ∧ ∀ i (h : i < l.length), ∃ g, g < B ∧ w.cell? ⟨b, off + i, none⟩ = some (pv g) ∧ w.cell? ⟨g, 0, none⟩ = some (.string l[i].1) ∧ w.cell? ⟨g, 1, none⟩ = some (.string l[i].2)
theorem RIn.below {w w' : World} {B : Nat} {A : Option Addr} {l : List Pr} (h : RIn w B A l) (q : Below B w w') : RIn w' B A l := fun hp => by
  obtain ⟨b, off, e, hb, hc⟩ := h hp
  refine ⟨b, off, e, hb, fun i hi => ?_⟩
  obtain ⟨g, h1, h2, h3, h4⟩ := hc i hi
  exact ⟨g, h1, cellB q hb h2, cellB q h1 h3, cellB q h1 h4⟩
theorem RIn.more {w : World} {B B' : Nat} {A : Option Addr} {l : List Pr} (h : RIn w B A l) (hB : B ≤ B') : RIn w B' A l := fun hp => by
  obtain ⟨b, off, e, hb, hc⟩ := h hp
  refine ⟨b, off, e, by omega, fun i hi => ?_⟩
  obtain ⟨g, h1, h2⟩ := hc i hi
  exact ⟨g, by omega, h2⟩
theorem PRefs.rin {w : World} {lo : Nat} {A : Option Addr} {cap : Nat} {bs : List Nat} {l : List Pr} (h : PRefs w lo A cap bs l) : RIn w w.heap.size A l := fun hp => by
  obtain ⟨b, off, e, hb, hc⟩ := h.1.qin (by rw [h.2.1]; exact hp)
  refine ⟨b, off, e, hb, fun i hi => ?_⟩
  have hi' : i < bs.length := by rw [h.2.1]; exact hi
  obtain ⟨_, _, h3⟩ := h.2.2.2.2 i hi' hi
  exact ⟨bs[i], h3.lt, hc i hi', h3.c1, h3.c2⟩
/-- one more ref -/
theorem PRefs.push {w w6 : World} {lo s : Nat} {A A6 : Option Addr} {cap cap6 : Nat} {bs : List Nat} {l : List Pr} {o1 o3 : Obj} {x y : ByteArray} (h : PRefs w lo A cap bs l) (hs : w.heap.size = s) (hlo : lo ≤ s)
    (hx : x.size ≤ maxLen) (hy : y.size ≤ maxLen)
    (hg : (((w.alloc o1).alloc (.cells #[.string x, .string y] 37)).alloc o3).grownBy w6 (rowOf A)) (hown : POwn w6 lo A6 cap6 (bs ++ [s + 1])) (hr : rowOf A6 = rowOf A ∨ rowOf A6 = some (s + 3)) : PRefs w6 lo A6 cap6 (bs ++ [s + 1]) (l ++ [(x, y)]) := by
  subst hs
  have hz1 : (w.alloc o1).heap.size = w.heap.size + 1 := by simp
  have hz3 : (((w.alloc o1).alloc (.cells #[.string x, .string y] 37)).alloc o3).heap.size = w.heap.size + 3 := by simp
  have hlt : ∀ i (hi : i < bs.length), bs[i] < w.heap.size := fun i hi => (h.2.2.2.2 i hi (by rw [← h.2.1]; exact hi)).2.2.lt
  refine ⟨hown, by simp [h.2.1], ?_, ?_, fun i hi hi' => ?_⟩
  · rw [List.nodup_append]
    refine ⟨h.2.2.1, by simp, fun a ha b hb => ?_⟩
    obtain ⟨i, hi, rfl⟩ := List.mem_iff_getElem.1 ha
    simp at hb
    have := hlt i hi
    omega
  · exact lens_append h.2.2.2.1 (fun i hi => by obtain rfl : i = 0 := by simpa using hi
                                                exact ⟨hx, hy⟩)
  · rcases Nat.lt_or_ge i bs.length with g | g
    · rw [List.getElem_append_left g, List.getElem_append_left (by rw [← h.2.1]; exact g)]
      obtain ⟨h1, h2, h3⟩ := h.2.2.2.2 i g (by rw [← h.2.1]; exact g)
      have hb := hlt i g
      refine ⟨h1, ?_, ?_⟩
      · rcases hr with e | e
        · rw [e]; exact h2
        · rw [e]; intro x; injection x with x; omega
      · have e1 := hg.block bs[i] (by omega) (fun x => h2 x.symm)
        unfold RefAt
        rw [e1, Below.heap_alloc _ _ _ (by simp; omega), Below.heap_alloc _ _ _ (by simp; omega), Below.heap_alloc _ _ _ hb]
        exact h3
    · have hi2 : i = bs.length := by rw [List.length_append] at hi; simp at hi; omega
      subst hi2
      have hrA : ∀ g, rowOf A = some g → g < w.heap.size := fun g hg => (h.1.row g hg).2
      rw [List.getElem_append_right (Nat.le_refl _), List.getElem_append_right (by rw [h.2.1]; exact Nat.le_refl _)]
      simp only [Nat.sub_self, List.getElem_cons_zero, h.2.1]
      refine ⟨by omega, ?_, ?_⟩
      · rcases hr with e | e
        · rw [e]; intro x; have := hrA _ x; omega
        · rw [e]; intro x; injection x with x; omega
      · have e1 := hg.block (w.heap.size + 1) (by omega) (fun x => by have := hrA _ x.symm; omega)
        unfold RefAt
        rw [e1, Below.heap_alloc _ _ _ (by simp)]
        have := heap_alloc_new (w.alloc o1) (.cells #[.string x, .string y] 37)
        rw [hz1] at this
        exact this
end Go.Proofs.Ytmmeabfeehnajaa
