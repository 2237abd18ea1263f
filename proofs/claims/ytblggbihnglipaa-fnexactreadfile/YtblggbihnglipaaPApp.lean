/-
  append, make and cuts over slices of pairs, in the words of PMem: what is appended to a row of the call's own is a row of the call's own.
-/
import Derived.Test.YtblggbihnglipaaPMem
import Derived.Test.YtblggbihnglipaaChecked
import Derived.Maps.AppendAt
import Derived.Deep.RegionLaw
import Derived.Deep.Slices
namespace Go.Proofs.Ytblggbihnglipaa
open Go.RowKit

theorem infoP : (Try.prog.info? 86).map (fun i => (i.zero, i.size, i.bytes)) = some (some (.agg #[.string ByteArray.empty, .string ByteArray.empty]), 2, 32) := by kernel_rfl

theorem add_pl (b off j : Nat) : (⟨b, off, none⟩ : Addr).add j = ⟨b, off + j, none⟩ := by unfold Addr.add; split <;> simp_all
/-- where a slice that is cut from place k on begins -/
def cutA (A : Option Addr) (cap k : Nat) : Option Addr := if cap = k then A else A.map (·.add (k * 2))
theorem PIn.take {w : World} {B : Nat} {A : Option Addr} {l : List Pr} (h : PIn w B A l) (cap k : Nat) : PIn w B (cutA A cap 0) (l.take k) := by
  have e : cutA A cap 0 = A := by
    unfold cutA
    split
    · rfl
    · cases A <;> simp [Addr.add]
  rw [e]
  refine ⟨fun i hi => ?_, fun hp => ?_⟩
  · have h2 : i < l.length := by rw [List.length_take] at hi; omega
    rw [List.getElem_take]
    exact h.1 i h2
  · obtain ⟨b, off, e, hb, hc⟩ := h.2 (by rw [List.length_take] at hp; omega)
    refine ⟨b, off, e, hb, fun i hi => ?_⟩
    have h2 : i < l.length := by rw [List.length_take] at hi; omega
    rw [List.getElem_take]
    exact hc i h2
theorem PIn.drop {w : World} {B : Nat} {A : Option Addr} {l : List Pr} (h : PIn w B A l) {cap : Nat} (hc : l.length ≤ cap) (k : Nat) : PIn w B (cutA A cap k) (l.drop k) := by
  refine ⟨fun i hi => ?_, fun hp => ?_⟩
  · have h2 : k + i < l.length := by rw [List.length_drop] at hi; omega
    rw [List.getElem_drop]
    exact h.1 _ h2
  · rw [List.length_drop] at hp
    obtain ⟨b, off, e, hb, hc⟩ := h.2 (by omega)
    refine ⟨b, off + k * 2, ?_, hb, fun i hi => ?_⟩
    · unfold cutA
      rw [if_neg (by omega), e, Option.map_some, add_pl]
    · have h2 : k + i < l.length := by rw [List.length_drop] at hi; omega
      rw [List.getElem_drop]
      have := hc (k + i) h2
      rw [show off + k * 2 + i * 2 = off + (k + i) * 2 by omega]
      exact this

theorem lens_append {a b : List Pr} (ha : lens a) (hb : lens b) : lens (a ++ b) := by
  intro i hi
  rcases Nat.lt_or_ge i a.length with g | g
  · rw [List.getElem_append_left g]; exact ha i g
  · rw [List.getElem_append_right g]; exact hb _ (by rw [List.length_append] at hi; omega)

theorem Own.grownBelow {w w' : World} {B : Nat} {A : Option Addr} {cap : Nat} {l : List Pr} (h : Own w B A cap l) (hg : w.grownBy w' (Value.slice A l.length cap).ownBlock) (hB : B ≤ w.heap.size) : Below B w w' :=
  (Below.refl B w).grown hg hB (fun k hk => (h.2.lt k hk).1)

/-- the row of a slice -/
def rowOf (A : Option Addr) : Option Nat := A.map (·.block)
theorem rowOf_own (A : Option Addr) (n cap : Nat) : (Value.slice A n cap).ownBlock = rowOf A := by cases A <;> rfl

section
variable (t ty : TypeId) (ht : Try.prog.underlying t = some (.slice 86))
include ht
set_option maxRecDepth 100000 in
theorem run_app {w : World} {B B' : Nat} {A A' : Option Addr} {cap c : Nat} {l l' : List Pr} (hown : Own w B A cap l) (hin : PIn w B' A' l') (hB : B ≤ w.heap.size) (hb : l.length + l'.length ≤ 3000000) :
    ∃ A2 cap2 w', (Builtin.append_ #[t, t] ty #[.slice A l.length cap, .slice A' l'.length c]).run Try.prog w = .ok (.slice A2 (l ++ l').length cap2) w' ∧ Own w' B A2 cap2 (l ++ l') ∧ w.grownBy w' (rowOf A) ∧ (rowOf A2 = rowOf A ∨ rowOf A2 = some w.heap.size) := by
  obtain ⟨i, hi, hz0, hz1, hz2⟩ := info_parts infoP
  have hlen : (l ++ l').length = l.length + l'.length := List.length_append
  cases A' with
  | none =>
    have h0 : l' = [] := by
      rcases Nat.eq_zero_or_pos l'.length with e | e
      · exact List.eq_nil_of_length_eq_zero e
      · obtain ⟨_, _, x, _⟩ := hin.2 e
        cases x
    subst h0
    refine ⟨A, cap, w, ?_, by simpa using hown, World.grownBy.refl _ _, .inl rfl⟩
    rcases hown.2.2 with ⟨e, e'⟩ | ⟨g, cap', cur, e, _, _, hnc, _⟩
    · injection e with e1 e2 e3
      subst e1 e3
      simp [Builtin.append_, run_underlying ht, sizeOf, typeInfo, hi, Builtin.lenOf, Builtin.firstCells, e2]
    · injection e with e1 e2 e3
      subst e1 e3
      simp [Builtin.append_, run_underlying ht, sizeOf, typeInfo, hi, Builtin.lenOf, Builtin.firstCells, hnc, storeCells]
  | some a =>
    have hcells : ∀ j u, (pcells l')[j]? = some u → w.cell? (a.add j) = some u := by
      intro j u hu
      have hj : j < l'.length * 2 := by
        rw [← pcells_length]
        exact (List.getElem?_eq_some_iff.1 hu).1
      obtain ⟨b, off, e, _, hc⟩ := hin.2 (by omega)
      injection e with e
      subst e
      rw [add_pl]
      obtain ⟨p1, p2⟩ := pcells_get l' (j / 2) (by omega)
      obtain ⟨c1, c2⟩ := hc (j / 2) (by omega)
      rcases Nat.mod_two_eq_zero_or_one j with h | h
      · have hj2 : j / 2 * 2 = j := by omega
        rw [hj2] at p1 c1
        rw [p1] at hu
        rw [c1, hu]
      · have hj2 : j / 2 * 2 + 1 = j := by omega
        rw [hj2] at p2
        rw [show off + j / 2 * 2 + 1 = off + j by omega] at c2
        rw [p2] at hu
        rw [c2, hu]
    obtain ⟨v', w', hrun, h2, h3, _, h5⟩ := run_append_own_at (P := Try.prog) w B t ty 86 i _ 2 32 ht hi hz0 hz1 hz2 rfl (by omega) (.slice A l.length cap) l.length (pcells l) hown.2 a l'.length c (pcells l') (pcells_length l') hcells (pcells_one l')
      (by simp only [maxLen]; omega) (by omega) hB
    have hv : ∃ A2 cap2, v' = .slice A2 (l.length + l'.length) cap2 := by
      rcases h2.2 with ⟨e, e'⟩ | ⟨g, cap', cur, e, _⟩
      · exact ⟨none, 0, by rw [e, e']⟩
      · exact ⟨_, _, e⟩
    obtain ⟨A2, cap2, rfl⟩ := hv
    refine ⟨A2, cap2, w', by rw [hlen]; exact hrun, ⟨lens_append hown.1 hin.1, ?_⟩, by rw [← rowOf_own A l.length cap]; exact h3, ?_⟩
    · rw [hlen, pcells_append]
      exact h2
    · rw [rowOf_own, rowOf_own] at h5
      exact h5

theorem wp_app {w : World} {o : Oper} {a : Act} {K : Act → World → Prop} {Q : Exit → Act → World → Prop} (s x : Operand)
    (ho : o.op = .call { callee := .builtin .append, args := #[s, x], argTypes := #[t, t] })
    {B B' : Nat} {A A' : Option Addr} {cap c n m : Nat} {l l' : List Pr} (hs : a.eval s = .slice A n cap) (hx : a.eval x = .slice A' m c) (hn : n = l.length) (hm : m = l'.length)
    (hown : Own w B A cap l) (hin : PIn w B' A' l') (hB : B ≤ w.heap.size) (hb : l.length + l'.length ≤ 3000000)
    (h : ∀ A2 cap2 w', Own w' B A2 cap2 (l ++ l') → w.grownBy w' (rowOf A) → (rowOf A2 = rowOf A ∨ rowOf A2 = some w.heap.size) → K (a.put o.dst (.slice A2 (l ++ l').length cap2)) w') : o.wp Try.prog a w K Q := by
  subst hn hm
  obtain ⟨A2, cap2, w', hrun, h2, h3, h4⟩ := run_app t o.type ht (c := c) hown hin hB hb
  unfold Oper.wp execOp
  simp only [ho, resolve, invoke, builtin, Sem.run_bind, Sem.run_pure, Result.andThen_ok, List.map_toArray, List.map_cons, List.map_nil, hs, hx, hrun]
  exact h A2 cap2 w' h2 h3 h4

theorem wpList_app {w : World} {ops : Array Oper} {rest : List Oper} {o : Oper} {a : Act} {Q : Exit → Act → World → Prop} (hgd : o.guard = none) (s x : Operand)
    (ho : o.op = .call { callee := .builtin .append, args := #[s, x], argTypes := #[t, t] })
    {B B' : Nat} {A A' : Option Addr} {cap c n m : Nat} {l l' : List Pr} (hs : a.eval s = .slice A n cap) (hx : a.eval x = .slice A' m c) (hn : n = l.length) (hm : m = l'.length)
    (hown : Own w B A cap l) (hin : PIn w B' A' l') (hB : B ≤ w.heap.size) (hb : l.length + l'.length ≤ 3000000)
    (h : ∀ A2 cap2 w', Own w' B A2 cap2 (l ++ l') → w.grownBy w' (rowOf A) → (rowOf A2 = rowOf A ∨ rowOf A2 = some w.heap.size) → wpList Try.prog ops Q rest (a.put o.dst (.slice A2 (l ++ l').length cap2)) w') : wpList Try.prog ops Q (o :: rest) a w :=
  wpList_plain hgd fun _ hK => wp_app t ht s x ho hs hx hn hm hown hin hB hb fun A2 cap2 w' h2 h3 h4 => hK _ _ (h A2 cap2 w' h2 h3 h4)

theorem step_app {w : World} {ops : Array Oper} {o : Oper} {a : Act} {K : Act → World → Prop} {Q : Exit → Act → World → Prop} {E : Prop} (hgd : o.guard = none) (s x : Operand)
    (ho : o.op = .call { callee := .builtin .append, args := #[s, x], argTypes := #[t, t] })
    {B B' : Nat} {A A' : Option Addr} {cap c n m : Nat} {l l' : List Pr} (hs : a.eval s = .slice A n cap) (hx : a.eval x = .slice A' m c) (hn : n = l.length) (hm : m = l'.length)
    (hown : Own w B A cap l) (hin : PIn w B' A' l') (hB : B ≤ w.heap.size) (hb : l.length + l'.length ≤ 3000000)
    (h : ∀ A2 cap2 w', Own w' B A2 cap2 (l ++ l') → w.grownBy w' (rowOf A) → (rowOf A2 = rowOf A ∨ rowOf A2 = some w.heap.size) → K (a.put o.dst (.slice A2 (l ++ l').length cap2)) w') :
    if Region.wanted o (yielded ops a.tmps) = true then Oper.wp Try.prog o a w K Q else E := by
  have hw : Region.wanted o (yielded ops a.tmps) = true := by simp [Region.wanted, hgd]
  rw [if_pos hw]
  exact wp_app t ht s x ho hs hx hn hm hown hin hB hb h

theorem run_cut_h (A : Option Addr) (n cap k : Nat) (hk : k ≤ cap) (w : World) : (Instr.slice t (.slice A n cap) none (some (.int .i64 (k : Int))) none).run Try.prog w = .ok (.slice (cutA A cap 0) k cap) w := by
  have hs : ((sizeOf 86).run Try.prog w) = .ok 2 w := by kernel_rfl
  have he : Try.prog.elem t = 86 := by simp [Program.elem, ht]
  rw [run_slice_h (P := Try.prog) (t := t) (a := A) (len := n) (cap := cap) (w := w) (by rw [he]; exact ht) .i64 k (by omega) (by omega), he, hs]
  simp [Result.andThen, sliced, cutA]
theorem run_cut_l (A : Option Addr) (n cap k : Nat) (hk : k ≤ n) (w : World) : (Instr.slice t (.slice A n cap) (some (.int .i64 (k : Int))) none none).run Try.prog w = .ok (.slice (cutA A cap k) (n - k) (cap - k)) w := by
  have hs : ((sizeOf 86).run Try.prog w) = .ok 2 w := by kernel_rfl
  have he : Try.prog.elem t = 86 := by simp [Program.elem, ht]
  rw [run_slice_l (P := Try.prog) (t := t) (a := A) (len := n) (cap := cap) (w := w) (by rw [he]; exact ht) .i64 k (by omega) (by omega), he, hs]
  simp [Result.andThen, sliced, cutA]
end
end Go.Proofs.Ytblggbihnglipaa
