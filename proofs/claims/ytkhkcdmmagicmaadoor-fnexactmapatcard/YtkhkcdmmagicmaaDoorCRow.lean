/-
  Words for memory: rows of texts of the call's own.
-/
import Derived.Test.YtkhkcdmmagicmaaDoorQRow
import Derived.Test.YtkhkcdmmagicmaaDoorCStr
import Derived.Maps.AppendAt
import Derived.Deep.Slices
namespace Go.Proofs.YtkhkcdmmagicmaaDoor
open Go.RowKit

/-- the slice at A has these texts -/
def ZIn (w : World) (B : Nat) (A : Option Addr) (bs : List ByteArray) : Prop :=
  0 < bs.length → ∃ b off, A = some ⟨b, off, none⟩ ∧ b < B ∧ ∀ i (h : i < bs.length), w.cell? ⟨b, off + i, none⟩ = some (Value.string bs[i])
theorem ZIn.below {w w' : World} {B : Nat} {A : Option Addr} {bs : List ByteArray} (h : ZIn w B A bs) (q : Below B w w') : ZIn w' B A bs := fun hp => by
  obtain ⟨b, off, e, hb, hc⟩ := h hp
  exact ⟨b, off, e, hb, fun i hi => cellB q hb (hc i hi)⟩
theorem ZIn.more {w : World} {B B' : Nat} {A : Option Addr} {bs : List ByteArray} (h : ZIn w B A bs) (hB : B ≤ B') : ZIn w B' A bs := fun hp => by
  obtain ⟨b, off, e, hb, hc⟩ := h hp
  exact ⟨b, off, e, by omega, hc⟩
def ZOwn (w : World) (B : Nat) (A : Option Addr) (cap : Nat) (bs : List ByteArray) : Prop := w.ownsRow B 9 1 (.slice A bs.length cap) bs.length (bs.map Value.string)
theorem ZOwn.nil (w : World) (B : Nat) : ZOwn w B none 0 [] := World.ownsRow_nil _ _ _ _
theorem ZOwn.form {w : World} {B : Nat} {A : Option Addr} {cap : Nat} {bs : List ByteArray} (h : ZOwn w B A cap bs) : (A = none ∧ cap = 0 ∧ bs = []) ∨ ∃ g, A = some ⟨g, 0, none⟩ ∧ B ≤ g ∧ g < w.heap.size := by
  rcases h.2 with ⟨e, e'⟩ | ⟨g, c, cur, e, hb, hg, _⟩
  · injection e with e1 e2 e3
    exact .inl ⟨e1, e3, List.eq_nil_of_length_eq_zero e2⟩
  · injection e with e1 e2 e3
    exact .inr ⟨g, e1, hb, (Array.getElem?_eq_some_iff.1 hg).1⟩
theorem ZOwn.zin {w : World} {B : Nat} {A : Option Addr} {cap : Nat} {bs : List ByteArray} (h : ZOwn w B A cap bs) : ZIn w w.heap.size A bs := fun hp => by
  rcases h.form with ⟨_, _, rfl⟩ | ⟨g, rfl, _, hg⟩
  · simp at hp
  · refine ⟨g, 0, rfl, hg, fun i hi => ?_⟩
    have h1 := h.cellAt i (by omega)
    rw [Nat.zero_add]
    refine h1.trans ?_
    simp [hi]
theorem ZOwn.cap_le {w : World} {B : Nat} {A : Option Addr} {cap : Nat} {bs : List ByteArray} (h : ZOwn w B A cap bs) : bs.length ≤ cap := by
  rcases h.2 with ⟨e, e'⟩ | ⟨g, c, cur, e, _, _, hnc, _⟩
  · injection e with e1 e2 e3; omega
  · injection e with e1 e2 e3; omega
theorem ZOwn.below {w w' : World} {B : Nat} {A : Option Addr} {cap : Nat} {bs : List ByteArray} (h : ZOwn w B A cap bs) (hb : Below w.heap.size w w') : ZOwn w' B A cap bs := by
  refine World.ownsRow.kept h (Below.toGrown hb none) ?_
  cases hv : (Value.slice A bs.length cap).ownBlock <;> simp
theorem ZOwn.more {w : World} {B B' : Nat} {A : Option Addr} {cap : Nat} {bs : List ByteArray} (h : ZOwn w B A cap bs) (hB : B' ≤ B) : ZOwn w B' A cap bs := by
  refine ⟨h.1, ?_⟩
  rcases h.2 with e | ⟨g, c, cur, e, hb, r⟩
  · exact .inl e
  · exact .inr ⟨g, c, cur, e, Nat.le_trans hB hb, r⟩
theorem ZOwn.row {w : World} {B : Nat} {A : Option Addr} {cap : Nat} {bs : List ByteArray} (h : ZOwn w B A cap bs) : ∀ g, rowOf A = some g → B ≤ g ∧ g < w.heap.size := by
  intro g hg
  exact h.lt g (by rw [rowOf_own]; exact hg)
theorem ZOwn.grownBelow {w w' : World} {B : Nat} {A : Option Addr} {cap : Nat} {bs : List ByteArray} (h : ZOwn w B A cap bs) (hg : w.grownBy w' (rowOf A)) (hB : B ≤ w.heap.size) : Below B w w' :=
  (Below.refl B w).grown hg hB (fun k hk => (h.row k hk).1)
theorem ZIn.one {w : World} (g : ByteArray) (t : TypeId) {s : Nat} (hs : w.heap.size = s) : ZIn (w.alloc (.cells #[Value.string g] t)) (s + 1) (some ⟨s, 0, none⟩) [g] := fun _ => by
  subst hs
  refine ⟨w.heap.size, 0, rfl, by omega, fun i hi => ?_⟩
  obtain rfl : i = 0 := by simpa using hi
  exact cell_of_row _ w.heap.size 0 #[Value.string g] t (0, 0) (heap_alloc_new w (.cells #[Value.string g] t))
/-- where a slice of pointers that is cut from place k on begins -/
def cutZ (A : Option Addr) (cap k : Nat) : Option Addr := if cap = k then A else A.map (·.add k)
theorem ZIn.take {w : World} {B : Nat} {A : Option Addr} {bs : List ByteArray} (h : ZIn w B A bs) (cap k : Nat) : ZIn w B (cutZ A cap 0) (bs.take k) := fun hp => by
  have e : cutZ A cap 0 = A := by
    unfold cutZ
    split
    · rfl
    · cases A <;> simp [Addr.add]
  rw [e]
  obtain ⟨b, off, e, hb, hc⟩ := h (by rw [List.length_take] at hp; omega)
  refine ⟨b, off, e, hb, fun i hi => ?_⟩
  rw [List.getElem_take]
  exact hc i (by rw [List.length_take] at hi; omega)
theorem ZIn.drop {w : World} {B : Nat} {A : Option Addr} {bs : List ByteArray} (h : ZIn w B A bs) {cap : Nat} (hc : bs.length ≤ cap) (k : Nat) : ZIn w B (cutZ A cap k) (bs.drop k) := fun hp => by
  rw [List.length_drop] at hp
  obtain ⟨b, off, e, hb, hc⟩ := h (by omega)
  refine ⟨b, off + k, ?_, hb, fun i hi => ?_⟩
  · unfold cutZ
    rw [if_neg (by omega), e, Option.map_some, add_pl]
  · rw [List.length_drop] at hi
    rw [List.getElem_drop, Nat.add_assoc]
    exact hc (k + i) (by omega)
theorem infoZ : (Tryd.prog.info? 9).map (fun i => (i.zero, i.size, i.bytes)) = some (some (.string ByteArray.empty), 1, 16) := by kernel_rfl

section
variable (t ty : TypeId) (ht : Tryd.prog.underlying t = some (.slice 9))
include ht
set_option maxRecDepth 100000 in
theorem run_appZ {w : World} {B B' : Nat} {A A' : Option Addr} {cap c : Nat} {l l' : List ByteArray} (hown : ZOwn w B A cap l) (hin : ZIn w B' A' l') (hB : B ≤ w.heap.size) (hb : l.length + l'.length ≤ 3000000) :
    ∃ A2 cap2 w', (Builtin.append_ #[t, t] ty #[.slice A l.length cap, .slice A' l'.length c]).run Tryd.prog w = .ok (.slice A2 (l ++ l').length cap2) w' ∧ ZOwn w' B A2 cap2 (l ++ l') ∧ w.grownBy w' (rowOf A) ∧ (rowOf A2 = rowOf A ∨ rowOf A2 = some w.heap.size) := by
  obtain ⟨i, hi, hz0, hz1, hz2⟩ := info_parts infoZ
  have hlen : (l ++ l').length = l.length + l'.length := List.length_append
  cases A' with
  | none =>
    have h0 : l' = [] := by
      rcases Nat.eq_zero_or_pos l'.length with e | e
      · exact List.eq_nil_of_length_eq_zero e
      · obtain ⟨_, _, x, _⟩ := hin e
        cases x
    subst h0
    refine ⟨A, cap, w, ?_, by simpa using hown, World.grownBy.refl _ _, .inl rfl⟩
    rcases hown.2 with ⟨e, e'⟩ | ⟨g, cap', cur, e, _, _, hnc, _⟩
    · injection e with e1 e2 e3
      subst e1 e3
      simp [Builtin.append_, run_underlying ht, sizeOf, typeInfo, hi, Builtin.lenOf, Builtin.firstCells, e2]
    · injection e with e1 e2 e3
      subst e1 e3
      simp [Builtin.append_, run_underlying ht, sizeOf, typeInfo, hi, Builtin.lenOf, Builtin.firstCells, hnc, storeCells]
  | some a =>
    have hcells : ∀ j u, (l'.map Value.string)[j]? = some u → w.cell? (a.add j) = some u := by
      intro j u hu
      have hj : j < l'.length := by
        have := (List.getElem?_eq_some_iff.1 hu).1
        rw [List.length_map] at this
        exact this
      obtain ⟨b, off, e, _, hc⟩ := hin (by omega)
      injection e with e
      subst e
      rw [add_pl, hc j hj, ← hu]
      simp [hj]
    obtain ⟨v', w', hrun, h2, h3, _, h5⟩ := run_append_own_at (P := Tryd.prog) w B t ty 9 i _ 1 16 ht hi hz0 hz1 hz2 rfl (by omega) (.slice A l.length cap) l.length (l.map Value.string) hown a l'.length c (l'.map Value.string) (by simp) hcells (by
        intro u hu
        obtain ⟨g, _, rfl⟩ := List.mem_map.1 hu
        rfl)
      (by simp only [maxLen]; omega) (by omega) hB
    have hv : ∃ A2 cap2, v' = .slice A2 (l.length + l'.length) cap2 := by
      rcases h2.2 with ⟨e, e'⟩ | ⟨g, cap', cur, e, _⟩
      · exact ⟨none, 0, by rw [e, e']⟩
      · exact ⟨_, _, e⟩
    obtain ⟨A2, cap2, rfl⟩ := hv
    refine ⟨A2, cap2, w', by rw [hlen]; exact hrun, ?_, by rw [← rowOf_own A l.length cap]; exact h3, ?_⟩
    · unfold ZOwn
      rw [hlen, List.map_append]
      exact h2
    · rw [rowOf_own, rowOf_own] at h5
      exact h5

theorem wp_appZ {w : World} {o : Oper} {a : Act} {K : Act → World → Prop} {Q : Exit → Act → World → Prop} (s x : Operand)
    (ho : o.op = .call { callee := .builtin .append, args := #[s, x], argTypes := #[t, t] })
    {B B' : Nat} {A A' : Option Addr} {cap c n m : Nat} {l l' : List ByteArray} (hs : a.eval s = .slice A n cap) (hx : a.eval x = .slice A' m c) (hn : n = l.length) (hm : m = l'.length)
    (hown : ZOwn w B A cap l) (hin : ZIn w B' A' l') (hB : B ≤ w.heap.size) (hb : l.length + l'.length ≤ 3000000)
    (h : ∀ A2 cap2 w', ZOwn w' B A2 cap2 (l ++ l') → w.grownBy w' (rowOf A) → (rowOf A2 = rowOf A ∨ rowOf A2 = some w.heap.size) → K (a.put o.dst (.slice A2 (l ++ l').length cap2)) w') : o.wp Tryd.prog a w K Q := by
  subst hn hm
  obtain ⟨A2, cap2, w', hrun, h2, h3, h4⟩ := run_appZ t o.type ht (c := c) hown hin hB hb
  unfold Oper.wp execOp
  simp only [ho, resolve, invoke, builtin, Sem.run_bind, Sem.run_pure, Result.andThen_ok, List.map_toArray, List.map_cons, List.map_nil, hs, hx, hrun]
  exact h A2 cap2 w' h2 h3 h4

theorem wpList_appZ {w : World} {ops : Array Oper} {rest : List Oper} {o : Oper} {a : Act} {Q : Exit → Act → World → Prop} (hgd : o.guard = none) (s x : Operand)
    (ho : o.op = .call { callee := .builtin .append, args := #[s, x], argTypes := #[t, t] })
    {B B' : Nat} {A A' : Option Addr} {cap c n m : Nat} {l l' : List ByteArray} (hs : a.eval s = .slice A n cap) (hx : a.eval x = .slice A' m c) (hn : n = l.length) (hm : m = l'.length)
    (hown : ZOwn w B A cap l) (hin : ZIn w B' A' l') (hB : B ≤ w.heap.size) (hb : l.length + l'.length ≤ 3000000)
    (h : ∀ A2 cap2 w', ZOwn w' B A2 cap2 (l ++ l') → w.grownBy w' (rowOf A) → (rowOf A2 = rowOf A ∨ rowOf A2 = some w.heap.size) → wpList Tryd.prog ops Q rest (a.put o.dst (.slice A2 (l ++ l').length cap2)) w') : wpList Tryd.prog ops Q (o :: rest) a w :=
  wpList_plain hgd fun _ hK => wp_appZ t ht s x ho hs hx hn hm hown hin hB hb fun A2 cap2 w' h2 h3 h4 => hK _ _ (h A2 cap2 w' h2 h3 h4)

theorem run_cutZ_h (A : Option Addr) (n cap k : Nat) (hk : k ≤ cap) (w : World) : (Instr.slice t (.slice A n cap) none (some (.int .i64 (k : Int))) none).run Tryd.prog w = .ok (.slice (cutZ A cap 0) k cap) w := by
  have hs : ((sizeOf 9).run Tryd.prog w) = .ok 1 w := by kernel_rfl
  have he : Tryd.prog.elem t = 9 := by simp [Program.elem, ht]
  rw [run_slice_h (P := Tryd.prog) (t := t) (a := A) (len := n) (cap := cap) (w := w) (by rw [he]; exact ht) .i64 k (by omega) (by omega), he, hs]
  simp [Result.andThen, sliced, cutZ]
theorem run_cutZ_l (A : Option Addr) (n cap k : Nat) (hk : k ≤ n) (w : World) : (Instr.slice t (.slice A n cap) (some (.int .i64 (k : Int))) none none).run Tryd.prog w = .ok (.slice (cutZ A cap k) (n - k) (cap - k)) w := by
  have hs : ((sizeOf 9).run Tryd.prog w) = .ok 1 w := by kernel_rfl
  have he : Tryd.prog.elem t = 9 := by simp [Program.elem, ht]
  rw [run_slice_l (P := Tryd.prog) (t := t) (a := A) (len := n) (cap := cap) (w := w) (by rw [he]; exact ht) .i64 k (by omega) (by omega), he, hs]
  simp [Result.andThen, sliced, cutZ]
end

theorem ZOwn.alloc {w : World} {B : Nat} {A : Option Addr} {cap : Nat} {l : List ByteArray} (h : ZOwn w B A cap l) (o : Obj) : ZOwn (w.alloc o) B A cap l := h.below ((Below.refl _ _).alloc (Nat.le_refl _) o)
theorem ZOwn.built (w : World) (B : Nat) (hB : B ≤ w.heap.size) : ZOwn (w.alloc (.cells #[] 9)) B (some ⟨w.heap.size, 0, none⟩) 0 [] := World.ownsRow_made w #[] 0 hB (by simp [maxLen]) rfl
theorem ZOwn.kept {w w' : World} {B r : Nat} {A : Option Addr} {cap : Nat} {bs : List ByteArray} (h : ZOwn w B A cap bs) (hg : w.grownBy w' (some r)) (hne : rowOf A ≠ some r) : ZOwn w' B A cap bs := by
  refine World.ownsRow.kept h hg ?_
  rw [rowOf_own]
  cases e : rowOf A with
  | none => exact .inl rfl
  | some g => exact .inr (fun x => hne (by rw [e, x]))
end Go.Proofs.YtkhkcdmmagicmaaDoor
