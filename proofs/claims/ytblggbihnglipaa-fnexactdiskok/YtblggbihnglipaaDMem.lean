/-
  Words for memory: slices of ops on files (four cells each), as PMem, PApp and PRow have them for pairs.
-/
import Derived.Test.YtblggbihnglipaaPApp
namespace Go.Proofs.Ytblggbihnglipaa
open Go.RowKit

/-- an op: its kind, the file's name, the other name, the data -/
abbrev Dp := Int × ByteArray × ByteArray × ByteArray
def emD : Dp := (0, ByteArray.empty, ByteArray.empty, ByteArray.empty)
def cellsD (c : Dp) : List Value := [.int .i64 c.1, .string c.2.1, .string c.2.2.1, .string c.2.2.2]
def cD (c : Dp) : Prop := c.2.1.size ≤ maxLen ∧ c.2.2.1.size ≤ maxLen ∧ c.2.2.2.size ≤ maxLen
def dlens (l : List Dp) : Prop := ∀ i (h : i < l.length), cD l[i]
theorem dlens_nil : dlens [] := fun _ h => absurd h (by simp)
theorem dlens_append {a b : List Dp} (ha : dlens a) (hb : dlens b) : dlens (a ++ b) := by
  intro i hi
  rcases Nat.lt_or_ge i a.length with g | g
  · rw [List.getElem_append_left g]; exact ha i g
  · rw [List.getElem_append_right g]; exact hb _ (by rw [List.length_append] at hi; omega)
/-- four cells from a place on -/
def At4 (w : World) (b o : Nat) (c : Dp) : Prop := w.cell? ⟨b, o, none⟩ = some (.int .i64 c.1) ∧ w.cell? ⟨b, o + 1, none⟩ = some (.string c.2.1) ∧ w.cell? ⟨b, o + 2, none⟩ = some (.string c.2.2.1) ∧ w.cell? ⟨b, o + 3, none⟩ = some (.string c.2.2.2)
theorem At4.keep {w w' : World} {b o : Nat} {c : Dp} (h : At4 w b o c) (hk : ∀ o, w'.cell? ⟨b, o, none⟩ = w.cell? ⟨b, o, none⟩) : At4 w' b o c :=
  ⟨(hk _).trans h.1, (hk _).trans h.2.1, (hk _).trans h.2.2.1, (hk _).trans h.2.2.2⟩
/-- the slice at A reads as the ops l, and lies below block B -/
def DIn (w : World) (B : Nat) (A : Option Addr) (l : List Dp) : Prop :=
  dlens l ∧ (0 < l.length → ∃ b off, A = some ⟨b, off, none⟩ ∧ b < B ∧ ∀ i (h : i < l.length), At4 w b (off + i * 4) l[i])
theorem DIn.nil (w : World) (B : Nat) (A : Option Addr) : DIn w B A [] := ⟨dlens_nil, fun h => absurd h (by simp)⟩
theorem DIn.keep {w w' : World} {B : Nat} {A : Option Addr} {l : List Dp} (h : DIn w B A l) (hk : ∀ b o, b < B → w'.cell? ⟨b, o, none⟩ = w.cell? ⟨b, o, none⟩) : DIn w' B A l :=
  ⟨h.1, fun hp => by
    obtain ⟨b, off, e, hb, hc⟩ := h.2 hp
    exact ⟨b, off, e, hb, fun i hi => (hc i hi).keep fun o => hk _ _ hb⟩⟩
theorem DIn.quiet {w w' : World} {B : Nat} {A : Option Addr} {l : List Dp} (h : DIn w B A l) (q : Quiet w w') : DIn w' B A l := h.keep fun _ _ _ => q.cell _
theorem DIn.below {w w' : World} {B : Nat} {A : Option Addr} {l : List Dp} (h : DIn w B A l) (q : Below B w w') : DIn w' B A l := h.keep fun _ _ hb => q.cell (by exact hb)
theorem DIn.more {w : World} {B B' : Nat} {A : Option Addr} {l : List Dp} (h : DIn w B A l) (hB : B ≤ B') : DIn w B' A l :=
  ⟨h.1, fun hp => by obtain ⟨b, off, e, hb, hc⟩ := h.2 hp; exact ⟨b, off, e, by omega, hc⟩⟩

def dcells (l : List Dp) : List Value := l.flatMap cellsD
theorem dcells_nil : dcells [] = [] := rfl
theorem dcells_cons (p : Dp) (l : List Dp) : dcells (p :: l) = .int .i64 p.1 :: .string p.2.1 :: .string p.2.2.1 :: .string p.2.2.2 :: dcells l := rfl
theorem dcells_append (a b : List Dp) : dcells (a ++ b) = dcells a ++ dcells b := by unfold dcells; rw [List.flatMap_append]
theorem dcells_length (l : List Dp) : (dcells l).length = l.length * 4 := by
  induction l with
  | nil => rfl
  | cons p r ih => rw [dcells_cons]; simp only [List.length_cons, ih]; omega
theorem dcells_get : ∀ (l : List Dp) (i : Nat) (h : i < l.length), (dcells l)[i * 4]? = some (.int .i64 l[i].1) ∧ (dcells l)[i * 4 + 1]? = some (.string l[i].2.1) ∧ (dcells l)[i * 4 + 2]? = some (.string l[i].2.2.1) ∧ (dcells l)[i * 4 + 3]? = some (.string l[i].2.2.2)
  | p :: r, 0, _ => by rw [dcells_cons]; exact ⟨rfl, rfl, rfl, rfl⟩
  | p :: r, i + 1, h => by
    obtain ⟨a, b, c, d⟩ := dcells_get r i (by simpa using h)
    rw [dcells_cons, show (i + 1) * 4 = i * 4 + 1 + 1 + 1 + 1 by omega]
    exact ⟨by simpa using a, by simpa using b, by simpa using c, by simpa using d⟩
theorem dcells_set : ∀ (l : List Dp) (i : Nat) (c : Dp), ((((dcells l).set (i * 4) (.int .i64 c.1)).set (i * 4 + 1) (.string c.2.1)).set (i * 4 + 2) (.string c.2.2.1)).set (i * 4 + 3) (.string c.2.2.2) = dcells (l.set i c)
  | [], _, _ => by simp [dcells_nil]
  | p :: r, 0, c => by simp [dcells_cons]
  | p :: r, i + 1, c => by
    rw [dcells_cons, List.set_cons_succ, dcells_cons, ← dcells_set r i c, show (i + 1) * 4 = i * 4 + 1 + 1 + 1 + 1 by omega]
    simp
theorem dcells_one (l : List Dp) : ∀ u ∈ dcells l, u.oneCell' = true := by
  intro u hu
  unfold dcells at hu
  rw [List.mem_flatMap] at hu
  obtain ⟨p, _, hp⟩ := hu
  simp [cellsD] at hp
  rcases hp with rfl | rfl | rfl | rfl <;> rfl

/-- the slice at A is a row of the call's own, from block B on, and holds the ops l -/
def DOwn (w : World) (B : Nat) (A : Option Addr) (cap : Nat) (l : List Dp) : Prop := dlens l ∧ w.ownsRow B 45 4 (.slice A l.length cap) l.length (dcells l)
theorem DOwn.nil (w : World) (B : Nat) : DOwn w B none 0 [] := ⟨dlens_nil, World.ownsRow_nil _ _ _ _⟩
theorem DOwn.form {w : World} {B : Nat} {A : Option Addr} {cap : Nat} {l : List Dp} (h : DOwn w B A cap l) : (A = none ∧ cap = 0 ∧ l = []) ∨ ∃ g, A = some ⟨g, 0, none⟩ ∧ B ≤ g ∧ g < w.heap.size := by
  rcases h.2.2 with ⟨e, e'⟩ | ⟨g, c, cur, e, hb, hg, _⟩
  · injection e with e1 e2 e3
    exact .inl ⟨e1, e3, List.eq_nil_of_length_eq_zero e2⟩
  · injection e with e1 e2 e3
    exact .inr ⟨g, e1, hb, (Array.getElem?_eq_some_iff.1 hg).1⟩
theorem DOwn.pin {w : World} {B : Nat} {A : Option Addr} {cap : Nat} {l : List Dp} (h : DOwn w B A cap l) : DIn w w.heap.size A l := by
  refine ⟨h.1, fun hp => ?_⟩
  rcases h.form with ⟨_, _, rfl⟩ | ⟨g, rfl, _, hg⟩
  · simp at hp
  · refine ⟨g, 0, rfl, hg, fun i hi => ?_⟩
    obtain ⟨a, b, c, d⟩ := dcells_get l i hi
    rw [Nat.zero_add]
    exact ⟨(h.2.cellAt (i * 4) (by omega)).trans a, (h.2.cellAt (i * 4 + 1) (by omega)).trans b, (h.2.cellAt (i * 4 + 2) (by omega)).trans c, (h.2.cellAt (i * 4 + 3) (by omega)).trans d⟩
theorem DOwn.below {w w' : World} {B : Nat} {A : Option Addr} {cap : Nat} {l : List Dp} (h : DOwn w B A cap l) (hb : Below w.heap.size w w') : DOwn w' B A cap l := by
  refine ⟨h.1, h.2.kept (Below.toGrown hb none) ?_⟩
  cases hv : (Value.slice A l.length cap).ownBlock <;> simp
theorem DOwn.more {w : World} {B B' : Nat} {A : Option Addr} {cap : Nat} {l : List Dp} (h : DOwn w B A cap l) (hB : B' ≤ B) : DOwn w B' A cap l := by
  refine ⟨h.1, h.2.1, ?_⟩
  rcases h.2.2 with e | ⟨g, c, cur, e, hb, r⟩
  · exact .inl e
  · exact .inr ⟨g, c, cur, e, Nat.le_trans hB hb, r⟩
theorem DOwn.row {w : World} {B : Nat} {A : Option Addr} {cap : Nat} {l : List Dp} (h : DOwn w B A cap l) : ∀ g, rowOf A = some g → B ≤ g ∧ g < w.heap.size := by
  intro g hg
  exact h.2.lt g (by rw [rowOf_own]; exact hg)
theorem DOwn.apart {w w' : World} {B : Nat} {A A' : Option Addr} {cap : Nat} {l : List Dp} (h : DOwn w B A cap l) (hg : w.grownBy w' (rowOf A')) (hne : ∀ g, rowOf A = some g → rowOf A' ≠ some g) : DOwn w' B A cap l := by
  refine ⟨h.1, h.2.kept hg ?_⟩
  rw [rowOf_own]
  cases e : rowOf A with
  | none => exact .inl rfl
  | some g => exact .inr (fun x => hne g e x.symm)
theorem DOwn.cap_le {w : World} {B : Nat} {A : Option Addr} {cap : Nat} {l : List Dp} (h : DOwn w B A cap l) : l.length ≤ cap := by
  rcases h.2.2 with ⟨e, e'⟩ | ⟨g, c, cur, e, _, _, hnc, _⟩
  · injection e with e1 e2 e3; omega
  · injection e with e1 e2 e3; omega
theorem DOwn.made {w : World} {B n cap : Nat} (h : w.ownsRow B 45 4 (.slice (some ⟨n, 0, none⟩) 0 cap) 0 []) : DOwn w B (some ⟨n, 0, none⟩) cap [] := ⟨dlens_nil, h⟩
theorem DOwn.built (w : World) (B : Nat) (hB : B ≤ w.heap.size) : DOwn (w.alloc (.cells #[] 45)) B (some ⟨w.heap.size, 0, none⟩) 0 [] :=
  ⟨dlens_nil, World.ownsRow_made w #[] 0 hB (by simp [maxLen]) rfl⟩
theorem DOwn.alloc {w : World} {B : Nat} {A : Option Addr} {cap : Nat} {l : List Dp} (h : DOwn w B A cap l) (o : Obj) : DOwn (w.alloc o) B A cap l := h.below ((Below.refl _ _).alloc (Nat.le_refl _) o)
theorem DOwn.drew {w : World} {B : Nat} {A : Option Addr} {cap : Nat} {l : List Dp} (h : DOwn w B A cap l) : DOwn w.drew B A cap l := h
theorem DOwn.grownBelow {w w' : World} {B : Nat} {A : Option Addr} {cap : Nat} {l : List Dp} (h : DOwn w B A cap l) (hg : w.grownBy w' (Value.slice A l.length cap).ownBlock) (hB : B ≤ w.heap.size) : Below B w w' :=
  (Below.refl B w).grown hg hB (fun k hk => (h.2.lt k hk).1)
/-- the cells of one op -/
def arrD (c : Dp) : Array Value := #[.int .i64 c.1, .string c.2.1, .string c.2.2.1, .string c.2.2.2]
theorem DIn.one (w : World) (c : Dp) (hc : cD c) (t : TypeId) : DIn (w.alloc (.cells (arrD c) t)) (w.heap.size + 1) (some ⟨w.heap.size, 0, none⟩) [c] := by
  refine ⟨fun i hi => ?_, fun _ => ⟨w.heap.size, 0, rfl, by omega, fun i hi => ?_⟩⟩
  · obtain rfl : i = 0 := by simpa using hi
    exact hc
  · obtain rfl : i = 0 := by simpa using hi
    have h := heap_alloc_new w (.cells (arrD c) t)
    exact ⟨cell_of_row _ w.heap.size 0 (arrD c) t (0, 0) h, cell_of_row _ w.heap.size 1 (arrD c) t (0, 0) h, cell_of_row _ w.heap.size 2 (arrD c) t (0, 0) h, cell_of_row _ w.heap.size 3 (arrD c) t (0, 0) h⟩

theorem DIn.oneAt {w : World} (c : Dp) (hc : cD c) (t : TypeId) {g : Nat} (hg : w.heap.size = g) : DIn (w.alloc (.cells (arrD c) t)) (g + 1) (some ⟨g, 0, none⟩) [c] := by subst hg; exact DIn.one w c hc t

theorem infoD : (Try.prog.info? 45).map (fun i => (i.zero, i.size, i.bytes)) = some (some (.agg (arrD emD)), 4, 56) := by kernel_rfl
/-- a row comes back -/
def RetD (B : Nat) (l : List Dp) (w : World) (e : Ending) (w' : World) : Prop := ∃ A cap, l.length ≤ cap ∧ e = .returned (.slice A l.length cap) ∧ DOwn w' B A cap l ∧ Below B w w'
def RetDB (B : Nat) (l : List Dp) (b : Bool) (w : World) (e : Ending) (w' : World) : Prop := ∃ A cap, l.length ≤ cap ∧ e = .returned (.tuple #[.slice A l.length cap, .bool b]) ∧ DOwn w' B A cap l ∧ Below B w w'

section
variable (t ty : TypeId) (ht : Try.prog.underlying t = some (.slice 45))
include ht
set_option maxRecDepth 100000 in
theorem run_appD {w : World} {B B' : Nat} {A A' : Option Addr} {cap c : Nat} {l l' : List Dp} (hown : DOwn w B A cap l) (hin : DIn w B' A' l') (hne : 0 < l'.length) (hB : B ≤ w.heap.size) (hb : l.length + l'.length ≤ 3000000) :
    ∃ A2 cap2 w', (Builtin.append_ #[t, t] ty #[.slice A l.length cap, .slice A' l'.length c]).run Try.prog w = .ok (.slice A2 (l ++ l').length cap2) w' ∧ DOwn w' B A2 cap2 (l ++ l') ∧ w.grownBy w' (rowOf A) ∧ (rowOf A2 = rowOf A ∨ rowOf A2 = some w.heap.size) := by
  obtain ⟨i, hi, hz0, hz1, hz2⟩ := info_parts infoD
  have hlen : (l ++ l').length = l.length + l'.length := List.length_append
  obtain ⟨b, off, rfl, _, hc⟩ := hin.2 hne
  have hcells : ∀ j u, (dcells l')[j]? = some u → w.cell? ((⟨b, off, none⟩ : Addr).add j) = some u := by
    intro j u hu
    have hj : j < l'.length * 4 := by
      rw [← dcells_length]
      exact (List.getElem?_eq_some_iff.1 hu).1
    rw [add_pl]
    obtain ⟨p0, p1, p2, p3⟩ := dcells_get l' (j / 4) (by omega)
    obtain ⟨c0, c1, c2, c3⟩ := hc (j / 4) (by omega)
    have hj4 : j = j / 4 * 4 + j % 4 := by omega
    have hm : j % 4 < 4 := Nat.mod_lt _ (by omega)
    generalize j % 4 = r at hj4 hm
    match r, hm with
    | 0, _ => rw [show j / 4 * 4 = j by omega] at p0; rw [show off + j / 4 * 4 = off + j by omega] at c0; rw [p0] at hu; rw [c0, hu]
    | 1, _ => rw [show j / 4 * 4 + 1 = j by omega] at p1; rw [show off + j / 4 * 4 + 1 = off + j by omega] at c1; rw [p1] at hu; rw [c1, hu]
    | 2, _ => rw [show j / 4 * 4 + 2 = j by omega] at p2; rw [show off + j / 4 * 4 + 2 = off + j by omega] at c2; rw [p2] at hu; rw [c2, hu]
    | 3, _ => rw [show j / 4 * 4 + 3 = j by omega] at p3; rw [show off + j / 4 * 4 + 3 = off + j by omega] at c3; rw [p3] at hu; rw [c3, hu]
  obtain ⟨v', w', hrun, h2, h3, _, h5⟩ := run_append_own_at (P := Try.prog) w B t ty 45 i _ 4 56 ht hi hz0 hz1 hz2 rfl (by omega) (.slice A l.length cap) l.length (dcells l) hown.2 ⟨b, off, none⟩ l'.length c (dcells l') (dcells_length l') hcells (dcells_one l')
    (by simp only [maxLen]; omega) (by omega) hB
  have hv : ∃ A2 cap2, v' = .slice A2 (l.length + l'.length) cap2 := by
    rcases h2.2 with ⟨e, e'⟩ | ⟨g, cap', cur, e, _⟩
    · exact ⟨none, 0, by rw [e, e']⟩
    · exact ⟨_, _, e⟩
  obtain ⟨A2, cap2, rfl⟩ := hv
  refine ⟨A2, cap2, w', by rw [hlen]; exact hrun, ⟨dlens_append hown.1 hin.1, ?_⟩, by rw [← rowOf_own A l.length cap]; exact h3, ?_⟩
  · rw [hlen, dcells_append]
    exact h2
  · rw [rowOf_own, rowOf_own] at h5
    exact h5
theorem wp_appD {w : World} {o : Oper} {a : Act} {K : Act → World → Prop} {Q : Exit → Act → World → Prop} (s x : Operand)
    (ho : o.op = .call { callee := .builtin .append, args := #[s, x], argTypes := #[t, t] })
    {B B' : Nat} {A A' : Option Addr} {cap c n m : Nat} {l l' : List Dp} (hs : a.eval s = .slice A n cap) (hx : a.eval x = .slice A' m c) (hn : n = l.length) (hm : m = l'.length)
    (hown : DOwn w B A cap l) (hin : DIn w B' A' l') (hne : 0 < l'.length) (hB : B ≤ w.heap.size) (hb : l.length + l'.length ≤ 3000000)
    (h : ∀ A2 cap2 w', DOwn w' B A2 cap2 (l ++ l') → w.grownBy w' (rowOf A) → (rowOf A2 = rowOf A ∨ rowOf A2 = some w.heap.size) → K (a.put o.dst (.slice A2 (l ++ l').length cap2)) w') : o.wp Try.prog a w K Q := by
  subst hn hm
  obtain ⟨A2, cap2, w', hrun, h2, h3, h4⟩ := run_appD t o.type ht (c := c) hown hin hne hB hb
  unfold Oper.wp execOp
  simp only [ho, resolve, invoke, builtin, Sem.run_bind, Sem.run_pure, Result.andThen_ok, List.map_toArray, List.map_cons, List.map_nil, hs, hx, hrun]
  exact h A2 cap2 w' h2 h3 h4
theorem wpList_appD {w : World} {ops : Array Oper} {rest : List Oper} {o : Oper} {a : Act} {Q : Exit → Act → World → Prop} (hgd : o.guard = none) (s x : Operand)
    (ho : o.op = .call { callee := .builtin .append, args := #[s, x], argTypes := #[t, t] })
    {B B' : Nat} {A A' : Option Addr} {cap c n m : Nat} {l l' : List Dp} (hs : a.eval s = .slice A n cap) (hx : a.eval x = .slice A' m c) (hn : n = l.length) (hm : m = l'.length)
    (hown : DOwn w B A cap l) (hin : DIn w B' A' l') (hne : 0 < l'.length) (hB : B ≤ w.heap.size) (hb : l.length + l'.length ≤ 3000000)
    (h : ∀ A2 cap2 w', DOwn w' B A2 cap2 (l ++ l') → w.grownBy w' (rowOf A) → (rowOf A2 = rowOf A ∨ rowOf A2 = some w.heap.size) → wpList Try.prog ops Q rest (a.put o.dst (.slice A2 (l ++ l').length cap2)) w') : wpList Try.prog ops Q (o :: rest) a w :=
  wpList_plain hgd fun _ hK => wp_appD t ht s x ho hs hx hn hm hown hin hne hB hb fun A2 cap2 w' h2 h3 h4 => hK _ _ (h A2 cap2 w' h2 h3 h4)
theorem step_appD {w : World} {ops : Array Oper} {o : Oper} {a : Act} {K : Act → World → Prop} {Q : Exit → Act → World → Prop} {E : Prop} (hgd : o.guard = none) (s x : Operand)
    (ho : o.op = .call { callee := .builtin .append, args := #[s, x], argTypes := #[t, t] })
    {B B' : Nat} {A A' : Option Addr} {cap c n m : Nat} {l l' : List Dp} (hs : a.eval s = .slice A n cap) (hx : a.eval x = .slice A' m c) (hn : n = l.length) (hm : m = l'.length)
    (hown : DOwn w B A cap l) (hin : DIn w B' A' l') (hne : 0 < l'.length) (hB : B ≤ w.heap.size) (hb : l.length + l'.length ≤ 3000000)
    (h : ∀ A2 cap2 w', DOwn w' B A2 cap2 (l ++ l') → w.grownBy w' (rowOf A) → (rowOf A2 = rowOf A ∨ rowOf A2 = some w.heap.size) → K (a.put o.dst (.slice A2 (l ++ l').length cap2)) w') :
    if Region.wanted o (yielded ops a.tmps) = true then Oper.wp Try.prog o a w K Q else E := by
  have hw : Region.wanted o (yielded ops a.tmps) = true := by simp [Region.wanted, hgd]
  rw [if_pos hw]
  exact wp_appD t ht s x ho hs hx hn hm hown hin hne hB hb h
end
end Go.Proofs.Ytblggbihnglipaa
