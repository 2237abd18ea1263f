/-
  Words for memory: slices of changes (five cells each), as PMem, PApp and PRow have them for pairs.
-/
import Derived.Test.YtaofemdhgfejjaaGreatDoorPApp
namespace Go.Proofs.YtaofemdhgfejjaaGreatDoor
open Go.RowKit

/-- a change: its key, the old value, the new one, was there one, is there one -/
abbrev Ch := ByteArray × ByteArray × ByteArray × Bool × Bool
def emC : Ch := (ByteArray.empty, ByteArray.empty, ByteArray.empty, false, false)
def cellsC (c : Ch) : List Value := [.string c.1, .string c.2.1, .string c.2.2.1, .bool c.2.2.2.1, .bool c.2.2.2.2]
def cC (c : Ch) : Prop := c.1.size ≤ maxLen ∧ c.2.1.size ≤ maxLen ∧ c.2.2.1.size ≤ maxLen
def hlens (l : List Ch) : Prop := ∀ i (h : i < l.length), cC l[i]
theorem hlens_nil : hlens [] := fun _ h => absurd h (by simp)
theorem hlens_append {a b : List Ch} (ha : hlens a) (hb : hlens b) : hlens (a ++ b) := by
  intro i hi
  rcases Nat.lt_or_ge i a.length with g | g
  · rw [List.getElem_append_left g]; exact ha i g
  · rw [List.getElem_append_right g]; exact hb _ (by rw [List.length_append] at hi; omega)
/-- five cells from a place on -/
def At5 (w : World) (b o : Nat) (c : Ch) : Prop := w.cell? ⟨b, o, none⟩ = some (.string c.1) ∧ w.cell? ⟨b, o + 1, none⟩ = some (.string c.2.1) ∧ w.cell? ⟨b, o + 2, none⟩ = some (.string c.2.2.1) ∧ w.cell? ⟨b, o + 3, none⟩ = some (.bool c.2.2.2.1) ∧ w.cell? ⟨b, o + 4, none⟩ = some (.bool c.2.2.2.2)
theorem At5.keep {w w' : World} {b o : Nat} {c : Ch} (h : At5 w b o c) (hk : ∀ o, w'.cell? ⟨b, o, none⟩ = w.cell? ⟨b, o, none⟩) : At5 w' b o c :=
  ⟨(hk _).trans h.1, (hk _).trans h.2.1, (hk _).trans h.2.2.1, (hk _).trans h.2.2.2.1, (hk _).trans h.2.2.2.2⟩
/-- the slice at A reads as the changes l, and lies below block B -/
def HIn (w : World) (B : Nat) (A : Option Addr) (l : List Ch) : Prop :=
  hlens l ∧ (0 < l.length → ∃ b off, A = some ⟨b, off, none⟩ ∧ b < B ∧ ∀ i (h : i < l.length), At5 w b (off + i * 5) l[i])
theorem HIn.nil (w : World) (B : Nat) (A : Option Addr) : HIn w B A [] := ⟨hlens_nil, fun h => absurd h (by simp)⟩
theorem HIn.keep {w w' : World} {B : Nat} {A : Option Addr} {l : List Ch} (h : HIn w B A l) (hk : ∀ b o, b < B → w'.cell? ⟨b, o, none⟩ = w.cell? ⟨b, o, none⟩) : HIn w' B A l :=
  ⟨h.1, fun hp => by
    obtain ⟨b, off, e, hb, hc⟩ := h.2 hp
    exact ⟨b, off, e, hb, fun i hi => (hc i hi).keep fun o => hk _ _ hb⟩⟩
theorem HIn.quiet {w w' : World} {B : Nat} {A : Option Addr} {l : List Ch} (h : HIn w B A l) (q : Quiet w w') : HIn w' B A l := h.keep fun _ _ _ => q.cell _
theorem HIn.below {w w' : World} {B : Nat} {A : Option Addr} {l : List Ch} (h : HIn w B A l) (q : Below B w w') : HIn w' B A l := h.keep fun _ _ hb => q.cell (by exact hb)
theorem HIn.more {w : World} {B B' : Nat} {A : Option Addr} {l : List Ch} (h : HIn w B A l) (hB : B ≤ B') : HIn w B' A l :=
  ⟨h.1, fun hp => by obtain ⟨b, off, e, hb, hc⟩ := h.2 hp; exact ⟨b, off, e, by omega, hc⟩⟩

def ccells (l : List Ch) : List Value := l.flatMap cellsC
theorem ccells_nil : ccells [] = [] := rfl
theorem ccells_cons (p : Ch) (l : List Ch) : ccells (p :: l) = .string p.1 :: .string p.2.1 :: .string p.2.2.1 :: .bool p.2.2.2.1 :: .bool p.2.2.2.2 :: ccells l := rfl
theorem ccells_append (a b : List Ch) : ccells (a ++ b) = ccells a ++ ccells b := by unfold ccells; rw [List.flatMap_append]
theorem ccells_length (l : List Ch) : (ccells l).length = l.length * 5 := by
  induction l with
  | nil => rfl
  | cons p r ih => rw [ccells_cons]; simp only [List.length_cons, ih]; omega
theorem ccells_get : ∀ (l : List Ch) (i : Nat) (h : i < l.length), (ccells l)[i * 5]? = some (.string l[i].1) ∧ (ccells l)[i * 5 + 1]? = some (.string l[i].2.1) ∧ (ccells l)[i * 5 + 2]? = some (.string l[i].2.2.1) ∧ (ccells l)[i * 5 + 3]? = some (.bool l[i].2.2.2.1) ∧ (ccells l)[i * 5 + 4]? = some (.bool l[i].2.2.2.2)
  | p :: r, 0, _ => by rw [ccells_cons]; exact ⟨rfl, rfl, rfl, rfl, rfl⟩
  | p :: r, i + 1, h => by
    obtain ⟨a, b, c, d, e⟩ := ccells_get r i (by simpa using h)
    rw [ccells_cons, show (i + 1) * 5 = i * 5 + 1 + 1 + 1 + 1 + 1 by omega]
    exact ⟨by simpa using a, by simpa using b, by simpa using c, by simpa using d, by simpa using e⟩
theorem ccells_set : ∀ (l : List Ch) (i : Nat) (c : Ch), (((((ccells l).set (i * 5) (.string c.1)).set (i * 5 + 1) (.string c.2.1)).set (i * 5 + 2) (.string c.2.2.1)).set (i * 5 + 3) (.bool c.2.2.2.1)).set (i * 5 + 4) (.bool c.2.2.2.2) = ccells (l.set i c)
  | [], _, _ => by simp [ccells_nil]
  | p :: r, 0, c => by simp [ccells_cons]
  | p :: r, i + 1, c => by
    rw [ccells_cons, List.set_cons_succ, ccells_cons, ← ccells_set r i c, show (i + 1) * 5 = i * 5 + 1 + 1 + 1 + 1 + 1 by omega]
    simp
theorem ccells_one (l : List Ch) : ∀ u ∈ ccells l, u.oneCell' = true := by
  intro u hu
  unfold ccells at hu
  rw [List.mem_flatMap] at hu
  obtain ⟨p, _, hp⟩ := hu
  simp [cellsC] at hp
  rcases hp with rfl | rfl | rfl | rfl | rfl <;> rfl

/-- the slice at A is a row of the call's own, from block B on, and holds the changes l -/
def HOwn (w : World) (B : Nat) (A : Option Addr) (cap : Nat) (l : List Ch) : Prop := hlens l ∧ w.ownsRow B 45 5 (.slice A l.length cap) l.length (ccells l)
theorem HOwn.nil (w : World) (B : Nat) : HOwn w B none 0 [] := ⟨hlens_nil, World.ownsRow_nil _ _ _ _⟩
theorem HOwn.form {w : World} {B : Nat} {A : Option Addr} {cap : Nat} {l : List Ch} (h : HOwn w B A cap l) : (A = none ∧ cap = 0 ∧ l = []) ∨ ∃ g, A = some ⟨g, 0, none⟩ ∧ B ≤ g ∧ g < w.heap.size := by
  rcases h.2.2 with ⟨e, e'⟩ | ⟨g, c, cur, e, hb, hg, _⟩
  · injection e with e1 e2 e3
    exact .inl ⟨e1, e3, List.eq_nil_of_length_eq_zero e2⟩
  · injection e with e1 e2 e3
    exact .inr ⟨g, e1, hb, (Array.getElem?_eq_some_iff.1 hg).1⟩
theorem HOwn.pin {w : World} {B : Nat} {A : Option Addr} {cap : Nat} {l : List Ch} (h : HOwn w B A cap l) : HIn w w.heap.size A l := by
  refine ⟨h.1, fun hp => ?_⟩
  rcases h.form with ⟨_, _, rfl⟩ | ⟨g, rfl, _, hg⟩
  · simp at hp
  · refine ⟨g, 0, rfl, hg, fun i hi => ?_⟩
    obtain ⟨a, b, c, d, e⟩ := ccells_get l i hi
    rw [Nat.zero_add]
    exact ⟨(h.2.cellAt (i * 5) (by omega)).trans a, (h.2.cellAt (i * 5 + 1) (by omega)).trans b, (h.2.cellAt (i * 5 + 2) (by omega)).trans c, (h.2.cellAt (i * 5 + 3) (by omega)).trans d, (h.2.cellAt (i * 5 + 4) (by omega)).trans e⟩
theorem HOwn.below {w w' : World} {B : Nat} {A : Option Addr} {cap : Nat} {l : List Ch} (h : HOwn w B A cap l) (hb : Below w.heap.size w w') : HOwn w' B A cap l := by
  refine ⟨h.1, h.2.kept (Below.toGrown hb none) ?_⟩
  cases hv : (Value.slice A l.length cap).ownBlock <;> simp
theorem HOwn.more {w : World} {B B' : Nat} {A : Option Addr} {cap : Nat} {l : List Ch} (h : HOwn w B A cap l) (hB : B' ≤ B) : HOwn w B' A cap l := by
  refine ⟨h.1, h.2.1, ?_⟩
  rcases h.2.2 with e | ⟨g, c, cur, e, hb, r⟩
  · exact .inl e
  · exact .inr ⟨g, c, cur, e, Nat.le_trans hB hb, r⟩
theorem HOwn.row {w : World} {B : Nat} {A : Option Addr} {cap : Nat} {l : List Ch} (h : HOwn w B A cap l) : ∀ g, rowOf A = some g → B ≤ g ∧ g < w.heap.size := by
  intro g hg
  exact h.2.lt g (by rw [rowOf_own]; exact hg)
theorem HOwn.apart {w w' : World} {B : Nat} {A A' : Option Addr} {cap : Nat} {l : List Ch} (h : HOwn w B A cap l) (hg : w.grownBy w' (rowOf A')) (hne : ∀ g, rowOf A = some g → rowOf A' ≠ some g) : HOwn w' B A cap l := by
  refine ⟨h.1, h.2.kept hg ?_⟩
  rw [rowOf_own]
  cases e : rowOf A with
  | none => exact .inl rfl
  | some g => exact .inr (fun x => hne g e x.symm)
theorem HOwn.cap_le {w : World} {B : Nat} {A : Option Addr} {cap : Nat} {l : List Ch} (h : HOwn w B A cap l) : l.length ≤ cap := by
  rcases h.2.2 with ⟨e, e'⟩ | ⟨g, c, cur, e, _, _, hnc, _⟩
  · injection e with e1 e2 e3; omega
  · injection e with e1 e2 e3; omega
theorem HOwn.made {w : World} {B n cap : Nat} (h : w.ownsRow B 45 5 (.slice (some ⟨n, 0, none⟩) 0 cap) 0 []) : HOwn w B (some ⟨n, 0, none⟩) cap [] := ⟨hlens_nil, h⟩
theorem HOwn.built (w : World) (B : Nat) (hB : B ≤ w.heap.size) : HOwn (w.alloc (.cells #[] 45)) B (some ⟨w.heap.size, 0, none⟩) 0 [] :=
  ⟨hlens_nil, World.ownsRow_made w #[] 0 hB (by simp [maxLen]) rfl⟩
theorem HOwn.alloc {w : World} {B : Nat} {A : Option Addr} {cap : Nat} {l : List Ch} (h : HOwn w B A cap l) (o : Obj) : HOwn (w.alloc o) B A cap l := h.below ((Below.refl _ _).alloc (Nat.le_refl _) o)
theorem HOwn.drew {w : World} {B : Nat} {A : Option Addr} {cap : Nat} {l : List Ch} (h : HOwn w B A cap l) : HOwn w.drew B A cap l := h
theorem HOwn.grownBelow {w w' : World} {B : Nat} {A : Option Addr} {cap : Nat} {l : List Ch} (h : HOwn w B A cap l) (hg : w.grownBy w' (Value.slice A l.length cap).ownBlock) (hB : B ≤ w.heap.size) : Below B w w' :=
  (Below.refl B w).grown hg hB (fun k hk => (h.2.lt k hk).1)
/-- the cells of one change -/
def arrC (c : Ch) : Array Value := #[.string c.1, .string c.2.1, .string c.2.2.1, .bool c.2.2.2.1, .bool c.2.2.2.2]
theorem HIn.one (w : World) (c : Ch) (hc : cC c) (t : TypeId) : HIn (w.alloc (.cells (arrC c) t)) (w.heap.size + 1) (some ⟨w.heap.size, 0, none⟩) [c] := by
  refine ⟨fun i hi => ?_, fun _ => ⟨w.heap.size, 0, rfl, by omega, fun i hi => ?_⟩⟩
  · obtain rfl : i = 0 := by simpa using hi
    exact hc
  · obtain rfl : i = 0 := by simpa using hi
    have h := heap_alloc_new w (.cells (arrC c) t)
    exact ⟨cell_of_row _ w.heap.size 0 (arrC c) t (0, 0) h, cell_of_row _ w.heap.size 1 (arrC c) t (0, 0) h, cell_of_row _ w.heap.size 2 (arrC c) t (0, 0) h, cell_of_row _ w.heap.size 3 (arrC c) t (0, 0) h, cell_of_row _ w.heap.size 4 (arrC c) t (0, 0) h⟩

theorem HIn.oneAt {w : World} (c : Ch) (hc : cC c) (t : TypeId) {g : Nat} (hg : w.heap.size = g) : HIn (w.alloc (.cells (arrC c) t)) (g + 1) (some ⟨g, 0, none⟩) [c] := by subst hg; exact HIn.one w c hc t

theorem infoC : (Tryz.prog.info? 45).map (fun i => (i.zero, i.size, i.bytes)) = some (some (.agg (arrC emC)), 5, 56) := by kernel_rfl
/-- a row comes back -/
def RetC (B : Nat) (l : List Ch) (w : World) (e : Ending) (w' : World) : Prop := ∃ A cap, l.length ≤ cap ∧ e = .returned (.slice A l.length cap) ∧ HOwn w' B A cap l ∧ Below B w w'
def RetCB (B : Nat) (l : List Ch) (b : Bool) (w : World) (e : Ending) (w' : World) : Prop := ∃ A cap, l.length ≤ cap ∧ e = .returned (.tuple #[.slice A l.length cap, .bool b]) ∧ HOwn w' B A cap l ∧ Below B w w'

section
variable (t ty : TypeId) (ht : Tryz.prog.underlying t = some (.slice 45))
include ht
set_option maxRecDepth 100000 in
theorem run_appC {w : World} {B B' : Nat} {A A' : Option Addr} {cap c : Nat} {l l' : List Ch} (hown : HOwn w B A cap l) (hin : HIn w B' A' l') (hne : 0 < l'.length) (hB : B ≤ w.heap.size) (hb : l.length + l'.length ≤ 3000000) :
    ∃ A2 cap2 w', (Builtin.append_ #[t, t] ty #[.slice A l.length cap, .slice A' l'.length c]).run Tryz.prog w = .ok (.slice A2 (l ++ l').length cap2) w' ∧ HOwn w' B A2 cap2 (l ++ l') ∧ w.grownBy w' (rowOf A) ∧ (rowOf A2 = rowOf A ∨ rowOf A2 = some w.heap.size) := by
  obtain ⟨i, hi, hz0, hz1, hz2⟩ := info_parts infoC
  have hlen : (l ++ l').length = l.length + l'.length := List.length_append
  obtain ⟨b, off, rfl, _, hc⟩ := hin.2 hne
  have hcells : ∀ j u, (ccells l')[j]? = some u → w.cell? ((⟨b, off, none⟩ : Addr).add j) = some u := by
    intro j u hu
    have hj : j < l'.length * 5 := by
      rw [← ccells_length]
      exact (List.getElem?_eq_some_iff.1 hu).1
    rw [add_pl]
    obtain ⟨p0, p1, p2, p3, p4⟩ := ccells_get l' (j / 5) (by omega)
    obtain ⟨c0, c1, c2, c3, c4⟩ := hc (j / 5) (by omega)
    have hj5 : j = j / 5 * 5 + j % 5 := by omega
    have hm : j % 5 < 5 := Nat.mod_lt _ (by omega)
    generalize j % 5 = r at hj5 hm
    match r, hm with
    | 0, _ => rw [show j / 5 * 5 = j by omega] at p0; rw [show off + j / 5 * 5 = off + j by omega] at c0; rw [p0] at hu; rw [c0, hu]
    | 1, _ => rw [show j / 5 * 5 + 1 = j by omega] at p1; rw [show off + j / 5 * 5 + 1 = off + j by omega] at c1; rw [p1] at hu; rw [c1, hu]
    | 2, _ => rw [show j / 5 * 5 + 2 = j by omega] at p2; rw [show off + j / 5 * 5 + 2 = off + j by omega] at c2; rw [p2] at hu; rw [c2, hu]
    | 3, _ => rw [show j / 5 * 5 + 3 = j by omega] at p3; rw [show off + j / 5 * 5 + 3 = off + j by omega] at c3; rw [p3] at hu; rw [c3, hu]
    | 4, _ => rw [show j / 5 * 5 + 4 = j by omega] at p4; rw [show off + j / 5 * 5 + 4 = off + j by omega] at c4; rw [p4] at hu; rw [c4, hu]
  obtain ⟨v', w', hrun, h2, h3, _, h5⟩ := run_append_own_at (P := Tryz.prog) w B t ty 45 i _ 5 56 ht hi hz0 hz1 hz2 rfl (by omega) (.slice A l.length cap) l.length (ccells l) hown.2 ⟨b, off, none⟩ l'.length c (ccells l') (ccells_length l') hcells (ccells_one l')
    (by simp only [maxLen]; omega) (by omega) hB
  have hv : ∃ A2 cap2, v' = .slice A2 (l.length + l'.length) cap2 := by
    rcases h2.2 with ⟨e, e'⟩ | ⟨g, cap', cur, e, _⟩
    · exact ⟨none, 0, by rw [e, e']⟩
    · exact ⟨_, _, e⟩
  obtain ⟨A2, cap2, rfl⟩ := hv
  refine ⟨A2, cap2, w', by rw [hlen]; exact hrun, ⟨hlens_append hown.1 hin.1, ?_⟩, by rw [← rowOf_own A l.length cap]; exact h3, ?_⟩
  · rw [hlen, ccells_append]
    exact h2
  · rw [rowOf_own, rowOf_own] at h5
    exact h5
theorem wp_appC {w : World} {o : Oper} {a : Act} {K : Act → World → Prop} {Q : Exit → Act → World → Prop} (s x : Operand)
    (ho : o.op = .call { callee := .builtin .append, args := #[s, x], argTypes := #[t, t] })
    {B B' : Nat} {A A' : Option Addr} {cap c n m : Nat} {l l' : List Ch} (hs : a.eval s = .slice A n cap) (hx : a.eval x = .slice A' m c) (hn : n = l.length) (hm : m = l'.length)
    (hown : HOwn w B A cap l) (hin : HIn w B' A' l') (hne : 0 < l'.length) (hB : B ≤ w.heap.size) (hb : l.length + l'.length ≤ 3000000)
    (h : ∀ A2 cap2 w', HOwn w' B A2 cap2 (l ++ l') → w.grownBy w' (rowOf A) → (rowOf A2 = rowOf A ∨ rowOf A2 = some w.heap.size) → K (a.put o.dst (.slice A2 (l ++ l').length cap2)) w') : o.wp Tryz.prog a w K Q := by
  subst hn hm
  obtain ⟨A2, cap2, w', hrun, h2, h3, h4⟩ := run_appC t o.type ht (c := c) hown hin hne hB hb
  unfold Oper.wp execOp
  simp only [ho, resolve, invoke, builtin, Sem.run_bind, Sem.run_pure, Result.andThen_ok, List.map_toArray, List.map_cons, List.map_nil, hs, hx, hrun]
  exact h A2 cap2 w' h2 h3 h4
theorem wpList_appC {w : World} {ops : Array Oper} {rest : List Oper} {o : Oper} {a : Act} {Q : Exit → Act → World → Prop} (hgd : o.guard = none) (s x : Operand)
    (ho : o.op = .call { callee := .builtin .append, args := #[s, x], argTypes := #[t, t] })
    {B B' : Nat} {A A' : Option Addr} {cap c n m : Nat} {l l' : List Ch} (hs : a.eval s = .slice A n cap) (hx : a.eval x = .slice A' m c) (hn : n = l.length) (hm : m = l'.length)
    (hown : HOwn w B A cap l) (hin : HIn w B' A' l') (hne : 0 < l'.length) (hB : B ≤ w.heap.size) (hb : l.length + l'.length ≤ 3000000)
    (h : ∀ A2 cap2 w', HOwn w' B A2 cap2 (l ++ l') → w.grownBy w' (rowOf A) → (rowOf A2 = rowOf A ∨ rowOf A2 = some w.heap.size) → wpList Tryz.prog ops Q rest (a.put o.dst (.slice A2 (l ++ l').length cap2)) w') : wpList Tryz.prog ops Q (o :: rest) a w :=
  wpList_plain hgd fun _ hK => wp_appC t ht s x ho hs hx hn hm hown hin hne hB hb fun A2 cap2 w' h2 h3 h4 => hK _ _ (h A2 cap2 w' h2 h3 h4)
theorem step_appC {w : World} {ops : Array Oper} {o : Oper} {a : Act} {K : Act → World → Prop} {Q : Exit → Act → World → Prop} {E : Prop} (hgd : o.guard = none) (s x : Operand)
    (ho : o.op = .call { callee := .builtin .append, args := #[s, x], argTypes := #[t, t] })
    {B B' : Nat} {A A' : Option Addr} {cap c n m : Nat} {l l' : List Ch} (hs : a.eval s = .slice A n cap) (hx : a.eval x = .slice A' m c) (hn : n = l.length) (hm : m = l'.length)
    (hown : HOwn w B A cap l) (hin : HIn w B' A' l') (hne : 0 < l'.length) (hB : B ≤ w.heap.size) (hb : l.length + l'.length ≤ 3000000)
    (h : ∀ A2 cap2 w', HOwn w' B A2 cap2 (l ++ l') → w.grownBy w' (rowOf A) → (rowOf A2 = rowOf A ∨ rowOf A2 = some w.heap.size) → K (a.put o.dst (.slice A2 (l ++ l').length cap2)) w') :
    if Region.wanted o (yielded ops a.tmps) = true then Oper.wp Tryz.prog o a w K Q else E := by
  have hw : Region.wanted o (yielded ops a.tmps) = true := by simp [Region.wanted, hgd]
  rw [if_pos hw]
  exact wp_appC t ht s x ho hs hx hn hm hown hin hne hB hb h
end
end Go.Proofs.YtaofemdhgfejjaaGreatDoor
