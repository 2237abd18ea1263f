/-
  What impl's commitReader.commit does: it returns the right commit whose text is read, or panics with the sentinel where there is none.
-/
import Derived.Test.YtnjdlcpgpgmeaaaDoorCRdI
import Derived.Test.YtnjdlcpgpgmeaaaDoorCCom
import Derived.Deep.RegionHeld3
import Derived.Deep.RegionLaw
namespace Go.Proofs.YtnjdlcpgpgmeaaaDoor
open Go.RowKit

def C3 (t : ByteArray) (A : Option Addr) (n cap : Nat) (m : ByteArray) : Obj := .cells #[.string t, .slice A n cap, .string m] 26 (0, 0)
/-- the reader at work: what is left, the result's block, the commit that is made, its parents' row -/
structure St (w wr : World) (rb g : Nat) (r t : ByteArray) (A : Option Addr) (cap : Nat) (ps : List ByteArray) (m : ByteArray) : Prop where
  rd : RdR wr rb r
  c1 : wr.heap[g]? = some (C3 ByteArray.empty none 0 0 ByteArray.empty)
  c2 : wr.heap[g + 1]? = some (C3 t A ps.length cap m)
  own : ZOwn wr (g + 1 + 1) A cap ps
  bl : Below rb w wr
  lt : rb < g
  sz : g + 1 + 1 ≤ wr.heap.size
theorem St.drew {w wr : World} {rb g : Nat} {r t : ByteArray} {A : Option Addr} {cap : Nat} {ps : List ByteArray} {m : ByteArray} (h : St w wr rb g r t A cap ps m) : St w wr.drew rb g r t A cap ps m :=
  ⟨h.rd, h.c1, h.c2, h.own.below (Below.refl _ _).drew, h.bl.drew, h.lt, h.sz⟩
theorem St.below {w wr w' : World} {rb g : Nat} {r t : ByteArray} {A : Option Addr} {cap : Nat} {ps : List ByteArray} {m : ByteArray} (h : St w wr rb g r t A cap ps m) (q : Below wr.heap.size wr w') : St w w' rb g r t A cap ps m := by
  have h1 := h.lt
  have h2 := h.sz
  exact ⟨(q.block _ (by omega)).trans h.rd, (q.block _ (by omega)).trans h.c1, (q.block _ (by omega)).trans h.c2, h.own.below q, h.bl.trans (q.mono (by omega)), h1, Nat.le_trans h2 q.size⟩
theorem St.setR {w wr : World} {rb g : Nat} {r t : ByteArray} {A : Option Addr} {cap : Nat} {ps : List ByteArray} {m : ByteArray} (h : St w wr rb g r t A cap ps m) (r' : ByteArray) : St w (wr.setCell ⟨rb, 0, none⟩ (.string r')) rb g r' t A cap ps m := by
  have h1 := h.lt
  exact ⟨rd_set h.rd r', (Below.heap_setCell _ _ _ _ (by show g ≠ rb; omega)).trans h.c1, (Below.heap_setCell _ _ _ _ (by show g + 1 ≠ rb; omega)).trans h.c2, ownsRow_setCell_below h.own (by show rb < _; omega) _, h.bl.setCell (Nat.le_refl _) _, h1, Nat.le_trans h.sz ((Below.refl rb wr).setCell (p := ⟨rb, 0, none⟩) (Nat.le_refl _) (.string r')).size⟩
theorem St.setT {w wr : World} {rb g : Nat} {r t : ByteArray} {A : Option Addr} {cap : Nat} {ps : List ByteArray} {m : ByteArray} (h : St w wr rb g r t A cap ps m) (t' : ByteArray) : St w (wr.setCell ⟨g + 1, 0, none⟩ (.string t')) rb g r t' A cap ps m := by
  have h1 := h.lt
  exact ⟨(Below.heap_setCell _ _ _ _ (by show rb ≠ g + 1; omega)).trans h.rd, (Below.heap_setCell _ _ _ _ (by show g ≠ g + 1; omega)).trans h.c1, heap_setCell_same wr (g + 1) 0 _ _ _ h.c2, ownsRow_setCell_below h.own (by show g + 1 < _; omega) _, h.bl.setCell (by show rb ≤ g + 1; omega) _, h1, Nat.le_trans h.sz ((Below.refl rb wr).setCell (p := ⟨g + 1, 0, none⟩) (by show rb ≤ g + 1; omega) (.string t')).size⟩
theorem St.setM {w wr : World} {rb g : Nat} {r t : ByteArray} {A : Option Addr} {cap : Nat} {ps : List ByteArray} {m : ByteArray} (h : St w wr rb g r t A cap ps m) (m' : ByteArray) : St w (wr.setCell ⟨g + 1, 2, none⟩ (.string m')) rb g r t A cap ps m' := by
  have h1 := h.lt
  exact ⟨(Below.heap_setCell _ _ _ _ (by show rb ≠ g + 1; omega)).trans h.rd, (Below.heap_setCell _ _ _ _ (by show g ≠ g + 1; omega)).trans h.c1, heap_setCell_same wr (g + 1) 2 _ _ _ h.c2, ownsRow_setCell_below h.own (by show g + 1 < _; omega) _, h.bl.setCell (by show rb ≤ g + 1; omega) _, h1, Nat.le_trans h.sz ((Below.refl rb wr).setCell (p := ⟨g + 1, 2, none⟩) (by show rb ≤ g + 1; omega) (.string m')).size⟩
/-- the row has grown by one, and the cell takes it -/
theorem St.more {w wr w' : World} {rb g : Nat} {r t : ByteArray} {A A' : Option Addr} {cap cap' : Nat} {ps : List ByteArray} {m p : ByteArray} (h : St w wr rb g r t A cap ps m) (q : Below (g + 1 + 1) wr w') (o : ZOwn w' (g + 1 + 1) A' cap' (ps ++ [p])) : St w (w'.setCell ⟨g + 1, 1, none⟩ (.slice A' (ps ++ [p]).length cap')) rb g r t A' cap' (ps ++ [p]) m := by
  have h1 := h.lt
  have e2 : w'.heap[g + 1]? = some (C3 t A ps.length cap m) := (q.block _ (by omega)).trans h.c2
  exact ⟨(Below.heap_setCell _ _ _ _ (by show rb ≠ g + 1; omega)).trans ((q.block _ (by omega)).trans h.rd), (Below.heap_setCell _ _ _ _ (by show g ≠ g + 1; omega)).trans ((q.block _ (by omega)).trans h.c1), heap_setCell_same w' (g + 1) 1 _ _ _ e2, ownsRow_setCell_below o (by show g + 1 < _; omega) _, (h.bl.trans (q.mono (by omega))).setCell (by show rb ≤ g + 1; omega) _, h1, Nat.le_trans (Nat.le_trans h.sz q.size) ((Below.refl rb w').setCell (p := ⟨g + 1, 1, none⟩) (by show rb ≤ g + 1; omega) _).size⟩
theorem St.cells {w wr : World} {rb g : Nat} {r t : ByteArray} {A : Option Addr} {cap : Nat} {ps : List ByteArray} {m : ByteArray} (h : St w wr rb g r t A cap ps m) :
    wr.cell? ⟨rb, 0, none⟩ = some (.string r) ∧ wr.cell? ⟨g + 1, 0, none⟩ = some (.string t) ∧ wr.cell? ⟨g + 1, 1, none⟩ = some (.slice A ps.length cap) ∧ wr.cell? ⟨g + 1, 2, none⟩ = some (.string m) ∧ wr.frozen? ⟨g + 1, 0, none⟩ = false ∧ wr.frozen? ⟨g + 1, 1, none⟩ = false ∧ wr.frozen? ⟨g + 1, 2, none⟩ = false :=
  ⟨cell_of_row _ _ 0 _ _ _ h.rd, cell_of_row _ _ 0 _ _ _ h.c2, cell_of_row _ _ 1 _ _ _ h.c2, cell_of_row _ _ 2 _ _ _ h.c2, frozen_of_row _ _ 0 _ _ h.c2, frozen_of_row _ _ 1 _ _ h.c2, frozen_of_row _ _ 2 _ _ h.c2⟩
theorem St.cells1 {w wr : World} {rb g : Nat} {r t : ByteArray} {A : Option Addr} {cap : Nat} {ps : List ByteArray} {m : ByteArray} (h : St w wr rb g r t A cap ps m) :
    wr.cell? ⟨g, 0, none⟩ = some (.string ByteArray.empty) ∧ wr.cell? ⟨g, 1, none⟩ = some (.slice none 0 0) ∧ wr.cell? ⟨g, 2, none⟩ = some (.string ByteArray.empty) ∧ wr.frozen? ⟨g, 0, none⟩ = false ∧ wr.frozen? ⟨g, 1, none⟩ = false ∧ wr.frozen? ⟨g, 2, none⟩ = false :=
  ⟨cell_of_row _ _ 0 _ _ _ h.c1, cell_of_row _ _ 1 _ _ _ h.c1, cell_of_row _ _ 2 _ _ _ h.c1, frozen_of_row _ _ 0 _ _ h.c1, frozen_of_row _ _ 1 _ _ h.c1, frozen_of_row _ _ 2 _ _ h.c1⟩
theorem St.start {w : World} {rb : Nat} {r : ByteArray} (h : RdR w rb r) (hb : rb < w.heap.size) : St w ((w.alloc (.cells #[.string ByteArray.empty, .slice none 0 0, .string ByteArray.empty] 26)).alloc (.cells #[.string ByteArray.empty, .slice none 0 0, .string ByteArray.empty] 26)) rb w.heap.size r ByteArray.empty none 0 [] ByteArray.empty :=
  ⟨(Below.heap_alloc _ _ _ (by simp; omega)).trans ((Below.heap_alloc _ _ _ hb).trans h), heap_alloc2_old w _ _, heap_alloc2_new w _ _, ZOwn.nil _ _, ((Below.refl rb w).alloc (by omega) _).alloc (by simp; omega) _, hb, by simp⟩
def lenAt (w : World) (p : Addr) : Nat := match w.cell? p with
  | some (.slice _ n _) => n
  | _ => 0
theorem lenAt_of {w : World} {p : Addr} {A : Option Addr} {n cap : Nat} (h : w.cell? p = some (.slice A n cap)) : lenAt w p = n := by unfold lenAt; rw [h]
section
variable (t ty : TypeId) (ht : Tryd.prog.underlying t = some (.slice 9))
include ht
theorem step_appZ {w : World} {ops : Array Oper} {o : Oper} {a : Act} {K : Act → World → Prop} {Q : Exit → Act → World → Prop} {E : Prop} (hgd : o.guard = none) (s x : Operand)
    (ho : o.op = .call { callee := .builtin .append, args := #[s, x], argTypes := #[t, t] })
    {B B' : Nat} {A A' : Option Addr} {cap c n m : Nat} {l l' : List ByteArray} (hs : a.eval s = .slice A n cap) (hx : a.eval x = .slice A' m c) (hn : n = l.length) (hm : m = l'.length)
    (hown : ZOwn w B A cap l) (hin : ZIn w B' A' l') (hB : B ≤ w.heap.size) (hb : l.length + l'.length ≤ 3000000)
    (h : ∀ A2 cap2 w', ZOwn w' B A2 cap2 (l ++ l') → w.grownBy w' (rowOf A) → (rowOf A2 = rowOf A ∨ rowOf A2 = some w.heap.size) → K (a.put o.dst (.slice A2 (l ++ l').length cap2)) w') :
    if Region.wanted o (yielded ops a.tmps) = true then Oper.wp Tryd.prog o a w K Q else E := by
  have hw : Region.wanted o (yielded ops a.tmps) = true := by simp [Region.wanted, hgd]
  rw [if_pos hw]
  exact wp_appZ t ht s x ho hs hx hn hm hown hin hB hb h
end
end Go.Proofs.YtnjdlcpgpgmeaaaDoor
