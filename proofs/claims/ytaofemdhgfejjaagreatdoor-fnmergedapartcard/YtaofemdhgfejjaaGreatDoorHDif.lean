/-
  What leads from one map to another one, as a list of changes: plain mathematics; rows of edits in memory.
-/
import Derived.Test.YtaofemdhgfejjaaGreatDoorHMem
import Derived.Test.YtaofemdhgfejjaaGreatDoorHEditO
import Derived.Test.YtaofemdhgfejjaaGreatDoorPOrd
namespace Go.Proofs.YtaofemdhgfejjaaGreatDoor
open Go.RowKit

def lossC (p : Pr) : Ch := (p.1, p.2, ByteArray.empty, true, false)
def gainC (q : Pr) : Ch := (q.1, ByteArray.empty, q.2, false, true)
def turnC (p q : Pr) : Ch := (q.1, p.2, q.2, true, true)
/-- by rising keys, of each key that is unlike in both a change -/
def difM : List Pr → List Pr → List Ch
  | [], [] => []
  | p :: a, [] => lossC p :: difM a []
  | [], q :: b => gainC q :: difM [] b
  | p :: a, q :: b => if ltB p.1 q.1 = true then lossC p :: difM a (q :: b) else if ltB q.1 p.1 = true then gainC q :: difM (p :: a) b else if p.2 = q.2 then difM a b else turnC p q :: difM a b
termination_by a b => a.length + b.length
theorem difM_nil : difM [] [] = [] := by rw [difM]
theorem difM_a (p : Pr) (a : List Pr) : difM (p :: a) [] = lossC p :: difM a [] := by rw [difM]
theorem difM_b (q : Pr) (b : List Pr) : difM [] (q :: b) = gainC q :: difM [] b := by rw [difM]
theorem difM_lt {p q : Pr} {a b : List Pr} (h : ltB p.1 q.1 = true) : difM (p :: a) (q :: b) = lossC p :: difM a (q :: b) := by rw [difM, if_pos h]
theorem difM_gt {p q : Pr} {a b : List Pr} (h : ltB q.1 p.1 = true) : difM (p :: a) (q :: b) = gainC q :: difM (p :: a) b := by rw [difM, if_neg (by rw [ltB_asymm h]; simp), if_pos h]
theorem difM_same {p q : Pr} {a b : List Pr} (h : p.1 = q.1) (h' : p.2 = q.2) : difM (p :: a) (q :: b) = difM a b := by rw [difM, h, ltB_irrefl, if_neg (by simp), if_neg (by simp), if_pos h']
theorem difM_turn {p q : Pr} {a b : List Pr} (h : p.1 = q.1) (h' : ¬ p.2 = q.2) : difM (p :: a) (q :: b) = turnC p q :: difM a b := by rw [difM, h, ltB_irrefl, if_neg (by simp), if_neg (by simp), if_neg h']
theorem difM_len : ∀ (n : Nat) (a b : List Pr), a.length + b.length ≤ n → (difM a b).length ≤ n
  | n, [], [], _ => by rw [difM_nil]; simp
  | n, p :: a, [], h => by
    rw [difM_a]
    have := difM_len (n - 1) a [] (by simp at h ⊢; omega)
    simp at h ⊢; omega
  | n, [], q :: b, h => by
    rw [difM_b]
    have := difM_len (n - 1) [] b (by simp at h ⊢; omega)
    simp at h ⊢; omega
  | n, p :: a, q :: b, h => by
    rcases ltB_tri p.1 q.1 with g | g | g
    · rw [difM_lt g]
      have := difM_len (n - 1) a (q :: b) (by simp at h ⊢; omega)
      simp at h ⊢; omega
    · by_cases g' : p.2 = q.2
      · rw [difM_same g g']
        exact difM_len n a b (by simp at h ⊢; omega)
      · rw [difM_turn g g']
        have := difM_len (n - 1) a b (by simp at h ⊢; omega)
        simp at h ⊢; omega
    · rw [difM_gt g]
      have := difM_len (n - 1) (p :: a) b (by simp at h ⊢; omega)
      simp at h ⊢; omega
termination_by _ a b => a.length + b.length

/-- the edit of a change -/
def edV (c : Ch) : Value := editV c.1 c.2.1 c.2.2.1 c.2.2.2.1 c.2.2.2.2
theorem edV_loss (p : Pr) : edV (lossC p) = .iface 117 (.agg #[.string p.1, .string p.2]) := rfl
theorem edV_gain (q : Pr) : edV (gainC q) = .iface 119 (.agg #[.string q.1, .string q.2]) := rfl
theorem edV_turn (p q : Pr) (h : p.1 = q.1) : edV (turnC p q) = .iface 121 (.agg #[.string p.1, .string p.2, .string q.1, .string q.2]) := by rw [h]; rfl
theorem editV_one (x o n : ByteArray) (p q : Bool) : (editV x o n p q).oneCell' = true := by cases p <;> cases q <;> rfl

/-- the slice at A is a row of the call's own, and holds the edits of the changes l -/
def EOwn (w : World) (B : Nat) (A : Option Addr) (cap : Nat) (l : List Ch) : Prop := w.ownsRow B 74 1 (.slice A l.length cap) l.length (l.map edV)
theorem EOwn.nil (w : World) (B : Nat) : EOwn w B none 0 [] := World.ownsRow_nil _ _ _ _
theorem EOwn.below {w w' : World} {B : Nat} {A : Option Addr} {cap : Nat} {l : List Ch} (h : EOwn w B A cap l) (hb : Below w.heap.size w w') : EOwn w' B A cap l := by
  refine World.ownsRow.kept h (Below.toGrown hb none) ?_
  cases hv : (Value.slice A l.length cap).ownBlock <;> simp
theorem EOwn.alloc {w : World} {B : Nat} {A : Option Addr} {cap : Nat} {l : List Ch} (h : EOwn w B A cap l) (o : Obj) : EOwn (w.alloc o) B A cap l := h.below ((Below.refl _ _).alloc (Nat.le_refl _) o)
theorem EOwn.drew {w : World} {B : Nat} {A : Option Addr} {cap : Nat} {l : List Ch} (h : EOwn w B A cap l) : EOwn w.drew B A cap l := h
theorem EOwn.row {w : World} {B : Nat} {A : Option Addr} {cap : Nat} {l : List Ch} (h : EOwn w B A cap l) : ∀ g, rowOf A = some g → B ≤ g ∧ g < w.heap.size := by
  intro g hg
  exact World.ownsRow.lt h g (by rw [rowOf_own]; exact hg)
theorem EOwn.grownBelow {w w' : World} {B : Nat} {A : Option Addr} {cap : Nat} {l : List Ch} (h : EOwn w B A cap l) (hg : w.grownBy w' (Value.slice A l.length cap).ownBlock) (hB : B ≤ w.heap.size) : Below B w w' :=
  (Below.refl B w).grown hg hB (fun k hk => (World.ownsRow.lt h k hk).1)
theorem EOwn.kept {w w' : World} {B : Nat} {A A' : Option Addr} {cap : Nat} {l : List Ch} (h : EOwn w B A cap l) (hg : w.grownBy w' (rowOf A')) (hne : ∀ g, rowOf A = some g → rowOf A' ≠ some g) : EOwn w' B A cap l := by
  refine World.ownsRow.kept h hg ?_
  rw [rowOf_own]
  cases e : rowOf A with
  | none => exact .inl rfl
  | some g => exact .inr (fun x => hne g e x.symm)
theorem EOwn.cell {w : World} {B : Nat} {A : Option Addr} {cap : Nat} {l : List Ch} (h : EOwn w B A cap l) {i : Nat} (hi : i < l.length) : ∃ g, A = some ⟨g, 0, none⟩ ∧ g < w.heap.size ∧ w.cell? ⟨g, i, none⟩ = some (edV l[i]) := by
  have h' := h
  rcases h.2 with ⟨e, e'⟩ | ⟨g, c, cur, e, hb, hg, _⟩
  · omega
  · injection e with e1 e2 e3
    subst e1
    refine ⟨g, rfl, (Array.getElem?_eq_some_iff.1 hg).1, ?_⟩
    have := World.ownsRow.cellAt h' i (by omega)
    rw [List.getElem?_map, List.getElem?_eq_getElem hi] at this
    exact this
theorem infoE : (Tryz.prog.info? 74).map (fun i => (i.zero, i.size, i.bytes)) = some (some .nilIface, 1, 16) := by kernel_rfl
section
variable (t ty : TypeId) (ht : Tryz.prog.underlying t = some (.slice 74))
include ht
set_option maxRecDepth 100000 in
theorem run_appE {w : World} {B g : Nat} {A : Option Addr} {cap : Nat} {l : List Ch} {c : Ch} (hown : EOwn w B A cap l) (hc : w.cell? ⟨g, 0, none⟩ = some (edV c)) (hB : B ≤ w.heap.size) (hb : l.length ≤ 3000000) :
    ∃ A2 cap2 w', (Builtin.append_ #[t, t] ty #[.slice A l.length cap, .slice (some ⟨g, 0, none⟩) 1 1]).run Tryz.prog w = .ok (.slice A2 (l ++ [c]).length cap2) w' ∧ EOwn w' B A2 cap2 (l ++ [c]) ∧ w.grownBy w' (rowOf A) ∧ (rowOf A2 = rowOf A ∨ rowOf A2 = some w.heap.size) := by
  obtain ⟨i, hi, hz0, hz1, hz2⟩ := info_parts infoE
  have hlen : (l ++ [c]).length = l.length + 1 := by simp
  have hcells : ∀ j u, ([edV c] : List Value)[j]? = some u → w.cell? ((⟨g, 0, none⟩ : Addr).add j) = some u := by
    intro j u hu
    have hj : j < 1 := by simpa using (List.getElem?_eq_some_iff.1 hu).1
    obtain rfl : j = 0 := by omega
    rw [add_pl]
    simp at hu
    subst hu
    exact hc
  obtain ⟨v', w', hrun, h2, h3, _, h5⟩ := run_append_own_at (P := Tryz.prog) w B t ty 74 i _ 1 16 ht hi hz0 hz1 hz2 rfl (by omega) (.slice A l.length cap) l.length (l.map edV) hown ⟨g, 0, none⟩ 1 1 [edV c] rfl hcells (fun u hu => by simp at hu; subst hu; exact editV_one _ _ _ _ _)
    (by simp only [maxLen]; omega) (by omega) hB
  have hv : ∃ A2 cap2, v' = .slice A2 (l.length + 1) cap2 := by
    rcases h2.2 with ⟨e, e'⟩ | ⟨g, cap', cur, e, _⟩
    · exact ⟨none, 0, by rw [e, e']⟩
    · exact ⟨_, _, e⟩
  obtain ⟨A2, cap2, rfl⟩ := hv
  refine ⟨A2, cap2, w', by rw [hlen]; exact hrun, ?_, by rw [← rowOf_own A l.length cap]; exact h3, ?_⟩
  · unfold EOwn
    rw [hlen, List.map_append]
    exact h2
  · rw [rowOf_own, rowOf_own] at h5
    exact h5
theorem wp_appE {w : World} {o : Oper} {a : Act} {K : Act → World → Prop} {Q : Exit → Act → World → Prop} (s x : Operand)
    (ho : o.op = .call { callee := .builtin .append, args := #[s, x], argTypes := #[t, t] })
    {B g : Nat} {A : Option Addr} {cap n : Nat} {l : List Ch} {c : Ch} (hs : a.eval s = .slice A n cap) (hx : a.eval x = .slice (some ⟨g, 0, none⟩) 1 1) (hn : n = l.length)
    (hown : EOwn w B A cap l) (hc : w.cell? ⟨g, 0, none⟩ = some (edV c)) (hB : B ≤ w.heap.size) (hb : l.length ≤ 3000000)
    (h : ∀ A2 cap2 w', EOwn w' B A2 cap2 (l ++ [c]) → w.grownBy w' (rowOf A) → (rowOf A2 = rowOf A ∨ rowOf A2 = some w.heap.size) → K (a.put o.dst (.slice A2 (l ++ [c]).length cap2)) w') : o.wp Tryz.prog a w K Q := by
  subst hn
  obtain ⟨A2, cap2, w', hrun, h2, h3, h4⟩ := run_appE t o.type ht hown hc hB hb
  unfold Oper.wp execOp
  simp only [ho, resolve, invoke, builtin, Sem.run_bind, Sem.run_pure, Result.andThen_ok, List.map_toArray, List.map_cons, List.map_nil, hs, hx, hrun]
  exact h A2 cap2 w' h2 h3 h4
theorem wpList_appE {w : World} {ops : Array Oper} {rest : List Oper} {o : Oper} {a : Act} {Q : Exit → Act → World → Prop} (hgd : o.guard = none) (s x : Operand)
    (ho : o.op = .call { callee := .builtin .append, args := #[s, x], argTypes := #[t, t] })
    {B g : Nat} {A : Option Addr} {cap n : Nat} {l : List Ch} {c : Ch} (hs : a.eval s = .slice A n cap) (hx : a.eval x = .slice (some ⟨g, 0, none⟩) 1 1) (hn : n = l.length)
    (hown : EOwn w B A cap l) (hc : w.cell? ⟨g, 0, none⟩ = some (edV c)) (hB : B ≤ w.heap.size) (hb : l.length ≤ 3000000)
    (h : ∀ A2 cap2 w', EOwn w' B A2 cap2 (l ++ [c]) → w.grownBy w' (rowOf A) → (rowOf A2 = rowOf A ∨ rowOf A2 = some w.heap.size) → wpList Tryz.prog ops Q rest (a.put o.dst (.slice A2 (l ++ [c]).length cap2)) w') : wpList Tryz.prog ops Q (o :: rest) a w :=
  wpList_plain hgd fun _ hK => wp_appE t ht s x ho hs hx hn hown hc hB hb fun A2 cap2 w' h2 h3 h4 => hK _ _ (h A2 cap2 w' h2 h3 h4)
theorem step_appE {w : World} {ops : Array Oper} {o : Oper} {a : Act} {K : Act → World → Prop} {Q : Exit → Act → World → Prop} {E : Prop} (hgd : o.guard = none) (s x : Operand)
    (ho : o.op = .call { callee := .builtin .append, args := #[s, x], argTypes := #[t, t] })
    {B g : Nat} {A : Option Addr} {cap n : Nat} {l : List Ch} {c : Ch} (hs : a.eval s = .slice A n cap) (hx : a.eval x = .slice (some ⟨g, 0, none⟩) 1 1) (hn : n = l.length)
    (hown : EOwn w B A cap l) (hc : w.cell? ⟨g, 0, none⟩ = some (edV c)) (hB : B ≤ w.heap.size) (hb : l.length ≤ 3000000)
    (h : ∀ A2 cap2 w', EOwn w' B A2 cap2 (l ++ [c]) → w.grownBy w' (rowOf A) → (rowOf A2 = rowOf A ∨ rowOf A2 = some w.heap.size) → K (a.put o.dst (.slice A2 (l ++ [c]).length cap2)) w') :
    if Region.wanted o (yielded ops a.tmps) = true then Oper.wp Tryz.prog o a w K Q else E := by
  have hw : Region.wanted o (yielded ops a.tmps) = true := by simp [Region.wanted, hgd]
  rw [if_pos hw]
  exact wp_appE t ht s x ho hs hx hn hown hc hB hb h
end
end Go.Proofs.YtaofemdhgfejjaaGreatDoor
