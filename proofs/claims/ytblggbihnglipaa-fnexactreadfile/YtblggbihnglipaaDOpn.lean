/-
  An argument that is a disk, opened.
-/
import Derived.Test.YtblggbihnglipaaDMem
import Derived.Test.YtblggbihnglipaaLOpen
import Derived.Test.YtblggbihnglipaaDDkM
import Derived.Deep.Slices
import Derived.ChangeSame
import Derived.ChangeArms
import Derived.Lib.SmallJoins
namespace Go.Proofs.Ytblggbihnglipaa
open Go.ChangeShapes Go.WideShapes Go.ChangeAt Go.RowKit Go.Deep

section
variable {H : Type} {enc : TypeId × Value → H} {P : Program} {w : World} {base : Nat} {spare : Nat → Bool} {held : Bool}
/-- a slice of structs of four fields, opened -/
theorem open_four {t e : TypeId} {f0 f1 f2 f3 : Field} {fuel : Nat} {cs : List Value} {x : DataW H × List MemPlace} (ht : P.underlying t = some (.slice e)) (he : P.underlying e = some (.struct #[f0, f1, f2, f3]))
    (ce : P.cellsOf e = 4) (o0 : f0.offset = 0) (o1 : f1.offset = 1) (o2 : f2.offset = 2) (o3 : f3.offset = 3) (c0 : P.cellsOf f0.type = 1) (c1 : P.cellsOf f1.type = 1) (c2 : P.cellsOf f2.type = 1) (c3 : P.cellsOf f3.type = 1)
    (h : DataW.trod enc P w base spare held fuel t cs = some x) :
    cs = [.slice none 0 0] ∨ ∃ (a : Addr) (len cap m n : Nat), cs = [.slice (some a) len cap] ∧ len ≤ cap ∧ cap ≤ maxLen ∧ m = (if spare a.block then cap else len) ∧
      ∀ i, i < m → ∃ v0 v1 v2 v3, (w.cell? (a.add (i * 4)) = some v0 ∧ w.cell? (a.add (i * 4 + 1)) = some v1 ∧ w.cell? (a.add (i * 4 + 2)) = some v2 ∧ w.cell? (a.add (i * 4 + 3)) = some v3) ∧
        (∃ y, DataW.trod enc P w base spare held n f0.type [v0] = some y) ∧ (∃ y, DataW.trod enc P w base spare held n f1.type [v1] = some y) ∧ (∃ y, DataW.trod enc P w base spare held n f2.type [v2] = some y) ∧ (∃ y, DataW.trod enc P w base spare held n f3.type [v3] = some y) := by
  rcases open_slice ht h with h0 | ⟨a, len, cap, m, n, D, Pl, rfl, hb, hl, hm, hmm, rfl, hx⟩
  · exact .inl h0.1
  right
  refine ⟨a, len, cap, m, n - 1, rfl, hl, hm, hmm, fun i hi => ?_⟩
  obtain ⟨cs', h1, h2⟩ := hx i hi
  rw [ce] at h1
  obtain ⟨_, hlen, hcell⟩ := World.cells?_some h1
  obtain ⟨xs, k, hk, hxy, _, hxl, hf⟩ := DataW.trod_struct he h2
  have hk' : k = n - 1 := by omega
  subst hk'
  match xs, hxl, cs', hlen with
  | [y0, y1, y2, y3], _, [v0, v1, v2, v3], _ =>
    have g0 := hf 0 f0 rfl
    have g1 := hf 1 f1 rfl
    have g2 := hf 2 f2 rfl
    have g3 := hf 3 f3 rfl
    simp [o0, o1, o2, o3, c0, c1, c2, c3] at g0 g1 g2 g3
    have e0 := hcell 0 (by omega)
    have e1 := hcell 1 (by omega)
    have e2 := hcell 2 (by omega)
    have e3 := hcell 3 (by omega)
    rw [add_add] at e0 e1 e2 e3
    exact ⟨v0, v1, v2, v3, ⟨by simpa using e0, by simpa using e1, by simpa using e2, by simpa using e3⟩, ⟨_, g0⟩, ⟨_, g1⟩, ⟨_, g2⟩, ⟨_, g3⟩⟩
end
section
variable {H : Type} {enc : TypeId × Value → H} {W : World}
theorem open_ops1 {v : Value} {n : Nat} {y : DataW H × List MemPlace} (h : DataW.trod enc Try.prog W 0 (fun _ => true) true n 23 [v] = some y) :
    ∃ (A : Option Addr) (cap : Nat) (l : List Dp), v = .slice A l.length cap ∧ l.length ≤ maxLen ∧ DIn W W.heap.size A l := by
  rcases open_four Try.underlying23 Try.underlying41 (by kernel_rfl) (by rfl) (by rfl) (by rfl) (by rfl) (by kernel_rfl) (by kernel_rfl) (by kernel_rfl) (by kernel_rfl) h with hcs | ⟨a, len, c, m, k, hcs, hlc, hm, hmm, hc⟩
  · simp at hcs
    exact ⟨none, 0, [], by simpa using hcs, by simp [maxLen], DIn.nil _ _ _⟩
  · simp at hcs
    subst hcs
    simp only [if_true] at hmm
    subst hmm
    have hs : ∀ i, i < len → ∃ q : Dp, (W.cell? (a.add (i * 4)) = some (.int .i64 q.1) ∧ W.cell? (a.add (i * 4 + 1)) = some (.string q.2.1) ∧ W.cell? (a.add (i * 4 + 2)) = some (.string q.2.2.1) ∧ W.cell? (a.add (i * 4 + 3)) = some (.string q.2.2.2)) ∧ cD q := by
      intro i hi
      obtain ⟨v0, v1, v2, v3, ⟨d0, d1, d2, d3⟩, ⟨_, t0⟩, ⟨_, t1⟩, ⟨_, t2⟩, ⟨_, t3⟩⟩ := hc i (by omega)
      obtain ⟨s0, e0, _, _⟩ := DataW.trod_int Try.underlying2 t0
      obtain ⟨s1, e1, _, z1⟩ := DataW.trod_string Try.underlying9 t1
      obtain ⟨s2, e2, _, z2⟩ := DataW.trod_string Try.underlying9 t2
      obtain ⟨s3, e3, _, z3⟩ := DataW.trod_string Try.underlying9 t3
      simp at e0 e1 e2 e3
      rw [e0] at d0
      rw [e1] at d1
      rw [e2] at d2
      rw [e3] at d3
      exact ⟨(s0, s1, s2, s3), ⟨d0, d1, d2, d3⟩, z1, z2, z3⟩
    obtain ⟨q, hq⟩ := choose_lt hs
    refine ⟨some a, m, (List.range len).map q, by simp, by simp; omega, fun i hi => ?_, fun hp => ?_⟩
    · have hi' : i < len := by simpa using hi
      simp only [List.getElem_map, List.getElem_range]
      exact (hq i hi').2
    · have hn : 0 < len := by simpa using hp
      obtain ⟨b, off, spot⟩ := a
      have hc0 := (hq 0 hn).1.1
      have hspot : spot = none := by simpa [Addr.add] using World.cell?_spot hc0
      subst hspot
      refine ⟨b, off, rfl, ?_, fun i hi => ?_⟩
      · have := World.block_lt_of_cell? W _ hc0
        simpa [Addr.add] using this
      · have hi' : i < len := by simpa using hi
        simp only [List.getElem_map, List.getElem_range]
        obtain ⟨h0, h1, h2, h3⟩ := (hq i hi').1
        rw [add_plain] at h0 h1 h2 h3
        exact ⟨h0, h1, h2, h3⟩
theorem open_files1 {v : Value} {n : Nat} {y : DataW H × List MemPlace} (h : DataW.trod enc Try.prog W 0 (fun _ => true) true n 22 [v] = some y) :
    ∃ (A : Option Addr) (cap : Nat) (l : List Pr), v = .slice A l.length cap ∧ l.length ≤ maxLen ∧ PIn W W.heap.size A l := by
  rcases open_slice_pairs Try.underlying22 Try.underlying104 (by kernel_rfl) (by rfl) (by rfl) (by kernel_rfl) (by kernel_rfl) h with ⟨hcs, _⟩ | ⟨a, len, c, m, k, V0, V1, D0, D1, P0, P1, hcs, _⟩
  · simp at hcs
    exact ⟨none, 0, [], by simpa using hcs, by simp [maxLen], PIn.nil _ _ _⟩
  · simp at hcs
    subst hcs
    obtain ⟨l, hl, h2, h3⟩ := open_pairs (A := some a) (n := len) (cap := c) (d := y.1) (p := y.2) (W := W) ⟨n, h⟩
    exact ⟨some a, c, l, by rw [hl], h2, h3⟩
set_option maxRecDepth 100000 in
theorem open_disk {b0 : Nat} {r : Reach} {v : Value} {x : DataW H} {p : List MemPlace} (hv : Value.okWide Try.prog W r b0 25 v) (h : DataW.Trod enc Try.prog W 0 (fun _ => true) true 25 v x p) :
    ∃ (A1 A2 A3 : Option Addr) (d : Dk) (c1 c2 c3 : Nat), v = .agg #[.slice A1 d.1.length c1, .slice A2 d.2.1.length c2, .slice A3 d.2.2.length c3] ∧ d.1.length ≤ maxLen ∧ d.2.1.length ≤ maxLen ∧ d.2.2.length ≤ maxLen ∧ DkIn W W.heap.size A1 A2 A3 d := by
  obtain ⟨v0, v1, v2, y0, y1, y2, n, rfl, _, _, t0, t1, t2⟩ := Go.Joins.open_agg3 Try.underlying25 (by kernel_rfl) (by kernel_rfl) hv h
  obtain ⟨A1, c1, l1, rfl, h1, i1⟩ := open_files1 t0
  obtain ⟨A2, c2, l2, rfl, h2, i2⟩ := open_files1 t1
  obtain ⟨A3, c3, l3, rfl, h3, i3⟩ := open_ops1 t2
  exact ⟨A1, A2, A3, (l1, l2, l3), c1, c2, c3, rfl, h1, h2, h3, i1, i2, i3⟩
end
end Go.Proofs.Ytblggbihnglipaa
