/-
  Texts that this proof leans on, joined: JM.
-/
import Derived.Test.YtdahpnjamlfakaaGreatDoorJC
import Derived.Test.YtdahpnjamlfakaaGreatDoorJO
import Derived.Test.YtdahpnjamlfakaaGreatDoorPMath
import Derived.Test.YtdahpnjamlfakaaGreatDoorPCell
import Derived.WalkKit
import Derived.Deep.QuietTactic
import Derived.OwnWalk
import Derived.Below
import Derived.Test.YtdahpnjamlfakaaGreatDoorChecked
import Derived.Maps.AppendAt
import Derived.Deep.RegionLaw
import Derived.Deep.Slices
import Derived.RegionTactic
import Derived.Deep.DeepMust
import Derived.BigQuiet
import Derived.IntWalk
import Derived.Deep.RegionHeld3
import Derived.Laws.IdiomStrings
import Derived.Lib.Builder
import Derived.Lib.AppendStr
import Derived.Lib.UnsafeStr
import Derived.Laws.Externs
/-
  The lines of a text: as a list, and what spec.l1Lines makes of them.
-/
namespace Go.Proofs.YtdahpnjamlfakaaGreatDoor
open Go.RowKit

theorem cutS_rest {s : ByteArray} {c : UInt8} (h : (cutS s c).2.2 = true) : (cutS s c).1.size + 1 + (cutS s c).2.1.size = s.size := by
  unfold cutS at h ⊢
  have := posB_le s c
  split at h
  · rename_i hp
    simp only [if_pos hp, ByteArray.size_extract]
    omega
  · simp at h
theorem cutS_one {s : ByteArray} {c : UInt8} : (cutS s c).1.size ≤ s.size ∧ (cutS s c).2.1.size ≤ s.size := by
  unfold cutS
  split
  · simp only [ByteArray.size_extract]; omega
  · simp
/-- the lines of a text, and whether the last one is ended -/
def linesF : Nat → ByteArray → List ByteArray × Bool
  | 0, _ => ([], true)
  | f + 1, s => if s.size = 0 then ([], true) else if (cutS s 10).2.2 = true then ((cutS s 10).1 :: (linesF f (cutS s 10).2.1).1, (linesF f (cutS s 10).2.1).2) else ([(cutS s 10).1], false)
theorem linesF_fuel : ∀ (f g : Nat) (s : ByteArray), s.size ≤ f → s.size ≤ g → linesF f s = linesF g s
  | 0, 0, _, _, _ => rfl
  | 0, g + 1, s, h, _ => by have : s.size = 0 := by omega
                            rw [linesF, linesF, if_pos this]
  | f + 1, 0, s, _, h => by have : s.size = 0 := by omega
                            rw [linesF, linesF, if_pos this]
  | f + 1, g + 1, s, h, h' => by
    rw [linesF, linesF]
    by_cases h0 : s.size = 0
    · rw [if_pos h0, if_pos h0]
    · rw [if_neg h0, if_neg h0]
      by_cases hc : (cutS s 10).2.2 = true
      · have := cutS_rest hc
        rw [if_pos hc, if_pos hc, linesF_fuel f g _ (by omega) (by omega)]
      · rw [if_neg hc, if_neg hc]
def linesS (s : ByteArray) : List ByteArray × Bool := linesF s.size s
theorem linesS_none {s : ByteArray} (h : s.size = 0) : linesS s = ([], true) := by unfold linesS; rw [h]; rfl
theorem linesS_more {s : ByteArray} (h : s.size ≠ 0) (hc : (cutS s 10).2.2 = true) : linesS s = ((cutS s 10).1 :: (linesS (cutS s 10).2.1).1, (linesS (cutS s 10).2.1).2) := by
  have hr := cutS_rest hc
  unfold linesS
  obtain ⟨n, hn⟩ : ∃ n, s.size = n + 1 := ⟨s.size - 1, by omega⟩
  rw [hn, linesF, if_neg h, if_pos hc, linesF_fuel n _ (cutS s 10).2.1 (by omega) (Nat.le_refl _)]
theorem linesS_last {s : ByteArray} (h : s.size ≠ 0) (hc : (cutS s 10).2.2 = false) : linesS s = ([(cutS s 10).1], false) := by
  unfold linesS
  obtain ⟨n, hn⟩ : ∃ n, s.size = n + 1 := ⟨s.size - 1, by omega⟩
  rw [hn, linesF, if_neg h, if_neg (by rw [hc]; simp)]

/-- strings of a slice -/
def scells (l : List ByteArray) : List Value := l.map .string
def slens (l : List ByteArray) : Prop := ∀ s ∈ l, s.size ≤ maxLen
def SOwn (w : World) (B : Nat) (A : Option Addr) (cap : Nat) (l : List ByteArray) : Prop := slens l ∧ w.ownsRow B 9 1 (.slice A l.length cap) l.length (scells l)
theorem infoS : (Tryz.prog.info? 9).map (fun i => (i.zero, i.size, i.bytes)) = some (some (.string ByteArray.empty), 1, 16) := by kernel_rfl
theorem SOwn.built (w : World) (B : Nat) (hB : B ≤ w.heap.size) : SOwn (w.alloc (.cells #[] 9)) B (some ⟨w.heap.size, 0, none⟩) 0 [] :=
  ⟨fun _ h => absurd h (by simp), World.ownsRow_made w #[] 0 hB (by simp [maxLen]) rfl⟩
theorem SOwn.below {w w' : World} {B : Nat} {A : Option Addr} {cap : Nat} {l : List ByteArray} (h : SOwn w B A cap l) (hb : Below w.heap.size w w') : SOwn w' B A cap l := by
  refine ⟨h.1, h.2.kept (Below.toGrown hb none) ?_⟩
  cases hv : (Value.slice A l.length cap).ownBlock <;> simp
theorem SOwn.more {w : World} {B B' : Nat} {A : Option Addr} {cap : Nat} {l : List ByteArray} (h : SOwn w B A cap l) (hB : B' ≤ B) : SOwn w B' A cap l := by
  refine ⟨h.1, h.2.1, ?_⟩
  rcases h.2.2 with e | ⟨g, c, cur, e, hb, r⟩
  · exact .inl e
  · exact .inr ⟨g, c, cur, e, Nat.le_trans hB hb, r⟩
theorem SOwn.alloc {w : World} {B : Nat} {A : Option Addr} {cap : Nat} {l : List ByteArray} (h : SOwn w B A cap l) (o : Obj) : SOwn (w.alloc o) B A cap l := h.below ((Below.refl _ _).alloc (Nat.le_refl _) o)
theorem SOwn.row {w : World} {B : Nat} {A : Option Addr} {cap : Nat} {l : List ByteArray} (h : SOwn w B A cap l) : ∀ g, rowOf A = some g → B ≤ g ∧ g < w.heap.size := by
  intro g hg
  exact h.2.lt g (by rw [rowOf_own]; exact hg)
theorem SOwn.grownBelow {w w' : World} {B : Nat} {A : Option Addr} {cap : Nat} {l : List ByteArray} (h : SOwn w B A cap l) (hg : w.grownBy w' (rowOf A)) (hB : B ≤ w.heap.size) : Below B w w' :=
  (Below.refl B w).grown (by rw [← rowOf_own A l.length cap] at hg; exact hg) hB (fun k hk => (h.2.lt k hk).1)
theorem SOwn.cell {w : World} {B : Nat} {A : Option Addr} {cap : Nat} {l : List ByteArray} (h : SOwn w B A cap l) {i : Nat} (hi : i < l.length) : ∃ g, A = some ⟨g, 0, none⟩ ∧ g < w.heap.size ∧ w.cell? ⟨g, i, none⟩ = some (.string l[i]) := by
  rcases h.2.2 with ⟨e, e'⟩ | ⟨g, c, cur, e, hb, hg, _⟩
  · omega
  · injection e with e1 e2 e3
    subst e1
    refine ⟨g, rfl, (Array.getElem?_eq_some_iff.1 hg).1, ?_⟩
    have h1 := h.2.cellAt i (by omega)
    refine h1.trans ?_
    simp [scells, hi]

theorem run_sapp {w : World} {B : Nat} {A : Option Addr} {cap c : Nat} {l : List ByteArray} {x : ByteArray} {g : Nat} (ty : TypeId) (hown : SOwn w B A cap l) (hx : x.size ≤ maxLen) (hin : w.cell? ⟨g, 0, none⟩ = some (.string x)) (hB : B ≤ w.heap.size) (hb : l.length + 1 ≤ 3000000) :
    ∃ A2 cap2 w', (Builtin.append_ #[28, 28] ty #[.slice A l.length cap, .slice (some ⟨g, 0, none⟩) 1 c]).run Tryz.prog w = .ok (.slice A2 (l.length + 1) cap2) w' ∧ SOwn w' B A2 cap2 (l ++ [x]) ∧ w.grownBy w' (rowOf A) ∧ (rowOf A2 = rowOf A ∨ rowOf A2 = some w.heap.size) := by
  obtain ⟨i, hi, hz0, hz1, hz2⟩ := info_parts infoS
  have hcells : ∀ j u, (scells [x])[j]? = some u → w.cell? ((⟨g, 0, none⟩ : Addr).add j) = some u := by
    intro j u hu
    have hj : j < (scells [x]).length := (List.getElem?_eq_some_iff.1 hu).1
    obtain rfl : j = 0 := by simpa [scells] using hj
    rw [add_pl]
    simp [scells] at hu
    rw [← hu]; exact hin
  obtain ⟨v', w', hrun, h2, h3, _, h5⟩ := run_append_own_at (P := Tryz.prog) w B 28 ty 9 i _ 1 16 Tryz.underlying28 hi hz0 hz1 hz2 rfl (by omega) (.slice A l.length cap) l.length (scells l) hown.2 ⟨g, 0, none⟩ 1 c (scells [x]) rfl hcells (by intro u hu; simp [scells] at hu; subst hu; rfl)
    (by simp only [maxLen]; omega) (by omega) hB
  have hv : ∃ A2 cap2, v' = .slice A2 (l.length + 1) cap2 := by
    rcases h2.2 with ⟨e, e'⟩ | ⟨g, cap', cur, e, _⟩
    · exact ⟨none, 0, by rw [e, e']⟩
    · exact ⟨_, _, e⟩
  obtain ⟨A2, cap2, rfl⟩ := hv
  refine ⟨A2, cap2, w', hrun, ⟨?_, ?_⟩, by rw [← rowOf_own A l.length cap]; exact h3, ?_⟩
  · intro s hs
    rcases List.mem_append.1 hs with h | h
    · exact hown.1 s h
    · rw [List.mem_singleton.1 h]; exact hx
  · rw [List.length_append, show scells (l ++ [x]) = scells l ++ scells [x] by simp [scells]]
    exact h2
  · rw [rowOf_own, rowOf_own] at h5
    exact h5
theorem wpList_sapp {w : World} {ops : Array Oper} {rest : List Oper} {o : Oper} {a : Act} {Q : Exit → Act → World → Prop} (hgd : o.guard = none) (s x : Operand)
    (ho : o.op = .call { callee := .builtin .append, args := #[s, x], argTypes := #[28, 28] })
    {B : Nat} {A : Option Addr} {cap c : Nat} {l : List ByteArray} {y : ByteArray} {g : Nat} (hs : a.eval s = .slice A l.length cap) (hx : a.eval x = .slice (some ⟨g, 0, none⟩) 1 c)
    (hown : SOwn w B A cap l) (hy : y.size ≤ maxLen) (hin : w.cell? ⟨g, 0, none⟩ = some (.string y)) (hB : B ≤ w.heap.size) (hb : l.length + 1 ≤ 3000000)
    (h : ∀ A2 cap2 w', SOwn w' B A2 cap2 (l ++ [y]) → w.grownBy w' (rowOf A) → (rowOf A2 = rowOf A ∨ rowOf A2 = some w.heap.size) → wpList Tryz.prog ops Q rest (a.put o.dst (.slice A2 (l.length + 1) cap2)) w') : wpList Tryz.prog ops Q (o :: rest) a w :=
  wpList_plain hgd fun _ hK => by
    obtain ⟨A2, cap2, w', hrun, h2, h3, h4⟩ := run_sapp (c := c) o.type hown hy hin hB hb
    unfold Oper.wp execOp
    simp only [ho, resolve, invoke, builtin, Sem.run_bind, Sem.run_pure, Result.andThen_ok, List.map_toArray, List.map_cons, List.map_nil, hs, hx, hrun]
    exact hK _ _ (h A2 cap2 w' h2 h3 h4)

def strLen : Value → Nat
  | .string r => r.size
  | _ => 0
theorem strLen_s (r : ByteArray) : strLen (.string r) = r.size := rfl
theorem size_zero {r : ByteArray} (h : r.size = 0) : r = ByteArray.empty := by
  apply Go.WideShapes.bytes_inj
  have : r.data.toList.length = 0 := h
  rw [List.eq_nil_of_length_eq_zero this]; rfl
theorem ne_empty {r : ByteArray} (h : r.size ≠ 0) : (r.toList == []) = false := by
  rw [beq_eq_false_iff_ne, Go.ByteArray.toList_eq]
  intro e
  exact h (by show r.data.toList.length = 0; rw [e]; rfl)
def RetLines (s : ByteArray) (w : World) (e : Ending) (w' : World) : Prop := ∃ A cap, e = .returned (.tuple #[.slice A (linesS s).1.length cap, .bool (linesS s).2]) ∧ SOwn w' w.heap.size A cap (linesS s).1 ∧ Below w.heap.size w w' ∧ (linesS s).1.length ≤ s.size

set_option maxRecDepth 100000 in
set_option maxHeartbeats 1000000 in
theorem l1Lines_any (s : ByteArray) (w : World) (hs : s.size ≤ 1048576) :
    Calls Tryz.prog 167 #[.string s] w (RetLines s w) := by
  have O0 := hide (SOwn.built w w.heap.size (Nat.le_refl _))
  have B0 := hide ((Below.refl w.heap.size w).alloc (Nat.le_refl _) (.cells #[] 9))
  have E0 : Hid (linesS s = ([] ++ (linesS s).1, (linesS s).2)) := hide (by simp)
  go_enter Tryz.func167, Tryz.ntmps167
  go_wp2
  go_loopw [0, 4] (fun sv ov wr => ∃ (r : ByteArray) (d : List ByteArray) (A : Option Addr) (cap : Nat), sv = .string r ∧ ov = .slice A d.length cap ∧ d.length + r.size ≤ s.size ∧ Hid (linesS s = (d ++ (linesS r).1, (linesS r).2)) ∧ Hid (SOwn wr w.heap.size A cap d) ∧ Hid (Below w.heap.size w wr)) (fun sv _ _ => strLen sv)
  case atStart => exact ⟨s, [], _, 0, rfl, rfl, by simp, E0, O0, B0⟩
  case round =>
    clear O0 B0 E0
    obtain ⟨r, d, A, cap, rfl, rfl, hd, E, O, Q⟩ := hrel
    by_cases h0 : r.size = 0
    · have Z : Hid (linesS s = (d, true)) := hide (by rw [E.out, linesS_none h0]; simp)
      obtain rfl := size_zero h0
      go_wp2
      go_ret2
      exact ⟨A, cap, by rw [Z.out]; rfl, by rw [Z.out]; exact O.out, Q.out, by rw [Z.out]; simp at hd; exact hd⟩
    · have ne := ne_empty h0
      have H0 := hide h0
      clear h0
      go_wp2_with fail
      refine (l1Cut_any r 10 10 wr (by unfold maxLen; omega) rfl).mono ?_
      rintro e w1 ⟨rfl, q1⟩
      have O1 := hide (O.out.below (q1.below _))
      have Q1 := hide (Q.out.trans (q1.below _))
      have hsz := (cutS_one (s := r) (c := 10)).1
      clear q1 O Q
      cases hc : (cutS r 10).2.2
      · have Z : Hid (linesS s = (d ++ [(cutS r 10).1], false)) := hide (by rw [E.out, linesS_last H0.out hc])
        generalize (cutS r 10).1 = x at *
        generalize (cutS r 10).2.1 = y at *
        go_wp2_with (at_builtin; refine wpList_sapp (y := x) rfl (.tmp 17) (.tmp 19) rfl rfl rfl (O1.out.alloc _) (by unfold maxLen; omega) (cell_of_row _ w1.heap.size 0 #[.string x] 9 (0, 0) (heap_alloc_new w1 (.cells #[.string x] 9))) (Nat.le_trans Q1.out.size (by simp)) (by omega) ?_; intro A3 cap3 w3 own3 g3 r3; have B3 := hide (Q1.out.trans (((Below.refl _ w1).alloc Q1.out.size (.cells #[.string x] 9)).trans ((O1.out.alloc (.cells #[.string x] 9)).grownBelow g3 (Nat.le_trans Q1.out.size (by simp))))); have O3 := hide own3; clear own3 g3)
        go_ret2
        have hr0 : 0 < r.size := by have := H0.out; omega
        exact ⟨A3, cap3, by rw [Z.out]; simp, by rw [Z.out]; exact O3.out, B3.out, by rw [Z.out]; simp; omega⟩
      · have Z : Hid (linesS s = ((d ++ [(cutS r 10).1]) ++ (linesS (cutS r 10).2.1).1, (linesS (cutS r 10).2.1).2)) := hide (by rw [E.out, linesS_more H0.out hc]; simp)
        have hrr := cutS_rest hc
        generalize (cutS r 10).1 = x at *
        generalize (cutS r 10).2.1 = y at *
        have hl1 : (d ++ [x]).length = d.length + 1 := by simp
        go_wp2_with (at_builtin; refine wpList_sapp (y := x) rfl (.tmp 17) (.tmp 19) rfl rfl rfl (O1.out.alloc _) (by unfold maxLen; omega) (cell_of_row _ w1.heap.size 0 #[.string x] 9 (0, 0) (heap_alloc_new w1 (.cells #[.string x] 9))) (Nat.le_trans Q1.out.size (by simp)) (by omega) ?_; intro A3 cap3 w3 own3 g3 r3; have B3 := hide (Q1.out.trans (((Below.refl _ w1).alloc Q1.out.size (.cells #[.string x] 9)).trans ((O1.out.alloc (.cells #[.string x] 9)).grownBelow g3 (Nat.le_trans Q1.out.size (by simp))))); have O3 := hide own3; clear own3 g3)
        go_roundw
        case rel => exact ⟨y, d ++ [x], A3, cap3, rfl, by rw [hl1], by rw [hl1]; omega, Z, O3, B3⟩
        case measure => simp only [strLen_s]; omega
end Go.Proofs.YtdahpnjamlfakaaGreatDoor
/-
  Words for memory: worlds that part by draws alone; a slice that reads as a list of pairs; rows of pairs of the call's own.
-/
namespace Go.Proofs.YtdahpnjamlfakaaGreatDoor.M
open Go.RowKit

/-- the slice at A is a row of the call's own, from block B on, and holds the pairs l -/
def Own (w : World) (B : Nat) (A : Option Addr) (cap : Nat) (l : List Pr) : Prop := lens l ∧ w.ownsRow B 109 2 (.slice A l.length cap) l.length (pcells l)
theorem Own.nil (w : World) (B : Nat) : Own w B none 0 [] := ⟨lens_nil, World.ownsRow_nil _ _ _ _⟩
theorem Own.form {w : World} {B : Nat} {A : Option Addr} {cap : Nat} {l : List Pr} (h : Own w B A cap l) : (A = none ∧ cap = 0 ∧ l = []) ∨ ∃ g, A = some ⟨g, 0, none⟩ ∧ B ≤ g ∧ g < w.heap.size := by
  rcases h.2.2 with ⟨e, e'⟩ | ⟨g, c, cur, e, hb, hg, _⟩
  · injection e with e1 e2 e3
    exact .inl ⟨e1, e3, List.eq_nil_of_length_eq_zero e2⟩
  · injection e with e1 e2 e3
    exact .inr ⟨g, e1, hb, (Array.getElem?_eq_some_iff.1 hg).1⟩
theorem Own.pin {w : World} {B : Nat} {A : Option Addr} {cap : Nat} {l : List Pr} (h : Own w B A cap l) : PIn w w.heap.size A l := by
  refine ⟨h.1, fun hp => ?_⟩
  rcases h.form with ⟨_, _, rfl⟩ | ⟨g, rfl, _, hg⟩
  · simp at hp
  · refine ⟨g, 0, rfl, hg, fun i hi => ?_⟩
    obtain ⟨a, b⟩ := pcells_get l i hi
    have h1 := h.2.cellAt (i * 2) (by omega)
    have h2 := h.2.cellAt (i * 2 + 1) (by omega)
    rw [Nat.zero_add]
    exact ⟨h1.trans a, h2.trans b⟩
theorem Own.below {w w' : World} {B : Nat} {A : Option Addr} {cap : Nat} {l : List Pr} (h : Own w B A cap l) (hb : Below w.heap.size w w') : Own w' B A cap l := by
  refine ⟨h.1, h.2.kept (Below.toGrown hb none) ?_⟩
  cases hv : (Value.slice A l.length cap).ownBlock <;> simp
theorem Own.more {w : World} {B B' : Nat} {A : Option Addr} {cap : Nat} {l : List Pr} (h : Own w B A cap l) (hB : B' ≤ B) : Own w B' A cap l := by
  refine ⟨h.1, h.2.1, ?_⟩
  rcases h.2.2 with e | ⟨g, c, cur, e, hb, r⟩
  · exact .inl e
  · exact .inr ⟨g, c, cur, e, Nat.le_trans hB hb, r⟩
end Go.Proofs.YtdahpnjamlfakaaGreatDoor.M
/-
  append, make and cuts over slices of pairs, in the words of PMem: what is appended to a row of the call's own is a row of the call's own.
-/
namespace Go.Proofs.YtdahpnjamlfakaaGreatDoor.M
open Go.RowKit

theorem infoP : (Tryz.prog.info? 109).map (fun i => (i.zero, i.size, i.bytes)) = some (some (.agg #[.string ByteArray.empty, .string ByteArray.empty]), 2, 32) := by kernel_rfl

theorem Own.grownBelow {w w' : World} {B : Nat} {A : Option Addr} {cap : Nat} {l : List Pr} (h : Own w B A cap l) (hg : w.grownBy w' (Value.slice A l.length cap).ownBlock) (hB : B ≤ w.heap.size) : Below B w w' :=
  (Below.refl B w).grown hg hB (fun k hk => (h.2.lt k hk).1)

section
variable (t ty : TypeId) (ht : Tryz.prog.underlying t = some (.slice 109))
include ht
set_option maxRecDepth 100000 in
theorem run_app {w : World} {B B' : Nat} {A A' : Option Addr} {cap c : Nat} {l l' : List Pr} (hown : Own w B A cap l) (hin : PIn w B' A' l') (hB : B ≤ w.heap.size) (hb : l.length + l'.length ≤ 3000000) :
    ∃ A2 cap2 w', (Builtin.append_ #[t, t] ty #[.slice A l.length cap, .slice A' l'.length c]).run Tryz.prog w = .ok (.slice A2 (l ++ l').length cap2) w' ∧ Own w' B A2 cap2 (l ++ l') ∧ w.grownBy w' (rowOf A) ∧ (rowOf A2 = rowOf A ∨ rowOf A2 = some w.heap.size) := by
  obtain ⟨i, hi, hz0, hz1, hz2⟩ := info_parts infoP
  have hlen : (l ++ l').length = l.length + l'.length := List.length_append
  cases A' with
  | none =>
    have h0 : l' = [] := by
      rcases Nat.eq_zero_or_pos l'.length with e | e
      · exact List.eq_nil_of_length_eq_zero e
      · obtain ⟨_, _, x, _⟩ := hin.2 e
        cases x
    subst h0
    refine ⟨A, cap, w, ?_, by simpa using hown, World.grownBy.refl _ _, .inl rfl⟩
    rcases hown.2.2 with ⟨e, e'⟩ | ⟨g, cap', cur, e, _, _, hnc, _⟩
    · injection e with e1 e2 e3
      subst e1 e3
      simp [Builtin.append_, run_underlying ht, sizeOf, typeInfo, hi, Builtin.lenOf, Builtin.firstCells, e2]
    · injection e with e1 e2 e3
      subst e1 e3
      simp [Builtin.append_, run_underlying ht, sizeOf, typeInfo, hi, Builtin.lenOf, Builtin.firstCells, hnc, storeCells]
  | some a =>
    have hcells : ∀ j u, (pcells l')[j]? = some u → w.cell? (a.add j) = some u := by
      intro j u hu
      have hj : j < l'.length * 2 := by
        rw [← pcells_length]
        exact (List.getElem?_eq_some_iff.1 hu).1
      obtain ⟨b, off, e, _, hc⟩ := hin.2 (by omega)
      injection e with e
      subst e
      rw [add_pl]
      obtain ⟨p1, p2⟩ := pcells_get l' (j / 2) (by omega)
      obtain ⟨c1, c2⟩ := hc (j / 2) (by omega)
      rcases Nat.mod_two_eq_zero_or_one j with h | h
      · have hj2 : j / 2 * 2 = j := by omega
        rw [hj2] at p1 c1
        rw [p1] at hu
        rw [c1, hu]
      · have hj2 : j / 2 * 2 + 1 = j := by omega
        rw [hj2] at p2
        rw [show off + j / 2 * 2 + 1 = off + j by omega] at c2
        rw [p2] at hu
        rw [c2, hu]
    obtain ⟨v', w', hrun, h2, h3, _, h5⟩ := run_append_own_at (P := Tryz.prog) w B t ty 109 i _ 2 32 ht hi hz0 hz1 hz2 rfl (by omega) (.slice A l.length cap) l.length (pcells l) hown.2 a l'.length c (pcells l') (pcells_length l') hcells (pcells_one l')
      (by simp only [maxLen]; omega) (by omega) hB
    have hv : ∃ A2 cap2, v' = .slice A2 (l.length + l'.length) cap2 := by
      rcases h2.2 with ⟨e, e'⟩ | ⟨g, cap', cur, e, _⟩
      · exact ⟨none, 0, by rw [e, e']⟩
      · exact ⟨_, _, e⟩
    obtain ⟨A2, cap2, rfl⟩ := hv
    refine ⟨A2, cap2, w', by rw [hlen]; exact hrun, ⟨lens_append hown.1 hin.1, ?_⟩, by rw [← rowOf_own A l.length cap]; exact h3, ?_⟩
    · rw [hlen, pcells_append]
      exact h2
    · rw [rowOf_own, rowOf_own] at h5
      exact h5

theorem wp_app {w : World} {o : Oper} {a : Act} {K : Act → World → Prop} {Q : Exit → Act → World → Prop} (s x : Operand)
    (ho : o.op = .call { callee := .builtin .append, args := #[s, x], argTypes := #[t, t] })
    {B B' : Nat} {A A' : Option Addr} {cap c n m : Nat} {l l' : List Pr} (hs : a.eval s = .slice A n cap) (hx : a.eval x = .slice A' m c) (hn : n = l.length) (hm : m = l'.length)
    (hown : Own w B A cap l) (hin : PIn w B' A' l') (hB : B ≤ w.heap.size) (hb : l.length + l'.length ≤ 3000000)
    (h : ∀ A2 cap2 w', Own w' B A2 cap2 (l ++ l') → w.grownBy w' (rowOf A) → (rowOf A2 = rowOf A ∨ rowOf A2 = some w.heap.size) → K (a.put o.dst (.slice A2 (l ++ l').length cap2)) w') : o.wp Tryz.prog a w K Q := by
  subst hn hm
  obtain ⟨A2, cap2, w', hrun, h2, h3, h4⟩ := run_app t o.type ht (c := c) hown hin hB hb
  unfold Oper.wp execOp
  simp only [ho, resolve, invoke, builtin, Sem.run_bind, Sem.run_pure, Result.andThen_ok, List.map_toArray, List.map_cons, List.map_nil, hs, hx, hrun]
  exact h A2 cap2 w' h2 h3 h4

theorem wpList_app {w : World} {ops : Array Oper} {rest : List Oper} {o : Oper} {a : Act} {Q : Exit → Act → World → Prop} (hgd : o.guard = none) (s x : Operand)
    (ho : o.op = .call { callee := .builtin .append, args := #[s, x], argTypes := #[t, t] })
    {B B' : Nat} {A A' : Option Addr} {cap c n m : Nat} {l l' : List Pr} (hs : a.eval s = .slice A n cap) (hx : a.eval x = .slice A' m c) (hn : n = l.length) (hm : m = l'.length)
    (hown : Own w B A cap l) (hin : PIn w B' A' l') (hB : B ≤ w.heap.size) (hb : l.length + l'.length ≤ 3000000)
    (h : ∀ A2 cap2 w', Own w' B A2 cap2 (l ++ l') → w.grownBy w' (rowOf A) → (rowOf A2 = rowOf A ∨ rowOf A2 = some w.heap.size) → wpList Tryz.prog ops Q rest (a.put o.dst (.slice A2 (l ++ l').length cap2)) w') : wpList Tryz.prog ops Q (o :: rest) a w :=
  wpList_plain hgd fun _ hK => wp_app t ht s x ho hs hx hn hm hown hin hB hb fun A2 cap2 w' h2 h3 h4 => hK _ _ (h A2 cap2 w' h2 h3 h4)

theorem step_app {w : World} {ops : Array Oper} {o : Oper} {a : Act} {K : Act → World → Prop} {Q : Exit → Act → World → Prop} {E : Prop} (hgd : o.guard = none) (s x : Operand)
    (ho : o.op = .call { callee := .builtin .append, args := #[s, x], argTypes := #[t, t] })
    {B B' : Nat} {A A' : Option Addr} {cap c n m : Nat} {l l' : List Pr} (hs : a.eval s = .slice A n cap) (hx : a.eval x = .slice A' m c) (hn : n = l.length) (hm : m = l'.length)
    (hown : Own w B A cap l) (hin : PIn w B' A' l') (hB : B ≤ w.heap.size) (hb : l.length + l'.length ≤ 3000000)
    (h : ∀ A2 cap2 w', Own w' B A2 cap2 (l ++ l') → w.grownBy w' (rowOf A) → (rowOf A2 = rowOf A ∨ rowOf A2 = some w.heap.size) → K (a.put o.dst (.slice A2 (l ++ l').length cap2)) w') :
    if Region.wanted o (yielded ops a.tmps) = true then Oper.wp Tryz.prog o a w K Q else E := by
  have hw : Region.wanted o (yielded ops a.tmps) = true := by simp [Region.wanted, hgd]
  rw [if_pos hw]
  exact wp_app t ht s x ho hs hx hn hm hown hin hB hb h

theorem run_cut_h (A : Option Addr) (n cap k : Nat) (hk : k ≤ cap) (w : World) : (Instr.slice t (.slice A n cap) none (some (.int .i64 (k : Int))) none).run Tryz.prog w = .ok (.slice (cutA A cap 0) k cap) w := by
  have hs : ((sizeOf 109).run Tryz.prog w) = .ok 2 w := by kernel_rfl
  have he : Tryz.prog.elem t = 109 := by simp [Program.elem, ht]
  rw [run_slice_h (P := Tryz.prog) (t := t) (a := A) (len := n) (cap := cap) (w := w) (by rw [he]; exact ht) .i64 k (by omega) (by omega), he, hs]
  simp [Result.andThen, sliced, cutA]
theorem run_cut_l (A : Option Addr) (n cap k : Nat) (hk : k ≤ n) (w : World) : (Instr.slice t (.slice A n cap) (some (.int .i64 (k : Int))) none none).run Tryz.prog w = .ok (.slice (cutA A cap k) (n - k) (cap - k)) w := by
  have hs : ((sizeOf 109).run Tryz.prog w) = .ok 2 w := by kernel_rfl
  have he : Tryz.prog.elem t = 109 := by simp [Program.elem, ht]
  rw [run_slice_l (P := Tryz.prog) (t := t) (a := A) (len := n) (cap := cap) (w := w) (by rw [he]; exact ht) .i64 k (by omega) (by omega), he, hs]
  simp [Result.andThen, sliced, cutA]
end
end Go.Proofs.YtdahpnjamlfakaaGreatDoor.M
/-
  Rows of pairs of the call's own, in words: what comes back, what is made, what lies apart.
-/
namespace Go.Proofs.YtdahpnjamlfakaaGreatDoor.M
open Go.RowKit

/-- a row of the call's own comes back -/
def RetOwn (B : Nat) (l : List Pr) (w : World) (e : Ending) (w' : World) : Prop := ∃ A cap, l.length ≤ cap ∧ e = .returned (.slice A l.length cap) ∧ Own w' B A cap l ∧ Below B w w'
theorem Own.cap_le {w : World} {B : Nat} {A : Option Addr} {cap : Nat} {l : List Pr} (h : Own w B A cap l) : l.length ≤ cap := by
  rcases h.2.2 with ⟨e, e'⟩ | ⟨g, c, cur, e, _, _, hnc, _⟩
  · injection e with e1 e2 e3; omega
  · injection e with e1 e2 e3; omega
theorem Own.made {w : World} {B n cap : Nat} (h : w.ownsRow B 109 2 (.slice (some ⟨n, 0, none⟩) 0 cap) 0 []) : Own w B (some ⟨n, 0, none⟩) cap [] := ⟨lens_nil, h⟩
theorem Own.alloc {w : World} {B : Nat} {A : Option Addr} {cap : Nat} {l : List Pr} (h : Own w B A cap l) (o : Obj) : Own (w.alloc o) B A cap l := h.below ((Below.refl _ _).alloc (Nat.le_refl _) o)
theorem Own.built (w : World) (B : Nat) (hB : B ≤ w.heap.size) : Own (w.alloc (.cells #[] 109)) B (some ⟨w.heap.size, 0, none⟩) 0 [] :=
  ⟨lens_nil, World.ownsRow_made w #[] 0 hB (by simp [maxLen]) rfl⟩

theorem Own.drew {w : World} {B : Nat} {A : Option Addr} {cap : Nat} {l : List Pr} (h : Own w B A cap l) : Own w.drew B A cap l := h
/-- a list of pairs of the call's own, and whether there is one -/
def RetOwnB (B : Nat) (l : List Pr) (b : Bool) (w : World) (e : Ending) (w' : World) : Prop := ∃ A cap, l.length ≤ cap ∧ e = .returned (.tuple #[.slice A l.length cap, .bool b]) ∧ Own w' B A cap l ∧ Below B w w'
theorem retOwnB_no {B : Nat} {l : List Pr} {b : Bool} {w w' : World} (hl : l = []) (hb : b = false) (h : Below B w w') : RetOwnB B l b w (.returned (.tuple #[.slice none 0 0, .bool false])) w' := by
  subst hl hb; exact ⟨none, 0, by simp, rfl, Own.nil _ _, h⟩
theorem Own.apart {w w' : World} {B : Nat} {A A' : Option Addr} {cap : Nat} {l : List Pr} (h : Own w B A cap l) (hg : w.grownBy w' (rowOf A')) (hne : ∀ g, rowOf A = some g → rowOf A' ≠ some g) : Own w' B A cap l := by
  refine ⟨h.1, h.2.kept hg ?_⟩
  rw [rowOf_own]
  cases e : rowOf A with
  | none => exact .inl rfl
  | some g => exact .inr (fun x => hne g e x.symm)
theorem Own.row {w : World} {B : Nat} {A : Option Addr} {cap : Nat} {l : List Pr} (h : Own w B A cap l) : ∀ g, rowOf A = some g → B ≤ g ∧ g < w.heap.size := by
  intro g hg
  exact h.2.lt g (by rw [rowOf_own]; exact hg)
/-- .. with an id -/
def RetOwnI (B : Nat) (l : List Pr) (s : ByteArray) (b : Bool) (w : World) (e : Ending) (w' : World) : Prop := ∃ A cap, l.length ≤ cap ∧ e = .returned (.tuple #[.slice A l.length cap, .string s, .bool b]) ∧ Own w' B A cap l ∧ Below B w w'
theorem retOwnI_no {B : Nat} {l : List Pr} {s : ByteArray} {b : Bool} {w w' : World} (hl : l = []) (hs : s = ByteArray.empty) (hb : b = false) (h : Below B w w') : RetOwnI B l s b w (.returned (.tuple #[.slice none 0 0, .string ByteArray.empty, .bool false])) w' := by
  subst hl hs hb; exact ⟨none, 0, by simp, rfl, Own.nil _ _, h⟩
end Go.Proofs.YtdahpnjamlfakaaGreatDoor.M
/-
  What impl's sorted list answers when asked whether it rises.
-/
namespace Go.Proofs.YtdahpnjamlfakaaGreatDoor.M
open Go.RowKit

theorem sortKey_any (a b : ByteArray) (w : World) :
    Calls Tryz.prog 209 #[.agg #[.string a, .string b]] w fun e w' => e = .returned (.string a) ∧ w.alloc (.cells #[.string a, .string b] 109) = w' := by
  go_enter Tryz.func209, Tryz.ntmps209
  go_wp2
  go_ret
  exact ⟨rfl, rfl⟩

theorem method_sortKey (x y : Value) (w : World) : (method 321 109 (.agg #[x, y]) "loop.example/g00652/impl.sortKey").run Tryz.prog w = .ok (209, .agg #[x, y]) w := by kernel_rfl

set_option maxRecDepth 100000 in
set_option maxHeartbeats 1000000 in
theorem rises_any (A : Option Addr) (l : List Pr) (cap : Nat) (w : World) (hl : l.length ≤ maxLen) (hin : PIn w w.heap.size A l) :
    Calls Tryz.prog 85 #[.slice A l.length cap] w fun e w' => e = .returned (.bool (risesB l)) ∧ Below w.heap.size w w' := by
  unfold maxLen at hl
  generalize hn : l.length = n at *
  have HN := hide hn
  clear hn
  have hme := method_sortKey
  go_enter Tryz.func85, Tryz.ntmps85
  go_wp2
  go_loopw [3] (fun i wr => ∃ k : Nat, (k ≤ n ∨ k = 1) ∧ 1 ≤ k ∧ i = .int .i64 k ∧ Hid (risesTo l k) ∧ Hid (Below w.heap.size w wr)) (fun i _ => n - (intOf i).toNat)
  case atStart => exact ⟨1, .inr rfl, by omega, rfl, risesTo_one l, Below.refl _ w⟩
  case round =>
    obtain ⟨k, hk, h1, rfl, H, Q⟩ := hrel
    by_cases hlt : k < n
    · have hin2 := hin.below Q.out
      obtain ⟨b, off, rfl, hbB, hc⟩ := hin2.2 (by rw [HN.out]; omega)
      have hkl : k < l.length := by rw [HN.out]; omega
      obtain ⟨c1, c2⟩ := hc k hkl
      obtain ⟨c3, c4⟩ := hc (k - 1) (by omega)
      cases hrise : ltB (l[k - 1]'(by omega)).1 (l[k]'hkl).1
      · have Z := hide (risesB_no (l := l) (k := k - 1) (by omega) (by simpa [show k - 1 + 1 = k by omega] using hrise))
        have hrise2 : Op.bytesLess (l[k - 1]'(by omega)).1.toList (l[k]'hkl).1.toList = false := hrise
        generalize (l[k]'hkl).1 = s at *
        generalize (l[k]'hkl).2 = v at *
        generalize (l[k - 1]'(by omega)).1 = s0 at *
        generalize (l[k - 1]'(by omega)).2 = v0 at *
        have q1 : IntKind.i64.wrap ((k : Int) - 1) = (k : Int) - 1 := IntWalk.i64_in _ (by omega)
        have q2 : (0 : Int) ≤ (k : Int) - 1 := by omega
        have q3 : (1 : Int) ≤ (k : Int) := by omega
        have q4 : ((k : Int) - 1).toNat = k - 1 := by omega
        have q5 : (k : Int) - 1 < (n : Int) := by omega
        clear hin hin2 hc hrise hkl
        go_wp2
        go_region_held3 (fun w' => w'.cell? ⟨b, off + k * 2, none⟩ = some (.string s) ∧ w'.cell? ⟨b, off + k * 2 + 1, none⟩ = some (.string v) ∧ w'.cell? ⟨b, off + (k - 1) * 2, none⟩ = some (.string s0) ∧ w'.cell? ⟨b, off + (k - 1) * 2 + 1, none⟩ = some (.string v0)) (go_keep)
          (first | (go_at_call 209; refine (sortKey_any _ _ _).mono ?_; rintro e w' ⟨rfl, rfl⟩))
        clear q1 q4
        go_wp2
        go_ret
        exact ⟨ret_bool Z.out.symm, Q.out.trans ((((Below.refl _ _).drew).alloc Q.out.size _).alloc (by have := Q.out.size; simp; omega) _)⟩
      · have Z := hide (risesTo_succ (l := l) (k := k - 1) (by omega) (by simpa [show k - 1 + 1 = k by omega] using H.out) (by simpa [show k - 1 + 1 = k by omega] using hrise))
        have hrise2 : Op.bytesLess (l[k - 1]'(by omega)).1.toList (l[k]'hkl).1.toList = true := hrise
        generalize (l[k]'hkl).1 = s at *
        generalize (l[k]'hkl).2 = v at *
        generalize (l[k - 1]'(by omega)).1 = s0 at *
        generalize (l[k - 1]'(by omega)).2 = v0 at *
        have q1 : IntKind.i64.wrap ((k : Int) - 1) = (k : Int) - 1 := IntWalk.i64_in _ (by omega)
        have q2 : (0 : Int) ≤ (k : Int) - 1 := by omega
        have q3 : (1 : Int) ≤ (k : Int) := by omega
        have q4 : ((k : Int) - 1).toNat = k - 1 := by omega
        have q5 : (k : Int) - 1 < (n : Int) := by omega
        clear hin hin2 hc hrise hkl
        go_wp2
        go_region_held3 (fun w' => w'.cell? ⟨b, off + k * 2, none⟩ = some (.string s) ∧ w'.cell? ⟨b, off + k * 2 + 1, none⟩ = some (.string v) ∧ w'.cell? ⟨b, off + (k - 1) * 2, none⟩ = some (.string s0) ∧ w'.cell? ⟨b, off + (k - 1) * 2 + 1, none⟩ = some (.string v0)) (go_keep)
          (first | (go_at_call 209; refine (sortKey_any _ _ _).mono ?_; rintro e w' ⟨rfl, rfl⟩))
        clear q1 q4
        go_wp2
        go_roundw
        case rel => exact ⟨k + 1, by omega, by omega, by go_num, by rw [show k + 1 = k - 1 + 2 by omega]; exact Z, Q.out.trans ((((Below.refl _ _).drew).alloc Q.out.size _).alloc (by have := Q.out.size; simp; omega) _)⟩
        case measure => simp [intOf]; omega
    · have Z : Hid (risesB l = true) := hide (risesB_yes (by
        intro i hi hik
        exact H.out i hi (by rw [HN.out] at hi; omega)))
      go_wp2
      go_ret
      exact ⟨ret_bool Z.out.symm, Q.out⟩
end Go.Proofs.YtdahpnjamlfakaaGreatDoor.M
/-
  What spec.MapOk answers.
-/
namespace Go.Proofs.YtdahpnjamlfakaaGreatDoor.M
open Go.RowKit

set_option maxRecDepth 100000 in
set_option maxHeartbeats 1000000 in
theorem specMapOk_any (A : Option Addr) (l : List Pr) (cap : Nat) (w : World) (B : Nat) (hl : l.length ≤ maxLen) (hin : PIn w B A l) :
    Calls Tryz.prog 53 #[.slice A l.length cap] w fun e w' => e = .returned (.bool (mapB l)) ∧ Quiet w w' := by
  unfold maxLen at hl
  generalize hn : l.length = n at *
  have HN := hide hn
  clear hn
  go_enter Tryz.func53, Tryz.ntmps53
  go_wp2
  go_loopw [3] (fun i wr => ∃ k : Nat, k ≤ n ∧ i = .int .i64 k ∧ Hid (mapTo l k) ∧ Hid (Quiet w wr)) (fun i _ => n - (intOf i).toNat)
  case atStart => exact ⟨0, Nat.zero_le _, rfl, mapTo_zero l, Quiet.refl w⟩
  case round =>
    obtain ⟨k, hk, rfl, H, Q⟩ := hrel
    by_cases hlt : k < n
    · have hin2 := hin.quiet Q.out
      obtain ⟨b, off, rfl, hbB, hc⟩ := hin2.2 (by rw [HN.out]; omega)
      have hkl : k < l.length := by rw [HN.out]; omega
      obtain ⟨c1, c2⟩ := hc k hkl
      obtain ⟨s1, s2⟩ := hin2.1 k hkl
      cases hkey : keyB (l[k]'hkl).1
      · have Z := hide (mapB_key hkl hkey)
        generalize (l[k]'hkl).1 = s at *
        generalize (l[k]'hkl).2 = v at *
        clear hin hin2 hc
        go_wp2
        go_quiet ((go_at_call 99; exact quiet_same (l1Key_any s _ s1)))
        go_wp2
        go_ret
        exact ⟨ret_bool Z.out.symm, Q.out.drewN _⟩
      · cases hval : valB (l[k]'hkl).2
        · have Z := hide (mapB_val hkl hval)
          generalize (l[k]'hkl).1 = s at *
          generalize (l[k]'hkl).2 = v at *
          have hval2 : plainB v 12 = false := hval
          clear hin hin2 hc hval
          go_wp2
          go_quiet ((first | (go_at_call 99; exact quiet_same (l1Key_any s _ s1)) | (go_at_call 100; exact quiet_same (l1Plain_any v 12 _ s2))))
          go_wp2
          go_ret
          exact ⟨ret_bool Z.out.symm, Q.out.drewN _⟩
        · by_cases h0 : 0 < k
          · obtain ⟨c3, _⟩ := hc (k - 1) (by omega)
            have e1 : ((k - 1 : Nat) : Int) = (k : Int) - 1 := by omega
            cases hrise : ltB (l[k - 1]'(by omega)).1 (l[k]'hkl).1
            · have Z := hide (mapB_rise (l := l) (k := k - 1) (by omega) (by simpa [show k - 1 + 1 = k by omega] using hrise))
              generalize (l[k]'hkl).1 = s at *
              generalize (l[k]'hkl).2 = v at *
              generalize (l[k - 1]'(by omega)).1 = s0 at *
              have hval2 : plainB v 12 = true := hval
              have hrise2 : Op.bytesLess s0.toList s.toList = false := hrise
              clear hin hin2 hc hval hrise
              have q1 : IntKind.i64.wrap ((k : Int) - 1) = (k : Int) - 1 := IntWalk.i64_in _ (by omega)
              have q2 : (0 : Int) ≤ (k : Int) - 1 := by omega
              have q3 : (1 : Int) ≤ (k : Int) := by omega
              have q4 : ((k : Int) - 1).toNat = k - 1 := by omega
              have q5 : (k : Int) - 1 < (n : Int) := by omega
              have q6 : decide (0 < k) = true := decide_eq_true h0
              clear e1
              go_wp2
              go_quiet ((first | (go_at_call 99; exact quiet_same (l1Key_any s _ s1)) | (go_at_call 100; exact quiet_same (l1Plain_any v 12 _ s2))))
              clear q1 q4
              go_wp2
              go_ret
              exact ⟨ret_bool Z.out.symm, Q.out.drewN _⟩
            · have Z := hide (mapTo_succ hkl H.out hkey hval (fun _ => hrise))
              generalize (l[k]'hkl).1 = s at *
              generalize (l[k]'hkl).2 = v at *
              generalize (l[k - 1]'(by omega)).1 = s0 at *
              have hval2 : plainB v 12 = true := hval
              have hrise2 : Op.bytesLess s0.toList s.toList = true := hrise
              clear hin hin2 hc hval hrise
              have q1 : IntKind.i64.wrap ((k : Int) - 1) = (k : Int) - 1 := IntWalk.i64_in _ (by omega)
              have q2 : (0 : Int) ≤ (k : Int) - 1 := by omega
              have q3 : (1 : Int) ≤ (k : Int) := by omega
              have q4 : ((k : Int) - 1).toNat = k - 1 := by omega
              have q5 : (k : Int) - 1 < (n : Int) := by omega
              have q6 : decide (0 < k) = true := decide_eq_true h0
              clear e1
              go_wp2
              go_quiet ((first | (go_at_call 99; exact quiet_same (l1Key_any s _ s1)) | (go_at_call 100; exact quiet_same (l1Plain_any v 12 _ s2))))
              clear q1 q4
              go_wp2
              go_roundw
              case rel => exact ⟨k + 1, by omega, by go_num, Z, Q.out.drewN _⟩
              case measure => simp [intOf]; omega
          · obtain rfl : k = 0 := by omega
            have Z := hide (mapTo_succ hkl H.out hkey hval (fun h => absurd h (by omega)))
            generalize (l[0]'hkl).1 = s at *
            generalize (l[0]'hkl).2 = v at *
            have hval2 : plainB v 12 = true := hval
            have c1' : wr.cell? ⟨b, off, none⟩ = some (.string s) := by simpa using c1
            have c2' : wr.cell? ⟨b, off + 1, none⟩ = some (.string v) := by simpa using c2
            have n0 : 0 < n := hlt
            clear hin hin2 hc hval c1 c2 hlt hk
            go_wp2
            go_quiet ((first | (go_at_call 99; exact quiet_same (l1Key_any s _ s1)) | (go_at_call 100; exact quiet_same (l1Plain_any v 12 _ s2))))
            go_wp2
            go_roundw
            case rel => exact ⟨0 + 1, by omega, rfl, Z, Q.out.drewN _⟩
            case measure => simp [intOf]; omega
    · obtain rfl : k = n := by omega
      by_cases h40 : k ≤ 40
      · have Z : Hid (mapB l = true) := hide (mapB_yes (by rw [HN.out]; omega) (by rw [HN.out]; exact H.out))
        have d : decide ((k : Int) ≤ 40) = true := decide_eq_true (by omega)
        go_wp2
        go_ret
        exact ⟨ret_bool Z.out.symm, Q.out⟩
      · have Z : Hid (mapB l = false) := hide (mapB_len (by rw [HN.out]; omega))
        have d : decide ((k : Int) ≤ 40) = false := decide_eq_false (by omega)
        go_wp2
        go_ret
        exact ⟨ret_bool Z.out.symm, Q.out⟩
end Go.Proofs.YtdahpnjamlfakaaGreatDoor.M
/-
  What impl.MapOk answers.
-/
namespace Go.Proofs.YtdahpnjamlfakaaGreatDoor.M
open Go.RowKit

set_option maxRecDepth 100000 in
set_option maxHeartbeats 1000000 in
theorem implMapOk_any (A : Option Addr) (l : List Pr) (cap : Nat) (w : World) (hl : l.length ≤ maxLen) (hin : PIn w w.heap.size A l) :
    Calls Tryz.prog 44 #[.slice A l.length cap] w fun e w' => e = .returned (.bool (mapB l)) ∧ Below w.heap.size w w' := by
  by_cases h40 : l.length ≤ 40
  · generalize hn : l.length = n at *
    have HN := hide hn
    clear hn
    go_enter Tryz.func44, Tryz.ntmps44
    go_wp2
    go_loopw [10] (fun i wr => ∃ k : Nat, k ≤ n ∧ i = .int .i64 k ∧ Hid (pairsTo l k) ∧ Hid (Below w.heap.size w wr)) (fun i _ => n - (intOf i).toNat)
    case atStart => exact ⟨0, Nat.zero_le _, rfl, pairsTo_zero l, Below.refl _ w⟩
    case round =>
      obtain ⟨k, hk, rfl, H, Q⟩ := hrel
      by_cases hlt : k < n
      · have hin2 := hin.below Q.out
        obtain ⟨b, off, rfl, hbB, hc⟩ := hin2.2 (by rw [HN.out]; omega)
        have hkl : k < l.length := by rw [HN.out]; omega
        obtain ⟨c1, c2⟩ := hc k hkl
        obtain ⟨s1, s2⟩ := hin2.1 k hkl
        cases hkey : keyB (l[k]'hkl).1
        · have Z := hide (mapB_key hkl hkey)
          generalize (l[k]'hkl).1 = s at *
          generalize (l[k]'hkl).2 = v at *
          clear hin hin2 hc
          go_wp2_with (go_at_call 83; refine (keyOk_any s _ s1).mono ?_; rintro e w' ⟨rfl, rfl⟩)
          go_ret
          exact ⟨ret_bool Z.out.symm, Q.out.alloc Q.out.size _⟩
        · cases hval : valB (l[k]'hkl).2
          · have Z := hide (mapB_val hkl hval)
            generalize (l[k]'hkl).1 = s at *
            generalize (l[k]'hkl).2 = v at *
            clear hin hin2 hc
            go_wp2_with (first | (go_at_call 83; refine (keyOk_any s _ s1).mono ?_; rintro e w' ⟨rfl, rfl⟩) | (go_at_call 84; refine (valOk_any v _ s2).mono ?_; rintro e w' ⟨rfl, rfl⟩))
            go_ret
            exact ⟨ret_bool Z.out.symm, Q.out.alloc Q.out.size _⟩
          · have Z := hide (pairsTo_succ hkl H.out hkey hval)
            generalize (l[k]'hkl).1 = s at *
            generalize (l[k]'hkl).2 = v at *
            clear hin hin2 hc
            go_wp2_with (first | (go_at_call 83; refine (keyOk_any s _ s1).mono ?_; rintro e w' ⟨rfl, rfl⟩) | (go_at_call 84; refine (valOk_any v _ s2).mono ?_; rintro e w' ⟨rfl, rfl⟩))
            go_roundw
            case rel => exact ⟨k + 1, by omega, by go_num, Z, Q.out.alloc Q.out.size _⟩
            case measure => simp [intOf]; omega
      · obtain rfl : k = n := by omega
        have Z : Hid (mapB l = risesB l) := hide (mapB_of (by rw [HN.out]; exact h40) (by rw [HN.out]; exact H.out))
        have hin2 := (hin.below Q.out).more Q.out.size
        have R := hide (rises_any A l cap wr (by rw [HN.out]; exact hl) hin2)
        rw [HN.out] at R
        clear hin hin2
        go_wp2_with (go_at_call 85; refine R.out.mono ?_; rintro e w' ⟨rfl, hb⟩)
        go_ret
        exact ⟨ret_bool Z.out.symm, Q.out.trans (hb.mono Q.out.size)⟩
  · have Z : Hid (mapB l = false) := hide (mapB_len (by omega))
    unfold maxLen at hl
    have h41 : (40 : Int) < (l.length : Int) := by omega
    go_enter Tryz.func44, Tryz.ntmps44
    go_wp2
    go_ret
    exact ⟨ret_bool Z.out.symm, Below.refl _ _⟩
end Go.Proofs.YtdahpnjamlfakaaGreatDoor.M
/-
  What ReadMap reads, in the reference and in the program.
-/
namespace Go.Proofs.YtdahpnjamlfakaaGreatDoor.M
open Go.RowKit

def pairOf (x : ByteArray) : Pr := ((cutS x 61).1, (cutS x 61).2.1)
def parted (x : ByteArray) : Bool := (cutS x 61).2.2
noncomputable def okR (s : ByteArray) : Bool := (linesS s).1.all parted && (linesS s).2 && mapB ((linesS s).1.map pairOf)
noncomputable def readL (s : ByteArray) : List Pr := if okR s = true then (linesS s).1.map pairOf else []
theorem readL_no {s : ByteArray} (h : okR s = false) : readL s = [] := by unfold readL; rw [h]; rfl
theorem readL_yes {s : ByteArray} (h : okR s = true) : readL s = (linesS s).1.map pairOf := by unfold readL; rw [h]; rfl
theorem okR_open {s : ByteArray} (h : (linesS s).2 = false) : okR s = false := by unfold okR; rw [h]; simp
theorem okR_part {s x : ByteArray} (h : x ∈ (linesS s).1) (hp : parted x = false) : okR s = false := by
  unfold okR
  have : (linesS s).1.all parted = false := by
    rw [← Bool.not_eq_true, List.all_eq_true]
    intro h'
    have := h' x h
    rw [hp] at this
    simp at this
  rw [this]; simp
theorem okR_map {s : ByteArray} (h : mapB ((linesS s).1.map pairOf) = false) : okR s = false := by unfold okR; rw [h]; simp
theorem okR_long {s : ByteArray} (h : 40 < (linesS s).1.length) : okR s = false := okR_map (by
  rw [← Bool.not_eq_true]
  intro h'
  have := (mapB_iff.1 h').1
  rw [List.length_map] at this
  omega)
theorem okR_yes {s : ByteArray} (h1 : (linesS s).1.all parted = true) (h2 : (linesS s).2 = true) (h3 : mapB ((linesS s).1.map pairOf) = true) : okR s = true := by unfold okR; rw [h1, h2, h3]; rfl
theorem all_snoc {l : List ByteArray} {x : ByteArray} (h : l.all parted = true) (hx : parted x = true) : (l ++ [x]).all parted = true := by rw [List.all_append, h]; simp [hx]
theorem pairOf_size (x : ByteArray) (h : x.size ≤ maxLen) : (cutS x 61).1.size ≤ maxLen ∧ (cutS x 61).2.1.size ≤ maxLen := by
  have := cutS_one (s := x) (c := 61)
  omega

theorem SOwn.kept {w w' : World} {B : Nat} {A A' : Option Addr} {cap : Nat} {l : List ByteArray} (h : SOwn w B A cap l) (hg : w.grownBy w' (rowOf A')) (hne : ∀ g, rowOf A = some g → rowOf A' ≠ some g) : SOwn w' B A cap l := by
  refine ⟨h.1, h.2.kept hg ?_⟩
  rw [rowOf_own]
  cases e : rowOf A with
  | none => exact .inl rfl
  | some g => exact .inr (fun x => hne g e x.symm)

theorem rows_apart {w : World} {B : Nat} {A A' A3 : Option Addr} {cap : Nat} {l : List ByteArray} {o : Obj} (h : SOwn w B A cap l) (hne : ∀ g, rowOf A = some g → rowOf A' ≠ some g) (hr : rowOf A3 = rowOf A' ∨ rowOf A3 = some (w.alloc o).heap.size) : ∀ g, rowOf A = some g → rowOf A3 ≠ some g := by
  intro g hg h3
  rcases hr with e | e
  · exact hne g hg (by rw [← e]; exact h3)
  · have := (h.row g hg).2
    rw [e] at h3
    injection h3 with h3
    have h4 : (w.alloc o).heap.size = w.heap.size + 1 := by simp
    omega

set_option maxRecDepth 100000 in
set_option maxHeartbeats 1000000 in
theorem implReadMap_any (s : ByteArray) (w : World) (hs : s.size ≤ 1048576) :
    Calls Tryz.prog 139 #[.string s] w (RetOwnB w.heap.size (readL s) (okR s) w) := by
  have O0 := hide (Own.nil w w.heap.size)
  have B0 := hide (Below.refl w.heap.size w)
  have E0 : Hid (linesS s = ([] ++ (linesS s).1, (linesS s).2)) := hide (by simp)
  go_enter Tryz.func139, Tryz.ntmps139
  go_wp2
  go_loopw [0, 4] (fun sv ov wr => ∃ (r : ByteArray) (ls : List ByteArray) (d : List Pr) (A : Option Addr) (cap : Nat), sv = .string r ∧ ov = .slice A d.length cap ∧ d.length ≤ 40 ∧ ls.length + r.size ≤ s.size ∧ Hid (linesS s = (ls ++ (linesS r).1, (linesS r).2)) ∧ Hid (d = ls.map pairOf ∧ ls.all parted = true) ∧ Hid (Own wr w.heap.size A cap d) ∧ Hid (Below w.heap.size w wr)) (fun sv _ _ => strLen sv)
  case atStart => exact ⟨s, [], [], none, 0, rfl, rfl, by simp, by simp, E0, ⟨rfl, rfl⟩, O0, B0⟩
  case round =>
    clear O0 B0 E0
    obtain ⟨r, ls, d, A, cap, rfl, rfl, hd, hlr, E, D, O, Q⟩ := hrel
    by_cases h0 : r.size = 0
    · have Z : Hid (linesS s = (ls, true)) := hide (by rw [E.out, linesS_none h0]; simp)
      obtain rfl := size_zero h0
      go_wp2_with fail
      refine (implMapOk_any A d cap wr (by unfold maxLen; omega) O.out.pin).mono ?_
      rintro e w1 ⟨rfl, b1⟩
      have O1 := hide (O.out.below b1)
      have Q1 := hide (Q.out.trans (b1.mono Q.out.size))
      clear b1 O Q
      cases hm : mapB d
      · have Y := hide (okR_map (s := s) (by rw [Z.out]; show mapB (ls.map pairOf) = false; rw [← D.out.1]; exact hm))
        go_wp2
        go_ret2
        exact retOwnB_no (readL_no Y.out) Y.out Q1.out
      · have Y := hide (okR_yes (s := s) (by rw [Z.out]; exact D.out.2) (by rw [Z.out]) (by rw [Z.out]; show mapB (ls.map pairOf) = true; rw [← D.out.1]; exact hm))
        have X : Hid (readL s = d) := hide (by rw [readL_yes Y.out, Z.out, D.out.1])
        go_wp2
        go_ret2
        exact ⟨A, cap, by rw [X.out]; exact O1.out.cap_le, by rw [X.out, Y.out]; rfl, by rw [X.out]; exact O1.out, Q1.out⟩
    · have ne := ne_empty h0
      have H0 := hide h0
      clear h0
      go_wp2_with fail
      refine (stringsCut_any r 10 wr (by unfold maxLen; omega)).mono ?_
      rintro e w1 ⟨rfl, q1⟩
      have O1 := hide (O.out.below (q1.below _))
      have Q1 := hide (Q.out.trans (q1.below _))
      have hsz := (cutS_one (s := r) (c := 10)).1
      clear q1 O Q
      go_wp2_with fail
      refine (stringsCut_any (cutS r 10).1 61 w1 (by unfold maxLen; omega)).mono ?_
      rintro e w2 ⟨rfl, q2⟩
      have O2 := hide (O1.out.below (q2.below _))
      have Q2 := hide (Q1.out.trans (q2.below _))
      clear q2 O1 Q1
      cases hc : (cutS r 10).2.2
      · have Y := hide (okR_open (s := s) (by rw [E.out, linesS_last H0.out hc]))
        go_wp2
        go_ret2
        exact retOwnB_no (readL_no Y.out) Y.out Q2.out
      · have Z : Hid (linesS s = ((ls ++ [(cutS r 10).1]) ++ (linesS (cutS r 10).2.1).1, (linesS (cutS r 10).2.1).2)) := hide (by rw [E.out, linesS_more H0.out hc]; simp)
        have hrr := cutS_rest hc
        clear hc E
        generalize (cutS r 10).1 = x at *
        generalize (cutS r 10).2.1 = y at *
        have hps := pairOf_size x (by unfold maxLen; omega)
        cases hp : (cutS x 61).2.2
        · have Y := hide (okR_part (s := s) (x := x) (by rw [Z.out]; simp) hp)
          go_wp2
          go_ret2
          exact retOwnB_no (readL_no Y.out) Y.out Q2.out
        · by_cases h40 : d.length = 40
          · have Y := hide (okR_long (s := s) (by
              rw [Z.out]
              have : ls.length = 40 := by rw [← h40, D.out.1, List.length_map]
              simp only [List.length_append, List.length_singleton]
              omega))
            have e40 : ((d.length : Int) == 40) = true := by rw [beq_iff_eq]; omega
            go_wp2
            go_ret2
            exact retOwnB_no (readL_no Y.out) Y.out Q2.out
          · have e40 : ((d.length : Int) == 40) = false := by rw [beq_eq_false_iff_ne]; omega
            have D2 : Hid (d ++ [((cutS x 61).1, (cutS x 61).2.1)] = (ls ++ [x]).map pairOf ∧ (ls ++ [x]).all parted = true) := hide ⟨by rw [D.out.1]; simp [pairOf], all_snoc D.out.2 hp⟩
            have hl1 : (ls ++ [x]).length = ls.length + 1 := by simp
            clear D
            generalize (cutS x 61).1 = k at *
            generalize (cutS x 61).2.1 = v at *
            go_wp2_with (at_builtin; refine wpList_app (l := d) (l' := [(k, v)]) 36 Tryz.underlying36 rfl (.tmp 36) (.tmp 40) rfl rfl rfl rfl rfl (O2.out.alloc _) (PIn.one w2 k v hps.1 hps.2 _) (Nat.le_trans Q2.out.size (by simp)) (by simp; omega) ?_; intro A3 cap3 w3 own3 g3 r3; have B3 := hide (Q2.out.trans (((Below.refl _ w2).alloc Q2.out.size (.cells #[.string k, .string v] 109)).trans ((O2.out.alloc (.cells #[.string k, .string v] 109)).grownBelow (by rw [rowOf_own]; exact g3) (Nat.le_trans Q2.out.size (by simp))))); have O3 := hide own3; clear own3 g3)
            go_roundw
            case rel => exact ⟨y, ls ++ [x], d ++ [(k, v)], A3, cap3, rfl, by rw [show (d ++ [(k, v)]).length = d.length + 1 by simp], by simp; omega, by rw [hl1]; omega, Z, D2, O3, B3⟩
            case measure => simp only [strLen_s]; omega

set_option maxRecDepth 100000 in
set_option maxHeartbeats 1000000 in
theorem specReadMap_any (s : ByteArray) (w : World) (hs : s.size ≤ 1048576) :
    Calls Tryz.prog 135 #[.string s] w (RetOwnB w.heap.size (readL s) (okR s) w) := by
  have O0 := hide (Own.built w w.heap.size (Nat.le_refl _))
  have B0 := hide ((Below.refl w.heap.size w).alloc (Nat.le_refl _) (.cells #[] 109))
  go_enter Tryz.func135, Tryz.ntmps135
  go_wp2_with fail
  refine (l1Lines_any s _ hs).mono ?_
  rintro e w1 ⟨AL, capL, rfl, so, b1, hll⟩
  have S1 := hide so
  have O1 := hide (O0.out.below b1)
  have B1 := hide (B0.out.trans (b1.mono B0.out.size))
  have N1 : Hid (∀ g, rowOf AL = some g → rowOf (some (⟨w.heap.size, 0, none⟩ : Addr)) ≠ some g) := hide (fun g hg h => by
    have h1 := (so.row g hg).1
    have : w.heap.size = g := by simpa [rowOf] using h
    simp at h1
    omega)
  have EL : Hid (linesS s = ((linesS s).1, (linesS s).2)) := hide rfl
  have S2 := hide (S1.out.more (B' := w.heap.size) (by simp))
  clear so b1 O0 B0 S1
  generalize (linesS s).1 = ls at *
  generalize (linesS s).2 = en at *
  go_wp2
  go_loopw [4, 7] (fun ov iv wr => ∃ (k : Nat) (d : List Pr) (A : Option Addr) (cap : Nat), k ≤ ls.length ∧ Hid (d.length = k) ∧ iv = .int .i64 k ∧ ov = .slice A d.length cap ∧ Hid (d = (ls.take k).map pairOf ∧ (ls.take k).all parted = true) ∧ Hid (Own wr w.heap.size A cap d) ∧ Hid (SOwn wr w.heap.size AL capL ls) ∧ Hid (∀ g, rowOf AL = some g → rowOf A ≠ some g) ∧ Hid (Below w.heap.size w wr)) (fun _ i _ => ls.length - (intOf i).toNat)
  case atStart => exact ⟨0, [], _, 0, Nat.zero_le _, rfl, rfl, rfl, ⟨rfl, rfl⟩, O1, S2, N1, B1⟩
  case round =>
    clear O1 S2 N1 B1
    obtain ⟨k, d, A, cap, hk, hdk, rfl, rfl, D, O, S, N, Q⟩ := hrel
    by_cases hlt : k < ls.length
    · obtain ⟨g, rfl, hg, c⟩ := S.out.cell hlt
      have hx : (ls[k]'hlt).size ≤ maxLen := S.out.1 _ (List.getElem_mem _)
      have HT := hide (List.take_succ_eq_append_getElem hlt)
      have HM : Hid ((ls[k]'hlt) ∈ ls) := hide (List.getElem_mem _)
      generalize (ls[k]'hlt) = x at *
      go_wp2_with fail
      refine (l1Cut_any x 61 61 wr hx rfl).mono ?_
      rintro e w2 ⟨rfl, q2⟩
      have O2 := hide (O.out.below (q2.below _))
      have S2 := hide (S.out.below (q2.below _))
      have Q2 := hide (Q.out.trans (q2.below _))
      clear q2 O Q S c hg
      have hps := pairOf_size x hx
      cases hp : (cutS x 61).2.2
      · have Y := hide (okR_part (s := s) (x := x) (by rw [EL.out]; exact HM.out) hp)
        go_wp2
        go_ret2
        exact retOwnB_no (readL_no Y.out) Y.out Q2.out
      · have D2 : Hid (d ++ [((cutS x 61).1, (cutS x 61).2.1)] = (ls.take (k + 1)).map pairOf ∧ (ls.take (k + 1)).all parted = true) := hide (by rw [HT.out]; exact ⟨by rw [D.out.1]; simp [pairOf], all_snoc D.out.2 hp⟩)
        clear D HT HM
        generalize (cutS x 61).1 = y at *
        generalize (cutS x 61).2.1 = v at *
        go_wp2_with (at_builtin; refine wpList_app (l := d) (l' := [(y, v)]) 36 Tryz.underlying36 rfl (.tmp 34) (.tmp 38) rfl rfl rfl rfl rfl (O2.out.alloc _) (PIn.one w2 y v hps.1 hps.2 _) (Nat.le_trans Q2.out.size (by simp)) (by have := hdk.out; simp; omega) ?_; intro A3 cap3 w3 own3 g3 r3; have B3 := hide (Q2.out.trans (((Below.refl _ w2).alloc Q2.out.size (.cells #[.string y, .string v] 109)).trans ((O2.out.alloc (.cells #[.string y, .string v] 109)).grownBelow (by rw [rowOf_own]; exact g3) (Nat.le_trans Q2.out.size (by simp))))); have O3 := hide own3; have S3 := hide (SOwn.kept (S2.out.alloc (.cells #[.string y, .string v] 109)) g3 N.out); have N3 := hide (rows_apart S2.out N.out r3); clear own3 g3 r3)
        go_roundw
        case rel => exact ⟨k + 1, d ++ [(y, v)], A3, cap3, by omega, hide (by rw [List.length_append, hdk.out]; rfl), by go_num, by rw [show (d ++ [(y, v)]).length = d.length + 1 by simp], D2, O3, S3, N3, B3⟩
        case measure => simp [intOf]; omega
    · obtain rfl : k = ls.length := by omega
      have D2 : Hid (d = ls.map pairOf ∧ ls.all parted = true) := hide (by have := D.out; rw [List.take_length] at this; exact this)
      clear D N S
      cases en
      · have Y := hide (okR_open (s := s) (by rw [EL.out]))
        go_wp2
        go_ret2
        exact retOwnB_no (readL_no Y.out) Y.out Q.out
      · go_wp2_with fail
        refine (specMapOk_any A d cap wr _ (by have := hdk.out; unfold maxLen; omega) O.out.pin).mono ?_
        rintro e w2 ⟨rfl, q2⟩
        have O2 := hide (O.out.below (q2.below _))
        have Q2 := hide (Q.out.trans (q2.below _))
        clear q2 O Q
        cases hm : mapB d
        · have Y := hide (okR_map (s := s) (by rw [EL.out]; show mapB (ls.map pairOf) = false; rw [← D2.out.1]; exact hm))
          go_wp2
          go_ret2
          exact retOwnB_no (readL_no Y.out) Y.out Q2.out
        · have Y := hide (okR_yes (s := s) (by rw [EL.out]; exact D2.out.2) (by rw [EL.out]) (by rw [EL.out]; show mapB (ls.map pairOf) = true; rw [← D2.out.1]; exact hm))
          have X : Hid (readL s = d) := hide (by rw [readL_yes Y.out, EL.out, D2.out.1])
          go_wp2
          go_ret2
          exact ⟨A, cap, by rw [X.out]; exact O2.out.cap_le, by rw [X.out, Y.out]; rfl, by rw [X.out]; exact O2.out, Q2.out⟩
end Go.Proofs.YtdahpnjamlfakaaGreatDoor.M
/-
  What the laws' own helpers on pairs answer: szPair, szPairS, toPair, toPairS, eqPair, eqPairS.
-/
namespace Go.Proofs.YtdahpnjamlfakaaGreatDoor.M
open Go.RowKit
end Go.Proofs.YtdahpnjamlfakaaGreatDoor.M
/-
  What the laws' own helpers on lists of pairs answer: toPairS, eqPairS.
-/
namespace Go.Proofs.YtdahpnjamlfakaaGreatDoor.M
open Go.RowKit

theorem infoPair : (Tryz.prog.info? 109).map (fun i => (i.zero, i.size, i.bytes)) = some (some (.agg #[.string ByteArray.empty, .string ByteArray.empty]), 2, 32) := by kernel_rfl

end Go.Proofs.YtdahpnjamlfakaaGreatDoor.M
/-
  The laws' marks: markText, markPairS, heldPairS.
-/
namespace Go.Proofs.YtdahpnjamlfakaaGreatDoor.M
open Go.RowKit

/-- the pairs of a row of the call's own are marked; nothing else is turned -/
def MarkRet (k : Nat) (w : World) (B : Nat) (A : Option Addr) (cap n : Nat) (e : Ending) (w' : World) : Prop := e = .returned (.int .i64 (k + 2 * n : Nat)) ∧ Own w' B A cap (marks k n) ∧ w.grownBy w' (rowOf A)

end Go.Proofs.YtdahpnjamlfakaaGreatDoor.M
/-
  Marks from a number that stands as an integer.
-/
namespace Go.Proofs.YtdahpnjamlfakaaGreatDoor.M
open Go.RowKit
end Go.Proofs.YtdahpnjamlfakaaGreatDoor.M
/-
  What strings.Builder does, at this program: copyCheck, WriteByte, WriteString, String.
-/
namespace Go.Proofs.YtdahpnjamlfakaaGreatDoor
open Go.RowKit

abbrev IsBld (B b : Nat) (bs : List Value) (w : World) : Prop := Lib.IsBuilder 117 5 B b bs w
theorem infoBld : (Tryz.prog.info? 117).map (fun i => i.size) = some 2 := by kernel_rfl
theorem infoU8 : (Tryz.prog.info? 5).map (fun i => (i.zero, i.size, i.bytes)) = some (some (.int .u8 0), 1, 1) := by kernel_rfl

/-- every block but b, and but rows of bytes, is as it was -/
def KeptB (b : Nat) (w w' : World) : Prop := ∀ k cs T fr, k ≠ b → w.heap[k]? = some (.cells cs T fr) → T ≠ 5 → w'.heap[k]? = some (.cells cs T fr)
theorem KeptB.refl (b : Nat) (w : World) : KeptB b w w := fun _ _ _ _ _ h _ => h
theorem KeptB.trans {b : Nat} {w w' w'' : World} (h : KeptB b w w') (h' : KeptB b w' w'') : KeptB b w w'' := fun k cs T fr hk hh hT => h' k cs T fr hk (h k cs T fr hk hh hT) hT
theorem KeptB.below {b : Nat} {w w' : World} (h : Below w.heap.size w w') : KeptB b w w' := fun k cs T fr _ hh _ => by rw [h.block k (Array.getElem?_eq_some_iff.1 hh).1]; exact hh
theorem KeptB.setCell (b o : Nat) (u : Value) (w : World) : KeptB b w (w.setCell ⟨b, o, none⟩ u) := fun k cs T fr hk hh _ => by rw [Below.heap_setCell w ⟨b, o, none⟩ u k hk]; exact hh
theorem KeptB.grown {b : Nat} {w w' : World} {v : Value} {B n : Nat} {xs : List Value} (hown : w.ownsRow B 5 1 v n xs) (hg : w.grownBy w' v.ownBlock) : KeptB b w w' := fun k cs T fr _ hh hT => by
  rw [hg.block k (Array.getElem?_eq_some_iff.1 hh).1 (fun e => Lib.ownBlock_ne hown hh hT e.symm)]; exact hh
theorem IsBld.below {B b : Nat} {bs : List Value} {w w' : World} (h : IsBld B b bs w) (hb : Below w.heap.size w w') : IsBld B b bs w' := by
  have one : ∀ p, Lib.BuilderAt 117 5 B b p bs w → Lib.BuilderAt 117 5 B b p bs w' := by
    rintro p ⟨hB, v, hbk, hown, hne⟩
    refine ⟨hB, v, ?_, hown.kept (Below.toGrown hb none) ?_, hne⟩
    · rw [hb.block b (Array.getElem?_eq_some_iff.1 hbk).1]; exact hbk
    · cases hv : v.ownBlock <;> simp
  rcases h with h | h
  · exact .inl (one _ h)
  · exact .inr (one _ h)

set_option maxHeartbeats 1000000 in
set_option maxRecDepth 100000 in
theorem copyCheck_any (B b : Nat) (bs : List Value) (w : World) (h : IsBld B b bs w) :
    Calls Tryz.prog 132 #[.pointer (some ⟨b, 0, none⟩)] w fun e w' => e = .returned (.tuple #[]) ∧ Lib.BuilderAt 117 5 B b (.pointer (some ⟨b, 0, none⟩)) bs w' ∧ Below B w w' ∧ KeptB b w w' := by
  obtain ⟨j, hj, hjs⟩ := Option.map_eq_some_iff.1 infoBld
  rcases h with h | h
  · have h0 := h.cell0
    have hsh := h.shape
    have hfz := h.frozen0
    have HH := hide h
    clear h
    go_enter Tryz.func132, Tryz.ntmps132
    go_wp2
    rw [Lib.run_to_unsafe w ⟨b, 0, none⟩ Tryz.underlying115 Tryz.underlying181 hj (by rw [hjs]; decide) hsh (Nat.zero_lt_succ 1)]
    simp only [Result.andThen]
    rw [Oper.upon_value]
    go_wp2
    rw [run_callFunc_extern Tryz.func165 (by kernel_rfl) (by kernel_rfl) (by kernel_rfl) (e := Extern.AbiNoEscape.same) (by kernel_rfl), Lib.run_noEscape]
    simp only [Result.andThen]
    rw [Oper.upon_value]
    go_wp2
    rw [Lib.run_from_unsafe w ⟨b, 0, none⟩ Tryz.underlying181 Tryz.underlying115 hj hsh (by kernel_rfl)]
    simp only [Result.andThen]
    rw [Oper.upon_value]
    go_wp2
    go_end0
    exact ⟨rfl, HH.out.used _, (Below.refl B w).setCell (p := ⟨b, 0, none⟩) HH.out.1 _, KeptB.setCell b 0 _ w⟩
  · have h0 := h.cell0
    have HH := hide h
    clear h
    go_enter Tryz.func132, Tryz.ntmps132
    go_wp2
    rw [Lib.run_neq_ptr_same w _ Tryz.underlying115 hj]
    go_wp2
    go_end0
    exact ⟨rfl, HH.out, Below.refl B _, KeptB.refl _ _⟩

set_option maxHeartbeats 2000000 in
set_option maxRecDepth 100000 in
theorem writeByte_any (B b : Nat) (bs : List Value) (c : Int) (w : World) (h : IsBld B b bs w) (hlen : bs.length + 1 ≤ 140737488355328) (hBw : B ≤ w.heap.size) :
    Calls Tryz.prog 92 #[.pointer (some ⟨b, 0, none⟩), .int .u8 c] w fun e w' => e = .returned .nilIface ∧ IsBld B b (bs ++ [.int .u8 c]) w' ∧ Below B w w' ∧ KeptB b w w' := by
  obtain ⟨i0, hi, hz0, hz1, hz2⟩ := info_parts infoU8
  go_enter Tryz.func92, Tryz.ntmps92
  go_wp2_with fail
  refine (copyCheck_any B b bs _ h).mono ?_
  rintro e w1 ⟨rfl, h1, hb1, k1⟩
  obtain ⟨hB, v, hbk, hown, hne⟩ := h1
  have c0 : w1.cell? ⟨b, 0, none⟩ = some (.pointer (some ⟨b, 0, none⟩)) := by rw [Lib.cell_of_heap hbk]; rfl
  have c1 : w1.cell? ⟨b, 1, none⟩ = some v := by rw [Lib.cell_of_heap hbk]; rfl
  have hlt : b < w1.heap.size := Array.getElem?_eq_some_iff.1 hbk |>.1
  have hs1 := hb1.size
  go_wp2_with (at_builtin; refine wpList_append_own _ rfl _ _ 22 rfl B 5 i0 (.int .u8 0) 1 1 Tryz.underlying22 hi hz0 hz1 hz2 rfl (by decide) _ _ _ rfl (hown.alloc _) ⟨w1.heap.size, 0, none⟩ 1 1 [.int .u8 c] rfl rfl ?c1 ?c2 ?c3 ?c4 ?c5 ?_)
  case c1 =>
    intro j u hj
    match j, hj with
    | 0, hj => simp at hj; subst hj; simp [Addr.add]
  case c2 => intro u hu; simp at hu; subst hu; rfl
  case c3 => unfold maxLen; omega
  case c4 => omega
  case c5 => simp; omega
  intro v' w2 hown' hgrow _
  have hb2 : w2.heap[b]? = some (.cells #[.pointer (some ⟨b, 0, none⟩), v] 117 (0, 0)) := by
    rw [hgrow.block b (by simp; omega) (fun e => hne e.symm), Lib.alloc_old w1 _ b hlt]
    exact hbk
  have d0 : w2.cell? ⟨b, 0, none⟩ = some (.pointer (some ⟨b, 0, none⟩)) := by rw [Lib.cell_of_heap hb2]; rfl
  have d1 : w2.cell? ⟨b, 1, none⟩ = some v := by rw [Lib.cell_of_heap hb2]; rfl
  have f1 : w2.frozen? ⟨b, 1, none⟩ = false := Lib.frozen_of_heap hb2 1
  obtain ⟨g, cap, rfl⟩ : ∃ g cap, v' = .slice (some ⟨g, 0, none⟩) (bs.length + 1) cap := by
    rcases hown'.2 with ⟨_, h0⟩ | ⟨g, cap, cur, hv, _⟩
    · omega
    · exact ⟨g, cap, hv⟩
  go_wp2
  go_ret
  refine ⟨rfl, .inr (Lib.BuilderAt.put (T := 117) (e := 5) hB hb2 (bs' := bs ++ [.int .u8 c]) (by simpa using hown') (by decide)), ?_, ?_⟩
  · exact ((hb1.alloc (by omega) _).grown hgrow (by simp; omega) (fun k hk => (hown.lt k hk).1)).setCell (p := ⟨b, 1, none⟩) hB _
  · exact ((k1.trans (KeptB.below ((Below.refl _ w1).alloc (Nat.le_refl _) _))).trans (KeptB.grown (hown.alloc _) hgrow)).trans (KeptB.setCell b 1 _ w2)

set_option maxHeartbeats 2000000 in
set_option maxRecDepth 100000 in
theorem writeString_any (B b : Nat) (bs : List Value) (s : ByteArray) (w : World) (h : IsBld B b bs w) (hlen : bs.length + s.size ≤ 140737488355328) (hBw : B ≤ w.heap.size) :
    Calls Tryz.prog 91 #[.pointer (some ⟨b, 0, none⟩), .string s] w fun e w' => e = .returned (.tuple #[.int .i64 s.size, .nilIface]) ∧ IsBld B b (bs ++ Lib.strCells s) w' ∧ Below B w w' ∧ KeptB b w w' := by
  obtain ⟨i0, hi, hz0, hz1, hz2⟩ := info_parts infoU8
  go_enter Tryz.func91, Tryz.ntmps91
  go_wp2_with fail
  refine (copyCheck_any B b bs _ h).mono ?_
  rintro e w1 ⟨rfl, h1, hb1, k1⟩
  obtain ⟨hB, v, hbk, hown, hne⟩ := h1
  have c0 : w1.cell? ⟨b, 0, none⟩ = some (.pointer (some ⟨b, 0, none⟩)) := by rw [Lib.cell_of_heap hbk]; rfl
  have c1 : w1.cell? ⟨b, 1, none⟩ = some v := by rw [Lib.cell_of_heap hbk]; rfl
  have hlt : b < w1.heap.size := Array.getElem?_eq_some_iff.1 hbk |>.1
  have hs1 := hb1.size
  go_wp2_with (at_builtin; refine Lib.wpList_append_own_string _ rfl _ _ 22 9 rfl B 5 i0 Tryz.underlying22 Tryz.underlying9 hi hz0 hz1 hz2 _ _ _ rfl hown s rfl ?c3 ?c4 ?c5 ?_)
  case c3 => unfold maxLen; omega
  case c4 => omega
  case c5 => omega
  intro v' w2 hown' hgrow _
  have hb2 : w2.heap[b]? = some (.cells #[.pointer (some ⟨b, 0, none⟩), v] 117 (0, 0)) := by
    rw [hgrow.block b hlt (fun e => hne e.symm)]
    exact hbk
  have d0 : w2.cell? ⟨b, 0, none⟩ = some (.pointer (some ⟨b, 0, none⟩)) := by rw [Lib.cell_of_heap hb2]; rfl
  have d1 : w2.cell? ⟨b, 1, none⟩ = some v := by rw [Lib.cell_of_heap hb2]; rfl
  have f1 : w2.frozen? ⟨b, 1, none⟩ = false := Lib.frozen_of_heap hb2 1
  obtain ⟨ao, n', cap, rfl⟩ : ∃ ao n' cap, v' = .slice ao n' cap := by
    rcases hown'.2 with ⟨hv, _⟩ | ⟨g, cap, cur, hv, _⟩
    · exact ⟨_, _, _, hv⟩
    · exact ⟨_, _, _, hv⟩
  go_wp2
  go_ret2
  refine ⟨rfl, .inr (Lib.BuilderAt.put (T := 117) (e := 5) hB hb2 (bs' := bs ++ Lib.strCells s) (by simpa [Lib.strCells_length] using hown') (by decide)), ?_, ?_⟩
  · exact (hb1.grown hgrow (by omega) (fun k hk => (hown.lt k hk).1)).setCell (p := ⟨b, 1, none⟩) hB _
  · exact (k1.trans (KeptB.grown hown hgrow)).trans (KeptB.setCell b 1 _ w2)

set_option maxHeartbeats 2000000 in
set_option maxRecDepth 100000 in
/-- the text of a builder that holds a byte or more -/
theorem string_some (B b : Nat) (l : List UInt8) (w : World) (h : IsBld B b (Lib.byteCells l) w) (h0 : l ≠ []) :
    Calls Tryz.prog 93 #[.pointer (some ⟨b, 0, none⟩)] w fun e w' => e = .returned (.string ⟨l.toArray⟩) ∧ Below B w w' := by
  obtain ⟨p, hB, v, hbk, hown, hne⟩ : ∃ p, Lib.BuilderAt 117 5 B b p (Lib.byteCells l) w := by
    rcases h with h | h <;> exact ⟨_, h⟩
  have hl0 : l.length ≠ 0 := by simpa using h0
  rw [Lib.byteCells_length] at hown
  obtain ⟨g, cap, cur, rfl, hbg, hg, hnc, hcm, hcs, htake⟩ : ∃ g cap cur, v = .slice (some ⟨g, 0, none⟩) l.length cap ∧ B ≤ g ∧ w.heap[g]? = some (.cells cur 5 (0, 0)) ∧ l.length ≤ cap ∧ cap ≤ maxLen ∧ cur.size = cap * 1 ∧ cur.toList.take (l.length * 1) = Lib.byteCells l := by
    rcases hown.2 with ⟨_, hz⟩ | ⟨g, cap, cur, hv, r⟩
    · exact absurd hz hl0
    · exact ⟨g, cap, cur, hv, r⟩
  have c1 : w.drew.cell? ⟨b, 1, none⟩ = some (.slice (some ⟨g, 0, none⟩) l.length cap) := by
    have : w.drew.heap[b]? = some (.cells #[p, .slice (some ⟨g, 0, none⟩) l.length cap] 117 (0, 0)) := hbk
    rw [Lib.cell_of_heap this]; rfl
  have hSD : (Builtin.unsafeSliceData_ #[22] 156 #[.slice (some ⟨g, 0, none⟩) l.length cap]).run Tryz.prog w.drew = .ok (.pointer (some ⟨g, 0, none⟩)) w.drew :=
    Lib.run_unsafeSliceData_row _ _ _ _ _ _ (by omega)
  have hUS : (Builtin.unsafeString_ #[156, 3] 9 #[.pointer (some ⟨g, 0, none⟩), .int .i64 l.length]).run Tryz.prog w.drew = .ok (.string ⟨l.toArray⟩) (w.drew.freeze ⟨g, 0, none⟩ l.length) := by
    refine Lib.run_unsafeString_row w.drew 156 3 9 5 Tryz.underlying156 (by kernel_rfl) g cur.size (by have hg' : w.drew.heap[g]? = some (.cells cur 5 (0, 0)) := hg; simp [World.shape?, hg']) l h0 (by omega) (by unfold maxLen at hcm; omega) ?_
    intro j x hx
    exact hown.cells (g := g) rfl j (.int .u8 x.toNat) (by simp [Lib.byteCells, hx])
  have HBG := hide hbg
  clear hown htake hcs hg hbk hne
  go_enter Tryz.func93, Tryz.ntmps93
  go_wp2
  go_region
  all_goals (go_wp2; go_ret; exact ⟨rfl, Lib.below_freeze (Below.drew (Below.refl B w)) (p := ⟨g, 0, none⟩) HBG.out _⟩)

set_option maxHeartbeats 2000000 in
set_option maxRecDepth 100000 in
/-- the text of a builder that nobody has written to -/
theorem string_none (B b : Nat) (p : Value) (w : World) (hbk : w.heap[b]? = some (.cells #[p, .slice none 0 0] 117 (0, 0))) :
    Calls Tryz.prog 93 #[.pointer (some ⟨b, 0, none⟩)] w fun e w' => e = .returned (.string ⟨#[]⟩) ∧ Below B w w' := by
  have hUS : ∀ (W : World) (q : Option Addr), (Builtin.unsafeString_ #[156, 3] 9 #[.pointer q, .int .i64 0]).run Tryz.prog W = .ok (.string .empty) W := fun W q => Lib.run_unsafeString_none W _ _ _ q
  have hSD : (Builtin.unsafeSliceData_ #[22] 156 #[.slice none 0 0]).run Tryz.prog w.drew = .ok (.pointer none) w.drew := Lib.run_unsafeSliceData_nil _ _ _ _ _
  have c1 : w.drew.cell? ⟨b, 1, none⟩ = some (.slice none 0 0) := by
    have : w.drew.heap[b]? = some (.cells #[p, .slice none 0 0] 117 (0, 0)) := hbk
    rw [Lib.cell_of_heap this]; rfl
  clear hbk
  go_enter Tryz.func93, Tryz.ntmps93
  go_wp2
  go_region
  all_goals (go_wp2; go_ret; exact ⟨rfl, Below.drew (Below.refl B w)⟩)
end Go.Proofs.YtdahpnjamlfakaaGreatDoor
/-
  What impl.writePair writes.
-/
namespace Go.Proofs.YtdahpnjamlfakaaGreatDoor.M
open Go.RowKit

/-- the line of a pair, a sign ahead -/
def lineG (g x y : ByteArray) : ByteArray := g ++ x ++ ⟨#[61]⟩ ++ y ++ ⟨#[10]⟩
theorem lineG_cells (bs : List Value) (g x y : ByteArray) : ((((bs ++ Lib.strCells g) ++ Lib.strCells x) ++ [Value.int .u8 61]) ++ Lib.strCells y) ++ [Value.int .u8 10] = bs ++ Lib.strCells (lineG g x y) := by
  unfold lineG
  simp [Lib.strCells, ByteArray.data_append]

set_option maxRecDepth 100000 in
set_option maxHeartbeats 2000000 in
theorem writePair_any (B b : Nat) (bs : List Value) (g x y : ByteArray) (w : World) (h : IsBld B b bs w) (hlen : bs.length + g.size + x.size + y.size + 2 ≤ 140737488355328) (hBw : B ≤ w.heap.size) :
    Calls Tryz.prog 127 #[.pointer (some ⟨b, 0, none⟩), .string g, .agg #[.string x, .string y]] w fun e w' => e = .returned (.tuple #[]) ∧ IsBld B b (bs ++ Lib.strCells (lineG g x y)) w' ∧ Below B w w' ∧ KeptB b w w' := by
  have hblt : b < w.heap.size := by
    rcases h with h | h <;> exact h.lt
  have I2 := hide (h.below ((Below.refl _ w).alloc (Nat.le_refl _) (.cells #[.string x, .string y] 109)))
  have Q2 := hide ((Below.refl B w).alloc hBw (.cells #[.string x, .string y] 109))
  have K2 : Hid (KeptB b w (w.alloc (.cells #[.string x, .string y] 109))) := hide (KeptB.below ((Below.refl _ w).alloc (Nat.le_refl _) _))
  have HH0 := hide (heap_alloc_new w (.cells #[.string x, .string y] 109))
  have E := hide (lineG_cells bs g x y)
  clear h
  go_enter Tryz.func127, Tryz.ntmps127
  go_wp2_with fail
  refine (writeString_any B b bs g _ I2.out (by omega) (Nat.le_trans hBw Q2.out.size)).mono ?_
  rintro e w2 ⟨rfl, i2, b2, k2⟩
  have I3 := hide i2
  have Q3 := hide (Q2.out.trans b2)
  have K3 := hide (K2.out.trans k2)
  have hh := k2 w.heap.size _ _ _ (by omega) HH0.out (by decide)
  have HH1 := hide hh
  have d0 : w2.cell? ⟨w.heap.size, 0, none⟩ = some (.string x) := by rw [Lib.cell_of_heap hh]; rfl
  clear i2 b2 k2 I2 Q2 K2 HH0 hh
  go_wp2_with fail
  refine (writeString_any B b _ x _ I3.out (by rw [List.length_append, Lib.strCells_length]; omega) (Nat.le_trans hBw Q3.out.size)).mono ?_
  rintro e w3 ⟨rfl, i3, b3, k3⟩
  have I4 := hide i3
  have Q4 := hide (Q3.out.trans b3)
  have K4 := hide (K3.out.trans k3)
  have hh := k3 w.heap.size _ _ _ (by omega) HH1.out (by decide)
  have HH2 := hide hh
  clear i3 b3 k3 I3 Q3 K3 HH1 hh d0
  go_wp2_with fail
  refine (writeByte_any B b _ 61 _ I4.out (by rw [List.length_append, List.length_append, Lib.strCells_length, Lib.strCells_length]; omega) (Nat.le_trans hBw Q4.out.size)).mono ?_
  rintro e w4 ⟨rfl, i4, b4, k4⟩
  have I5 := hide i4
  have Q5 := hide (Q4.out.trans b4)
  have K5 := hide (K4.out.trans k4)
  have hh := k4 w.heap.size _ _ _ (by omega) HH2.out (by decide)
  have HH3 := hide hh
  have d1 : w4.cell? ⟨w.heap.size, 1, none⟩ = some (.string y) := by rw [Lib.cell_of_heap hh]; rfl
  clear i4 b4 k4 I4 Q4 K4 HH2 hh
  go_wp2_with fail
  refine (writeString_any B b _ y _ I5.out (by rw [List.length_append, List.length_append, List.length_append, Lib.strCells_length, Lib.strCells_length]; simp; omega) (Nat.le_trans hBw Q5.out.size)).mono ?_
  rintro e w5 ⟨rfl, i5, b5, k5⟩
  have I6 := hide i5
  have Q6 := hide (Q5.out.trans b5)
  have K6 := hide (K5.out.trans k5)
  clear i5 b5 k5 I5 Q5 K5 HH3 d1
  go_wp2_with fail
  refine (writeByte_any B b _ 10 _ I6.out (by rw [List.length_append, List.length_append, List.length_append, List.length_append, Lib.strCells_length, Lib.strCells_length, Lib.strCells_length]; simp; omega) (Nat.le_trans hBw Q6.out.size)).mono ?_
  rintro e w6 ⟨rfl, i6, b6, k6⟩
  rw [E.out] at i6
  have I7 := hide i6
  have Q7 := hide (Q6.out.trans b6)
  have K7 := hide (K6.out.trans k6)
  clear i6 b6 k6 I6 Q6 K6
  go_wp2
  first
    | (refine bodyPost_ret (results_none rfl _ _ _) rfl ?_; exact ⟨rfl, I7.out, Q7.out, K7.out⟩)
    | (go_end0; exact ⟨rfl, I7.out, Q7.out, K7.out⟩)
    | exact ⟨rfl, I7.out, Q7.out, K7.out⟩
theorem string_any (B b : Nat) (l : List UInt8) (w : World) (h : IsBld B b (Lib.byteCells l) w) (h0 : l = [] → w.heap[b]? = some (.cells #[.pointer none, .slice none 0 0] 117 (0, 0))) :
    Calls Tryz.prog 93 #[.pointer (some ⟨b, 0, none⟩)] w fun e w' => e = .returned (.string ⟨l.toArray⟩) ∧ Below B w w' := by
  by_cases e : l = []
  · subst e
    exact string_none B b (.pointer none) w (h0 rfl)
  · exact string_some B b l w h e
end Go.Proofs.YtdahpnjamlfakaaGreatDoor.M
/-
  What MapText writes, in the reference and in the program.
-/
namespace Go.Proofs.YtdahpnjamlfakaaGreatDoor.M
open Go.RowKit

/-- the line of a pair -/
def lineS (p : Pr) : ByteArray := p.1 ++ ⟨#[61]⟩ ++ p.2 ++ ⟨#[10]⟩
/-- the lines of pairs, one behind the other -/
def textOf : List Pr → ByteArray
  | [] => ByteArray.empty
  | p :: r => lineS p ++ textOf r
theorem ba_assoc (a b c : ByteArray) : a ++ b ++ c = a ++ (b ++ c) := by
  apply Go.WideShapes.bytes_inj
  simp [ByteArray.data_append]
theorem ba_empty (a : ByteArray) : ByteArray.empty ++ a = a := by
  apply Go.WideShapes.bytes_inj
  simp
theorem ba_empty' (a : ByteArray) : a ++ ByteArray.empty = a := by
  apply Go.WideShapes.bytes_inj
  simp
theorem textOf_append (a b : List Pr) : textOf (a ++ b) = textOf a ++ textOf b := by
  induction a with
  | nil => rw [List.nil_append, textOf, ba_empty]
  | cons p r ih => rw [List.cons_append, textOf, textOf, ih, ba_assoc]
theorem textOf_succ {l : List Pr} {k : Nat} (h : k < l.length) : textOf (l.take (k + 1)) = textOf (l.take k) ++ l[k].1 ++ ⟨#[61]⟩ ++ l[k].2 ++ ⟨#[10]⟩ := by
  rw [List.take_succ_eq_append_getElem h, textOf_append]
  simp only [textOf, lineS, ba_empty', ba_assoc]
/-- right pairs have short lines -/
theorem textOf_size {l : List Pr} (h : pairsTo l l.length) : ∀ k, k ≤ l.length → (textOf (l.take k)).size ≤ 22 * k
  | 0, _ => by simp [textOf]
  | k + 1, hk => by
    have ih := textOf_size h k (by omega)
    rw [textOf_succ (by omega)]
    obtain ⟨h1, h2⟩ := h k (by omega) (by omega)
    have h1 := (okB_iff.1 h1).2.1
    have h2 := (okB_iff.1 h2).2.1
    have e1 : (ByteArray.mk #[61]).size = 1 := rfl
    have e2 : (ByteArray.mk #[10]).size = 1 := rfl
    simp only [ByteArray.size_append]
    omega
noncomputable def mapTextS (l : List Pr) : ByteArray := if mapB l = true then textOf l else ByteArray.empty

set_option maxRecDepth 100000 in
set_option maxHeartbeats 1000000 in
theorem l1Text_any (A : Option Addr) (l : List Pr) (cap : Nat) (w : World) (B : Nat) (hl : l.length ≤ 40) (hp : pairsTo l l.length) (hin : PIn w B A l) :
    Calls Tryz.prog 55 #[.slice A l.length cap] w fun e w' => e = .returned (.string (textOf l)) ∧ Quiet w w' := by
  have HP := hide hp
  clear hp
  generalize hn : l.length = n at hl ⊢
  have HN := hide hn
  clear hn
  go_enter Tryz.func55, Tryz.ntmps55
  go_wp2
  go_loopw [3, 4] (fun t i wr => ∃ (k : Nat) (s : ByteArray), k ≤ n ∧ i = .int .i64 k ∧ t = .string s ∧ Hid (s = textOf (l.take k)) ∧ Hid (Quiet w wr)) (fun _ i _ => n - (intOf i).toNat)
  case atStart => exact ⟨0, ByteArray.empty, Nat.zero_le _, rfl, rfl, by simp [Hid, textOf], Quiet.refl w⟩
  case round =>
    obtain ⟨k, s, hk, rfl, rfl, H, Q⟩ := hrel
    by_cases hlt : k < n
    · have hin2 := hin.quiet Q.out
      have hkl : k < l.length := by rw [HN.out]; omega
      obtain ⟨b, off, rfl, hbB, hc⟩ := hin2.2 (by omega)
      obtain ⟨c1, c2⟩ := hc k hkl
      obtain ⟨s1, s2⟩ := HP.out k hkl hkl
      have s1 := (okB_iff.1 s1).2.1
      have s2 := (okB_iff.1 s2).2.1
      have s0 : s.size ≤ 22 * k := by have := textOf_size HP.out k (by omega); rw [← H.out] at this; exact this
      have Z : Hid (s ++ (l[k]'hkl).1 ++ ⟨#[61]⟩ ++ (l[k]'hkl).2 ++ ⟨#[10]⟩ = textOf (l.take (k + 1))) := hide (by rw [textOf_succ hkl, H.out])
      generalize (l[k]'hkl).1 = x at *
      generalize (l[k]'hkl).2 = y at *
      clear hin hin2 hc
      have e1 : (ByteArray.mk #[61]).size = 1 := rfl
      have z1 : (s ++ x).size = s.size + x.size := ByteArray.size_append
      have z2 : (s ++ x ++ ByteArray.mk #[61]).size = s.size + x.size + 1 := by rw [ByteArray.size_append, z1, e1]
      have z3 : (s ++ x ++ ByteArray.mk #[61] ++ y).size = s.size + x.size + 1 + y.size := by rw [ByteArray.size_append, z2]
      go_wp2
      go_quiet (fail)
      go_wp2
      go_roundw
      case rel => exact ⟨k + 1, _, by omega, by go_num, rfl, Z, Q.out.drewN _⟩
      case measure => simp [intOf]; omega
    · have Z : Hid (s = textOf l) := hide (by rw [H.out, List.take_of_length_le (by rw [HN.out]; omega)])
      go_wp2
      go_ret
      exact ⟨ret_str Z.out, Q.out⟩

theorem mapText_no {l : List Pr} (h : mapB l = false) : mapTextS l = ByteArray.empty := by unfold mapTextS; rw [h]; rfl
theorem mapText_yes {l : List Pr} (h : mapB l = true) : mapTextS l = textOf l := by unfold mapTextS; rw [h]; rfl

theorem bytes_step {l : List Pr} {k : Nat} (h : k < l.length) : Lib.byteCells (textOf (l.take k)).data.toList ++ Lib.strCells (lineG ⟨#[]⟩ l[k].1 l[k].2) = Lib.byteCells (textOf (l.take (k + 1))).data.toList := by
  rw [textOf_succ h]
  unfold lineG
  simp [Lib.byteCells, Lib.strCells, ByteArray.data_append]

set_option maxRecDepth 100000 in
set_option maxHeartbeats 2000000 in
theorem implMapText_any (A : Option Addr) (l : List Pr) (cap : Nat) (w : World) (hl : l.length ≤ maxLen) (hin : PIn w w.heap.size A l) :
    Calls Tryz.prog 86 #[.slice A l.length cap] w fun e w' => e = .returned (.string (mapTextS l)) ∧ Below w.heap.size w w' := by
  have R := hide (implMapOk_any A l cap w hl hin)
  cases hm : mapB l
  · have Z := hide (mapText_no hm)
    go_enter Tryz.func86, Tryz.ntmps86
    go_wp2_with (go_at_call 44; refine R.out.mono ?_; rintro e w' ⟨rfl, q⟩)
    go_ret
    exact ⟨ret_str Z.out.symm, q⟩
  · have Z := hide (mapText_yes hm)
    have h40 := (mapB_iff.1 hm).1
    have HP : Hid (pairsTo l l.length) := hide (mapB_iff.1 hm).2.1
    by_cases h0 : l = []
    · subst h0
      go_enter Tryz.func86, Tryz.ntmps86
      go_wp2_with fail
      refine R.out.mono ?_
      rintro e w1 ⟨rfl, b1⟩
      have S1 := hide (string_none w1.heap.size w1.heap.size (.pointer none) (w1.alloc (.cells #[.pointer none, .slice none 0 0] 117)) (heap_alloc_new w1 _))
      have B1 := hide b1
      clear b1 hin
      go_wp2_with fail
      refine wp_loop_rounds 1 ?_
      rw [rounds_succ]
      go_wp2_with fail
      refine S1.out.mono ?_
      rintro e w2 ⟨rfl, b2⟩
      have B2 := hide (B1.out.trans ((((Below.refl w1.heap.size w1).alloc (Nat.le_refl _) _).trans b2).mono B1.out.size))
      clear b2
      go_wp2
      go_ret
      exact ⟨ret_str Z.out.symm, B2.out⟩
    · have hn0 : 0 < l.length := by cases l with | nil => exact absurd rfl h0 | cons _ _ => simp
      have IN := hide hin
      clear hin h0
      generalize hn : l.length = n at hn0 h40 hl R ⊢
      have HN := hide hn
      clear hn
      go_enter Tryz.func86, Tryz.ntmps86
      go_wp2_with fail
      refine R.out.mono ?_
      rintro e w1 ⟨rfl, b1⟩
      have B1 := hide b1
      have I0 := hide (Lib.fresh_isBuilder 117 5 w1)
      have BB0 := hide ((Below.refl w1.heap.size w1).alloc (Nat.le_refl _) (.cells #[.pointer none, .slice none 0 0] 117))
      clear b1 R
      go_wp2_with fail
      go_loopw [11] (fun i wr => ∃ k : Nat, k ≤ n ∧ i = .int .i64 k ∧ Hid (IsBld w1.heap.size w1.heap.size (Lib.byteCells (textOf (l.take k)).data.toList) wr) ∧ Hid (Below w1.heap.size w1 wr)) (fun i _ => n - (intOf i).toNat)
      case atStart => exact ⟨0, Nat.zero_le _, rfl, by simpa [textOf, Lib.byteCells] using I0, BB0⟩
      case round =>
        clear I0 BB0
        obtain ⟨k, hk, rfl, I, Q⟩ := hrel
        by_cases hlt : k < n
        · have hkl : k < l.length := by rw [HN.out]; omega
          have in1 := IN.out.below (B1.out.trans (Q.out.mono B1.out.size))
          obtain ⟨b, off, rfl, hbB, hc⟩ := in1.2 (by omega)
          obtain ⟨c1, c2⟩ := hc k hkl
          obtain ⟨s1, s2⟩ := HP.out k hkl hkl
          have s1 := (okB_iff.1 s1).2.1
          have s2 := (okB_iff.1 s2).2.1
          have s0 := textOf_size HP.out k (by omega)
          have s0' : (Lib.byteCells (textOf (l.take k)).data.toList).length ≤ 22 * k := by rw [Lib.byteCells_length]; exact s0
          have E := hide (bytes_step hkl)
          generalize (l[k]'hkl).1 = x at *
          generalize (l[k]'hkl).2 = y at *
          generalize Lib.byteCells (textOf (l.take k)).data.toList = bs at *
          have hblt : w1.heap.size < wr.heap.size := by
            rcases I.out with h | h <;> exact h.lt
          have hxs : x.size ≤ 8 := by omega
          have hys : y.size ≤ 12 := by omega
          have e0 : (ByteArray.mk #[]).size = 0 := rfl
          clear in1 hc s0
          have WP : Hid (∀ W, Below wr.heap.size wr W → Calls Tryz.prog 127 #[.pointer (some ⟨w1.heap.size, 0, none⟩), .string ⟨#[]⟩, .agg #[.string x, .string y]] W fun e w' => e = .returned (.tuple #[]) ∧ IsBld w1.heap.size w1.heap.size (bs ++ Lib.strCells (lineG ⟨#[]⟩ x y)) w' ∧ Below w1.heap.size W w') := hide fun W hW => (writePair_any w1.heap.size w1.heap.size bs ⟨#[]⟩ x y W (I.out.below hW) (by omega) (by have := hW.size; omega)).mono fun _ _ ⟨a1, a2, a3, _⟩ => ⟨a1, a2, a3⟩
          have A1 : Hid (Below wr.heap.size wr (wr.alloc (.cells #[.string x, .string y] 109))) := hide ((Below.refl _ wr).alloc (Nat.le_refl _) _)
          have A0 : Hid (Below wr.heap.size wr wr) := hide (Below.refl _ wr)
          go_wp2_with fail
          first
            | (refine (WP.out _ A1.out).mono ?_; rintro e w5 ⟨rfl, i5, b5⟩; have Q6 := hide ((Q.out.trans (A1.out.mono Q.out.size)).trans b5))
            | (refine (WP.out _ A0.out).mono ?_; rintro e w5 ⟨rfl, i5, b5⟩; have Q6 := hide (Q.out.trans b5))
          rw [E.out] at i5
          have I6 := hide i5
          clear i5 b5 WP A1 A0
          go_wp2
          go_roundw
          case rel => exact ⟨k + 1, by omega, by go_num, I6, Q6⟩
          case measure => simp [intOf]; omega
        · obtain rfl : k = n := by omega
          have F : Hid (l.take k = l) := hide (List.take_of_length_le (by rw [HN.out]; exact Nat.le_refl _))
          have I2 := I.out
          rw [F.out] at I2
          have hne : (textOf l).data.toList ≠ [] := by
            intro e
            have h1 := textOf_succ (l := l) (k := k - 1) (by rw [HN.out]; omega)
            rw [show k - 1 + 1 = k by omega, F.out] at h1
            have h2 : (textOf l).size = 0 := by
              show (textOf l).data.size = 0
              rw [← Array.length_toList, e]
              rfl
            rw [h1, ByteArray.size_append] at h2
            have e2 : (ByteArray.mk #[10]).size = 1 := rfl
            omega
          have S1 := hide (string_some w1.heap.size w1.heap.size (textOf l).data.toList wr I2 hne)
          clear I2 hne
          go_wp2_with fail
          refine S1.out.mono ?_
          rintro e w2 ⟨rfl, b2⟩
          have B2 := hide (B1.out.trans ((Q.out.trans b2).mono B1.out.size))
          clear b2 S1
          go_wp2
          go_ret
          exact ⟨ret_str Z.out.symm, B2.out⟩
end Go.Proofs.YtdahpnjamlfakaaGreatDoor.M
/-
  A right map comes back from its text; what is read, written again, has just its bytes.
-/
namespace Go.Proofs.YtdahpnjamlfakaaGreatDoor.M
open Go.RowKit

theorem cut_join {s : ByteArray} {c : UInt8} (h : (cutS s c).2.2 = true) : (cutS s c).1 ++ ⟨#[c]⟩ ++ (cutS s c).2.1 = s := by
  by_cases hp : posB s c < s.size
  · rw [cutS_yes hp]
    apply Go.WideShapes.bytes_inj
    have hp' : List.findIdx (fun x => x == c) s.data.toList < s.data.toList.length := hp
    have hc : s.data.toList[List.findIdx (fun x => x == c) s.data.toList] = c := by
      have := List.findIdx_getElem (w := hp')
      simpa using this
    have e1 : (s.extract 0 (posB s c)).data.toList = s.data.toList.take (posB s c) := by simp
    have e2 : (s.extract (posB s c + 1) s.size).data.toList = s.data.toList.drop (posB s c + 1) := by
      simp
      exact List.take_of_length_le (by rw [List.length_drop]; exact Nat.le_refl _)
    simp only [ByteArray.data_append, Array.toList_append, e1, e2]
    have e3 : s.data.toList.take (posB s c) ++ [c] ++ s.data.toList.drop (posB s c + 1) = s.data.toList := by
      have : posB s c = List.findIdx (fun x => x == c) s.data.toList := rfl
      rw [this]
      conv => rhs; rw [← List.take_append_drop (List.findIdx (fun x => x == c) s.data.toList) s.data.toList, List.drop_eq_getElem_cons hp', hc]
      simp
    exact e3
  · rw [cutS_no hp] at h; simp at h
theorem cut_app {a b : ByteArray} {c : UInt8} (h : ∀ x ∈ a.data.toList, x ≠ c) : cutS (a ++ ⟨#[c]⟩ ++ b) c = (a, b, true) := by
  have hl : (a ++ ⟨#[c]⟩ ++ b).data.toList = a.data.toList ++ (c :: b.data.toList) := by simp [ByteArray.data_append]
  have hp : posB (a ++ ⟨#[c]⟩ ++ b) c = a.size := by
    unfold posB
    rw [hl, List.findIdx_append]
    have : List.findIdx (fun x => x == c) a.data.toList = a.data.toList.length := by
      rw [List.findIdx_eq_length]
      intro x hx
      exact beq_eq_false_iff_ne.2 (h x hx)
    have hc0 : List.findIdx (fun x => x == c) (c :: b.data.toList) = 0 := by rw [List.findIdx_cons]; simp
    rw [this, if_neg (Nat.lt_irrefl _), hc0, Nat.zero_add]
    rfl
  have hz : (a ++ ⟨#[c]⟩ ++ b).size = a.size + 1 + b.size := by
    simp only [ByteArray.size_append]; rfl
  rw [cutS_yes (by rw [hp, hz]; omega), hp, hz]
  have e1 : (a ++ ⟨#[c]⟩ ++ b).extract 0 a.size = a := by
    apply Go.WideShapes.bytes_inj
    rw [ByteArray.data_extract, Array.toList_extract, hl]
    show List.take (a.size - 0) (List.drop 0 (a.data.toList ++ c :: b.data.toList)) = a.data.toList
    rw [List.drop_zero, Nat.sub_zero]
    exact List.take_left' rfl
  have e2 : (a ++ ⟨#[c]⟩ ++ b).extract (a.size + 1) (a.size + 1 + b.size) = b := by
    apply Go.WideShapes.bytes_inj
    rw [ByteArray.data_extract, Array.toList_extract, hl]
    show List.take (a.size + 1 + b.size - (a.size + 1)) (List.drop (a.size + 1) (a.data.toList ++ c :: b.data.toList)) = b.data.toList
    rw [show a.data.toList ++ c :: b.data.toList = (a.data.toList ++ [c]) ++ b.data.toList by simp, List.drop_left' (by rw [List.length_append]; rfl), Nat.add_sub_cancel_left]
    exact List.take_of_length_le (Nat.le_refl _)
  rw [e1, e2]

/-- what is read, written again -/
theorem lines_text : ∀ (n : Nat) (s : ByteArray), s.size ≤ n → (linesS s).2 = true → (linesS s).1.all parted = true → textOf ((linesS s).1.map pairOf) = s
  | n, s, hn, he, hp => by
    by_cases h0 : s.size = 0
    · rw [linesS_none h0, size_zero h0]; rfl
    · cases hc : (cutS s 10).2.2
      · rw [linesS_last h0 hc] at he; simp at he
      · have hr := cutS_rest hc
        rw [linesS_more h0 hc] at he hp ⊢
        simp only [List.all_cons, Bool.and_eq_true] at hp
        match n, hn with
        | 0, hn => exact absurd (Nat.le_zero.1 hn) h0
        | n + 1, hn =>
          have ih := lines_text n (cutS s 10).2.1 (by omega) he hp.2
          rw [List.map_cons, textOf, ih]
          show (cutS (cutS s 10).1 61).1 ++ ⟨#[61]⟩ ++ (cutS (cutS s 10).1 61).2.1 ++ ⟨#[10]⟩ ++ (cutS s 10).2.1 = s
          rw [cut_join hp.1]
          exact cut_join hc
theorem read_text {s : ByteArray} (h : okR s = true) : mapTextS (readL s) = s := by
  have h' := h
  unfold okR at h'
  simp only [Bool.and_eq_true] at h'
  rw [readL_yes h, mapText_yes h'.2]
  exact lines_text s.size s (Nat.le_refl _) h'.1.2 h'.1.1

/-- a right map comes back from its text -/
theorem text_lines : ∀ (l : List Pr), (∀ p ∈ l, (∀ x ∈ p.1.data.toList, x ≠ 61 ∧ x ≠ 10) ∧ (∀ x ∈ p.2.data.toList, x ≠ 10)) → linesS (textOf l) = (l.map (fun p => p.1 ++ ⟨#[61]⟩ ++ p.2), true)
  | [], _ => by rw [textOf, linesS_none rfl]; rfl
  | p :: r, h => by
    have ih := text_lines r fun q hq => h q (List.mem_cons_of_mem _ hq)
    obtain ⟨h1, h2⟩ := h p List.mem_cons_self
    have hline : ∀ x ∈ (p.1 ++ ⟨#[61]⟩ ++ p.2).data.toList, x ≠ 10 := by
      intro x hx
      simp only [ByteArray.data_append, Array.toList_append, List.mem_append] at hx
      rcases hx with (hx | hx) | hx
      · exact (h1 x hx).2
      · have : x = 61 := by simpa using hx
        rw [this]; decide
      · exact h2 x hx
    have hcut : cutS (textOf (p :: r)) 10 = (p.1 ++ ⟨#[61]⟩ ++ p.2, textOf r, true) := by
      rw [textOf, lineS]
      exact cut_app hline
    have hsz : (textOf (p :: r)).size ≠ 0 := by
      intro h0
      have := cutS_rest (s := textOf (p :: r)) (c := 10) (by rw [hcut])
      omega
    rw [linesS_more hsz (by rw [hcut]), hcut]
    show ((p.1 ++ ⟨#[61]⟩ ++ p.2) :: (linesS (textOf r)).1, (linesS (textOf r)).2) = _
    rw [ih]
    rfl
theorem right_bytes {l : List Pr} (hm : mapB l = true) : ∀ p ∈ l, (∀ x ∈ p.1.data.toList, x ≠ 61 ∧ x ≠ 10) ∧ (∀ x ∈ p.2.data.toList, x ≠ 10) := by
  obtain ⟨_, b0, _⟩ := mapB_iff.1 hm
  have b : ∀ p ∈ l, keyB p.1 = true ∧ valB p.2 = true := fun p hp => by
    obtain ⟨i, hi, rfl⟩ := List.getElem_of_mem hp
    exact b0 i hi hi
  intro p hp
  obtain ⟨h1, h2⟩ := b p hp
  have a1 := (okB_iff.1 h1).2.2
  have a2 := (okB_iff.1 h2).2.2
  constructor
  · intro x hx
    obtain ⟨i, hi, e⟩ := List.getElem_of_mem hx
    have h := a1 i hi hi
    rw [show p.1[i] = x from e] at h
    constructor <;> (rintro rfl; exact absurd h (by decide))
  · intro x hx
    obtain ⟨i, hi, e⟩ := List.getElem_of_mem hx
    have h := a2 i hi hi
    rw [show p.2[i] = x from e] at h
    rintro rfl
    exact absurd h (by decide)
theorem text_read {l : List Pr} (hm : mapB l = true) : okR (textOf l) = true ∧ readL (textOf l) = l := by
  have hb := right_bytes hm
  have hl := text_lines l hb
  have hmap : (linesS (textOf l)).1.map pairOf = l := by
    rw [hl]
    show (l.map (fun p => p.1 ++ ⟨#[61]⟩ ++ p.2)).map pairOf = l
    rw [List.map_map]
    conv => rhs; rw [← List.map_id l]
    apply List.map_congr_left
    intro p hp
    show ((cutS (p.1 ++ ⟨#[61]⟩ ++ p.2) 61).1, (cutS (p.1 ++ ⟨#[61]⟩ ++ p.2) 61).2.1) = p
    rw [cut_app fun x hx => ((hb p hp).1 x hx).1]
  have hok : okR (textOf l) = true := by
    refine okR_yes ?_ (by rw [hl]) (by rw [hmap]; exact hm)
    rw [hl]
    rw [List.all_eq_true]
    intro x hx
    obtain ⟨p, hp, rfl⟩ := List.mem_map.1 hx
    show (cutS (p.1 ++ ⟨#[61]⟩ ++ p.2) 61).2.2 = true
    rw [cut_app fun x hx => ((hb p hp).1 x hx).1]
  exact ⟨hok, by rw [readL_yes hok, hmap]⟩
end Go.Proofs.YtdahpnjamlfakaaGreatDoor.M
