/-
  The lines of a text: as a list, and what spec.l1Lines makes of them.
-/
import Derived.Test.YtkhkcdmmagicmaaDoorPCut
import Derived.Test.YtkhkcdmmagicmaaDoorQRow
namespace Go.Proofs.YtkhkcdmmagicmaaDoor
open Go.RowKit

theorem cutS_rest {s : ByteArray} {c : UInt8} (h : (cutS s c).2.2 = true) : (cutS s c).1.size + 1 + (cutS s c).2.1.size = s.size := by
  unfold cutS at h ⊢
  have := posB_le s c
  split at h
  · rename_i hp
    simp only [if_pos hp, ByteArray.size_extract]
    omega
  · simp at h
theorem cutS_one {s : ByteArray} {c : UInt8} : (cutS s c).1.size ≤ s.size ∧ (cutS s c).2.1.size ≤ s.size := by
  unfold cutS
  split
  · simp only [ByteArray.size_extract]; omega
  · simp
/-- the lines of a text, and whether the last one is ended -/
def linesF : Nat → ByteArray → List ByteArray × Bool
  | 0, _ => ([], true)
  | f + 1, s => if s.size = 0 then ([], true) else if (cutS s 10).2.2 = true then ((cutS s 10).1 :: (linesF f (cutS s 10).2.1).1, (linesF f (cutS s 10).2.1).2) else ([(cutS s 10).1], false)
theorem linesF_fuel : ∀ (f g : Nat) (s : ByteArray), s.size ≤ f → s.size ≤ g → linesF f s = linesF g s
  | 0, 0, _, _, _ => rfl
  | 0, g + 1, s, h, _ => by have : s.size = 0 := by omega
                            rw [linesF, linesF, if_pos this]
  | f + 1, 0, s, _, h => by have : s.size = 0 := by omega
                            rw [linesF, linesF, if_pos this]
  | f + 1, g + 1, s, h, h' => by
    rw [linesF, linesF]
    by_cases h0 : s.size = 0
    · rw [if_pos h0, if_pos h0]
    · rw [if_neg h0, if_neg h0]
      by_cases hc : (cutS s 10).2.2 = true
      · have := cutS_rest hc
        rw [if_pos hc, if_pos hc, linesF_fuel f g _ (by omega) (by omega)]
      · rw [if_neg hc, if_neg hc]
def linesS (s : ByteArray) : List ByteArray × Bool := linesF s.size s
theorem linesS_none {s : ByteArray} (h : s.size = 0) : linesS s = ([], true) := by unfold linesS; rw [h]; rfl
theorem linesS_more {s : ByteArray} (h : s.size ≠ 0) (hc : (cutS s 10).2.2 = true) : linesS s = ((cutS s 10).1 :: (linesS (cutS s 10).2.1).1, (linesS (cutS s 10).2.1).2) := by
  have hr := cutS_rest hc
  unfold linesS
  obtain ⟨n, hn⟩ : ∃ n, s.size = n + 1 := ⟨s.size - 1, by omega⟩
  rw [hn, linesF, if_neg h, if_pos hc, linesF_fuel n _ (cutS s 10).2.1 (by omega) (Nat.le_refl _)]
theorem linesS_last {s : ByteArray} (h : s.size ≠ 0) (hc : (cutS s 10).2.2 = false) : linesS s = ([(cutS s 10).1], false) := by
  unfold linesS
  obtain ⟨n, hn⟩ : ∃ n, s.size = n + 1 := ⟨s.size - 1, by omega⟩
  rw [hn, linesF, if_neg h, if_neg (by rw [hc]; simp)]

/-- strings of a slice -/
def scells (l : List ByteArray) : List Value := l.map .string
def slens (l : List ByteArray) : Prop := ∀ s ∈ l, s.size ≤ maxLen
def SOwn (w : World) (B : Nat) (A : Option Addr) (cap : Nat) (l : List ByteArray) : Prop := slens l ∧ w.ownsRow B 9 1 (.slice A l.length cap) l.length (scells l)
theorem infoS : (Tryd.prog.info? 9).map (fun i => (i.zero, i.size, i.bytes)) = some (some (.string ByteArray.empty), 1, 16) := by kernel_rfl
theorem SOwn.built (w : World) (B : Nat) (hB : B ≤ w.heap.size) : SOwn (w.alloc (.cells #[] 9)) B (some ⟨w.heap.size, 0, none⟩) 0 [] :=
  ⟨fun _ h => absurd h (by simp), World.ownsRow_made w #[] 0 hB (by simp [maxLen]) rfl⟩
theorem SOwn.below {w w' : World} {B : Nat} {A : Option Addr} {cap : Nat} {l : List ByteArray} (h : SOwn w B A cap l) (hb : Below w.heap.size w w') : SOwn w' B A cap l := by
  refine ⟨h.1, h.2.kept (Below.toGrown hb none) ?_⟩
  cases hv : (Value.slice A l.length cap).ownBlock <;> simp
theorem SOwn.more {w : World} {B B' : Nat} {A : Option Addr} {cap : Nat} {l : List ByteArray} (h : SOwn w B A cap l) (hB : B' ≤ B) : SOwn w B' A cap l := by
  refine ⟨h.1, h.2.1, ?_⟩
  rcases h.2.2 with e | ⟨g, c, cur, e, hb, r⟩
  · exact .inl e
  · exact .inr ⟨g, c, cur, e, Nat.le_trans hB hb, r⟩
theorem SOwn.alloc {w : World} {B : Nat} {A : Option Addr} {cap : Nat} {l : List ByteArray} (h : SOwn w B A cap l) (o : Obj) : SOwn (w.alloc o) B A cap l := h.below ((Below.refl _ _).alloc (Nat.le_refl _) o)
theorem SOwn.row {w : World} {B : Nat} {A : Option Addr} {cap : Nat} {l : List ByteArray} (h : SOwn w B A cap l) : ∀ g, rowOf A = some g → B ≤ g ∧ g < w.heap.size := by
  intro g hg
  exact h.2.lt g (by rw [rowOf_own]; exact hg)
theorem SOwn.grownBelow {w w' : World} {B : Nat} {A : Option Addr} {cap : Nat} {l : List ByteArray} (h : SOwn w B A cap l) (hg : w.grownBy w' (rowOf A)) (hB : B ≤ w.heap.size) : Below B w w' :=
  (Below.refl B w).grown (by rw [← rowOf_own A l.length cap] at hg; exact hg) hB (fun k hk => (h.2.lt k hk).1)
theorem SOwn.cell {w : World} {B : Nat} {A : Option Addr} {cap : Nat} {l : List ByteArray} (h : SOwn w B A cap l) {i : Nat} (hi : i < l.length) : ∃ g, A = some ⟨g, 0, none⟩ ∧ g < w.heap.size ∧ w.cell? ⟨g, i, none⟩ = some (.string l[i]) := by
  rcases h.2.2 with ⟨e, e'⟩ | ⟨g, c, cur, e, hb, hg, _⟩
  · omega
  · injection e with e1 e2 e3
    subst e1
    refine ⟨g, rfl, (Array.getElem?_eq_some_iff.1 hg).1, ?_⟩
    have h1 := h.2.cellAt i (by omega)
    refine h1.trans ?_
    simp [scells, hi]

theorem run_sapp {w : World} {B : Nat} {A : Option Addr} {cap c : Nat} {l : List ByteArray} {x : ByteArray} {g : Nat} (ty : TypeId) (hown : SOwn w B A cap l) (hx : x.size ≤ maxLen) (hin : w.cell? ⟨g, 0, none⟩ = some (.string x)) (hB : B ≤ w.heap.size) (hb : l.length + 1 ≤ 3000000) :
    ∃ A2 cap2 w', (Builtin.append_ #[43, 43] ty #[.slice A l.length cap, .slice (some ⟨g, 0, none⟩) 1 c]).run Tryd.prog w = .ok (.slice A2 (l.length + 1) cap2) w' ∧ SOwn w' B A2 cap2 (l ++ [x]) ∧ w.grownBy w' (rowOf A) ∧ (rowOf A2 = rowOf A ∨ rowOf A2 = some w.heap.size) := by
  obtain ⟨i, hi, hz0, hz1, hz2⟩ := info_parts infoS
  have hcells : ∀ j u, (scells [x])[j]? = some u → w.cell? ((⟨g, 0, none⟩ : Addr).add j) = some u := by
    intro j u hu
    have hj : j < (scells [x]).length := (List.getElem?_eq_some_iff.1 hu).1
    obtain rfl : j = 0 := by simpa [scells] using hj
    rw [add_pl]
    simp [scells] at hu
    rw [← hu]; exact hin
  obtain ⟨v', w', hrun, h2, h3, _, h5⟩ := run_append_own_at (P := Tryd.prog) w B 43 ty 9 i _ 1 16 Tryd.underlying43 hi hz0 hz1 hz2 rfl (by omega) (.slice A l.length cap) l.length (scells l) hown.2 ⟨g, 0, none⟩ 1 c (scells [x]) rfl hcells (by intro u hu; simp [scells] at hu; subst hu; rfl)
    (by simp only [maxLen]; omega) (by omega) hB
  have hv : ∃ A2 cap2, v' = .slice A2 (l.length + 1) cap2 := by
    rcases h2.2 with ⟨e, e'⟩ | ⟨g, cap', cur, e, _⟩
    · exact ⟨none, 0, by rw [e, e']⟩
    · exact ⟨_, _, e⟩
  obtain ⟨A2, cap2, rfl⟩ := hv
  refine ⟨A2, cap2, w', hrun, ⟨?_, ?_⟩, by rw [← rowOf_own A l.length cap]; exact h3, ?_⟩
  · intro s hs
    rcases List.mem_append.1 hs with h | h
    · exact hown.1 s h
    · rw [List.mem_singleton.1 h]; exact hx
  · rw [List.length_append, show scells (l ++ [x]) = scells l ++ scells [x] by simp [scells]]
    exact h2
  · rw [rowOf_own, rowOf_own] at h5
    exact h5
theorem wpList_sapp {w : World} {ops : Array Oper} {rest : List Oper} {o : Oper} {a : Act} {Q : Exit → Act → World → Prop} (hgd : o.guard = none) (s x : Operand)
    (ho : o.op = .call { callee := .builtin .append, args := #[s, x], argTypes := #[43, 43] })
    {B : Nat} {A : Option Addr} {cap c : Nat} {l : List ByteArray} {y : ByteArray} {g : Nat} (hs : a.eval s = .slice A l.length cap) (hx : a.eval x = .slice (some ⟨g, 0, none⟩) 1 c)
    (hown : SOwn w B A cap l) (hy : y.size ≤ maxLen) (hin : w.cell? ⟨g, 0, none⟩ = some (.string y)) (hB : B ≤ w.heap.size) (hb : l.length + 1 ≤ 3000000)
    (h : ∀ A2 cap2 w', SOwn w' B A2 cap2 (l ++ [y]) → w.grownBy w' (rowOf A) → (rowOf A2 = rowOf A ∨ rowOf A2 = some w.heap.size) → wpList Tryd.prog ops Q rest (a.put o.dst (.slice A2 (l.length + 1) cap2)) w') : wpList Tryd.prog ops Q (o :: rest) a w :=
  wpList_plain hgd fun _ hK => by
    obtain ⟨A2, cap2, w', hrun, h2, h3, h4⟩ := run_sapp (c := c) o.type hown hy hin hB hb
    unfold Oper.wp execOp
    simp only [ho, resolve, invoke, builtin, Sem.run_bind, Sem.run_pure, Result.andThen_ok, List.map_toArray, List.map_cons, List.map_nil, hs, hx, hrun]
    exact hK _ _ (h A2 cap2 w' h2 h3 h4)

def strLen : Value → Nat
  | .string r => r.size
  | _ => 0
theorem strLen_s (r : ByteArray) : strLen (.string r) = r.size := rfl
theorem size_zero {r : ByteArray} (h : r.size = 0) : r = ByteArray.empty := by
  apply Go.WideShapes.bytes_inj
  have : r.data.toList.length = 0 := h
  rw [List.eq_nil_of_length_eq_zero this]; rfl
theorem ne_empty {r : ByteArray} (h : r.size ≠ 0) : (r.toList == []) = false := by
  rw [beq_eq_false_iff_ne, Go.ByteArray.toList_eq]
  intro e
  exact h (by show r.data.toList.length = 0; rw [e]; rfl)
def RetLines (s : ByteArray) (w : World) (e : Ending) (w' : World) : Prop := ∃ A cap, e = .returned (.tuple #[.slice A (linesS s).1.length cap, .bool (linesS s).2]) ∧ SOwn w' w.heap.size A cap (linesS s).1 ∧ Below w.heap.size w w' ∧ (linesS s).1.length ≤ s.size

set_option maxRecDepth 100000 in
set_option maxHeartbeats 1000000 in
theorem l1Lines_any (s : ByteArray) (w : World) (hs : s.size ≤ 1048576) :
    Calls Tryd.prog 65 #[.string s] w (RetLines s w) := by
  have O0 := hide (SOwn.built w w.heap.size (Nat.le_refl _))
  have B0 := hide ((Below.refl w.heap.size w).alloc (Nat.le_refl _) (.cells #[] 9))
  have E0 : Hid (linesS s = ([] ++ (linesS s).1, (linesS s).2)) := hide (by simp)
  go_enter Tryd.func65, Tryd.ntmps65
  go_wp2
  go_loopw [0, 4] (fun sv ov wr => ∃ (r : ByteArray) (d : List ByteArray) (A : Option Addr) (cap : Nat), sv = .string r ∧ ov = .slice A d.length cap ∧ d.length + r.size ≤ s.size ∧ Hid (linesS s = (d ++ (linesS r).1, (linesS r).2)) ∧ Hid (SOwn wr w.heap.size A cap d) ∧ Hid (Below w.heap.size w wr)) (fun sv _ _ => strLen sv)
  case atStart => exact ⟨s, [], _, 0, rfl, rfl, by simp, E0, O0, B0⟩
  case round =>
    clear O0 B0 E0
    obtain ⟨r, d, A, cap, rfl, rfl, hd, E, O, Q⟩ := hrel
    by_cases h0 : r.size = 0
    · have Z : Hid (linesS s = (d, true)) := hide (by rw [E.out, linesS_none h0]; simp)
      obtain rfl := size_zero h0
      go_wp2
      go_ret2
      exact ⟨A, cap, by rw [Z.out]; rfl, by rw [Z.out]; exact O.out, Q.out, by rw [Z.out]; simp at hd; exact hd⟩
    · have ne := ne_empty h0
      have H0 := hide h0
      clear h0
      go_wp2_with fail
      refine (l1Cut_any r 10 10 wr (by unfold maxLen; omega) rfl).mono ?_
      rintro e w1 ⟨rfl, q1⟩
      have O1 := hide (O.out.below (q1.below _))
      have Q1 := hide (Q.out.trans (q1.below _))
      have hsz := (cutS_one (s := r) (c := 10)).1
      clear q1 O Q
      cases hc : (cutS r 10).2.2
      · have Z : Hid (linesS s = (d ++ [(cutS r 10).1], false)) := hide (by rw [E.out, linesS_last H0.out hc])
        generalize (cutS r 10).1 = x at *
        generalize (cutS r 10).2.1 = y at *
        go_wp2_with (at_builtin; refine wpList_sapp (y := x) rfl (.tmp 17) (.tmp 19) rfl rfl rfl (O1.out.alloc _) (by unfold maxLen; omega) (cell_of_row _ w1.heap.size 0 #[.string x] 9 (0, 0) (heap_alloc_new w1 (.cells #[.string x] 9))) (Nat.le_trans Q1.out.size (by simp)) (by omega) ?_; intro A3 cap3 w3 own3 g3 r3; have B3 := hide (Q1.out.trans (((Below.refl _ w1).alloc Q1.out.size (.cells #[.string x] 9)).trans ((O1.out.alloc (.cells #[.string x] 9)).grownBelow g3 (Nat.le_trans Q1.out.size (by simp))))); have O3 := hide own3; clear own3 g3)
        go_ret2
        have hr0 : 0 < r.size := by have := H0.out; omega
        exact ⟨A3, cap3, by rw [Z.out]; simp, by rw [Z.out]; exact O3.out, B3.out, by rw [Z.out]; simp; omega⟩
      · have Z : Hid (linesS s = ((d ++ [(cutS r 10).1]) ++ (linesS (cutS r 10).2.1).1, (linesS (cutS r 10).2.1).2)) := hide (by rw [E.out, linesS_more H0.out hc]; simp)
        have hrr := cutS_rest hc
        generalize (cutS r 10).1 = x at *
        generalize (cutS r 10).2.1 = y at *
        have hl1 : (d ++ [x]).length = d.length + 1 := by simp
        go_wp2_with (at_builtin; refine wpList_sapp (y := x) rfl (.tmp 17) (.tmp 19) rfl rfl rfl (O1.out.alloc _) (by unfold maxLen; omega) (cell_of_row _ w1.heap.size 0 #[.string x] 9 (0, 0) (heap_alloc_new w1 (.cells #[.string x] 9))) (Nat.le_trans Q1.out.size (by simp)) (by omega) ?_; intro A3 cap3 w3 own3 g3 r3; have B3 := hide (Q1.out.trans (((Below.refl _ w1).alloc Q1.out.size (.cells #[.string x] 9)).trans ((O1.out.alloc (.cells #[.string x] 9)).grownBelow g3 (Nat.le_trans Q1.out.size (by simp))))); have O3 := hide own3; clear own3 g3)
        go_roundw
        case rel => exact ⟨y, d ++ [x], A3, cap3, rfl, by rw [hl1], by rw [hl1]; omega, Z, O3, B3⟩
        case measure => simp only [strLen_s]; omega
end Go.Proofs.YtkhkcdmmagicmaaDoor
