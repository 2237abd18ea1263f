/-
  For every list of objects and every two ids, laws.FnExactIsAncestor returns true and leaves its arguments as they were: impl.IsAncestor answers as the reference does. No conditions but that the two tables of the digest and the sentinel of the reader hold what the program's text lays (the card ties them).
-/
import Derived.Test.YtkhkcdmmagicmaaDoorJW
import Derived.Test.YtkhkcdmmagicmaaDoorJR
import Derived.Test.YtkhkcdmmagicmaaDoorJO
import Derived.Test.YtkhkcdmmagicmaaDoorJC
/-
  What impl.repo's isAncestor and impl.IsAncestor answer.
-/
namespace Go.Proofs.YtkhkcdmmagicmaaDoor
open Go.RowKit Go.Shelf Go.Maps

attribute [local go_sem] Oper.semAt_some

open Classical in
/-- is a behind b? -/
noncomputable def ancB (l : List Pr) (a b : ByteArray) : Bool := decide (rdOk (valOf l b) = true ∧ Reach l b a)
open Classical in
theorem ancB_iff {l : List Pr} {a b : ByteArray} : ancB l a b = true ↔ rdOk (valOf l b) = true ∧ Reach l b a := by unfold ancB; exact decide_eq_true_iff
theorem ancB_no {l : List Pr} {a b : ByteArray} (h : ¬ (rdOk (valOf l b) = true ∧ Reach l b a)) : ancB l a b = false := by
  cases e : ancB l a b
  · rfl
  · exact absurd (ancB_iff.1 e) h
theorem reach_com {l : List Pr} {a b : ByteArray} (h : Reach l b a) (ha : rdOk (valOf l a) = true) : rdOk (valOf l b) = true := by
  induction h with
  | self => exact ha
  | next hx hq ih =>
    rename_i x q
    refine ih ?_
    cases hr : rdOk (valOf l x)
    · rw [parK_no hr] at hq; cases hq
    · rfl
/-- what a block beyond B that is no cells may turn is not this one -/
theorem row_from {B k : Nat} {W W' : World} {row : Option Nat} {o : Obj} (h : W.heap[k]? = some o) (hk : k < B) (hg : W.grownBy W' row) (hr : ∀ r, row = some r → B ≤ r ∧ ∃ o : Obj, W.heap[r]? = some o ∧ o.isCells = false) : W'.heap[k]? = some o :=
  (hg.block k (Array.getElem?_eq_some_iff.1 h).1 (fun e => by have := (hr k e.symm).1; omega)).trans h
theorem below_from {B b : Nat} {w W W' : World} {row : Option Nat} (h : Below b w W) (hb : b ≤ B) (hbw : b ≤ W.heap.size) (hg : W.grownBy W' row) (hr : ∀ r, row = some r → B ≤ r ∧ ∃ o : Obj, W.heap[r]? = some o ∧ o.isCells = false) : Below b w W' :=
  h.grown hg hbw (fun k e => Nat.le_trans hb (hr k e).1)

theorem heap_alloc_l {w : World} {k : Nat} {o o' : Obj} (h : w.heap[k]? = some o) : (w.alloc o').heap[k]? = some o := (Below.heap_alloc w o' k (Array.getElem?_eq_some_iff.1 h).1).trans h
theorem heap_alloc_at {w : World} {k : Nat} {o : Obj} (h : w.heap.size = k) : (w.alloc o).heap[k]? = some o := by subst h; exact heap_alloc_new w o
def noneIs {l : List Pr} (a : ByteArray) (pre : List (ComI l)) : Prop := ∀ z ∈ pre, z.1 ≠ a
def oneIs {l : List Pr} (a : ByteArray) (pre : List (ComI l)) : Prop := ∃ z ∈ pre, z.1 = a
def isRet (c : Code) : Prop := c = .ret

set_option maxRecDepth 100000 in
set_option maxHeartbeats 2000000 in
theorem isAnc_in {w₀ : World} {B bm bc : Nat} {l : List Pr} {vs : List Value} {rA : ByteArray → Option Addr} {rC : ByteArray → Nat} (bt : Nat) (R : RepoW w₀ B bm bc l vs rA rC) (F : Fence) (hd : F.depth = none) (h0 : F.fn 46) (h1 : F.fn 64) (h2 : F.fn 83) (hf : F.fn 84) (hro : F.round = none) (n : Nat) (hn : 3 ≤ n) (a b : ByteArray) (hb : b.size ≤ maxLen) (w : World) (hbel : Below w₀.heap.size w₀ w) :
    CallsIn F n Tryd.prog 46 #[.agg #[.map (some bt), .map (some bm), .map (some bc)], .string a, .string b] w fun e w' => e = .returned (.bool (ancB l a b)) ∧ Below w.heap.size w w' := by
  have h1n : 1 ≤ n := by omega
  have hdd : ∀ k : Nat, (F.depth.isSome = true → 1 ≤ k) := fun k h => by rw [hd] at h; cases h
  have XR := heap_alloc_new w (.cells #[.map (some bt), .map (some bm), .map (some bc)] 64)
  have x0 := cell_of_row _ _ 0 _ _ _ XR
  have x1 := cell_of_row _ _ 1 _ _ _ XR
  have x2 := cell_of_row _ _ 2 _ _ _ XR
  refine callsIn_of_wp_marks Tryd.func46 rfl h0 ?_ hro
  simp only [Tryd.ntmps46, List.size_toArray, List.length_cons, List.length_nil, Nat.reduceAdd, Nat.reduceSub, Array.replicate_succ, Array.replicate_zero, List.push_toArray, List.append_toArray, List.nil_append, List.cons_append]
  gi_wp2_with ((try refine ⟨hdd _, ?_⟩); gi_at_call 64; refine (behind_in F h1 hro (n - 1) bt bm bc b _).mono ?_; rintro e w' ⟨rfl, rfl⟩)
  obtain ⟨W0, hW0⟩ : ∃ W0, (((((w.alloc (.cells #[.map (some bt), .map (some bm), .map (some bc)] 64)).alloc (.cells #[.string a] 9)).alloc (.cells #[.bool false] 4)).alloc (.cells #[.map (some bt), .map (some bm), .map (some bc)] 64)).alloc (.cells #[.string b] 9)) = W0 := ⟨_, rfl⟩
  rw [hW0]
  have hB0 : Below w.heap.size w W0 := by rw [← hW0]; exact (((((Below.refl _ w).alloc (Nat.le_refl _) _).alloc (by simp) _).alloc (by simp; omega) _).alloc (by simp; omega) _).alloc (by simp; omega) _
  have hS0 : Hid (W0.heap.size = w.heap.size + 5) := hide (by rw [← hW0]; simp)
  have hs0 := hS0.out
  have hA : W0.heap[w.heap.size + 1]? = some (.cells #[.string a] 9 (0, 0)) := by rw [← hW0]; exact heap_alloc_l (heap_alloc_l (heap_alloc_l (heap_alloc_at (by simp))))
  have hR : W0.heap[w.heap.size + 1 + 1]? = some (.cells #[.bool false] 4 (0, 0)) := by rw [← hW0]; exact heap_alloc_l (heap_alloc_l (heap_alloc_at (by simp)))
  have hX : W0.heap[w.heap.size + 1 + 1 + 1]? = some (.cells #[.map (some bt), .map (some bm), .map (some bc)] 64 (0, 0)) := by rw [← hW0]; exact heap_alloc_l (heap_alloc_at (by simp))
  have hI : W0.heap[w.heap.size + 1 + 1 + 1 + 1]? = some (.cells #[.string b] 9 (0, 0)) := by rw [← hW0]; exact heap_alloc_at (by simp)
  clear hW0 XR x0 x1 x2
  obtain ⟨g1, e1⟩ : ∃ g, w.heap.size + 1 = g := ⟨_, rfl⟩
  rw [e1] at hA hR hX hI ⊢
  obtain ⟨g2, e2⟩ : ∃ g, g1 + 1 = g := ⟨_, rfl⟩
  rw [e2] at hR hX hI ⊢
  obtain ⟨g3, e3⟩ : ∃ g, g2 + 1 = g := ⟨_, rfl⟩
  rw [e3] at hX hI ⊢
  obtain ⟨g4, e4⟩ : ∃ g, g3 + 1 = g := ⟨_, rfl⟩
  rw [e4] at hI ⊢
  have hw0 : w₀.heap.size ≤ w.heap.size := hbel.size
  have hr1 : g1 < W0.heap.size := by omega
  have hr2 : g2 < W0.heap.size := by omega
  have hr3 : w.heap.size ≤ g2 := by omega
  have hr4 : w.heap.size ≤ W0.heap.size := by omega
  have hr5 : w₀.heap.size ≤ W0.heap.size := by omega
  clear hs0
  refine wpIn_rangeFunc_ownF hro h1n (gf := 83) (lb := #[.pointer (some ⟨g3, 0, none⟩), .pointer (some ⟨g4, 0, none⟩)]) rfl h2 (enters_of Tryd.func83 (by kernel_rfl) rfl)
    (behind_stops bt R F hd h2 hf hro (n - 1) W0.heap.size g3 g4 b hb W0 hr5 (Nat.le_refl _) (hbel.trans (hB0.mono hw0)) hX hI) (fun h k => Keep.trans h k) (fun W l o o' h1 h2 h3 h4 => Keep.putObj W l o o' (Nat.le_trans hr5 h1) h2 h3 h4) (Below.refl _ _) (fun _ => rfl)
    (fun pre W => noneIs a pre ∧ W.heap[g1]? = some (.cells #[.string a] 9 (0, 0)) ∧ W.heap[g2]? = some (.cells #[.bool false] 4 (0, 0)) ∧ Below w.heap.size w W)
    (fun c pre W => isRet c ∧ oneIs a pre ∧ W.heap[g2]? = some (.cells #[.bool true] 4 (0, 0)) ∧ Below w.heap.size w W)
    (fun s A B row hs hg hr => ⟨hs.1, row_from hs.2.1 hr1 hg hr, row_from hs.2.2.1 hr2 hg hr, below_from hs.2.2.2 hr4 hs.2.2.2.size hg hr⟩)
    (fun c s A B row hs hg hr => ⟨hs.1, hs.2.1, row_from hs.2.2.1 hr2 hg hr, below_from hs.2.2.2 hr4 hs.2.2.2.size hg hr⟩)
    ⟨(fun z hz => by cases hz), hA, hR, hB0⟩
    (fun x => { tmps := #[.agg #[.map (some bt), .map (some bm), .map (some bc)], .string a, .string b, .pointer (some ⟨w.heap.size, 0, none⟩), .pointer (some ⟨g1, 0, none⟩), undef, .pointer (some ⟨g2, 0, none⟩), .string x.1, .agg #[.map (some bt), .map (some bm), .map (some bc)], .string b, .func (.func 83) #[] #[.pointer (some ⟨g3, 0, none⟩), .pointer (some ⟨g4, 0, none⟩)], .string x.1, .agg #[.string (treK l x.1), .slice (rA x.1) (lenK l x.1) (rC x.1), .string (notK l x.1)], undef, undef, undef], defers := [] }) ?assign ?body ?done ?stop
  case assign =>
    intro lr x W K hK
    simp only [encC]
    gi_wp2
    exact hK
  case body =>
    rintro lr pre x W ⟨hp, hA, hR, hB⟩ _
    have c1 := cell_of_row _ _ 0 _ _ _ hA
    have c2 := cell_of_row _ _ 0 _ _ _ hR
    have f2 := frozen_of_row _ _ 0 _ _ hR
    by_cases hxa : x.1 = a
    · have d := eqS_yes hxa
      have IX : Hid (KeepsOthers W (W.setCell ⟨g2, 0, none⟩ (.bool true)) ∧ (isRet Code.ret ∧ oneIs a (pre ++ [x]) ∧ (W.setCell ⟨g2, 0, none⟩ (.bool true)).heap[g2]? = some (.cells #[.bool true] 4 (0, 0)) ∧ Below w.heap.size w (W.setCell ⟨g2, 0, none⟩ (.bool true)))) := hide
        ⟨KeepsOthers.setCell _ _ _, rfl, ⟨x, by simp, hxa⟩, heap_setCell_same W g2 0 _ _ (.bool true) hR, hB.setCell (p := ⟨g2, 0, none⟩) hr3 _⟩
      clear hxa hp hA hR hB
      gi_wp2
      exact IX.out
    · have d := eqS_no hxa
      have IX : Hid (KeepsOthers W W ∧ Keep w₀.heap.size W0.heap.size W W ∧ (noneIs a (pre ++ [x]) ∧ W.heap[g1]? = some (.cells #[.string a] 9 (0, 0)) ∧ W.heap[g2]? = some (.cells #[.bool false] 4 (0, 0)) ∧ Below w.heap.size w W)) := hide
        ⟨KeepsOthers.refl _, Keep.refl _ _ _, fun z hz => by
          rcases List.mem_append.1 hz with h | h
          · exact hp z h
          · rw [List.mem_singleton] at h; subst h; exact hxa, hA, hR, hB⟩
      clear hxa hp hA hR hB
      gi_wp2
      exact IX.out
  case done =>
    rintro D ys W hD ⟨_, hall⟩ ⟨hp, hA, hR, hB⟩ hK
    have c2 := cell_of_row _ _ 0 _ _ _ hR
    have f2 := frozen_of_row _ _ 0 _ _ hR
    have hK' := (KeepsOthers.setCell W ⟨g2, 0, none⟩ (.bool false)).same D _ hK rfl
    have Z : ancB l a b = false := ancB_no (fun h => by
      obtain ⟨z, hz1, hz2⟩ := List.mem_map.1 ((hall a).2 h)
      exact hp z hz1 hz2)
    have hR' := heap_setCell_same W g2 0 _ _ (.bool false) hR
    have hB' := hB.setCell (p := ⟨g2, 0, none⟩) hr3 (.bool false)
    gi_wp2
    refine ⟨by simp, .inl ⟨_, _, rfl, run_takeDeferred hK', ?_⟩⟩
    have hc5 := cell_kept (cell_of_row _ _ 0 _ _ _ hR') (grownBy_putObj' _ D (.deferred none)) (fun r e => by cases e; exact ⟨_, hK', rfl⟩)
    refine ⟨.bool false, ?_, by rw [Z], hB'.trans (belowK_b (w := w) (Nat.le_refl _) _ D _ _ (Nat.le_trans hr4 hD) hK' rfl rfl)⟩
    simp [results, Tryd.f46, go_sem, hc5]
  case stop =>
    rintro D c pre W hD hsp ⟨rfl, ⟨z, hz, hza⟩, hR, hB⟩ hK
    have Z : ancB l a b = true := ancB_iff.2 (by
      have h := hsp z hz
      rw [hza] at h
      have hc := z.2.1
      rw [hza] at hc
      exact ⟨reach_com h hc, h⟩)
    gi_wp2
    refine ⟨by simp, .inl ⟨_, _, rfl, run_takeDeferred hK, ?_⟩⟩
    have hc5 := cell_kept (cell_of_row _ _ 0 _ _ _ hR) (grownBy_putObj' _ D (.deferred none)) (fun r e => by cases e; exact ⟨_, hK, rfl⟩)
    refine ⟨.bool true, ?_, by rw [Z], hB.trans (belowK_b (w := w) (Nat.le_refl _) W D _ _ (Nat.le_trans hr4 hD) hK rfl rfl)⟩
    simp [results, Tryd.f46, go_sem, hc5]
end Go.Proofs.YtkhkcdmmagicmaaDoor
/-
  What impl.IsAncestor answers.
-/
namespace Go.Proofs.YtkhkcdmmagicmaaDoor
open Go.RowKit Go.Shelf Go.Maps

theorem isAnc_any {w₀ : World} {B bm bc : Nat} {l : List Pr} {vs : List Value} (bt : Nat) (hM : RepoM w₀ B bm bc 60 l vs) (hr : repoB l = true) (a b : ByteArray) (hb : b.size ≤ maxLen) (w : World) (hbel : Below w₀.heap.size w₀ w) :
    Calls Tryd.prog 46 #[.agg #[.map (some bt), .map (some bm), .map (some bc)], .string a, .string b] w fun e w' => e = .returned (.bool (ancB l a b)) ∧ Below w.heap.size w w' := by
  obtain ⟨rA, rC, R⟩ := hM.toW hr
  exact callsIn_wide.1 (isAnc_in bt R Fence.wide rfl trivial trivial trivial trivial rfl 3 (Nat.le_refl _) a b hb w hbel)
theorem isAncV_yes {l : List Pr} (hr : repoB l = true) (a b : ByteArray) : isAncV l a b = ancB l a b := by
  cases h : ancB l a b
  · refine memK_no fun hm => ?_
    rw [ancB_iff.2 (ancK_mem.1 hm).2] at h
    cases h
  · exact memK_iff.2 (ancK_mem.2 ⟨hr, ancB_iff.1 h⟩)
theorem isAncV_no {l : List Pr} (hr : repoB l = false) (a b : ByteArray) : isAncV l a b = false := memK_no fun hm => by
  rw [(ancK_mem.1 hm).1] at hr
  cases hr

set_option maxRecDepth 100000 in
set_option maxHeartbeats 1000000 in
theorem implIsAncestor_any (A : Option Addr) (l : List Pr) (cap : Nat) (x y : ByteArray) (a : Addr) (w : World) (hl : l.length ≤ maxLen) (hin : PIn w w.heap.size A l) (hy : y.size ≤ maxLen) (hT : Tabs w) (hE : ErrC w a) :
    Calls Tryd.prog 22 #[.slice A l.length cap, .string x, .string y] w fun e w' => e = .returned (.bool (isAncV l x y)) ∧ Below w.heap.size w w' := by
  have T := hide (repoOf_any A l cap a w hl hin hT hE)
  have NO := hide (fun h => isAncV_no (l := l) h x y)
  have YES := hide (fun h => isAncV_yes (l := l) h x y)
  clear hin hT hE hl
  generalize l.length = n at *
  go_enter Tryd.func22, Tryd.ntmps22
  go_wp2_with fail
  refine T.out.mono ?_
  rintro e w1 ⟨b1, ⟨hf, rfl⟩ | ⟨hf, bt, bm, bc, B, vs, rfl, _, _, _, _, _, _, rm⟩⟩
  · have Z := hide (NO.out hf)
    have B1 := hide (b1.alloc b1.size (.cells #[.map none, .map none, .map none] 64))
    clear b1 hf T NO YES
    go_wp2_with fail
    go_ret
    exact ⟨ret_bool Z.out.symm, B1.out⟩
  · have Z := hide (YES.out hf)
    have b2 := (Below.refl w1.heap.size w1).alloc (Nat.le_refl _) (.cells #[.map (some bt), .map (some bm), .map (some bc)] 64)
    have B2 := hide (b1.trans (b2.mono b1.size))
    have XR := hide (heap_alloc_new w1 (.cells #[.map (some bt), .map (some bm), .map (some bc)] 64))
    have IA := hide (isAnc_any bt rm hf x y hy _ b2)
    have x0 := cell_of_row _ _ 0 _ _ _ XR.out
    have x1 := cell_of_row _ _ 1 _ _ _ XR.out
    have x2 := cell_of_row _ _ 2 _ _ _ XR.out
    clear b1 b2 hf T NO YES rm
    go_wp2_with fail
    refine IA.out.mono ?_
    rintro e w3 ⟨rfl, b3⟩
    have B3 := hide (B2.out.trans (b3.mono B2.out.size))
    clear b3 IA x0 x1 x2 XR
    generalize ancB l x y = v at *
    go_wp2_with fail
    go_ret
    exact ⟨ret_bool Z.out.symm, B3.out⟩
end Go.Proofs.YtkhkcdmmagicmaaDoor
namespace Go.Proofs.YtkhkcdmmagicmaaDoor.ExIsAncestor
open Go.RowKit Go.ChangeShapes Go.WideShapes Go.ChangeAt
open Go.ChangeMaps (open_string shut_string)

set_option maxRecDepth 100000 in
set_option maxHeartbeats 1000000 in
theorem walk (A : Option Addr) (l : List Pr) (cap : Nat) (x y : ByteArray) (a : Addr) (w : World) (hl : l.length ≤ maxLen) (hin : PIn w w.heap.size A l) (hx : x.size ≤ maxLen) (hy : y.size ≤ maxLen) (hT : Tabs w) (hE : ErrC w a) :
    Calls Tryd.prog 6 #[.slice A l.length cap, .string x, .string y] w fun e w' => e = .returned (.bool true) ∧ Below w.heap.size w w' := by
  have HT := hide hT
  have HB := hide hT.1
  have HE := hide hE
  clear hT hE
  have ne : (isAncV l x y != isAncV l x y) = false := by simp
  have hx2 := hx
  have hy2 := hy
  unfold maxLen at hx2 hy2
  by_cases hbx : 1048576 < x.size
  · go_enter Tryd.func6, Tryd.ntmps6
    go_wp2
    go_ret
    exact ⟨rfl, Below.refl _ _⟩
  by_cases hby : 1048576 < y.size
  · go_enter Tryd.func6, Tryd.ntmps6
    go_wp2
    go_ret
    exact ⟨rfl, Below.refl _ _⟩
  have es := eqL_self l
  go_enter Tryd.func6, Tryd.ntmps6
  go_wp2_with fail
  refine (szPairS_each A l cap 1048576 _ hl hin (by omega) (by omega)).mono ?_
  rintro e w1 ⟨hr, b1⟩
  rcases hr with rfl | ⟨r, hr0, hr1, hse, rfl⟩
  · go_wp2
    go_ret
    exact ⟨rfl, b1⟩
  · have hl2 : l.length ≤ 1048576 := by omega
    have HZ := hide (fun k => valOf_each hse k)
    clear hse
    have B1 := hide b1
    have in1 := (hin.below b1).more b1.size
    clear b1 hin
    go_wp2_with fail
    refine (toPairS_any A l cap _ hl2 in1).mono ?_
    rintro e w2 ⟨rfl, own2, b2⟩
    have B2 := hide (B1.out.trans (b2.mono B1.out.size))
    have in2 := (in1.below b2).more b2.size
    clear b2 in1 B1
    go_wp2_with fail
    refine (specIsAncestor_any _ l l.length x y _ hl own2.pin HZ.out).mono ?_
    rintro e w3 ⟨rfl, b3⟩
    have B3 := hide (B2.out.trans (b3.mono B2.out.size))
    have in3 := (in2.below b3).more b3.size
    clear b3 in2 B2 own2
    go_wp2_with fail
    refine (toPairS_any A l cap _ hl2 in3).mono ?_
    rintro e w4 ⟨rfl, own4, b4⟩
    have B4 := hide (B3.out.trans (b4.mono B3.out.size))
    have in4 := (in3.below b4).more b4.size
    clear b4 in3 B3
    go_wp2_with fail
    refine (implIsAncestor_any _ l l.length x y a _ hl own4.pin hy (HT.out.below B4.out HB.out) (HE.out.below B4.out)).mono ?_
    rintro e w5 ⟨rfl, b5⟩
    have B5 := hide (B4.out.trans (b5.mono B4.out.size))
    have in5 := (in4.below b5).more b5.size
    have own5 := own4.below b5
    clear b5 in4 B4 own4
    go_wp2_with fail
    refine (toPairS_any A l cap _ hl2 in5).mono ?_
    rintro e w6 ⟨rfl, own6, b6⟩
    have B6 := hide (B5.out.trans (b6.mono B5.out.size))
    have own5b := own5.below b6
    clear b6 in5 B5 own5
    go_wp2_with fail
    refine (eqPairS_any _ _ l l l.length l.length _ hl hl own5b.pin own6.pin).mono ?_
    rintro e w7 ⟨rfl, b7⟩
    have B7 := hide (B6.out.trans (b7.mono B6.out.size))
    clear b7 B6 own5b own6
    go_wp2
    go_ret
    exact ⟨rfl, B7.out⟩

theorem plainVars : ∀ n ∈ Rows.fnExactIsAncestorSpec.vars, n = "loop.example/g00652/impl.errNoCommit" ∨ ∀ g t, Tryd.prog.globalNamed n = some g → (Tryd.prog.globals[g]?).map (·.type) = some t → Tryd.prog.readableRec t = true ∧ t < Tryd.prog.types.size := by
  intro n hn
  have hb : (Rows.fnExactIsAncestorSpec.vars).all (fun n => n == "loop.example/g00652/impl.errNoCommit" || ((Tryd.prog.globalNamed n).bind fun g => (Tryd.prog.globals[g]?).map fun x => Tryd.prog.readableRec x.type && decide (x.type < Tryd.prog.types.size)).getD false) = true := by kernel_rfl
  have h := List.all_eq_true.1 hb n hn
  rw [Bool.or_eq_true] at h
  rcases h with h | h
  · exact .inl (by simpa using h)
  refine .inr fun g t h1 h2 => ?_
  rw [h1] at h
  obtain ⟨x, hx, rfl⟩ := Option.map_eq_some_iff.1 h2
  simp only [Option.bind_some, hx, Option.map_some, Option.getD_some, Bool.and_eq_true, decide_eq_true_eq] at h
  exact h
set_option maxRecDepth 100000 in
theorem contract (H : Type) (enc : TypeId × Value → H) (W : World) (base : Nat) (args : Array Value) (ds gs : List (DataW H)) (before : List MemPlace)
    (hval0 : ∀ (j : Nat) t v, Tryd.f6.params[j]? = some t → args[j]? = some v → Value.okWide Tryd.prog W .any base t v)
    (hW : DataW.Whole enc Tryd.prog Tryd.f6.params.toList Rows.fnExactIsAncestorSpec.vars false W args.toList ds gs before) (hL : laidMetH Tryd.prog Rows.fnExactIsAncestorRow.laid W) :
    Calls Tryd.prog 6 args W fun e W' => ∃ v, e = .returned v ∧ Rows.fnExactIsAncestorSpec.post enc Tryd.prog Tryd.f6 false true false false W args v W' := by
  have hval : ∀ (j : Nat) t v, Tryd.f6.params[j]? = some t → args[j]? = some v → Value.okWide Tryd.prog W .any base t v := hval0
  have hT : Tabs W := tabs_of (l := Rows.fnExactIsAncestorRow.laid) hL (List.mem_cons_self ..) (List.mem_cons_of_mem _ (List.mem_cons_self ..))
  obtain ⟨a, hE, hvar⟩ := errs_in (W := W) (laid_tail (laid_tail hL))
  have hW' := hW
  obtain ⟨p, q, hA0, hV, rfl, hfz, hnd⟩ := hW
  have hA : DataW.TrodAll enc Tryd.prog W 0 (fun _ => true) true Tryd.f6.params.toList args.toList ds p := hA0
  rw [Tryd.params6] at hA hval
  obtain ⟨v0, vs0, d0, ds0, p0, q0, hargs, rfl, rfl, h0, r0⟩ := trodAll_cons hA
  obtain ⟨v1, vs1, d1, ds1, p1, q1, rfl, rfl, rfl, h1, r1⟩ := trodAll_cons r0
  obtain ⟨v2, vs2, d2, ds2, p2, q2, rfl, rfl, rfl, h2, r2⟩ := trodAll_cons r1
  obtain ⟨rfl, rfl, rfl⟩ := trodAll_nil r2
  obtain rfl : args = #[v0, v1, v2] := by cases args; simp_all
  obtain ⟨x0, x1, x2, rfl⟩ := list3 (vars_len hV)
  obtain ⟨A0, n0, cap0, rfl⟩ := okWide_slice Tryd.underlying22 (hval 0 22 v0 rfl rfl)
  have lt0 : ∀ x ∈ p0, x.block < W.heap.size := by obtain ⟨m, hm⟩ := h0; exact DataW.trod_lt m _ _ _ hm
  obtain ⟨l0, rfl, hl0, hin0⟩ := open_pairs h0
  obtain ⟨s1, rfl, rfl, rfl, hs1⟩ := open_string Tryd.underlying9 (hval 1 9 v1 rfl rfl) h1
  obtain ⟨s2, rfl, rfl, rfl, hs2⟩ := open_string Tryd.underlying9 (hval 2 9 v2 rfl rfl) h2
  clear hA0 hval0
  refine (walk A0 l0 cap0 s1 s2 a W hl0 hin0 hs1 hs2 hT hE).mono fun e W' ⟨he, bel⟩ => ?_
  subst he
  exact ⟨_, rfl, _, _, _, [], _, q, hW', trodAll_mk1 (shut_bool Tryd.underlying4 _), (trodAll_cons_mk (Below.trod laidOut (by kernel_rfl) (of_decide_eq_true (by kernel_rfl)) h0 bel lt0) (trodAll_cons_mk (shut_string Tryd.underlying9 hs1) (trodAll_cons_mk (shut_string Tryd.underlying9 hs2) trodAll_mk0))), vars_stayE laidOut bel hvar plainVars hV, bel.frame _, fun h => by cases h⟩

/-- a world for the witness: the tables hold what their initialisers lay -/
noncomputable def laidWorld (os : Os) : World := layAllE (World.holding Tryd.prog os ⟨#[], #[], []⟩)
theorem laid_met (os : Os) : laidMet Tryd.prog Rows.fnExactIsAncestorRow.laid ((laidWorld os).forCall (fun _ _ => 0) ⟨#[], #[.slice none 0 0, .string ByteArray.empty, .string ByteArray.empty], []⟩).memory :=
  laidMet_of_run' 8 (by kernel_rfl) (by kernel_rfl)
theorem reads (os : Os) {H : Type} (enc : TypeId × Value → H) : ∃ x, DataW.whole enc Tryd.prog ((laidWorld os).forCall (fun _ _ => 0) ⟨#[], #[.slice none 0 0, .string ByteArray.empty, .string ByteArray.empty], []⟩).memory Tryd.f6.params.toList Rows.fnExactIsAncestorSpec.vars false (#[.slice none 0 0, .string ByteArray.empty, .string ByteArray.empty] : Array Value).toList 8 = some x :=
  Option.isSome_iff_exists.1 (by kernel_rfl)
set_option maxRecDepth 100000 in
theorem lifted (os : Os) (started : os.Started) (H : Type) (enc : TypeId × Value → H) (F : Stop.Interp) :
    ReturnsInHanded {} Tryd.checked os 6 .any ((OpenSpec.ofChange Rows.fnExactIsAncestorSpec).preRow enc Tryd.prog Tryd.f6 Rows.fnExactIsAncestorRow.domain false Rows.fnExactIsAncestorRow.laid) (((OpenSpec.ofChange Rows.fnExactIsAncestorSpec).at F).post enc Tryd.prog Tryd.f6 false true false false) := by
  obtain ⟨x, hx⟩ := reads os enc
  refine returnsInHanded_of_row (C := Tryd.checked) (s := OpenSpec.ofChange Rows.fnExactIsAncestorSpec) own started (by kernel_rfl) Tryd.func6
    (witness_row_at (enc := enc) (C := Tryd.checked) false (laidWorld os) #[.slice none 0 0, .string ByteArray.empty, .string ByteArray.empty] rfl (by kernel_rfl) (by kernel_rfl) (by kernel_rfl)
      (OpenSpec.preRow_of_cond 8 hx rfl (fun k hk => by cases hk) (by kernel_rfl) (laid_met os))) ?_
  intro W base args ds gs before hval hW _ _ _ hL _ _
  exact contract H enc W base args ds gs before hval hW hL
theorem said : Rows.FnExactIsAncestorSaid :=
  OpenClaim.holds_of_cond 6 Tryd.f6 rfl rfl rfl rfl rfl rfl rfl ⟨rfl, rfl, rfl, rfl, rfl⟩ rfl rfl rfl rfl rfl (by kernel_rfl) Tryd.func6 (by kernel_rfl)
    (of_decide_eq_true (by kernel_rfl)) (by unfold Func.isWrapper; first | (rw [if_pos (by decide +kernel)]; kernel_rfl) | (rw [if_neg (by decide +kernel)]; exact ⟨rfl, rfl⟩))
    (fun os started H enc _ F => by rw [OpenClaim.pre_eq_preRow]; exact lifted os started H enc F)
theorem plain (f : FuncId) (fn : Func) (hf : Tryd.pinned.checked.prog.funcNamed "loop.example/g00652/laws.FnExactIsAncestor" = some f) (hfn : Tryd.pinned.checked.prog.funcs[f]? = some fn) :
    false = Tryd.pinned.checked.prog.looks [] ∧ ∀ (j : Nat) t, fn.params[j]? = some t → Tryd.pinned.checked.prog.wantsStandIn t = false := by
  obtain rfl : f = 6 := Option.some.inj ((show Tryd.prog.funcNamed "loop.example/g00652/laws.FnExactIsAncestor" = some 6 by kernel_rfl).symm.trans hf) |>.symm
  obtain rfl : fn = Tryd.f6 := (Option.some.inj (Tryd.func6.symm.trans hfn)).symm
  refine ⟨by kernel_rfl, fun j t ht => ?_⟩
  rw [Tryd.params6] at ht
  have hm := Array.mem_of_getElem? ht
  simp only [List.mem_toArray, List.mem_cons, List.not_mem_nil, or_false] at hm
  rcases hm with e | e | e <;> subst e
  · exact (show Tryd.prog.wantsStandIn 22 = false by kernel_rfl)
  · exact (show Tryd.prog.wantsStandIn 9 = false by kernel_rfl)
  · exact (show Tryd.prog.wantsStandIn 9 = false by kernel_rfl)
theorem card : Rows.FnExactIsAncestorCardSaid :=
  Claim7.holds_tied_plain_at .later [] _ _ _ _ said (fun _ h => by cases h) (by kernel_rfl) (fun _ h => by cases h) fnExactIsAncestor_row_tie rfl ⟨rfl, rfl⟩ (by kernel_rfl) rfl plain (by kernel_rfl)

end Go.Proofs.YtkhkcdmmagicmaaDoor.ExIsAncestor
namespace Go.Proofs.YtkhkcdmmagicmaaDoor
theorem fnExactIsAncestor_proved : Rows.FnExactIsAncestorCardSaid := ExIsAncestor.card
end Go.Proofs.YtkhkcdmmagicmaaDoor
