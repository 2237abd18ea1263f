/-
  What impl's holdingOf and chosen answer.
-/
import Derived.Test.YtaofemdhgfejjaaGreatDoorMRow
namespace Go.Proofs.YtaofemdhgfejjaaGreatDoor
open Go.RowKit

theorem block_of_alloc {w w' : World} {x : Obj} (h : Below (w.alloc x).heap.size (w.alloc x) w') : w'.heap[w.heap.size]? = some x := (h.block _ (by simp)).trans (heap_alloc_new w x)

set_option maxRecDepth 100000 in
set_option maxHeartbeats 1000000 in
theorem holdingOf_any (A : Option Addr) (l : List Pr) (cap : Nat) (key : ByteArray) (w : World) (hl : l.length ≤ 65536) (hin : PIn w w.heap.size A l) (hr : risesTo l l.length) :
    Calls Tryz.prog 51 #[.slice A l.length cap, .string key] w fun e w' => e = .returned (.agg #[.string (valOf l key), .bool (hasB l key)]) ∧ Below w.heap.size w w' := by
  have B0 := hide ((Below.refl w.heap.size w).alloc (Nat.le_refl _) (.cells #[.string ByteArray.empty, .bool false] 91))
  have IN := hide ((hin.below B0.out).more B0.out.size)
  have HR := hide hr
  clear hin hr
  go_enter Tryz.func51, Tryz.ntmps51
  go_wp2_with fail
  refine (place_any A l cap key _ hl IN.out HR.out).mono ?_
  rintro e w1 ⟨rfl, b1⟩
  have q1 := block_of_alloc b1
  have B1 := hide (B0.out.trans (b1.mono B0.out.size))
  have I1 := hide (IN.out.below b1)
  have z0 : w1.cell? ⟨w.heap.size, 0, none⟩ = some (.string ByteArray.empty) := cell_of_row w1 _ 0 _ _ _ q1
  have z1 : w1.cell? ⟨w.heap.size, 1, none⟩ = some (.bool false) := cell_of_row w1 _ 1 _ _ _ q1
  have f0 := frozen_of_row w1 _ 0 _ _ q1
  have f1 := frozen_of_row w1 _ 1 _ _ q1
  clear b1 B0 IN q1
  cases hh : hasB l key
  · have Z := hide (valOf_no hh)
    go_wp2
    refine bodyPost_ret (v := .agg #[.string ⟨#[]⟩, .bool false]) (by simp [results, Tryz.results51, go_sem, z0, z1]) rfl ?_
    rw [Z.out, hh]
    exact ⟨rfl, (B1.out.setCell (p := ⟨w.heap.size, 0, none⟩) (Nat.le_refl _) _).setCell (p := ⟨w.heap.size, 1, none⟩) (Nat.le_refl _) _⟩
  · obtain ⟨hlt, he⟩ := hasB_iff.1 hh
    have Z := hide (valOf_yes hlt he)
    obtain ⟨b, off, rfl, hbB, hc⟩ := I1.out.2 (by omega)
    obtain ⟨c1, c2⟩ := hc (atN l key) hlt
    generalize (l[atN l key]'hlt).2 = v at *
    generalize atN l key = m at *
    clear hc he I1
    go_wp2
    refine bodyPost_ret (v := .agg #[.string v, .bool true]) (by simp [results, Tryz.results51, go_sem, z0, z1]) rfl ?_
    rw [Z.out, hh]
    exact ⟨rfl, (B1.out.setCell (p := ⟨w.heap.size, 0, none⟩) (Nat.le_refl _) _).setCell (p := ⟨w.heap.size, 1, none⟩) (Nat.le_refl _) _⟩

/-- the holding that a merger takes, and whether it takes one -/
def chV (x0 x1 x2 : ByteArray) (b0 b1 b2 : Bool) : ByteArray × Bool × Bool := if x1 = x0 ∧ b1 = b0 then (x2, b2, true) else if (x2 = x0 ∧ b2 = b0) ∨ (x1 = x2 ∧ b1 = b2) then (x1, b1, true) else (x0, b0, false)
theorem ret_ch {p : ByteArray × Bool × Bool} {s : ByteArray} {a c : Bool} (h : p = (s, a, c)) : Ending.returned (.tuple #[.agg #[.string s, .bool a], .bool c]) = .returned (.tuple #[.agg #[.string p.1, .bool p.2.1], .bool p.2.2]) := by rw [h]
theorem ch_same {x0 x1 x2 : ByteArray} {b0 b1 b2 : Bool} (h : x1 = x0 ∧ b1 = b0) : chV x0 x1 x2 b0 b1 b2 = (x2, b2, true) := by unfold chV; rw [if_pos h]
theorem ch_one {x0 x1 x2 : ByteArray} {b0 b1 b2 : Bool} (h : ¬ (x1 = x0 ∧ b1 = b0)) (h' : (x2 = x0 ∧ b2 = b0) ∨ (x1 = x2 ∧ b1 = b2)) : chV x0 x1 x2 b0 b1 b2 = (x1, b1, true) := by unfold chV; rw [if_neg h, if_pos h']
theorem ch_none {x0 x1 x2 : ByteArray} {b0 b1 b2 : Bool} (h : ¬ (x1 = x0 ∧ b1 = b0)) (h' : ¬ ((x2 = x0 ∧ b2 = b0) ∨ (x1 = x2 ∧ b1 = b2))) : chV x0 x1 x2 b0 b1 b2 = (x0, b0, false) := by unfold chV; rw [if_neg h, if_neg h']
theorem below4 (w : World) (a b c d : Obj) : Below w.heap.size w ((((w.alloc a).alloc b).alloc c).alloc d) := ((((Below.refl _ _).alloc (Nat.le_refl _) _).alloc (by simp) _).alloc (by simp; omega) _).alloc (by simp; omega) _

set_option maxRecDepth 100000 in
set_option maxHeartbeats 4000000 in
theorem chosen_any (x0 x1 x2 : ByteArray) (b0 b1 b2 : Bool) (w : World) :
    Calls Tryz.prog 50 #[.agg #[.string x0, .bool b0], .agg #[.string x1, .bool b1], .agg #[.string x2, .bool b2]] w fun e w' => e = .returned (.tuple #[.agg #[.string (chV x0 x1 x2 b0 b1 b2).1, .bool (chV x0 x1 x2 b0 b1 b2).2.1], .bool (chV x0 x1 x2 b0 b1 b2).2.2]) ∧ Below w.heap.size w w' := by
  have BB := hide (below4 w)
  have FF : Hid (∀ s a c, chV x0 x1 x2 b0 b1 b2 = (s, a, c) → Ending.returned (.tuple #[.agg #[.string s, .bool a], .bool c]) = .returned (.tuple #[.agg #[.string (chV x0 x1 x2 b0 b1 b2).1, .bool (chV x0 x1 x2 b0 b1 b2).2.1], .bool (chV x0 x1 x2 b0 b1 b2).2.2])) := hide (fun s a c h => ret_ch h)
  by_cases e1 : x1 = x0
  · have de1 := eqS_yes e1
    by_cases e2 : b1 = b0
    · have de2 := eqB_yes e2
      have F := hide (FF.out _ _ _ (ch_same ⟨e1, e2⟩))
      clear FF e1 e2
      go_enter Tryz.func50, Tryz.ntmps50
      go_wp2
      refine bodyPost_ret (v := .tuple #[.agg #[.string x2, .bool b2], .bool true]) (by simp [results, Tryz.results50, go_sem]) rfl ?_
      exact ⟨F.out, BB.out _ _ _ _⟩
    · have de2 := eqB_no e2
      by_cases e3 : x2 = x0
      · have de3 := eqS_yes e3
        by_cases e4 : b2 = b0
        · have de4 := eqB_yes e4
          have F := hide (FF.out _ _ _ (ch_one (fun h => e2 h.2) (.inl ⟨e3, e4⟩)))
          clear FF e1 e2 e3 e4
          go_enter Tryz.func50, Tryz.ntmps50
          go_wp2
          refine bodyPost_ret (v := .tuple #[.agg #[.string x1, .bool b1], .bool true]) (by simp [results, Tryz.results50, go_sem]) rfl ?_
          exact ⟨F.out, BB.out _ _ _ _⟩
        · have de4 := eqB_no e4
          by_cases e5 : x1 = x2
          · have de5 := eqS_yes e5
            by_cases e6 : b1 = b2
            · have de6 := eqB_yes e6
              have F := hide (FF.out _ _ _ (ch_one (fun h => e2 h.2) (.inr ⟨e5, e6⟩)))
              clear FF e1 e2 e3 e4 e5 e6
              go_enter Tryz.func50, Tryz.ntmps50
              go_wp2
              refine bodyPost_ret (v := .tuple #[.agg #[.string x1, .bool b1], .bool true]) (by simp [results, Tryz.results50, go_sem]) rfl ?_
              exact ⟨F.out, BB.out _ _ _ _⟩
            · have de6 := eqB_no e6
              have F := hide (FF.out _ _ _ (ch_none (fun h => e2 h.2) (by rintro (h | h); exact (fun h => e4 h.2) h; exact e6 h.2)))
              clear FF e1 e2 e3 e4 e5 e6
              go_enter Tryz.func50, Tryz.ntmps50
              go_wp2
              refine bodyPost_ret (v := .tuple #[.agg #[.string x0, .bool b0], .bool false]) (by simp [results, Tryz.results50, go_sem]) rfl ?_
              exact ⟨F.out, BB.out _ _ _ _⟩
          · have de5 := eqS_no e5
            have F := hide (FF.out _ _ _ (ch_none (fun h => e2 h.2) (by rintro (h | h); exact (fun h => e4 h.2) h; exact e5 h.1)))
            clear FF e1 e2 e3 e4 e5
            go_enter Tryz.func50, Tryz.ntmps50
            go_wp2
            refine bodyPost_ret (v := .tuple #[.agg #[.string x0, .bool b0], .bool false]) (by simp [results, Tryz.results50, go_sem]) rfl ?_
            exact ⟨F.out, BB.out _ _ _ _⟩
      · have de3 := eqS_no e3
        by_cases e5 : x1 = x2
        · have de5 := eqS_yes e5
          by_cases e6 : b1 = b2
          · have de6 := eqB_yes e6
            have F := hide (FF.out _ _ _ (ch_one (fun h => e2 h.2) (.inr ⟨e5, e6⟩)))
            clear FF e1 e2 e3 e5 e6
            go_enter Tryz.func50, Tryz.ntmps50
            go_wp2
            refine bodyPost_ret (v := .tuple #[.agg #[.string x1, .bool b1], .bool true]) (by simp [results, Tryz.results50, go_sem]) rfl ?_
            exact ⟨F.out, BB.out _ _ _ _⟩
          · have de6 := eqB_no e6
            have F := hide (FF.out _ _ _ (ch_none (fun h => e2 h.2) (by rintro (h | h); exact (fun h => e3 h.1) h; exact e6 h.2)))
            clear FF e1 e2 e3 e5 e6
            go_enter Tryz.func50, Tryz.ntmps50
            go_wp2
            refine bodyPost_ret (v := .tuple #[.agg #[.string x0, .bool b0], .bool false]) (by simp [results, Tryz.results50, go_sem]) rfl ?_
            exact ⟨F.out, BB.out _ _ _ _⟩
        · have de5 := eqS_no e5
          have F := hide (FF.out _ _ _ (ch_none (fun h => e2 h.2) (by rintro (h | h); exact (fun h => e3 h.1) h; exact e5 h.1)))
          clear FF e1 e2 e3 e5
          go_enter Tryz.func50, Tryz.ntmps50
          go_wp2
          refine bodyPost_ret (v := .tuple #[.agg #[.string x0, .bool b0], .bool false]) (by simp [results, Tryz.results50, go_sem]) rfl ?_
          exact ⟨F.out, BB.out _ _ _ _⟩
  · have de1 := eqS_no e1
    by_cases e3 : x2 = x0
    · have de3 := eqS_yes e3
      by_cases e4 : b2 = b0
      · have de4 := eqB_yes e4
        have F := hide (FF.out _ _ _ (ch_one (fun h => e1 h.1) (.inl ⟨e3, e4⟩)))
        clear FF e1 e3 e4
        go_enter Tryz.func50, Tryz.ntmps50
        go_wp2
        refine bodyPost_ret (v := .tuple #[.agg #[.string x1, .bool b1], .bool true]) (by simp [results, Tryz.results50, go_sem]) rfl ?_
        exact ⟨F.out, BB.out _ _ _ _⟩
      · have de4 := eqB_no e4
        by_cases e5 : x1 = x2
        · have de5 := eqS_yes e5
          by_cases e6 : b1 = b2
          · have de6 := eqB_yes e6
            have F := hide (FF.out _ _ _ (ch_one (fun h => e1 h.1) (.inr ⟨e5, e6⟩)))
            clear FF e1 e3 e4 e5 e6
            go_enter Tryz.func50, Tryz.ntmps50
            go_wp2
            refine bodyPost_ret (v := .tuple #[.agg #[.string x1, .bool b1], .bool true]) (by simp [results, Tryz.results50, go_sem]) rfl ?_
            exact ⟨F.out, BB.out _ _ _ _⟩
          · have de6 := eqB_no e6
            have F := hide (FF.out _ _ _ (ch_none (fun h => e1 h.1) (by rintro (h | h); exact (fun h => e4 h.2) h; exact e6 h.2)))
            clear FF e1 e3 e4 e5 e6
            go_enter Tryz.func50, Tryz.ntmps50
            go_wp2
            refine bodyPost_ret (v := .tuple #[.agg #[.string x0, .bool b0], .bool false]) (by simp [results, Tryz.results50, go_sem]) rfl ?_
            exact ⟨F.out, BB.out _ _ _ _⟩
        · have de5 := eqS_no e5
          have F := hide (FF.out _ _ _ (ch_none (fun h => e1 h.1) (by rintro (h | h); exact (fun h => e4 h.2) h; exact e5 h.1)))
          clear FF e1 e3 e4 e5
          go_enter Tryz.func50, Tryz.ntmps50
          go_wp2
          refine bodyPost_ret (v := .tuple #[.agg #[.string x0, .bool b0], .bool false]) (by simp [results, Tryz.results50, go_sem]) rfl ?_
          exact ⟨F.out, BB.out _ _ _ _⟩
    · have de3 := eqS_no e3
      by_cases e5 : x1 = x2
      · have de5 := eqS_yes e5
        by_cases e6 : b1 = b2
        · have de6 := eqB_yes e6
          have F := hide (FF.out _ _ _ (ch_one (fun h => e1 h.1) (.inr ⟨e5, e6⟩)))
          clear FF e1 e3 e5 e6
          go_enter Tryz.func50, Tryz.ntmps50
          go_wp2
          refine bodyPost_ret (v := .tuple #[.agg #[.string x1, .bool b1], .bool true]) (by simp [results, Tryz.results50, go_sem]) rfl ?_
          exact ⟨F.out, BB.out _ _ _ _⟩
        · have de6 := eqB_no e6
          have F := hide (FF.out _ _ _ (ch_none (fun h => e1 h.1) (by rintro (h | h); exact (fun h => e3 h.1) h; exact e6 h.2)))
          clear FF e1 e3 e5 e6
          go_enter Tryz.func50, Tryz.ntmps50
          go_wp2
          refine bodyPost_ret (v := .tuple #[.agg #[.string x0, .bool b0], .bool false]) (by simp [results, Tryz.results50, go_sem]) rfl ?_
          exact ⟨F.out, BB.out _ _ _ _⟩
      · have de5 := eqS_no e5
        have F := hide (FF.out _ _ _ (ch_none (fun h => e1 h.1) (by rintro (h | h); exact (fun h => e3 h.1) h; exact e5 h.1)))
        clear FF e1 e3 e5
        go_enter Tryz.func50, Tryz.ntmps50
        go_wp2
        refine bodyPost_ret (v := .tuple #[.agg #[.string x0, .bool b0], .bool false]) (by simp [results, Tryz.results50, go_sem]) rfl ?_
        exact ⟨F.out, BB.out _ _ _ _⟩
end Go.Proofs.YtaofemdhgfejjaaGreatDoor
