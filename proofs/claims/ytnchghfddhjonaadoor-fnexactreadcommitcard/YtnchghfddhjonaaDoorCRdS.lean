/-
  The walk of spec.ReadCommit.
-/
import Derived.Test.YtnchghfddhjonaaDoorCSplS
import Derived.Test.YtnchghfddhjonaaDoorCRdE
import Derived.Test.YtnchghfddhjonaaDoorCText
namespace Go.Proofs.YtnchghfddhjonaaDoor
open Go.RowKit

theorem ZOwn.setOther {w : World} {B : Nat} {A : Option Addr} {cap : Nat} {l : List ByteArray} (h : ZOwn w B A cap l) {p : Addr} (hp : rowOf A ≠ some p.block) (u : Value) : ZOwn (w.setCell p u) B A cap l :=
  h.kept (r := p.block) (by
    have b := (Below.refl p.block w).setCell (p := p) (Nat.le_refl _) u
    exact ⟨b.os, b.tape, b.output, b.size, fun i _ hne => Below.heap_setCell _ _ _ _ (fun e => hne (by rw [e]))⟩) hp
theorem split_size : ∀ (n : Nat) (s x : ByteArray), x ∈ splitF n s → x.size ≤ s.size
  | 0, s, x, h => by simp [splitF] at h; rw [h]; exact Nat.le_refl _
  | n + 1, s, x, h => by
    have hc := cutA_one (s := s) (c := 32)
    cases hb : (cutS s 32).2.2
    · rw [splitF_last hb] at h; simp at h; rw [h]; exact hc.1
    · rw [splitF_more hb] at h
      rcases List.mem_cons.1 h with rfl | h
      · exact hc.1
      · exact Nat.le_trans (split_size n _ x h) hc.2
/-- what a right commit's text looks like, cut and parted -/
theorem com_seen {s : ByteArray} {c : Com} (h : isCom s c) : (cutS s 10).2.2 = true ∧ (cutS s 10).2.1 = c.2.2 ∧ splitF ((cutS s 10).1.size + 1) (cutS s 10).1 = ⟨#[99, 111, 109, 109, 105, 116]⟩ :: c.1 :: c.2.1 := by
  obtain ⟨h1, h2⟩ := com_head h.1
  rw [h.2] at h1
  rw [h1]
  refine ⟨rfl, rfl, h2 _ ?_⟩
  have : 6 ≤ ((⟨#[99, 111, 109, 109, 105, 116]⟩ : ByteArray) ++ blanks (c.1 :: c.2.1)).size := by
    rw [ByteArray.size_append]
    show 6 ≤ 6 + _
    omega
  show 3 ≤ ((⟨#[99, 111, 109, 109, 105, 116]⟩ : ByteArray) ++ blanks (c.1 :: c.2.1)).size + 1
  omega
theorem com_text {s t m : ByteArray} {l : List ByteArray} (hc : (cutS s 10).2.2 = true) (h : comTextS t l m = s) : isCom s (t, l, m) := by
  cases hb : comB t l m
  · rw [comText_no hb] at h
    subst h
    have := cutA_rest hc
    simp at this
  · rw [comText_yes hb] at h
    exact ⟨hb, h⟩
theorem com_text_no {s t m : ByteArray} {l : List ByteArray} (hm : (cutS s 10).2.1 = m) (hp : splitF ((cutS s 10).1.size + 1) (cutS s 10).1 = ⟨#[99, 111, 109, 109, 105, 116]⟩ :: t :: l) (h : comTextS t l m ≠ s) : ¬ ∃ c, isCom s c := by
  rintro ⟨c, hc⟩
  obtain ⟨_, h2, h3⟩ := com_seen hc
  rw [hp] at h3
  simp only [List.cons.injEq, true_and] at h3
  refine h ?_
  rw [h3.1, h3.2, ← hm, h2, comText_yes hc.1]
  exact hc.2
theorem row_top {w : World} {B : Nat} {A : Option Addr} {cap : Nat} {l : List ByteArray} (h : ZOwn w B A cap l) : rowOf A ≠ some w.heap.size := fun e => by have := (h.row _ e).2; omega
theorem row_low {w : World} {B : Nat} {A : Option Addr} {cap : Nat} {l : List ByteArray} (h : ZOwn w (B + 1) A cap l) : rowOf A ≠ some B := fun e => by have := (h.row _ e).1; omega
theorem row_ne (K : Nat) : some (K + 1) ≠ rowOf (some (⟨K, 0, none⟩ : Addr)) := by simp [rowOf]
theorem row_mid {w : World} {C E : Obj} {A : Option Addr} (h : rowOf A = rowOf (some (⟨w.heap.size, 0, none⟩ : Addr)) ∨ rowOf A = some ((w.alloc E).alloc C).drew.heap.size) : rowOf A ≠ some (w.heap.size + 1) := fun e => by
  rcases h with r | r <;> rw [e] at r <;> simp [rowOf, World.drew] at r
theorem grown_other {w w' : World} {r : Option Nat} {i : Nat} (h : w.grownBy w' r) (hi : i < w.heap.size) (hne : some i ≠ r) : w'.heap[i]? = w.heap[i]? := h.block i hi hne
theorem keep3 {w : World} {b g o : Nat} {u0 u1 u2 v : Value} (hc : w.cell? ⟨g, o, none⟩ = some v) (h : g ≠ b) : (((w.setCell ⟨b, 0, none⟩ u0).setCell ⟨b, 1, none⟩ u1).setCell ⟨b, 2, none⟩ u2).cell? ⟨g, o, none⟩ = some v :=
  (World.cell?_of_block (a := ⟨g, o, none⟩) ((Below.heap_setCell _ _ _ _ h).trans ((Below.heap_setCell _ _ _ _ h).trans (Below.heap_setCell _ _ _ _ h)))).trans hc
/-- a commit stored in a block of its own -/
theorem put3 {w : World} {b : Nat} {t m t0 m0 : ByteArray} {A A0 : Option Addr} {n n0 cap cap0 : Nat} (h : w.heap[b]? = some (C3 t0 A0 n0 cap0 m0)) : (((w.setCell ⟨b, 0, none⟩ (.string t)).setCell ⟨b, 1, none⟩ (.slice A n cap)).setCell ⟨b, 2, none⟩ (.string m)).heap[b]? = some (C3 t A n cap m) :=
  heap_setCell_same _ b 2 _ _ _ (heap_setCell_same _ b 1 _ _ _ (heap_setCell_same w b 0 _ _ _ h))
theorem own3 {w : World} {B b : Nat} {A : Option Addr} {cap : Nat} {l : List ByteArray} {u0 u1 u2 : Value} (h : ZOwn w B A cap l) (hr : rowOf A ≠ some b) : ZOwn (((w.setCell ⟨b, 0, none⟩ u0).setCell ⟨b, 1, none⟩ u1).setCell ⟨b, 2, none⟩ u2) B A cap l := ((h.setOther (p := ⟨b, 0, none⟩) hr u0).setOther (p := ⟨b, 1, none⟩) hr u1).setOther (p := ⟨b, 2, none⟩) hr u2
theorem bel3 {w0 w : World} {B b : Nat} {u0 u1 u2 : Value} (h : Below B w0 w) (hb : B ≤ b) : Below B w0 (((w.setCell ⟨b, 0, none⟩ u0).setCell ⟨b, 1, none⟩ u1).setCell ⟨b, 2, none⟩ u2) := ((h.setCell (p := ⟨b, 0, none⟩) hb u0).setCell (p := ⟨b, 1, none⟩) hb u1).setCell (p := ⟨b, 2, none⟩) hb u2
def Zero (s : ByteArray) (w : World) (e : Ending) (w' : World) : Prop := (¬ ∃ c, isCom s c) → RetCom s w e w'

set_option maxRecDepth 100000 in
set_option maxHeartbeats 4000000 in
theorem specReadCommit_any (s : ByteArray) (w : World) (hs : s.size ≤ 1048576) :
    Calls Tryd.prog 4 #[.string s] w (RetCom s w) := by
  have B0 := hide ((Below.refl w.heap.size w).alloc (Nat.le_refl _) (.cells #[.string ByteArray.empty, .slice none 0 0, .string ByteArray.empty] 24))
  have X0 : Hid ((w.alloc (.cells #[.string ByteArray.empty, .slice none 0 0, .string ByteArray.empty] 24)).heap[w.heap.size]? = some (C3 ByteArray.empty none 0 0 ByteArray.empty)) := hide (heap_alloc_new w _)
  have hz0 : (w.alloc (.cells #[.string ByteArray.empty, .slice none 0 0, .string ByteArray.empty] 24)).heap.size = w.heap.size + 1 := by simp
  have hcs := (cutA_one (s := s) (c := 10))
  go_enter Tryd.func4, Tryd.ntmps4
  go_wp2_with fail
  refine (l1Cut_any s 10 10 _ (by unfold maxLen; omega) rfl).mono ?_
  rintro e w1 ⟨rfl, q1⟩
  go_wp2_with fail
  refine (l1Split_any (cutS s 10).1 w1 (by omega)).mono ?_
  rintro e w2 ⟨A1, cap1, rfl, own1, b2, hlen⟩
  have hz1 : w1.heap.size = w.heap.size + 1 := by
    obtain ⟨k, rfl⟩ := q1
    exact hz0
  have B2 := hide (B0.out.trans ((q1.below w.heap.size).trans (b2.mono (by omega))))
  have X2 := hide ((b2.block w.heap.size (by omega)).trans (((q1.below (w.heap.size + 1)).block w.heap.size (by omega)).trans X0.out))
  have O := hide own1
  rw [hz1] at O
  have hz2 : w.heap.size + 1 ≤ w2.heap.size := by have := b2.size; omega
  have g0 := cell_of_row _ _ 0 _ _ _ X2.out
  have g1 := cell_of_row _ _ 1 _ _ _ X2.out
  have g2 := cell_of_row _ _ 2 _ _ _ X2.out
  have k0 := frozen_of_row _ _ 0 _ _ X2.out
  have k1 := frozen_of_row _ _ 1 _ _ X2.out
  have k2 := frozen_of_row _ _ 2 _ _ X2.out
  have NO : Hid ((¬ ∃ c, isCom s c) → ∀ e, e = Ending.returned (.tuple #[.agg #[.string ByteArray.empty, .slice none 0 0, .string ByteArray.empty], .bool false]) → ∀ w3, Below w.heap.size w2 w3 → RetCom s w e (((w3.setCell ⟨w.heap.size, 0, none⟩ (.string ByteArray.empty)).setCell ⟨w.heap.size, 1, none⟩ (.slice none 0 0)).setCell ⟨w.heap.size, 2, none⟩ (.string ByteArray.empty))) := hide (by
    rintro hn e rfl w3 b3
    obtain ⟨e1, e2⟩ := rd_no hn
    exact ⟨none, 0, by rw [e2, e1]; rfl, by rw [e2]; exact ZOwn.nil _ _, (((B2.out.trans b3).setCell (p := ⟨w.heap.size, 0, none⟩) (Nat.le_refl _) _).setCell (p := ⟨w.heap.size, 1, none⟩) (Nat.le_refl _) _).setCell (p := ⟨w.heap.size, 2, none⟩) (Nat.le_refl _) _⟩)
  clear q1 b2 own1 hz0 hz1 X0 B0
  cases hcut : (cutS s 10).2.2
  · have N := hide (NO.out (fun ⟨c, hc⟩ => by have := (com_seen hc).1; rw [hcut] at this; cases this) _ rfl w2 (Below.refl _ _))
    clear hlen
    generalize splitF ((cutS s 10).1.size + 1) (cutS s 10).1 = p at *
    generalize (cutS s 10).1 = x at *
    generalize (cutS s 10).2.1 = m at *
    go_wp2
    exact bodyPost_ret (v := .tuple #[.agg #[.string ByteArray.empty, .slice none 0 0, .string ByteArray.empty], .bool false]) (by simp [results, Tryd.results4, go_sem, g0, g1, g2]; rfl) rfl N.out
  · generalize hp : splitF ((cutS s 10).1.size + 1) (cutS s 10).1 = p at *
    have hszp : Hid (∀ x ∈ p, x.size ≤ maxLen) := hide (fun x hx => by rw [← hp] at hx; have := split_size _ _ x hx; unfold maxLen; omega)
    have HP := hide hp
    have HC := hide hcut
    have hms : (cutS s 10).2.1.size ≤ 1048576 := by omega
    generalize hm : (cutS s 10).2.1 = m at *
    have HM := hide hm
    generalize hx : (cutS s 10).1 = x at *
    clear hp hm hcut
    have RET0 : ∀ (w3 : World) (a : Act), True := fun _ _ => trivial
    rcases p with _ | ⟨x0, _ | ⟨t, l⟩⟩
    · have N := hide (NO.out (fun ⟨c, hc⟩ => by have := (com_seen hc).2.2; rw [hx, HP.out] at this; cases this) _ rfl w2 (Below.refl _ _))
      go_wp2
      exact bodyPost_ret (v := .tuple #[.agg #[.string ByteArray.empty, .slice none 0 0, .string ByteArray.empty], .bool false]) (by simp [results, Tryd.results4, go_sem, g0, g1, g2]; rfl) rfl N.out
    · have N := hide (NO.out (fun ⟨c, hc⟩ => by have := (com_seen hc).2.2; rw [hx, HP.out] at this; cases this) _ rfl w2 (Below.refl _ _))
      go_wp2
      exact bodyPost_ret (v := .tuple #[.agg #[.string ByteArray.empty, .slice none 0 0, .string ByteArray.empty], .bool false]) (by simp [results, Tryd.results4, go_sem, g0, g1, g2]; rfl) rfl N.out
    · obtain ⟨gb, rfl, hgB, hgs⟩ : ∃ g, A1 = some ⟨g, 0, none⟩ ∧ w.heap.size + 1 ≤ g ∧ g < w2.heap.size := by
        rcases O.out.form with ⟨_, _, h⟩ | h
        · cases h
        · exact h
      obtain ⟨b, off, heq, hb, hc⟩ := O.out.zin (by simp)
      cases heq
      have c0 : w2.cell? ⟨gb, 0, none⟩ = some (.string x0) := hc 0 (by simp)
      have c1 : w2.cell? ⟨gb, 1, none⟩ = some (.string t) := hc 1 (by simp)
      have hcap := O.out.cap_le
      have IN := hide (O.out.zin.drop (cap := cap1) O.out.cap_le 2)
      clear hc
      have hln : (x0 :: t :: l).length = l.length + 2 := rfl
      generalize hn : (x0 :: t :: l).length = n at *
      have n2 : ¬ (n : Int) < 2 := by omega
      have n0 : (0 : Int) < (n : Int) := by omega
      have n1 : (1 : Int) < (n : Int) := by omega
      have HLN := hide hln
      have hl0 : l.length = n - 2 := by omega
      have HL0 := hide hl0
      have hn3 : n ≤ 1048577 := by omega
      clear hn hln hl0
      by_cases hx0 : x0 = ⟨#[99, 111, 109, 109, 105, 116]⟩
      case neg =>
        have d2 := eqS_no hx0
        have d4 : (x0.toList == [99, 111, 109, 109, 105, 116]) = false := by
          have e : (ByteArray.mk #[99, 111, 109, 109, 105, 116]).toList = [99, 111, 109, 109, 105, 116] := by rw [Go.ByteArray.toList_eq]
          rw [← e]; exact d2
        have N := hide (NO.out (fun ⟨c, hc⟩ => by have := (com_seen hc).2.2; rw [hx, HP.out] at this; simp only [List.cons.injEq] at this; exact hx0 this.1) _ rfl w2 (Below.refl _ _))
        go_wp2
        exact bodyPost_ret (v := .tuple #[.agg #[.string ByteArray.empty, .slice none 0 0, .string ByteArray.empty], .bool false]) (by simp [results, Tryd.results4, go_sem, g0, g1, g2]; rfl) rfl N.out
      subst hx0
      have K2 := run_cutZ_l 22 Tryd.underlying22 (some ⟨gb, 0, none⟩) n cap1 2 (by omega)
      have hb0 := hide ((Below.refl w2.heap.size w2).alloc (Nat.le_refl _) (Obj.cells #[] 9))
      have hb1 := hide ((Below.refl w2.heap.size w2).alloc (Nat.le_refl _) (Obj.cells #[Value.string { data := #[] }, Value.slice none 0 0, Value.string { data := #[] }] 24))
      have BC : Hid (Below w2.heap.size w2 (w2.alloc (Obj.cells #[] 9)).drew) := hide hb0.out.drew
      have BB : Hid (Below w2.heap.size w2 ((w2.alloc (Obj.cells #[] 9)).alloc (Obj.cells #[Value.string { data := #[] }, Value.slice none 0 0, Value.string { data := #[] }] 24)).drew) := hide (hb0.out.alloc hb0.out.size _).drew
      have BA1 : Hid (Below w2.heap.size w2 (w2.alloc (Obj.cells #[Value.string { data := #[] }, Value.slice none 0 0, Value.string { data := #[] }] 24)).drew) := hide hb1.out.drew
      have BA : Hid (Below w2.heap.size w2 ((w2.alloc (Obj.cells #[Value.string { data := #[] }, Value.slice none 0 0, Value.string { data := #[] }] 24)).alloc (Obj.cells #[] 9)).drew) := hide (hb1.out.alloc hb1.out.size _).drew
      have OC : Hid (ZOwn (w2.alloc (Obj.cells #[] 9)).drew w2.heap.size (some ⟨w2.heap.size, 0, none⟩) 0 []) := hide ((ZOwn.built w2 w2.heap.size (Nat.le_refl _)).below (Below.refl _ _).drew)
      have OB : Hid (ZOwn ((w2.alloc (Obj.cells #[] 9)).alloc (Obj.cells #[Value.string { data := #[] }, Value.slice none 0 0, Value.string { data := #[] }] 24)).drew w2.heap.size (some ⟨w2.heap.size, 0, none⟩) 0 []) := hide (((ZOwn.built w2 w2.heap.size (Nat.le_refl _)).alloc _).below (Below.refl _ _).drew)
      have OA : Hid (ZOwn ((w2.alloc (Obj.cells #[Value.string { data := #[] }, Value.slice none 0 0, Value.string { data := #[] }] 24)).alloc (Obj.cells #[] 9)).drew (w2.heap.size + 1) (some ⟨w2.heap.size + 1, 0, none⟩) 0 []) := hide (by
        have h := (ZOwn.built (w2.alloc (Obj.cells #[Value.string { data := #[] }, Value.slice none 0 0, Value.string { data := #[] }] 24)) (w2.heap.size + 1) (by simp)).below (Below.refl _ _).drew
        rw [show (w2.alloc (Obj.cells #[Value.string { data := #[] }, Value.slice none 0 0, Value.string { data := #[] }] 24)).heap.size = w2.heap.size + 1 by simp] at h
        exact h)
      have IC : Hid (ZIn (w2.alloc (Obj.cells #[] 9)).drew w2.heap.size (cutZ (some ⟨gb, 0, none⟩) cap1 2) l) := hide (IN.out.below BC.out)
      have IB : Hid (ZIn ((w2.alloc (Obj.cells #[] 9)).alloc (Obj.cells #[Value.string { data := #[] }, Value.slice none 0 0, Value.string { data := #[] }] 24)).drew w2.heap.size (cutZ (some ⟨gb, 0, none⟩) cap1 2) l) := hide (IN.out.below BB.out)
      have IA : Hid (ZIn ((w2.alloc (Obj.cells #[Value.string { data := #[] }, Value.slice none 0 0, Value.string { data := #[] }] 24)).alloc (Obj.cells #[] 9)).drew w2.heap.size (cutZ (some ⟨gb, 0, none⟩) cap1 2) l) := hide (IN.out.below BA.out)
      have YB : Hid ((((w2.alloc (Obj.cells #[] 9)).alloc (Obj.cells #[Value.string { data := #[] }, Value.slice none 0 0, Value.string { data := #[] }] 24)).drew).heap[w2.heap.size + 1]? = some (C3 ByteArray.empty none 0 0 ByteArray.empty)) := hide (heap_alloc2_new w2 _ _)
      have YA : Hid ((((w2.alloc (Obj.cells #[Value.string { data := #[] }, Value.slice none 0 0, Value.string { data := #[] }] 24)).alloc (Obj.cells #[] 9)).drew).heap[w2.heap.size]? = some (C3 ByteArray.empty none 0 0 ByteArray.empty)) := hide (heap_alloc2_old w2 _ _)
      have sB : w2.heap.size + 1 < (((w2.alloc (Obj.cells #[] 9)).alloc (Obj.cells #[Value.string { data := #[] }, Value.slice none 0 0, Value.string { data := #[] }] 24)).drew).heap.size := by simp [World.drew]
      have sA : w2.heap.size + 1 ≤ (((w2.alloc (Obj.cells #[Value.string { data := #[] }, Value.slice none 0 0, Value.string { data := #[] }] 24)).alloc (Obj.cells #[] 9)).drew).heap.size := by simp [World.drew]
      have hlb : ([] : List ByteArray).length + l.length ≤ 3000000 := by rw [HL0.out]; simp; omega
      have hgs' := hgs
      clear hb0 hb1
      go_wp2_with fail
      have hcut2 : (if cap1 = 2 then some (⟨gb, 0, none⟩ : Addr) else some ⟨gb, 2, none⟩) = cutZ (some ⟨gb, 0, none⟩) cap1 2 := by simp [cutZ, Addr.add]
      go_region_held3 (fun w' => w'.cell? ⟨gb, 1, none⟩ = some (.string t)) (first | go_keep | exact cellB BC.out hgs' c1 | exact cellB BB.out hgs' c1 | exact cellB BA1.out hgs' c1 | exact cellB BA.out hgs' c1 | exact z1 | exact keep3 z1 (by omega)) (first
        | (refine step_appZ (w := (w2.alloc (Obj.cells #[] 9)).drew) (n := 0) (m := n - 2) (A := some ⟨w2.heap.size, 0, none⟩) (cap := 0) (A' := cutZ (some ⟨gb, 0, none⟩) cap1 2) (c := cap1 - 2) (l := []) (l' := l) 22 Tryd.underlying22 rfl (.tmp 34) (.tmp 36) rfl (by simp [Act.eval]) (by simp [Act.eval, cutZ, Addr.add]) rfl HL0.out.symm OC.out IC.out BC.out.size hlb ?_; intro A5 cap5 w5 own5 g5 r5; have B5 := hide (BC.out.trans (OC.out.grownBelow g5 BC.out.size)); have ROW := hide (row_top own5); have O5 := hide own5; have z1 := cellB B5.out hgs' c1; have MC := trivial; clear own5 g5 r5)
        | (refine step_appZ (w := ((w2.alloc (Obj.cells #[] 9)).alloc (Obj.cells #[Value.string { data := #[] }, Value.slice none 0 0, Value.string { data := #[] }] 24)).drew) (n := 0) (m := n - 2) (A := some ⟨w2.heap.size, 0, none⟩) (cap := 0) (A' := cutZ (some ⟨gb, 0, none⟩) cap1 2) (c := cap1 - 2) (l := []) (l' := l) 22 Tryd.underlying22 rfl (.tmp 34) (.tmp 36) rfl (by simp [Act.eval]) (by simp [Act.eval, cutZ, Addr.add]) rfl HL0.out.symm OB.out IB.out BB.out.size hlb ?_; intro A5 cap5 w5 own5 g5 r5; have B5 := hide (BB.out.trans (OB.out.grownBelow g5 BB.out.size)); have X5 := hide ((grown_other g5 sB (row_ne _)).trans YB.out); have ROW := hide (row_mid r5); have c50 := cell_of_row _ _ 0 _ _ _ X5.out; have f50 := frozen_of_row _ _ 0 _ _ X5.out; have c51 := cell_of_row _ _ 1 _ _ _ X5.out; have f51 := frozen_of_row _ _ 1 _ _ X5.out; have c52 := cell_of_row _ _ 2 _ _ _ X5.out; have f52 := frozen_of_row _ _ 2 _ _ X5.out; have O5 := hide own5; have z1 := cellB B5.out hgs' c1; have MB := trivial; clear own5 g5 r5)
        | (refine step_appZ (w := ((w2.alloc (Obj.cells #[Value.string { data := #[] }, Value.slice none 0 0, Value.string { data := #[] }] 24)).alloc (Obj.cells #[] 9)).drew) (n := 0) (m := n - 2) (A := some ⟨w2.heap.size + 1, 0, none⟩) (cap := 0) (A' := cutZ (some ⟨gb, 0, none⟩) cap1 2) (c := cap1 - 2) (l := []) (l' := l) 22 Tryd.underlying22 rfl (.tmp 34) (.tmp 36) rfl (by simp [Act.eval]) (by simp [Act.eval, cutZ, Addr.add]) rfl HL0.out.symm OA.out IA.out sA hlb ?_; intro A5 cap5 w5 own5 g5 r5; have b5 := hide (OA.out.grownBelow g5 sA); have B5 := hide (BA.out.trans (b5.out.mono (Nat.le_succ _))); have X5 := hide ((b5.out.block w2.heap.size (Nat.lt_succ_self _)).trans YA.out); have ROW := hide (row_low own5); have c50 := cell_of_row _ _ 0 _ _ _ X5.out; have f50 := frozen_of_row _ _ 0 _ _ X5.out; have c51 := cell_of_row _ _ 1 _ _ _ X5.out; have f51 := frozen_of_row _ _ 1 _ _ X5.out; have c52 := cell_of_row _ _ 2 _ _ _ X5.out; have f52 := frozen_of_row _ _ 2 _ _ X5.out; have O5 := hide own5; have z1 := cellB B5.out hgs' c1; have MA := trivial; clear own5 g5 r5 b5))
      · clear hcut2 K2
        have X6 : Hid ((w5.alloc (Obj.cells #[Value.string t, Value.slice A5 l.length cap5, Value.string m] 24)).heap[w5.heap.size]? = some (C3 t A5 l.length cap5 m)) := hide (heap_alloc_new w5 _)
        have O6 : Hid (ZOwn (w5.alloc (Obj.cells #[Value.string t, Value.slice A5 l.length cap5, Value.string m] 24)) w2.heap.size A5 cap5 l) := hide (O5.out.alloc _)
        have B6 : Hid (Below w2.heap.size w2 (w5.alloc (Obj.cells #[Value.string t, Value.slice A5 l.length cap5, Value.string m] 24))) := hide (B5.out.alloc B5.out.size _)
        have hcb : w2.heap.size ≤ w5.heap.size := B5.out.size
        have S6 : w5.heap.size < (w5.alloc (Obj.cells #[Value.string t, Value.slice A5 l.length cap5, Value.string m] 24)).heap.size := (Array.getElem?_eq_some_iff.1 X6.out).1
        generalize (w5.alloc (Obj.cells #[Value.string t, Value.slice A5 l.length cap5, Value.string m] 24)) = w6 at *
        generalize hcbe : w5.heap.size = cb at *
        clear B5 O5 ROW z1 OC OB OA IC IB IA BC BB BA BA1 YA YB sA sB
        have c60 := cell_of_row _ _ 0 _ _ _ X6.out
        have c61 := cell_of_row _ _ 1 _ _ _ X6.out
        have c62 := cell_of_row _ _ 2 _ _ _ X6.out
        go_wp2_with fail
        refine (specCommitText_any t m A5 l cap5 w6 (hszp.out t (by simp)) (by unfold maxLen; omega) (by rw [HL0.out]; unfold maxLen; omega) ⟨fun i hi => hszp.out _ (List.mem_cons_of_mem _ (List.mem_cons_of_mem _ (List.getElem_mem hi))), O6.out.zin⟩).mono ?_
        rintro e w7 ⟨rfl, b7⟩
        have X7 := hide ((b7.block cb (by have := S6; omega)).trans X6.out)
        have G7 := hide ((b7.block w.heap.size (by have := S6; omega)).trans ((B6.out.block w.heap.size (by omega)).trans X2.out))
        have B7 := hide (B6.out.trans (b7.mono (by have := S6; have := B6.out.size; omega)))
        have O7 := hide (O6.out.below b7)
        clear b7 X6 B6 O6 c60 c61 c62 g0 g1 g2 k0 k1 k2 X2
        have c70 := cell_of_row _ _ 0 _ _ _ X7.out
        have c71 := cell_of_row _ _ 1 _ _ _ X7.out
        have c72 := cell_of_row _ _ 2 _ _ _ X7.out
        have g0 := cell_of_row _ _ 0 _ _ _ G7.out
        have g1 := cell_of_row _ _ 1 _ _ _ G7.out
        have g2 := cell_of_row _ _ 2 _ _ _ G7.out
        have k0 := frozen_of_row _ _ 0 _ _ G7.out
        have k1 := frozen_of_row _ _ 1 _ _ G7.out
        have k2 := frozen_of_row _ _ 2 _ _ G7.out
        by_cases hT : comTextS t l m = s
        · obtain ⟨e1, e2⟩ := rd_yes (com_text HC.out hT)
          have E := eqS_yes hT
          have RR := hide (show RetCom s w (.returned (.tuple #[.agg #[.string t, .slice A5 l.length cap5, .string m], .bool true])) (((w7.setCell ⟨w.heap.size, 0, none⟩ (.string t)).setCell ⟨w.heap.size, 1, none⟩ (.slice A5 l.length cap5)).setCell ⟨w.heap.size, 2, none⟩ (.string m)) from
            ⟨A5, cap5, by rw [e2, e1], by rw [e2]; exact (own3 O7.out (fun h => by have := (O7.out.row _ h).1; omega)).more (by omega), bel3 (B2.out.trans (B7.out.mono (by omega))) (Nat.le_refl _)⟩)
          clear hT e1 e2
          generalize comTextS t l m = cs at *
          generalize l.length = nl at *
          go_wp2
          exact bodyPost_ret (v := .tuple #[.agg #[.string t, .slice A5 nl cap5, .string m], .bool true]) (by simp [results, Tryd.results4, go_sem, g0, g1, g2]) rfl RR.out
        · have E := eqS_no hT
          have N := hide (NO.out (com_text_no HM.out (by rw [hx]; exact HP.out) hT) _ rfl w7 (B7.out.mono (by omega)))
          clear hT
          generalize comTextS t l m = cs at *
          generalize l.length = nl at *
          go_wp2
          exact bodyPost_ret (v := .tuple #[.agg #[.string ByteArray.empty, .slice none 0 0, .string ByteArray.empty], .bool false]) (by simp [results, Tryd.results4, go_sem, g0, g1, g2]; rfl) rfl N.out
      · clear hcut2 K2
        have X6 : Hid (((((w5).setCell ⟨w2.heap.size + 1, 0, none⟩ (Value.string t)).setCell ⟨w2.heap.size + 1, 1, none⟩ (Value.slice A5 l.length cap5)).setCell ⟨w2.heap.size + 1, 2, none⟩ (Value.string m)).heap[w2.heap.size + 1]? = some (C3 t A5 l.length cap5 m)) := hide (put3 X5.out)
        have O6 : Hid (ZOwn ((((w5).setCell ⟨w2.heap.size + 1, 0, none⟩ (Value.string t)).setCell ⟨w2.heap.size + 1, 1, none⟩ (Value.slice A5 l.length cap5)).setCell ⟨w2.heap.size + 1, 2, none⟩ (Value.string m)) w2.heap.size A5 cap5 l) := hide (own3 O5.out ROW.out)
        have B6 : Hid (Below w2.heap.size w2 ((((w5).setCell ⟨w2.heap.size + 1, 0, none⟩ (Value.string t)).setCell ⟨w2.heap.size + 1, 1, none⟩ (Value.slice A5 l.length cap5)).setCell ⟨w2.heap.size + 1, 2, none⟩ (Value.string m))) := hide (bel3 B5.out (Nat.le_succ _))
        have hcb : w2.heap.size ≤ w2.heap.size + 1 := (Nat.le_succ _)
        have S6 : w2.heap.size + 1 < ((((w5).setCell ⟨w2.heap.size + 1, 0, none⟩ (Value.string t)).setCell ⟨w2.heap.size + 1, 1, none⟩ (Value.slice A5 l.length cap5)).setCell ⟨w2.heap.size + 1, 2, none⟩ (Value.string m)).heap.size := (Array.getElem?_eq_some_iff.1 X6.out).1
        generalize ((((w5).setCell ⟨w2.heap.size + 1, 0, none⟩ (Value.string t)).setCell ⟨w2.heap.size + 1, 1, none⟩ (Value.slice A5 l.length cap5)).setCell ⟨w2.heap.size + 1, 2, none⟩ (Value.string m)) = w6 at *
        generalize hcbe : w2.heap.size + 1 = cb at *
        clear B5 O5 ROW z1 OC OB OA IC IB IA BC BB BA BA1 YA YB sA sB X5 c50 c51 c52 f50 f51 f52
        have c60 := cell_of_row _ _ 0 _ _ _ X6.out
        have c61 := cell_of_row _ _ 1 _ _ _ X6.out
        have c62 := cell_of_row _ _ 2 _ _ _ X6.out
        go_wp2_with fail
        refine (specCommitText_any t m A5 l cap5 w6 (hszp.out t (by simp)) (by unfold maxLen; omega) (by rw [HL0.out]; unfold maxLen; omega) ⟨fun i hi => hszp.out _ (List.mem_cons_of_mem _ (List.mem_cons_of_mem _ (List.getElem_mem hi))), O6.out.zin⟩).mono ?_
        rintro e w7 ⟨rfl, b7⟩
        have X7 := hide ((b7.block cb (by have := S6; omega)).trans X6.out)
        have G7 := hide ((b7.block w.heap.size (by have := S6; omega)).trans ((B6.out.block w.heap.size (by omega)).trans X2.out))
        have B7 := hide (B6.out.trans (b7.mono (by have := S6; have := B6.out.size; omega)))
        have O7 := hide (O6.out.below b7)
        clear b7 X6 B6 O6 c60 c61 c62 g0 g1 g2 k0 k1 k2 X2
        have c70 := cell_of_row _ _ 0 _ _ _ X7.out
        have c71 := cell_of_row _ _ 1 _ _ _ X7.out
        have c72 := cell_of_row _ _ 2 _ _ _ X7.out
        have g0 := cell_of_row _ _ 0 _ _ _ G7.out
        have g1 := cell_of_row _ _ 1 _ _ _ G7.out
        have g2 := cell_of_row _ _ 2 _ _ _ G7.out
        have k0 := frozen_of_row _ _ 0 _ _ G7.out
        have k1 := frozen_of_row _ _ 1 _ _ G7.out
        have k2 := frozen_of_row _ _ 2 _ _ G7.out
        by_cases hT : comTextS t l m = s
        · obtain ⟨e1, e2⟩ := rd_yes (com_text HC.out hT)
          have E := eqS_yes hT
          have RR := hide (show RetCom s w (.returned (.tuple #[.agg #[.string t, .slice A5 l.length cap5, .string m], .bool true])) (((w7.setCell ⟨w.heap.size, 0, none⟩ (.string t)).setCell ⟨w.heap.size, 1, none⟩ (.slice A5 l.length cap5)).setCell ⟨w.heap.size, 2, none⟩ (.string m)) from
            ⟨A5, cap5, by rw [e2, e1], by rw [e2]; exact (own3 O7.out (fun h => by have := (O7.out.row _ h).1; omega)).more (by omega), bel3 (B2.out.trans (B7.out.mono (by omega))) (Nat.le_refl _)⟩)
          clear hT e1 e2
          generalize comTextS t l m = cs at *
          generalize l.length = nl at *
          go_wp2
          exact bodyPost_ret (v := .tuple #[.agg #[.string t, .slice A5 nl cap5, .string m], .bool true]) (by simp [results, Tryd.results4, go_sem, g0, g1, g2]) rfl RR.out
        · have E := eqS_no hT
          have N := hide (NO.out (com_text_no HM.out (by rw [hx]; exact HP.out) hT) _ rfl w7 (B7.out.mono (by omega)))
          clear hT
          generalize comTextS t l m = cs at *
          generalize l.length = nl at *
          go_wp2
          exact bodyPost_ret (v := .tuple #[.agg #[.string ByteArray.empty, .slice none 0 0, .string ByteArray.empty], .bool false]) (by simp [results, Tryd.results4, go_sem, g0, g1, g2]; rfl) rfl N.out
      · clear hcut2 K2
        have X6 : Hid (((((w5).setCell ⟨w2.heap.size, 0, none⟩ (Value.string t)).setCell ⟨w2.heap.size, 1, none⟩ (Value.slice A5 l.length cap5)).setCell ⟨w2.heap.size, 2, none⟩ (Value.string m)).heap[w2.heap.size]? = some (C3 t A5 l.length cap5 m)) := hide (put3 X5.out)
        have O6 : Hid (ZOwn ((((w5).setCell ⟨w2.heap.size, 0, none⟩ (Value.string t)).setCell ⟨w2.heap.size, 1, none⟩ (Value.slice A5 l.length cap5)).setCell ⟨w2.heap.size, 2, none⟩ (Value.string m)) (w2.heap.size + 1) A5 cap5 l) := hide (own3 O5.out ROW.out)
        have B6 : Hid (Below w2.heap.size w2 ((((w5).setCell ⟨w2.heap.size, 0, none⟩ (Value.string t)).setCell ⟨w2.heap.size, 1, none⟩ (Value.slice A5 l.length cap5)).setCell ⟨w2.heap.size, 2, none⟩ (Value.string m))) := hide (bel3 B5.out (Nat.le_refl _))
        have hcb : w2.heap.size ≤ w2.heap.size := (Nat.le_refl _)
        have S6 : w2.heap.size < ((((w5).setCell ⟨w2.heap.size, 0, none⟩ (Value.string t)).setCell ⟨w2.heap.size, 1, none⟩ (Value.slice A5 l.length cap5)).setCell ⟨w2.heap.size, 2, none⟩ (Value.string m)).heap.size := (Array.getElem?_eq_some_iff.1 X6.out).1
        generalize ((((w5).setCell ⟨w2.heap.size, 0, none⟩ (Value.string t)).setCell ⟨w2.heap.size, 1, none⟩ (Value.slice A5 l.length cap5)).setCell ⟨w2.heap.size, 2, none⟩ (Value.string m)) = w6 at *
        generalize hcbe : w2.heap.size = cb at *
        clear B5 O5 ROW z1 OC OB OA IC IB IA BC BB BA BA1 YA YB sA sB X5 c50 c51 c52 f50 f51 f52
        have c60 := cell_of_row _ _ 0 _ _ _ X6.out
        have c61 := cell_of_row _ _ 1 _ _ _ X6.out
        have c62 := cell_of_row _ _ 2 _ _ _ X6.out
        go_wp2_with fail
        refine (specCommitText_any t m A5 l cap5 w6 (hszp.out t (by simp)) (by unfold maxLen; omega) (by rw [HL0.out]; unfold maxLen; omega) ⟨fun i hi => hszp.out _ (List.mem_cons_of_mem _ (List.mem_cons_of_mem _ (List.getElem_mem hi))), O6.out.zin⟩).mono ?_
        rintro e w7 ⟨rfl, b7⟩
        have X7 := hide ((b7.block cb (by have := S6; omega)).trans X6.out)
        have G7 := hide ((b7.block w.heap.size (by have := S6; omega)).trans ((B6.out.block w.heap.size (by omega)).trans X2.out))
        have B7 := hide (B6.out.trans (b7.mono (by have := S6; have := B6.out.size; omega)))
        have O7 := hide (O6.out.below b7)
        clear b7 X6 B6 O6 c60 c61 c62 g0 g1 g2 k0 k1 k2 X2
        have c70 := cell_of_row _ _ 0 _ _ _ X7.out
        have c71 := cell_of_row _ _ 1 _ _ _ X7.out
        have c72 := cell_of_row _ _ 2 _ _ _ X7.out
        have g0 := cell_of_row _ _ 0 _ _ _ G7.out
        have g1 := cell_of_row _ _ 1 _ _ _ G7.out
        have g2 := cell_of_row _ _ 2 _ _ _ G7.out
        have k0 := frozen_of_row _ _ 0 _ _ G7.out
        have k1 := frozen_of_row _ _ 1 _ _ G7.out
        have k2 := frozen_of_row _ _ 2 _ _ G7.out
        by_cases hT : comTextS t l m = s
        · obtain ⟨e1, e2⟩ := rd_yes (com_text HC.out hT)
          have E := eqS_yes hT
          have RR := hide (show RetCom s w (.returned (.tuple #[.agg #[.string t, .slice A5 l.length cap5, .string m], .bool true])) (((w7.setCell ⟨w.heap.size, 0, none⟩ (.string t)).setCell ⟨w.heap.size, 1, none⟩ (.slice A5 l.length cap5)).setCell ⟨w.heap.size, 2, none⟩ (.string m)) from
            ⟨A5, cap5, by rw [e2, e1], by rw [e2]; exact (own3 O7.out (fun h => by have := (O7.out.row _ h).1; omega)).more (by omega), bel3 (B2.out.trans (B7.out.mono (by omega))) (Nat.le_refl _)⟩)
          clear hT e1 e2
          generalize comTextS t l m = cs at *
          generalize l.length = nl at *
          go_wp2
          exact bodyPost_ret (v := .tuple #[.agg #[.string t, .slice A5 nl cap5, .string m], .bool true]) (by simp [results, Tryd.results4, go_sem, g0, g1, g2]) rfl RR.out
        · have E := eqS_no hT
          have N := hide (NO.out (com_text_no HM.out (by rw [hx]; exact HP.out) hT) _ rfl w7 (B7.out.mono (by omega)))
          clear hT
          generalize comTextS t l m = cs at *
          generalize l.length = nl at *
          go_wp2
          exact bodyPost_ret (v := .tuple #[.agg #[.string ByteArray.empty, .slice none 0 0, .string ByteArray.empty], .bool false]) (by simp [results, Tryd.results4, go_sem, g0, g1, g2]; rfl) rfl N.out
end Go.Proofs.YtnchghfddhjonaaDoor
