/-
  What is drawn: texts, objects (loosely: that they are such).
-/
import Derived.Test.YtlipefnaeblhfaaDoorRdHurt
import Derived.Test.YtlipefnaeblhfaaDoorQAddS
import Derived.Deep.RegionWith
namespace Go.Proofs.YtlipefnaeblhfaaDoor
open Go.RowKit

theorem Own.rd {w w' : World} {rb B : Nat} {A : Option Addr} {cap : Nat} {l : List Pr} (h : Own w B A cap l) (hB : rb < B) (hg : w.grownBy w' (some rb)) : Own w' B A cap l := by
  refine ⟨h.1, h.2.kept hg ?_⟩
  rw [rowOf_own]
  cases e : rowOf A with
  | none => exact .inl rfl
  | some g => exact .inr (fun x => by injection x with x; have := (h.row g e).1; omega)
theorem grown_on {w w2 w3 : World} {rb : Nat} (h : w.grownBy w2 (some rb)) (hb : Below w.heap.size w2 w3) : w.grownBy w3 (some rb) :=
  ⟨hb.os.trans h.os, hb.tape.trans h.tape, hb.output.trans h.output, Nat.le_trans h.size hb.size, fun i hi hn => (hb.block i hi).trans (h.block i hi hn)⟩

set_option maxRecDepth 100000 in
set_option maxHeartbeats 1000000 in
theorem text_any (rb : Nat) (w : World) (h : Rd w rb) :
    Calls Tryd.prog 50 #[.pointer (some ⟨rb, 0, none⟩)] w (RdT rb 12 w) := by
  have r1b := fun o => h.below ((Below.refl _ w).alloc (Nat.le_refl _) o)
  have hlt := h.lt
  have RB := hide r1b
  clear r1b h
  go_enter Tryd.func50, Tryd.ntmps50
  go_wp2_with fail
  refine (below_any rb 5 _ (RB.out _) (by omega) (by omega)).mono ?_
  rintro e w2 ⟨y, hy0, hy1, rfl, r2, g2⟩
  have R2 := hide r2
  have hb2 := (g2.block w.heap.size (by simp) (by simp; omega)).trans (heap_alloc_new w _)
  have G2 := hide (World.grownBy.trans (World.grownBy_alloc w _ _) g2)
  obtain ⟨k, rfl⟩ := Int.eq_ofNat_of_zero_le hy0
  have hk : k < 5 := by omega
  obtain ⟨s, hs, hc⟩ : ∃ s : ByteArray, s.size ≤ 12 ∧ w2.cell? ⟨w.heap.size, k, none⟩ = some (.string s) := by
    rw [cell_of_row w2 w.heap.size k _ _ _ hb2]
    match k, hk with
    | 0, _ => exact ⟨_, by decide, rfl⟩
    | 1, _ => exact ⟨_, by decide, rfl⟩
    | 2, _ => exact ⟨_, by decide, rfl⟩
    | 3, _ => exact ⟨_, by decide, rfl⟩
    | 4, _ => exact ⟨_, by decide, rfl⟩
  clear r2 g2 hb2 RB
  go_wp2
  go_ret
  exact ⟨s, hs, rfl, R2.out, G2.out⟩

/-- drawn objects -/
def RdO (rb : Nat) (w : World) (e : Ending) (w' : World) : Prop := ∃ A cap l, l.length ≤ cap ∧ l.length ≤ 60 ∧ e = .returned (.slice A l.length cap) ∧ Own w' w.heap.size A cap l ∧ Rd w' rb ∧ w.grownBy w' (some rb)
/-- a row whose first text is another one -/
theorem own_text {w : World} {B g cap : Nat} {l : List Pr} (h : Own w B (some ⟨g, 0, none⟩) cap l) (h0 : 0 < l.length) {t : ByteArray} (ht : t.size ≤ maxLen) :
    Own (w.setCell ⟨g, 1, none⟩ (.string t)) B (some ⟨g, 0, none⟩) cap (l.set 0 ((l[0]'h0).1, t)) := by
  have e2 : (pcells l).set 1 (.string t) = pcells (l.set 0 ((l[0]'h0).1, t)) := by
    rw [← pcells_set l 0 (l[0]'h0).1 t]
    have := (pcells_get l 0 h0).1
    apply List.ext_getElem?
    intro j
    by_cases hj : j = 1
    · subst hj
      rw [List.getElem?_set_self (by rw [pcells_length]; omega), List.getElem?_set_self (by rw [List.length_set, pcells_length]; omega)]
    · rw [List.getElem?_set_ne (by omega), List.getElem?_set_ne (i := 0 * 2 + 1) (by omega)]
      by_cases hj0 : j = 0
      · subst hj0
        rw [List.getElem?_set_self (by rw [pcells_length]; omega)]
        exact this
      · rw [List.getElem?_set_ne (by omega)]
  have S := (h.2.stored 1 (.string t)).1
  rw [e2] at S
  refine ⟨?_, by rw [List.length_set]; exact S⟩
  intro i hi
  rw [List.length_set] at hi
  rw [List.getElem_set]
  split
  · exact ⟨(h.1 0 h0).1, ht⟩
  · exact h.1 i hi

set_option maxRecDepth 100000 in
set_option maxHeartbeats 1000000 in
theorem objsR_any (rb : Nat) (most : Int) (w : World) (h : Rd w rb) (h0 : 0 ≤ most) (h1 : most ≤ 100) :
    Calls Tryd.prog 38 #[.pointer (some ⟨rb, 0, none⟩), .int .i64 most] w (RdO rb w) := by
  have hlt := h.lt
  have O0 := hide (Own.built w w.heap.size (Nat.le_refl _))
  have r0 := h.below ((Below.refl _ w).alloc (Nat.le_refl _) (.cells #[] 41))
  clear h
  go_enter Tryd.func38, Tryd.ntmps38
  go_wp2_with fail
  refine (below_any rb (most + 1) _ r0 (by omega) (by omega)).mono ?_
  rintro e w1 ⟨x, hx0, hx1, rfl, r1, g1⟩
  obtain ⟨k0, rfl⟩ := Int.eq_ofNat_of_zero_le hx0
  have O1 := hide (O0.out.rd hlt g1)
  have R1 := hide r1
  have G1 := hide (World.grownBy.trans (World.grownBy_alloc w _ _) g1)
  clear r0 r1 g1 O0
  go_wp2
  go_loopw [5, 6] (fun m i wr => ∃ (k : Nat) (A : Option Addr) (cap : Nat) (l : List Pr), k ≤ k0 ∧ i = .int .i64 k ∧ m = .slice A l.length cap ∧ l.length ≤ 60 ∧ Hid (Own wr w.heap.size A cap l) ∧ Hid (Rd wr rb) ∧ Hid (w.grownBy wr (some rb))) (fun _ i _ => (intOf i).toNat)
  case atStart => exact ⟨k0, _, 0, [], Nat.le_refl _, rfl, rfl, by simp, O1, R1, G1⟩
  case round =>
    clear O1 R1 G1
    obtain ⟨k, A, cap, l, hk, rfl, rfl, hl, O, R, G⟩ := hrel
    have hrl := R.out.lt
    by_cases hk0 : 0 < k
    · go_wp2_with fail
      refine (below_any rb 6 _ (R.out.below ((Below.refl _ wr).alloc (Nat.le_refl _) _)) (by omega) (by omega)).mono ?_
      rintro e w2 ⟨y, hy0, hy1, rfl, r2, g2⟩
      have hb2 := (g2.block wr.heap.size (by simp) (by simp; omega)).trans (heap_alloc_new wr _)
      have O2 := hide ((O.out.alloc _).rd hlt g2)
      have R2 := hide r2
      have G2 := hide (World.grownBy.trans (World.grownBy.trans G.out (World.grownBy_alloc wr _ _)) g2)
      obtain ⟨j, rfl⟩ := Int.eq_ofNat_of_zero_le hy0
      have hj : j < 6 := by omega
      obtain ⟨s, hs, hc⟩ : ∃ s : ByteArray, s.size ≤ 12 ∧ w2.cell? ⟨wr.heap.size, j, none⟩ = some (.string s) := by
        rw [cell_of_row w2 wr.heap.size j _ _ _ hb2]
        match j, hj with
        | 0, _ => exact ⟨_, by decide, rfl⟩
        | 1, _ => exact ⟨_, by decide, rfl⟩
        | 2, _ => exact ⟨_, by decide, rfl⟩
        | 3, _ => exact ⟨_, by decide, rfl⟩
        | 4, _ => exact ⟨_, by decide, rfl⟩
        | 5, _ => exact ⟨_, by decide, rfl⟩
      clear g2 hb2 r2 O R G
      go_wp2_with fail
      refine (specAdd_any A l cap s w2 (by unfold maxLen; omega) O2.out.cap_le O2.out.pin (by unfold maxLen; omega)).mono ?_
      rintro e w4 ⟨A4, cap4, hc4, rfl, own4, b4⟩
      have O4 := hide (own4.more (B' := w.heap.size) G2.out.size)
      have O4' := hide (O2.out.below b4)
      have R4 := hide (R2.out.below b4)
      have G4 := hide (World.grownBy.trans G2.out (grown_of_below b4))
      have hpl := addL_objs l s
      clear own4 b4 O2 R2 G2 hc
      cases hb : addB l s
      · go_wp2
        go_roundw
        case rel => exact ⟨k - 1, A, cap, l, by omega, by go_num, rfl, hl, O4', R4, G4⟩
        case measure => simp [intOf]; omega
      · go_wp2
        go_roundw
        case rel => exact ⟨k - 1, A4, cap4, addL l s, by omega, by go_num, rfl, hpl, O4, R4, G4⟩
        case measure => simp [intOf]; omega
    · go_wp2_with fail
      refine (once_any rb 20 wr R.out (by omega) (by omega)).mono ?_
      rintro e w2 ⟨x, rfl, r2, g2⟩
      have O2 := hide (O.out.rd hlt g2)
      have R2 := hide r2
      have G2 := hide (World.grownBy.trans G.out g2)
      clear g2 r2 O R G
      cases x
      · go_wp2
        go_ret
        exact ⟨A, cap, l, O2.out.cap_le, hl, rfl, O2.out, R2.out, G2.out⟩
      · by_cases h0 : 0 < l.length
        · obtain ⟨g, rfl, hg1, hg2⟩ : ∃ g, A = some ⟨g, 0, none⟩ ∧ w.heap.size ≤ g ∧ g < w2.heap.size := by
            rcases O2.out.form with ⟨_, _, e⟩ | h
            · rw [e] at h0; simp at h0
            · exact h
          go_wp2_with fail
          refine (text_any rb w2 R2.out).mono ?_
          rintro e w4 ⟨t, ht, rfl, r4, g4⟩
          have own4 := O2.out.rd hlt g4
          have c1 : ∃ x, w4.cell? ⟨g, 1, none⟩ = some x := by rw [own4.2.cellAt 1 (by omega)]; exact ⟨_, List.getElem?_eq_getElem (by rw [pcells_length]; omega)⟩
          obtain ⟨x1, c1⟩ := c1
          have f1 := own4.2.frozenAt 1
          have S4 := hide (own_text own4 h0 (t := t) (by unfold maxLen; omega))
          have G4 := hide (World.grownBy.trans G2.out g4)
          have R4 := hide r4
          have hg4 : g < w4.heap.size := by
            rcases own4.form with ⟨h, _⟩ | ⟨g', h, _, h2⟩
            · cases h
            · injection h with h; injection h with h; omega
          have hcl := O2.out.cap_le
          clear own4 g4 r4 O2 R2 G2
          go_wp2
          go_ret
          refine ⟨_, cap, l.set 0 ((l[0]'h0).1, t), by rw [List.length_set]; exact hcl, by rw [List.length_set]; exact hl, by rw [List.length_set]; rfl, S4.out, ?_, ?_⟩
          · exact R4.out.keep ((Below.refl _ w4).setCell (by show rb + 1 ≤ g; omega) _)
          · exact grown_on G4.out ((Below.refl _ w4).setCell (by show w.heap.size ≤ g; omega) _)
        · go_wp2
          go_ret
          exact ⟨A, cap, l, O2.out.cap_le, hl, rfl, O2.out, R2.out, G2.out⟩

/-- drawn objects, at a draw's end -/
def DrawnO (w : World) (e : Ending) (w' : World) : Prop := ∃ A cap l, l.length ≤ cap ∧ l.length ≤ 61 ∧ e = .returned (.slice A l.length cap) ∧ Own w' w.heap.size A cap l ∧ Below w.heap.size w w'
def DrawnOS (w : World) (e : Ending) (w' : World) : Prop := ∃ A cap l t, l.length ≤ cap ∧ l.length ≤ 60 ∧ t.size ≤ 16 ∧ e = .returned (.tuple #[.slice A l.length cap, .string t]) ∧ Own w' w.heap.size A cap l ∧ Below w.heap.size w w'
def DrawnOO (w : World) (e : Ending) (w' : World) : Prop := ∃ A cap l A' cap' l', l.length ≤ cap ∧ l.length ≤ 60 ∧ l'.length ≤ cap' ∧ l'.length ≤ 60 ∧ e = .returned (.tuple #[.slice A l.length cap, .slice A' l'.length cap']) ∧ Own w' w.heap.size A cap l ∧ Own w' w.heap.size A' cap' l' ∧ Below w.heap.size w w'

set_option maxRecDepth 100000 in
set_option maxHeartbeats 1000000 in
theorem drawObjsOk_any (A : Option Addr) (n cap : Nat) (w : World) (hn : n ≤ 1048576) (hin : CIn w w.heap.size A n) :
    Calls Tryd.prog 36 #[.slice A n cap] w (DrawnO w) := by
  go_enter Tryd.func36, Tryd.ntmps36
  go_wp2_with fail
  refine (l1Open_any A n cap w hn hin).mono ?_
  rintro e w1 ⟨rfl, r1, b1⟩
  have B1 := hide b1
  have hlt1 := r1.lt
  clear b1 hin
  go_wp2_with fail
  refine (objsR_any w.heap.size 5 w1 r1 (by omega) (by omega)).mono ?_
  rintro e w2 ⟨A2, cap2, l, hc2, hl, rfl, own2, r2, g2⟩
  have B2 := hide (B1.out.trans (grown_below g2 B1.out.size))
  have O2 := hide own2
  clear own2 g2 r1 B1
  go_wp2_with fail
  refine (once_any w.heap.size 5 w2 r2 (by omega) (by omega)).mono ?_
  rintro e w3 ⟨x, rfl, r3, g3⟩
  have B3 := hide (B2.out.trans (grown_below g3 B2.out.size))
  have O3 := hide ((O2.out.rd hlt1 g3).more (B' := w.heap.size) (by omega))
  clear g3 r2 r3 B2 O2
  cases x
  · go_wp2
    go_ret
    exact ⟨A2, cap2, l, hc2, by omega, rfl, O3.out, B3.out⟩
  · by_cases h0 : 0 < l.length
    · obtain ⟨b, off, rfl, hbB, hc⟩ := O3.out.pin.2 h0
      obtain ⟨c1, c2⟩ := hc 0 h0
      obtain ⟨s1, s2⟩ := O3.out.1 0 h0
      simp only [Nat.zero_mul, Nat.add_zero] at c1 c2
      generalize (l[0]'h0).1 = s at *
      generalize (l[0]'h0).2 = v at *
      clear hc
      go_wp2_with (at_builtin; refine wpList_app (l := l) (l' := [(s, v)]) 25 Tryd.underlying25 rfl (.tmp 16) (.tmp 20) rfl rfl rfl rfl rfl (O3.out.alloc _) (PIn.one w3 s v s1 s2 _) (Nat.le_trans B3.out.size (by simp)) (by simp; omega) ?_; intro A4 cap4 w4 own4 g4 r4; have B4 := hide (B3.out.trans (((Below.refl _ w3).alloc B3.out.size (.cells #[.string s, .string v] 41)).trans ((O3.out.alloc (.cells #[.string s, .string v] 41)).grownBelow (by rw [rowOf_own]; exact g4) (Nat.le_trans B3.out.size (by simp))))); have O4 := hide own4; clear own4 g4 r4)
      go_ret
      exact ⟨A4, cap4, l ++ [(s, v)], O4.out.cap_le, by simp; omega, by rw [show (l ++ [(s, v)]).length = l.length + 1 by simp]; rfl, O4.out, B4.out⟩
    · go_wp2
      go_ret
      exact ⟨A2, cap2, l, hc2, by omega, rfl, O3.out, B3.out⟩

theorem four_texts (w : World) (k : Nat) (hk : k < 4) (b : Nat) (hb : w.heap[b]? = some (.cells #[.string ⟨#[97]⟩, .string ⟨#[98]⟩, .string ⟨#[110, 101, 119]⟩, .string ⟨#[]⟩] 9 (0, 0))) : ∃ a : ByteArray, a.size ≤ 16 ∧ w.cell? ⟨b, k, none⟩ = some (.string a) := by
  rw [cell_of_row w b k _ _ _ hb]
  match k, hk with
  | 0, _ => exact ⟨_, by decide, rfl⟩
  | 1, _ => exact ⟨_, by decide, rfl⟩
  | 2, _ => exact ⟨_, by decide, rfl⟩
  | 3, _ => exact ⟨_, by decide, rfl⟩

end Go.Proofs.YtlipefnaeblhfaaDoor
