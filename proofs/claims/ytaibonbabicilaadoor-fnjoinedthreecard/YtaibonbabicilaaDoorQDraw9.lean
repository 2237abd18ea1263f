/-
  What is drawn, told more closely: which texts, and how many objects.
-/
import Derived.Test.YtaibonbabicilaaDoorQDraw
import Derived.Test.YtaibonbabicilaaDoorQThird
namespace Go.Proofs.YtaibonbabicilaaDoor
open Go.RowKit

def RdT9 (rb : Nat) (w : World) (e : Ending) (w' : World) : Prop := ∃ s : ByteArray, s ∈ texts9 ∧ e = .returned (.string s) ∧ Rd w' rb ∧ w.grownBy w' (some rb)
/-- all texts are of those that are drawn -/
def Tx9 (l : List Pr) : Prop := ∀ p ∈ l, p.2 ∈ texts9
theorem tx9_nil : Tx9 [] := fun _ h => by cases h
theorem tx9_size {t : ByteArray} (h : t ∈ texts9) : t.size ≤ 12 := by
  have : ∀ t ∈ texts9, t.size ≤ 12 := by decide
  exact this t h
theorem tx9_add {l : List Pr} (h : Tx9 l) {t : ByteArray} (ht : t ∈ texts9) : Tx9 (addL l t) := by
  intro p hp
  cases e : addB l t
  · rw [addL_no e] at hp; cases hp
  · rw [addL_yes e] at hp
    rcases (mem_set (objs_all.1 (addB_iff.1 e).1).2.2 _ _ p).1 hp with g | ⟨g, _⟩
    · subst g; exact ht
    · exact h p g
theorem tx9_set {l : List Pr} (h : Tx9 l) {a t : ByteArray} (ht : t ∈ texts9) : Tx9 (l.set 0 (a, t)) := by
  intro p hp
  rcases List.mem_or_eq_of_mem_set hp with g | g
  · exact h p g
  · subst g; exact ht
theorem addL_more (l : List Pr) (t : ByteArray) : (addL l t).length ≤ l.length + 1 := by
  cases e : addB l t
  · rw [addL_no e]; simp
  · rw [addL_yes e]; exact (len_set_le _ _ _).2

set_option maxRecDepth 100000 in
set_option maxHeartbeats 1000000 in
theorem text9_any (rb : Nat) (w : World) (h : Rd w rb) :
    Calls Tryd.prog 50 #[.pointer (some ⟨rb, 0, none⟩)] w (RdT9 rb w) := by
  have r1b := fun o => h.below ((Below.refl _ w).alloc (Nat.le_refl _) o)
  have hlt := h.lt
  have RB := hide r1b
  clear r1b h
  go_enter Tryd.func50, Tryd.ntmps50
  go_wp2_with fail
  refine (below_any rb 5 _ (RB.out _) (by omega) (by omega)).mono ?_
  rintro e w2 ⟨y, hy0, hy1, rfl, r2, g2⟩
  have R2 := hide r2
  have hb2 := (g2.block w.heap.size (by simp) (by simp; omega)).trans (heap_alloc_new w _)
  have G2 := hide (World.grownBy.trans (World.grownBy_alloc w _ _) g2)
  obtain ⟨k, rfl⟩ := Int.eq_ofNat_of_zero_le hy0
  have hk : k < 5 := by omega
  obtain ⟨s, hs, hc⟩ : ∃ s : ByteArray, s ∈ texts9 ∧ w2.cell? ⟨w.heap.size, k, none⟩ = some (.string s) := by
    rw [cell_of_row w2 w.heap.size k _ _ _ hb2]
    match k, hk with
    | 0, _ => exact ⟨_, by simp [texts9], rfl⟩
    | 1, _ => exact ⟨_, by simp [texts9], rfl⟩
    | 2, _ => exact ⟨_, by simp [texts9], rfl⟩
    | 3, _ => exact ⟨_, by simp [texts9], rfl⟩
    | 4, _ => exact ⟨_, by simp [texts9], rfl⟩
  clear r2 g2 hb2 RB
  go_wp2
  go_ret
  exact ⟨s, hs, rfl, R2.out, G2.out⟩

/-- drawn objects, told more closely -/
def RdO9 (rb : Nat) (most : Int) (w : World) (e : Ending) (w' : World) : Prop := ∃ A cap l, l.length ≤ cap ∧ (l.length : Int) ≤ most ∧ Tx9 l ∧ e = .returned (.slice A l.length cap) ∧ Own w' w.heap.size A cap l ∧ Rd w' rb ∧ w.grownBy w' (some rb)

set_option maxRecDepth 100000 in
set_option maxHeartbeats 1000000 in
theorem objsR9_any (rb : Nat) (most : Int) (w : World) (h : Rd w rb) (h0 : 0 ≤ most) (h1 : most ≤ 100) :
    Calls Tryd.prog 46 #[.pointer (some ⟨rb, 0, none⟩), .int .i64 most] w (RdO9 rb most w) := by
  have hlt := h.lt
  have O0 := hide (Own.built w w.heap.size (Nat.le_refl _))
  have r0 := h.below ((Below.refl _ w).alloc (Nat.le_refl _) (.cells #[] 43))
  clear h
  go_enter Tryd.func46, Tryd.ntmps46
  go_wp2_with fail
  refine (below_any rb (most + 1) _ r0 (by omega) (by omega)).mono ?_
  rintro e w1 ⟨x, hx0, hx1, rfl, r1, g1⟩
  obtain ⟨k0, rfl⟩ := Int.eq_ofNat_of_zero_le hx0
  have O1 := hide (O0.out.rd hlt g1)
  have R1 := hide r1
  have G1 := hide (World.grownBy.trans (World.grownBy_alloc w _ _) g1)
  clear r0 r1 g1 O0
  go_wp2
  go_loopw [5, 6] (fun m i wr => ∃ (k : Nat) (A : Option Addr) (cap : Nat) (l : List Pr), k ≤ k0 ∧ i = .int .i64 k ∧ m = .slice A l.length cap ∧ l.length + k ≤ k0 ∧ Hid (Tx9 l) ∧ Hid (Own wr w.heap.size A cap l) ∧ Hid (Rd wr rb) ∧ Hid (w.grownBy wr (some rb))) (fun _ i _ => (intOf i).toNat)
  case atStart => exact ⟨k0, _, 0, [], Nat.le_refl _, rfl, rfl, by simp, tx9_nil, O1, R1, G1⟩
  case round =>
    clear O1 R1 G1
    obtain ⟨k, A, cap, l, hk, rfl, rfl, hl, X, O, R, G⟩ := hrel
    have hrl := R.out.lt
    by_cases hk0 : 0 < k
    · go_wp2_with fail
      refine (below_any rb 6 _ (R.out.below ((Below.refl _ wr).alloc (Nat.le_refl _) _)) (by omega) (by omega)).mono ?_
      rintro e w2 ⟨y, hy0, hy1, rfl, r2, g2⟩
      have hb2 := (g2.block wr.heap.size (by simp) (by simp; omega)).trans (heap_alloc_new wr _)
      have O2 := hide ((O.out.alloc _).rd hlt g2)
      have R2 := hide r2
      have G2 := hide (World.grownBy.trans (World.grownBy.trans G.out (World.grownBy_alloc wr _ _)) g2)
      obtain ⟨j, rfl⟩ := Int.eq_ofNat_of_zero_le hy0
      have hj : j < 6 := by omega
      obtain ⟨s, hs, hc⟩ : ∃ s : ByteArray, s ∈ texts9 ∧ w2.cell? ⟨wr.heap.size, j, none⟩ = some (.string s) := by
        rw [cell_of_row w2 wr.heap.size j _ _ _ hb2]
        match j, hj with
        | 0, _ => exact ⟨_, by simp [texts9], rfl⟩
        | 1, _ => exact ⟨_, by simp [texts9], rfl⟩
        | 2, _ => exact ⟨_, by simp [texts9], rfl⟩
        | 3, _ => exact ⟨_, by simp [texts9], rfl⟩
        | 4, _ => exact ⟨_, by simp [texts9], rfl⟩
        | 5, _ => exact ⟨_, by simp [texts9], rfl⟩
      clear g2 hb2 r2 O R G
      go_wp2_with fail
      refine (specAdd_any A l cap s w2 (by unfold maxLen; omega) O2.out.cap_le O2.out.pin (by have := tx9_size hs; unfold maxLen; omega)).mono ?_
      rintro e w4 ⟨A4, cap4, hc4, rfl, own4, b4⟩
      have O4 := hide (own4.more (B' := w.heap.size) G2.out.size)
      have O4' := hide (O2.out.below b4)
      have R4 := hide (R2.out.below b4)
      have G4 := hide (World.grownBy.trans G2.out (grown_of_below b4))
      have hpl := addL_more l s
      have X4 := hide (tx9_add X.out hs)
      clear own4 b4 O2 R2 G2 hc
      cases hb : addB l s
      · go_wp2
        go_roundw
        case rel => exact ⟨k - 1, A, cap, l, by omega, by go_num, rfl, by omega, X, O4', R4, G4⟩
        case measure => simp [intOf]; omega
      · go_wp2
        go_roundw
        case rel => exact ⟨k - 1, A4, cap4, addL l s, by omega, by go_num, rfl, by omega, X4, O4, R4, G4⟩
        case measure => simp [intOf]; omega
    · go_wp2_with fail
      refine (once_any rb 20 wr R.out (by omega) (by omega)).mono ?_
      rintro e w2 ⟨x, rfl, r2, g2⟩
      have O2 := hide (O.out.rd hlt g2)
      have R2 := hide r2
      have G2 := hide (World.grownBy.trans G.out g2)
      clear g2 r2 O R G
      cases x
      · go_wp2
        go_ret
        exact ⟨A, cap, l, O2.out.cap_le, by omega, X.out, rfl, O2.out, R2.out, G2.out⟩
      · by_cases h0 : 0 < l.length
        · obtain ⟨g, rfl, hg1, hg2⟩ : ∃ g, A = some ⟨g, 0, none⟩ ∧ w.heap.size ≤ g ∧ g < w2.heap.size := by
            rcases O2.out.form with ⟨_, _, e⟩ | h
            · rw [e] at h0; simp at h0
            · exact h
          go_wp2_with fail
          refine (text9_any rb w2 R2.out).mono ?_
          rintro e w4 ⟨t, ht, rfl, r4, g4⟩
          have own4 := O2.out.rd hlt g4
          have c1 : ∃ x, w4.cell? ⟨g, 1, none⟩ = some x := by rw [own4.2.cellAt 1 (by omega)]; exact ⟨_, List.getElem?_eq_getElem (by rw [pcells_length]; omega)⟩
          obtain ⟨x1, c1⟩ := c1
          have f1 := own4.2.frozenAt 1
          have S4 := hide (own_text own4 h0 (t := t) (by have := tx9_size ht; unfold maxLen; omega))
          have G4 := hide (World.grownBy.trans G2.out g4)
          have R4 := hide r4
          have hg4 : g < w4.heap.size := by
            rcases own4.form with ⟨h, _⟩ | ⟨g', h, _, h2⟩
            · cases h
            · injection h with h; injection h with h; omega
          have hcl := O2.out.cap_le
          clear own4 g4 r4 O2 R2 G2
          go_wp2
          go_ret
          refine ⟨_, cap, l.set 0 ((l[0]'h0).1, t), by rw [List.length_set]; exact hcl, by rw [List.length_set]; omega, tx9_set X.out ht, by rw [List.length_set]; rfl, S4.out, ?_, ?_⟩
          · exact R4.out.keep ((Below.refl _ w4).setCell (by show rb + 1 ≤ g; omega) _)
          · exact grown_on G4.out ((Below.refl _ w4).setCell (by show w.heap.size ≤ g; omega) _)
        · go_wp2
          go_ret
          exact ⟨A, cap, l, O2.out.cap_le, by omega, X.out, rfl, O2.out, R2.out, G2.out⟩

def DrawnOO9 (w : World) (e : Ending) (w' : World) : Prop := ∃ A cap l A' cap' l', l.length ≤ cap ∧ l.length ≤ 5 ∧ Tx9 l ∧ l'.length ≤ cap' ∧ l'.length ≤ 5 ∧ Tx9 l' ∧ e = .returned (.tuple #[.slice A l.length cap, .slice A' l'.length cap']) ∧ Own w' w.heap.size A cap l ∧ Own w' w.heap.size A' cap' l' ∧ Below w.heap.size w w'

set_option maxRecDepth 100000 in
set_option maxHeartbeats 1000000 in
theorem drawJoined9_any (A : Option Addr) (n cap : Nat) (w : World) (hn : n ≤ 1048576) (hin : CIn w w.heap.size A n) :
    Calls Tryd.prog 30 #[.slice A n cap] w (DrawnOO9 w) := by
  go_enter Tryd.func30, Tryd.ntmps30
  go_wp2_with fail
  refine (l1Open_any A n cap w hn hin).mono ?_
  rintro e w1 ⟨rfl, r1, b1⟩
  have B1 := hide b1
  have hlt1 := r1.lt
  clear b1 hin
  go_wp2_with fail
  refine (objsR9_any w.heap.size 5 w1 r1 (by omega) (by omega)).mono ?_
  rintro e w2 ⟨A2, cap2, l, hc2, hl, x2, rfl, own2, r2, g2⟩
  have X2 := hide x2
  have B2 := hide (B1.out.trans (grown_below g2 B1.out.size))
  have O2 := hide own2
  clear own2 g2 r1 B1 x2
  go_wp2_with fail
  refine (objsR9_any w.heap.size 5 w2 r2 (by omega) (by omega)).mono ?_
  rintro e w3 ⟨A3, cap3, l', hc3, hl', x3, rfl, own3, r3, g3⟩
  have X3 := hide x3
  have B3 := hide (B2.out.trans (grown_below g3 B2.out.size))
  have O3 := hide ((O2.out.rd hlt1 g3).more (B' := w.heap.size) (by omega))
  have O3' := hide (own3.more (B' := w.heap.size) B2.out.size)
  clear g3 r2 r3 B2 O2 own3 x3
  go_wp2
  go_ret2
  exact ⟨A2, cap2, l, A3, cap3, l', hc2, by omega, X2.out, hc3, by omega, X3.out, rfl, O3.out, O3'.out, B3.out⟩

end Go.Proofs.YtaibonbabicilaaDoor
