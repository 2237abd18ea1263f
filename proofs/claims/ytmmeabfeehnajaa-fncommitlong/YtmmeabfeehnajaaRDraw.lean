/-
  What is drawn for the laws over refs (loosely: that it is such).
-/
import Derived.Test.YtmmeabfeehnajaaRdHurt
import Derived.Test.YtmmeabfeehnajaaRLawM
import Derived.Test.YtmmeabfeehnajaaQIdS
import Derived.Deep.RegionWith
namespace Go.Proofs.Ytmmeabfeehnajaa
open Go.RowKit

theorem Own.rd {w w' : World} {rb B : Nat} {A : Option Addr} {cap : Nat} {l : List Pr} (h : Own w B A cap l) (hB : rb < B) (hg : w.grownBy w' (some rb)) : Own w' B A cap l := by
  refine ⟨h.1, h.2.kept hg ?_⟩
  rw [rowOf_own]
  cases e : rowOf A with
  | none => exact .inl rfl
  | some g => exact .inr (fun x => by injection x with x; have := (h.row g e).1; omega)
theorem results_tmp4 {fn : Func} {t u v x : Tmp} (h : fn.results = #[.tmp t, .tmp u, .tmp v, .tmp x]) (tmps : Array Value) (P : Program) (w : World) :
    (results fn tmps).run P w = .ok (.tuple #[tmps.getD t undef, tmps.getD u undef, tmps.getD v undef, tmps.getD x undef]) w := by
  simp [results, h]
theorem grown_on {w w2 w3 : World} {rb : Nat} (h : w.grownBy w2 (some rb)) (hb : Below w.heap.size w2 w3) : w.grownBy w3 (some rb) :=
  ⟨hb.os.trans h.os, hb.tape.trans h.tape, hb.output.trans h.output, Nat.le_trans h.size hb.size, fun i hi hn => (hb.block i hi).trans (h.block i hi hn)⟩
theorem idT_short (s : ByteArray) : (idT s).size ≤ 16 := by
  by_cases h : s.size ≤ 2000
  · rw [idT_in h, idL_size]; exact Nat.le_refl _
  · rw [idT_out h]; simp
/-- a row whose first text is another one -/
theorem own_text {w : World} {B g cap : Nat} {l : List Pr} (h : Own w B (some ⟨g, 0, none⟩) cap l) (h0 : 0 < l.length) {t : ByteArray} (ht : t.size ≤ maxLen) :
    Own (w.setCell ⟨g, 1, none⟩ (.string t)) B (some ⟨g, 0, none⟩) cap (l.set 0 ((l[0]'h0).1, t)) := by
  have e2 : (pcells l).set 1 (.string t) = pcells (l.set 0 ((l[0]'h0).1, t)) := by
    rw [← pcells_set l 0 (l[0]'h0).1 t]
    have := (pcells_get l 0 h0).1
    apply List.ext_getElem?
    intro j
    by_cases hj : j = 1
    · subst hj
      rw [List.getElem?_set_self (by rw [pcells_length]; omega), List.getElem?_set_self (by rw [List.length_set, pcells_length]; omega)]
    · rw [List.getElem?_set_ne (by omega), List.getElem?_set_ne (i := 0 * 2 + 1) (by omega)]
      by_cases hj0 : j = 0
      · subst hj0
        rw [List.getElem?_set_self (by rw [pcells_length]; omega)]
        exact this
      · rw [List.getElem?_set_ne (by omega)]
  have S := (h.2.stored 1 (.string t)).1
  rw [e2] at S
  refine ⟨?_, by rw [List.length_set]; exact S⟩
  intro i hi
  rw [List.length_set] at hi
  rw [List.getElem_set]
  split
  · exact ⟨(h.1 0 h0).1, ht⟩
  · exact h.1 i hi

set_option maxRecDepth 100000 in
set_option maxHeartbeats 1000000 in
theorem text_any (rb : Nat) (w : World) (h : Rd w rb) :
    Calls Try.prog 54 #[.pointer (some ⟨rb, 0, none⟩)] w (RdT rb 12 w) := by
  have r1b := fun o => h.below ((Below.refl _ w).alloc (Nat.le_refl _) o)
  have hlt := h.lt
  have RB := hide r1b
  clear r1b h
  go_enter Try.func54, Try.ntmps54
  go_wp2_with fail
  refine (below_any rb 5 _ (RB.out _) (by omega) (by omega)).mono ?_
  rintro e w2 ⟨y, hy0, hy1, rfl, r2, g2⟩
  have R2 := hide r2
  have hb2 := (g2.block w.heap.size (by simp) (by simp; omega)).trans (heap_alloc_new w _)
  have G2 := hide (World.grownBy.trans (World.grownBy_alloc w _ _) g2)
  obtain ⟨k, rfl⟩ := Int.eq_ofNat_of_zero_le hy0
  have hk : k < 5 := by omega
  obtain ⟨s, hs, hc⟩ : ∃ s : ByteArray, s.size ≤ 12 ∧ w2.cell? ⟨w.heap.size, k, none⟩ = some (.string s) := by
    rw [cell_of_row w2 w.heap.size k _ _ _ hb2]
    match k, hk with
    | 0, _ => exact ⟨_, by decide, rfl⟩
    | 1, _ => exact ⟨_, by decide, rfl⟩
    | 2, _ => exact ⟨_, by decide, rfl⟩
    | 3, _ => exact ⟨_, by decide, rfl⟩
    | 4, _ => exact ⟨_, by decide, rfl⟩
  clear r2 g2 hb2 RB
  go_wp2
  go_ret
  exact ⟨s, hs, rfl, R2.out, G2.out⟩

set_option maxRecDepth 100000 in
set_option maxHeartbeats 1000000 in
theorem name_any (rb : Nat) (w : World) (h : Rd w rb) :
    Calls Try.prog 31 #[.pointer (some ⟨rb, 0, none⟩)] w (RdS rb 12 w) := by
  go_enter Try.func31, Try.ntmps31
  go_wp2_with fail
  refine (once_any rb 20 w h (by omega) (by omega)).mono ?_
  rintro e w1 ⟨x, rfl, r1, g1⟩
  cases x
  · have G1 := hide g1
    have r1b := r1.below ((Below.refl _ w1).alloc (Nat.le_refl _) (.cells #[.string ⟨#[109, 97, 105, 110]⟩, .string ⟨#[100, 101, 118]⟩, .string ⟨#[111, 108, 100]⟩, .string ⟨#[110, 101, 119]⟩] 9))
    have hh := heap_alloc_new w1 (.cells #[.string ⟨#[109, 97, 105, 110]⟩, .string ⟨#[100, 101, 118]⟩, .string ⟨#[111, 108, 100]⟩, .string ⟨#[110, 101, 119]⟩] 9)
    have HH := hide hh
    have hlt := r1.lt
    clear g1 h hh
    go_wp2_with fail
    refine (below_any rb 4 _ r1b (by omega) (by omega)).mono ?_
    rintro e w2 ⟨y, hy0, hy1, rfl, r2, g2⟩
    have R2 := hide r2
    have hb2 := g2.block w1.heap.size (by simp) (by simp; omega)
    rw [HH.out] at hb2
    have G2 := hide (World.grownBy.trans (World.grownBy.trans G1.out (World.grownBy_alloc w1 _ _)) g2)
    obtain ⟨k, rfl⟩ := Int.eq_ofNat_of_zero_le hy0
    have hk : k < 4 := by omega
    obtain ⟨s, hs, ho, hc⟩ : ∃ s : ByteArray, s.size ≤ 12 ∧ s ≠ otherS ∧ w2.cell? ⟨w1.heap.size, k, none⟩ = some (.string s) := by
      rw [cell_of_row w2 w1.heap.size k _ _ _ hb2]
      match k, hk with
      | 0, _ => exact ⟨_, by decide, by decide, rfl⟩
      | 1, _ => exact ⟨_, by decide, by decide, rfl⟩
      | 2, _ => exact ⟨_, by decide, by decide, rfl⟩
      | 3, _ => exact ⟨_, by decide, by decide, rfl⟩
    have HO := hide ho
    clear r2 g2 hb2 r1b r1 HH ho
    go_wp2
    go_ret
    exact ⟨s, hs, HO.out, rfl, R2.out, G2.out⟩
  · have R1 := hide r1
    have G1 := hide g1
    clear r1 g1 h
    go_wp2
    go_ret
    exact ⟨_, by decide, by decide, rfl, R1.out, G1.out⟩


set_option maxRecDepth 100000 in
set_option maxHeartbeats 1000000 in
theorem one_any (rb : Nat) (w : World) (h : Rd w rb) :
    Calls Try.prog 32 #[.pointer (some ⟨rb, 0, none⟩), .slice none 0 0] w (RdT rb 16 w) := by
  go_enter Try.func32, Try.ntmps32
  go_wp2_with fail
  refine (text_any rb _ h).mono ?_
  rintro e w1 ⟨s, hs, rfl, r1, g1⟩
  have R1 := hide r1
  have G1 := hide g1
  clear r1 g1 h
  go_wp2_with fail
  refine (specId s _ (by unfold maxLen; omega)).mono ?_
  rintro e w2 ⟨rfl, b2⟩
  have R2 := hide (R1.out.below b2)
  have G2 := hide (World.grownBy.trans G1.out (grown_of_below b2))
  have hz := idT_short s
  clear b2
  go_wp2
  go_ret
  exact ⟨idT s, hz, rfl, R2.out, G2.out⟩

/-- drawn refs -/
def RdF (rb most : Nat) (w : World) (e : Ending) (w' : World) : Prop := ∃ A cap l, l.length ≤ cap ∧ l.length ≤ most ∧ e = .returned (.slice A l.length cap) ∧ Own w' w.heap.size A cap l ∧ Rd w' rb ∧ w.grownBy w' (some rb)
set_option maxRecDepth 100000 in
set_option maxHeartbeats 2000000 in
theorem refsD_any (rb : Nat) (w : World) (h : Rd w rb) :
    Calls Try.prog 30 #[.pointer (some ⟨rb, 0, none⟩), .slice none 0 0] w (RdF rb 3 w) := by
  have hlt := h.lt
  have O0 := hide (Own.built w w.heap.size (Nat.le_refl _))
  have r0 := h.below ((Below.refl _ w).alloc (Nat.le_refl _) (.cells #[] 37))
  clear h
  go_enter Try.func30, Try.ntmps30
  go_wp2_with fail
  refine (below_any rb 4 _ r0 (by omega) (by omega)).mono ?_
  rintro e w1 ⟨x, hx0, hx1, rfl, r1, g1⟩
  obtain ⟨k0, rfl⟩ := Int.eq_ofNat_of_zero_le hx0
  have O1 := hide (O0.out.rd hlt g1)
  have R1 := hide r1
  have G1 := hide (World.grownBy.trans (World.grownBy_alloc w _ _) g1)
  have hk3 : k0 ≤ 3 := by omega
  clear r0 r1 g1 O0
  go_wp2
  go_loopw [5, 6] (fun m i wr => ∃ (k : Nat) (A : Option Addr) (cap : Nat) (l : List Pr), i = .int .i64 k ∧ m = .slice A l.length cap ∧ l.length + k ≤ 3 ∧ Hid (Own wr w.heap.size A cap l) ∧ Hid (Rd wr rb) ∧ Hid (w.grownBy wr (some rb))) (fun _ i _ => (intOf i).toNat)
  case atStart => exact ⟨k0, _, 0, [], rfl, rfl, by simpa using hk3, O1, R1, G1⟩
  case round =>
    clear O1 R1 G1
    obtain ⟨k, A, cap, l, rfl, rfl, hl, O, R, G⟩ := hrel
    by_cases hk0 : 0 < k
    · have hrl := R.out.lt
      have CELL : Hid (∀ (j : Nat), j < 3 → ∃ t : ByteArray, t.size ≤ 12 ∧ ∀ (W : World) (b : Nat), W.heap[b]? = some (.cells #[.string ⟨#[109, 97, 105, 110]⟩, .string ⟨#[100, 101, 118]⟩, .string ⟨#[111, 108, 100]⟩] 9 (0, 0)) → W.cell? ⟨b, j, none⟩ = some (.string t)) := hide (fun j hj => by
        match j, hj with
        | 0, _ => exact ⟨_, by decide, fun W b h => (cell_of_row W b 0 _ _ _ h).trans rfl⟩
        | 1, _ => exact ⟨_, by decide, fun W b h => (cell_of_row W b 1 _ _ _ h).trans rfl⟩
        | 2, _ => exact ⟨_, by decide, fun W b h => (cell_of_row W b 2 _ _ _ h).trans rfl⟩)
      have hzr := G.out.size
      have ba : Hid (Below wr.heap.size wr (wr.drew.alloc (.cells #[.string ⟨#[109, 97, 105, 110]⟩, .string ⟨#[100, 101, 118]⟩, .string ⟨#[111, 108, 100]⟩] 9))) := hide (((Below.refl _ wr).drew).alloc (Nat.le_refl _) _)
      have bd : Hid (Below wr.heap.size wr wr.drew) := hide ((Below.refl _ wr).drew)
      have FA := hide (below_any rb 3 (wr.drew.alloc (.cells #[.string ⟨#[109, 97, 105, 110]⟩, .string ⟨#[100, 101, 118]⟩, .string ⟨#[111, 108, 100]⟩] 9)) (R.out.below ba.out) (by omega) (by omega))
      have FB := hide (below_any rb 3 wr.drew (R.out.below bd.out) (by omega) (by omega))
      have HA : Hid ((wr.drew.alloc (.cells #[.string ⟨#[109, 97, 105, 110]⟩, .string ⟨#[100, 101, 118]⟩, .string ⟨#[111, 108, 100]⟩] 9)).heap[wr.heap.size]? = some (.cells #[.string ⟨#[109, 97, 105, 110]⟩, .string ⟨#[100, 101, 118]⟩, .string ⟨#[111, 108, 100]⟩] 9 (0, 0))) := hide (heap_alloc_new wr.drew (.cells #[.string ⟨#[109, 97, 105, 110]⟩, .string ⟨#[100, 101, 118]⟩, .string ⟨#[111, 108, 100]⟩] 9))
      have za : wr.heap.size < (wr.drew.alloc (.cells #[.string ⟨#[109, 97, 105, 110]⟩, .string ⟨#[100, 101, 118]⟩, .string ⟨#[111, 108, 100]⟩] 9)).heap.size := by simp
      have OA := hide (O.out.below ba.out)
      have OB := hide (O.out.below bd.out)
      have GA := hide (World.grownBy.trans G.out (grown_of_below ba.out))
      have GB := hide (World.grownBy.trans G.out (grown_of_below bd.out))
      have hkk : decide ((0 : Int) < (k : Int)) = true := decide_eq_true (by omega)
      have hlmx : l.length ≤ maxLen := by unfold maxLen; omega
      have ST := hide (fun (W : World) (s v : ByteArray) (o : Own W w.heap.size A cap l) (hs : s.size ≤ 12) (hv : v.size ≤ 16) => specSetRef_any A l cap s v W hlmx o.cap_le o.pin (by unfold maxLen; omega) (by unfold maxLen; omega))
      clear O R G
      go_wp2
      go_region_with (first
        | (go_at_call 53; refine FA.out.mono ?_; rintro e w2 ⟨y, hy0, hy1, rfl, r2, g2⟩; obtain ⟨j, rfl⟩ := Int.eq_ofNat_of_zero_le hy0; obtain ⟨s, hs, hall⟩ := CELL.out j (by omega); have CL := hide hall; have hb2 := (g2.block wr.heap.size za (by simp; omega)).trans HA.out; have HB2 := hide hb2; have cA := hall w2 wr.heap.size hb2; have hji : (j : Int) < 3 := (by omega); have O2A := hide (OA.out.rd hlt g2); have G2A := hide (World.grownBy.trans GA.out g2); have z2 := g2.size; have CA := hide (one_any rb w2 r2); clear hall hb2 g2 r2 hy0 hy1)
        | (go_at_call 53; refine FB.out.mono ?_; rintro e w2 ⟨y, hy0, hy1, rfl, r2, g2⟩; obtain ⟨j, rfl⟩ := Int.eq_ofNat_of_zero_le hy0; obtain ⟨s, hs, hall⟩ := CELL.out j (by omega); have CL := hide hall; have cB := hall (w2.alloc (.cells #[.string ⟨#[109, 97, 105, 110]⟩, .string ⟨#[100, 101, 118]⟩, .string ⟨#[111, 108, 100]⟩] 9)) w2.heap.size (heap_alloc_new w2 _); have hji : (j : Int) < 3 := (by omega); have b2a : Hid (Below w2.heap.size w2 (w2.alloc (.cells #[.string ⟨#[109, 97, 105, 110]⟩, .string ⟨#[100, 101, 118]⟩, .string ⟨#[111, 108, 100]⟩] 9))) := hide ((Below.refl _ _).alloc (Nat.le_refl _) _); have O2B := hide (OB.out.rd hlt g2); have O2C := hide ((OB.out.rd hlt g2).below b2a.out); have G2B := hide (World.grownBy.trans GB.out g2); have G2C := hide (World.grownBy.trans (World.grownBy.trans GB.out g2) (grown_of_below b2a.out)); have z2 : wr.heap.size ≤ w2.heap.size := g2.size; have CB1 := hide (one_any rb w2 r2); have CB2 := hide (one_any rb (w2.alloc (.cells #[.string ⟨#[109, 97, 105, 110]⟩, .string ⟨#[100, 101, 118]⟩, .string ⟨#[111, 108, 100]⟩] 9)) (r2.below b2a.out)); clear hall g2 r2 hy0 hy1)
        | (go_at_call 32; refine CA.out.mono ?_; rintro e w3 ⟨v, hv, rfl, r3, g3⟩; have hb3 := (g3.block wr.heap.size (by omega) (by simp; omega)).trans HB2.out; have cA3 := CL.out w3 wr.heap.size hb3; have O3 := hide (O2A.out.rd hlt g3); have R3 := hide r3; have G3 := hide (World.grownBy.trans G2A.out g3); have SA := hide (ST.out w3 s v O3.out hs hv); clear hb3 g3 r3)
        | (go_at_call 32; refine CB2.out.mono ?_; rintro e w3 ⟨v, hv, rfl, r3, g3⟩; have hb3 := (g3.block w2.heap.size (by simp) (by simp; omega)).trans (heap_alloc_new w2 _); have cB3 := CL.out w3 w2.heap.size hb3; have O3 := hide (O2C.out.rd hlt g3); have R3 := hide r3; have G3 := hide (World.grownBy.trans G2C.out g3); have SA := hide (ST.out w3 s v O3.out hs hv); clear hb3 g3 r3)
        | (go_at_call 32; refine CB1.out.mono ?_; rintro e w3 ⟨v, hv, rfl, r3, g3⟩; have b3a : Hid (Below w3.heap.size w3 (w3.alloc (.cells #[.string ⟨#[109, 97, 105, 110]⟩, .string ⟨#[100, 101, 118]⟩, .string ⟨#[111, 108, 100]⟩] 9))) := hide ((Below.refl _ _).alloc (Nat.le_refl _) _); have cB4 := CL.out (w3.alloc (.cells #[.string ⟨#[109, 97, 105, 110]⟩, .string ⟨#[100, 101, 118]⟩, .string ⟨#[111, 108, 100]⟩] 9)) w3.heap.size (heap_alloc_new w3 _); have O3 := hide ((O2B.out.rd hlt g3).below b3a.out); have R3 := hide (r3.below b3a.out); have G3 := hide (World.grownBy.trans (World.grownBy.trans G2B.out g3) (grown_of_below b3a.out)); have SA := hide (ST.out (w3.alloc (.cells #[.string ⟨#[109, 97, 105, 110]⟩, .string ⟨#[100, 101, 118]⟩, .string ⟨#[111, 108, 100]⟩] 9)) s v O3.out hs hv); clear g3 r3)
        | (go_at_call 12; refine SA.out.mono ?_; rintro e w4 ⟨A4, cap4, hc4, rfl, own4, b4⟩; have O4 := hide (own4.more (B' := w.heap.size) G3.out.size); have O4' := hide (O3.out.below b4); have R4 := hide (R3.out.below b4); have G4 := hide (World.grownBy.trans G3.out (grown_of_below b4)); clear own4 b4 O3 R3 G3 SA))
      all_goals
        have hpl : stB l s v = true → (stL l s v).length ≤ l.length + 1 := fun h => by rw [stL_yes h]; exact (len_set_le l s v).2
        cases hb : stB l s v
        · go_wp2
          exact ⟨⟨k - 1, A, cap, l, by go_num, rfl, by omega, O4', R4, G4⟩, by simp [intOf]; omega⟩
        · have hp2 := hpl hb
          go_wp2
          exact ⟨⟨k - 1, A4, cap4, stL l s v, by go_num, rfl, by omega, O4, R4, G4⟩, by simp [intOf]; omega⟩
    · go_wp2_with fail
      refine (once_any rb 30 wr R.out (by omega) (by omega)).mono ?_
      rintro e w5 ⟨x, rfl, r5, g5⟩
      have O5 := hide (O.out.rd hlt g5)
      have R5 := hide r5
      have G5 := hide (World.grownBy.trans G.out g5)
      have hl3 : l.length ≤ 3 := by omega
      clear g5 r5 O R G
      cases x
      · go_wp2
        go_ret
        exact ⟨A, cap, l, O5.out.cap_le, hl3, rfl, O5.out, R5.out, G5.out⟩
      · by_cases h0 : 0 < l.length
        · have hd0 : decide ((0 : Int) < (l.length : Int)) = true := decide_eq_true (by omega)
          obtain ⟨g, rfl, hg1, hg2⟩ : ∃ g, A = some ⟨g, 0, none⟩ ∧ w.heap.size ≤ g ∧ g < w5.heap.size := by
            rcases O5.out.form with ⟨_, _, e⟩ | h
            · rw [e] at h0; simp at h0
            · exact h
          go_wp2_with fail
          refine (text_any rb w5 R5.out).mono ?_
          rintro e w6 ⟨s, hs, rfl, r6, g6⟩
          have own6 := O5.out.rd hlt g6
          have c1 : ∃ x, w6.cell? ⟨g, 1, none⟩ = some x := by rw [own6.2.cellAt 1 (by omega)]; exact ⟨_, List.getElem?_eq_getElem (by rw [pcells_length]; omega)⟩
          obtain ⟨x1, c1⟩ := c1
          have f1 := own6.2.frozenAt 1
          have S6 := hide (own_text own6 h0 (t := s) (by unfold maxLen; omega))
          have G6 := hide (World.grownBy.trans G5.out g6)
          have R6 := hide r6
          have hcl := O5.out.cap_le
          clear own6 g6 r6 O5 R5 G5
          go_wp2
          go_ret
          refine ⟨_, cap, l.set 0 ((l[0]'h0).1, s), by rw [List.length_set]; exact hcl, by rw [List.length_set]; exact hl3, by rw [List.length_set]; rfl, S6.out, ?_, ?_⟩
          · exact R6.out.keep ((Below.refl _ w6).setCell (by show rb + 1 ≤ g; omega) _)
          · exact grown_on G6.out ((Below.refl _ w6).setCell (by show w.heap.size ≤ g; omega) _)
        · have hd0 : decide ((0 : Int) < (l.length : Int)) = false := decide_eq_false (by omega)
          go_wp2
          go_ret
          exact ⟨A, cap, l, O5.out.cap_le, hl3, rfl, O5.out, R5.out, G5.out⟩

/-- drawn refs, a name and an id; refs and a name; refs; refs, a name and two ids -/
def DrawnS (w : World) (e : Ending) (w' : World) : Prop := ∃ A cap l k v, l.length ≤ cap ∧ l.length ≤ 3 ∧ k.size ≤ 12 ∧ Hid (k ≠ otherS) ∧ v.size ≤ 16 ∧ e = .returned (.tuple #[.slice A l.length cap, .string k, .string v]) ∧ Own w' w.heap.size A cap l ∧ Below w.heap.size w w'
def DrawnN (w : World) (e : Ending) (w' : World) : Prop := ∃ A cap l k, l.length ≤ cap ∧ l.length ≤ 3 ∧ k.size ≤ 12 ∧ Hid (k ≠ otherS) ∧ e = .returned (.tuple #[.slice A l.length cap, .string k]) ∧ Own w' w.heap.size A cap l ∧ Below w.heap.size w w'
def DrawnF (w : World) (e : Ending) (w' : World) : Prop := ∃ A cap l, l.length ≤ cap ∧ l.length ≤ 4 ∧ e = .returned (.slice A l.length cap) ∧ Own w' w.heap.size A cap l ∧ Below w.heap.size w w'
def DrawnW (w : World) (e : Ending) (w' : World) : Prop := ∃ A cap l k o v, l.length ≤ cap ∧ l.length ≤ 3 ∧ k.size ≤ 12 ∧ o.size ≤ maxLen ∧ v.size ≤ 16 ∧ e = .returned (.tuple #[.slice A l.length cap, .string k, .string o, .string v]) ∧ Own w' w.heap.size A cap l ∧ Below w.heap.size w w'

set_option maxRecDepth 100000 in
set_option maxHeartbeats 1000000 in
theorem drawSetRef_any (A : Option Addr) (n cap : Nat) (w : World) (hn : n ≤ 1048576) (hin : CIn w w.heap.size A n) :
    Calls Try.prog 10 #[.slice A n cap] w (DrawnS w) := by
  go_enter Try.func10, Try.ntmps10
  go_wp2_with fail
  refine (l1Open_any A n cap w hn hin).mono ?_
  rintro e w1 ⟨rfl, r1, b1⟩
  have B1 := hide b1
  have hz : w.heap.size < w1.heap.size := r1.lt
  have hw1 := B1.out.size
  clear b1 hin
  go_wp2_with fail
  refine (refsD_any w.heap.size w1 r1).mono ?_
  rintro e w2 ⟨A2, cap2, l, hc2, hl, rfl, own2, r2, g2⟩
  have B2 := hide (B1.out.trans (grown_below g2 B1.out.size))
  have O2 := hide own2
  have R2 := hide r2
  clear own2 g2 r1 r2 B1
  go_wp2_with fail
  refine (name_any w.heap.size w2 R2.out).mono ?_
  rintro e w3 ⟨k, hk, ho, rfl, r3, g3⟩
  have B3 := hide (B2.out.trans (grown_below g3 B2.out.size))
  have O3 := hide (O2.out.rd hz g3)
  have R3 := hide r3
  have HO := hide ho
  clear g3 r3 B2 O2 R2 ho
  go_wp2_with fail
  refine (one_any w.heap.size w3 R3.out).mono ?_
  rintro e w4 ⟨v, hv, rfl, r4, g4⟩
  have B4 := hide (B3.out.trans (grown_below g4 B3.out.size))
  have O4 := hide ((O3.out.rd hz g4).more (B' := w.heap.size) (by omega))
  clear g4 r4 B3 O3 R3
  go_wp2
  go_ret3
  exact ⟨A2, cap2, l, k, v, hc2, hl, hk, HO, hv, rfl, O4.out, B4.out⟩

set_option maxRecDepth 100000 in
set_option maxHeartbeats 1000000 in
theorem drawRefOf_any (A : Option Addr) (n cap : Nat) (w : World) (hn : n ≤ 1048576) (hin : CIn w w.heap.size A n) :
    Calls Try.prog 13 #[.slice A n cap] w (DrawnN w) := by
  go_enter Try.func13, Try.ntmps13
  go_wp2_with fail
  refine (l1Open_any A n cap w hn hin).mono ?_
  rintro e w1 ⟨rfl, r1, b1⟩
  have B1 := hide b1
  have hz : w.heap.size < w1.heap.size := r1.lt
  have hw1 := B1.out.size
  clear b1 hin
  go_wp2_with fail
  refine (refsD_any w.heap.size w1 r1).mono ?_
  rintro e w2 ⟨A2, cap2, l, hc2, hl, rfl, own2, r2, g2⟩
  have B2 := hide (B1.out.trans (grown_below g2 B1.out.size))
  have O2 := hide own2
  have R2 := hide r2
  clear own2 g2 r1 r2 B1
  go_wp2_with fail
  refine (name_any w.heap.size w2 R2.out).mono ?_
  rintro e w3 ⟨k, hk, ho, rfl, r3, g3⟩
  have B3 := hide (B2.out.trans (grown_below g3 B2.out.size))
  have O3 := hide ((O2.out.rd hz g3).more (B' := w.heap.size) (by omega))
  have HO := hide ho
  clear g3 r3 B2 O2 R2 ho
  go_wp2
  go_ret2
  exact ⟨A2, cap2, l, k, hc2, hl, hk, HO, rfl, O3.out, B3.out⟩

theorem drawDropRef_any (A : Option Addr) (n cap : Nat) (w : World) (hn : n ≤ 1048576) (hin : CIn w w.heap.size A n) :
    Calls Try.prog 21 #[.slice A n cap] w (DrawnN w) := by
  go_enter Try.func21, Try.ntmps21
  go_wp2_with fail
  refine (drawRefOf_any A n cap w hn hin).mono ?_
  rintro e w1 ⟨A2, cap2, l, k, hc, hl, hk, ho, rfl, o1, b1⟩
  have O1 := hide o1
  have B1 := hide b1
  have HO := ho
  clear o1 b1 ho
  go_wp2
  go_ret2
  exact ⟨A2, cap2, l, k, hc, hl, hk, HO, rfl, O1.out, B1.out⟩

set_option maxRecDepth 100000 in
set_option maxHeartbeats 1000000 in
theorem drawRefsOk_any (A : Option Addr) (n cap : Nat) (w : World) (hn : n ≤ 1048576) (hin : CIn w w.heap.size A n) :
    Calls Try.prog 16 #[.slice A n cap] w (DrawnF w) := by
  go_enter Try.func16, Try.ntmps16
  go_wp2_with fail
  refine (l1Open_any A n cap w hn hin).mono ?_
  rintro e w1 ⟨rfl, r1, b1⟩
  have B1 := hide b1
  have hz : w.heap.size < w1.heap.size := r1.lt
  have hw1 := B1.out.size
  clear b1 hin
  go_wp2_with fail
  refine (refsD_any w.heap.size w1 r1).mono ?_
  rintro e w2 ⟨A2, cap2, l, hc2, hl, rfl, own2, r2, g2⟩
  have B2 := hide (B1.out.trans (grown_below g2 B1.out.size))
  have O2 := hide own2
  have R2 := hide r2
  clear own2 g2 r1 r2 B1
  go_wp2_with fail
  refine (once_any w.heap.size 5 w2 R2.out (by omega) (by omega)).mono ?_
  rintro e w3 ⟨x, rfl, r3, g3⟩
  have B3 := hide (B2.out.trans (grown_below g3 B2.out.size))
  have O3 := hide (O2.out.rd hz g3)
  clear g3 r3 B2 O2 R2
  cases x
  · go_wp2
    go_ret
    exact ⟨A2, cap2, l, hc2, by omega, rfl, O3.out.more (by omega), B3.out⟩
  · by_cases h0 : 0 < l.length
    · have hd0 : decide ((0 : Int) < (l.length : Int)) = true := decide_eq_true (by omega)
      obtain ⟨b, off, rfl, hbB, hc⟩ := O3.out.pin.2 h0
      obtain ⟨c1, c2⟩ := hc 0 h0
      obtain ⟨s1, s2⟩ := O3.out.1 0 h0
      simp only [Nat.zero_mul, Nat.add_zero] at c1 c2
      have L0 : Hid ((l ++ [((l[0]'h0).1, (l[0]'h0).2)]).length ≤ 4) := hide (by simp; omega)
      have hz3 : w1.heap.size ≤ w3.heap.size := by
        rcases O3.out.form with ⟨_, _, e⟩ | ⟨g, _, h1, h2⟩
        · rw [e] at h0; simp at h0
        · omega
      clear hc
      generalize (l[0]'h0).1 = s at *
      generalize (l[0]'h0).2 = v at *
      go_wp2_with (at_builtin; refine wpList_app (l := l) (l' := [(s, v)]) 24 Try.underlying24 rfl (.tmp 16) (.tmp 20) rfl rfl rfl rfl rfl (O3.out.alloc _) (PIn.one w3 s v s1 s2 _) (Nat.le_trans hz3 (by simp)) (by simp; omega) ?_; intro A6 cap6 w6 own6 g6 r6; have B6 := hide (B3.out.trans (((Below.refl _ w3).alloc B3.out.size (.cells #[.string s, .string v] 37)).trans (((O3.out.alloc (.cells #[.string s, .string v] 37)).grownBelow (by rw [rowOf_own]; exact g6) (Nat.le_trans hz3 (by simp))).mono hw1))); have O6 := hide own6; clear own6 g6 r6)
      go_ret
      exact ⟨A6, cap6, l ++ [(s, v)], O6.out.cap_le, L0.out, by simp, O6.out.more hw1, B6.out⟩
    · have hd0 : decide ((0 : Int) < (l.length : Int)) = false := decide_eq_false (by omega)
      go_wp2
      go_ret
      exact ⟨A2, cap2, l, hc2, by omega, rfl, O3.out.more (by omega), B3.out⟩

set_option maxRecDepth 100000 in
set_option maxHeartbeats 1000000 in
theorem drawSwapRef_any (A : Option Addr) (n cap : Nat) (w : World) (hn : n ≤ 1048576) (hin : CIn w w.heap.size A n) :
    Calls Try.prog 23 #[.slice A n cap] w (DrawnW w) := by
  go_enter Try.func23, Try.ntmps23
  go_wp2_with fail
  refine (l1Open_any A n cap w hn hin).mono ?_
  rintro e w1 ⟨rfl, r1, b1⟩
  have B1 := hide b1
  have hz : w.heap.size < w1.heap.size := r1.lt
  have hw1 := B1.out.size
  clear b1 hin
  go_wp2_with fail
  refine (refsD_any w.heap.size w1 r1).mono ?_
  rintro e w2 ⟨A2, cap2, l, hc2, hl, rfl, own2, r2, g2⟩
  have B2 := hide (B1.out.trans (grown_below g2 B1.out.size))
  have O2 := hide own2
  have R2 := hide r2
  clear own2 g2 r1 r2 B1
  go_wp2_with fail
  refine (name_any w.heap.size w2 R2.out).mono ?_
  rintro e w3 ⟨k, hk, ho, rfl, r3, g3⟩
  have B3 := hide (B2.out.trans (grown_below g3 B2.out.size))
  have O3 := hide (O2.out.rd hz g3)
  have R3 := hide r3
  clear g3 r3 B2 O2 R2 ho
  have hgs := gotV_size l k O3.out.1
  go_wp2_with fail
  refine (specRefOf_any A2 l cap2 k w3 _ (by unfold maxLen; omega) O3.out.pin).mono ?_
  rintro e w4 ⟨rfl, q4⟩
  have b4 := q4.below w3.heap.size
  have B4 := hide (B3.out.trans (b4.mono B3.out.size))
  have O4 := hide (O3.out.below b4)
  have R4 := hide (R3.out.below b4)
  clear b4 q4 B3 O3 R3
  generalize gotV l k = o at *
  go_wp2_with fail
  refine (once_any w.heap.size 4 w4 R4.out (by omega) (by omega)).mono ?_
  rintro e w5 ⟨x, rfl, r5, g5⟩
  have B5 := hide (B4.out.trans (grown_below g5 B4.out.size))
  have O5 := hide (O4.out.rd hz g5)
  have R5 := hide r5
  clear g5 r5 B4 O4 R4
  cases x
  · go_wp2_with fail
    refine (one_any w.heap.size w5 R5.out).mono ?_
    rintro e w6 ⟨v, hv, rfl, r6, g6⟩
    have B6 := hide (B5.out.trans (grown_below g6 B5.out.size))
    have O6 := hide ((O5.out.rd hz g6).more (B' := w.heap.size) (by omega))
    clear g6 r6 B5 O5 R5
    go_wp2
    (try simp only [Exit.inBlock, Exit.then])
    refine bodyPost_ret (results_tmp4 rfl _ _ _) rfl ?_
    exact ⟨A2, cap2, l, k, o, v, hc2, hl, hk, hgs, hv, rfl, O6.out, B6.out⟩
  · go_wp2_with fail
    refine (one_any w.heap.size w5 R5.out).mono ?_
    rintro e w6 ⟨o2, ho2, rfl, r6, g6⟩
    have B6 := hide (B5.out.trans (grown_below g6 B5.out.size))
    have O6 := hide (O5.out.rd hz g6)
    have R6 := hide r6
    clear g6 r6 B5 O5 R5
    go_wp2_with fail
    refine (one_any w.heap.size w6 R6.out).mono ?_
    rintro e w7 ⟨v, hv, rfl, r7, g7⟩
    have B7 := hide (B6.out.trans (grown_below g7 B6.out.size))
    have O7 := hide ((O6.out.rd hz g7).more (B' := w.heap.size) (by omega))
    have ho3 : o2.size ≤ maxLen := by unfold maxLen; omega
    clear g7 r7 B6 O6 R6
    go_wp2
    (try simp only [Exit.inBlock, Exit.then])
    refine bodyPost_ret (results_tmp4 rfl _ _ _) rfl ?_
    exact ⟨A2, cap2, l, k, o2, v, hc2, hl, hk, ho3, hv, rfl, O7.out, B7.out⟩
end Go.Proofs.Ytmmeabfeehnajaa
