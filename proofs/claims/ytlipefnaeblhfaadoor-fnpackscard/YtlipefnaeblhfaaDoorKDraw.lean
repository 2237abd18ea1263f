/-
  What is drawn for packs: objects of short texts, a pack's text that is hurt (loosely: that it is a text of a bound length).
-/
import Derived.Test.YtlipefnaeblhfaaDoorQDraw
import Derived.Test.YtlipefnaeblhfaaDoorKText
namespace Go.Proofs.YtlipefnaeblhfaaDoor
open Go.RowKit

/-- short texts -/
def txtK (l : List Pr) : Prop := ∀ p ∈ l, p.2.size ≤ 12
theorem txtK_add {l : List Pr} {s : ByteArray} (h : txtK l) (hs : s.size ≤ 12) : txtK (addL l s) := by
  cases hb : addB l s
  · rw [addL_no hb]; intro p hp; simp at hp
  · rw [addL_yes hb]
    intro p hp
    unfold setL at hp
    rcases List.mem_append.1 hp with hp | hp
    · exact h p (List.mem_of_mem_take hp)
    · rcases List.mem_cons.1 hp with rfl | hp
      · exact hs
      · exact h p (List.mem_of_mem_drop hp)
theorem txtK_set {l : List Pr} {t x : ByteArray} (h : txtK l) (ht : t.size ≤ 12) : txtK (l.set 0 (x, t)) := by
  intro p hp
  rcases List.mem_or_eq_of_mem_set hp with g | rfl
  · exact h p g
  · exact ht
def RdOK (rb : Nat) (w : World) (e : Ending) (w' : World) : Prop := ∃ A cap l, l.length ≤ cap ∧ l.length ≤ 60 ∧ txtK l ∧ e = .returned (.slice A l.length cap) ∧ Own w' w.heap.size A cap l ∧ Rd w' rb ∧ w.grownBy w' (some rb)

set_option maxRecDepth 100000 in
set_option maxHeartbeats 1000000 in
theorem objsK_any (rb : Nat) (most : Int) (w : World) (h : Rd w rb) (h0 : 0 ≤ most) (h1 : most ≤ 100) :
    Calls Tryd.prog 38 #[.pointer (some ⟨rb, 0, none⟩), .int .i64 most] w (RdOK rb w) := by
  have hlt := h.lt
  have O0 := hide (Own.built w w.heap.size (Nat.le_refl _))
  have r0 := h.below ((Below.refl _ w).alloc (Nat.le_refl _) (.cells #[] 41))
  clear h
  go_enter Tryd.func38, Tryd.ntmps38
  go_wp2_with fail
  refine (below_any rb (most + 1) _ r0 (by omega) (by omega)).mono ?_
  rintro e w1 ⟨x, hx0, hx1, rfl, r1, g1⟩
  obtain ⟨k0, rfl⟩ := Int.eq_ofNat_of_zero_le hx0
  have O1 := hide (O0.out.rd hlt g1)
  have R1 := hide r1
  have G1 := hide (World.grownBy.trans (World.grownBy_alloc w _ _) g1)
  clear r0 r1 g1 O0
  go_wp2
  go_loopw [5, 6] (fun m i wr => ∃ (k : Nat) (A : Option Addr) (cap : Nat) (l : List Pr), k ≤ k0 ∧ i = .int .i64 k ∧ m = .slice A l.length cap ∧ l.length ≤ 60 ∧ Hid (txtK l) ∧ Hid (Own wr w.heap.size A cap l) ∧ Hid (Rd wr rb) ∧ Hid (w.grownBy wr (some rb))) (fun _ i _ => (intOf i).toNat)
  case atStart => exact ⟨k0, _, 0, [], Nat.le_refl _, rfl, rfl, by simp, hide (fun p hp => by simp at hp), O1, R1, G1⟩
  case round =>
    clear O1 R1 G1
    obtain ⟨k, A, cap, l, hk, rfl, rfl, hl, TX, O, R, G⟩ := hrel
    have hrl := R.out.lt
    by_cases hk0 : 0 < k
    · go_wp2_with fail
      refine (below_any rb 6 _ (R.out.below ((Below.refl _ wr).alloc (Nat.le_refl _) _)) (by omega) (by omega)).mono ?_
      rintro e w2 ⟨y, hy0, hy1, rfl, r2, g2⟩
      have hb2 := (g2.block wr.heap.size (by simp) (by simp; omega)).trans (heap_alloc_new wr _)
      have O2 := hide ((O.out.alloc _).rd hlt g2)
      have R2 := hide r2
      have G2 := hide (World.grownBy.trans (World.grownBy.trans G.out (World.grownBy_alloc wr _ _)) g2)
      obtain ⟨j, rfl⟩ := Int.eq_ofNat_of_zero_le hy0
      have hj : j < 6 := by omega
      obtain ⟨s, hs, hc⟩ : ∃ s : ByteArray, s.size ≤ 12 ∧ w2.cell? ⟨wr.heap.size, j, none⟩ = some (.string s) := by
        rw [cell_of_row w2 wr.heap.size j _ _ _ hb2]
        match j, hj with
        | 0, _ => exact ⟨_, by decide, rfl⟩
        | 1, _ => exact ⟨_, by decide, rfl⟩
        | 2, _ => exact ⟨_, by decide, rfl⟩
        | 3, _ => exact ⟨_, by decide, rfl⟩
        | 4, _ => exact ⟨_, by decide, rfl⟩
        | 5, _ => exact ⟨_, by decide, rfl⟩
      clear g2 hb2 r2 O R G
      go_wp2_with fail
      refine (specAdd_any A l cap s w2 (by unfold maxLen; omega) O2.out.cap_le O2.out.pin (by unfold maxLen; omega)).mono ?_
      rintro e w4 ⟨A4, cap4, hc4, rfl, own4, b4⟩
      have O4 := hide (own4.more (B' := w.heap.size) G2.out.size)
      have O4' := hide (O2.out.below b4)
      have R4 := hide (R2.out.below b4)
      have G4 := hide (World.grownBy.trans G2.out (grown_of_below b4))
      have hpl := addL_objs l s
      have TA := hide (txtK_add TX.out hs)
      clear own4 b4 O2 R2 G2 hc
      cases hb : addB l s
      · go_wp2
        go_roundw
        case rel => exact ⟨k - 1, A, cap, l, by omega, by go_num, rfl, hl, TX, O4', R4, G4⟩
        case measure => simp [intOf]; omega
      · go_wp2
        go_roundw
        case rel => exact ⟨k - 1, A4, cap4, addL l s, by omega, by go_num, rfl, hpl, TA, O4, R4, G4⟩
        case measure => simp [intOf]; omega
    · go_wp2_with fail
      refine (once_any rb 20 wr R.out (by omega) (by omega)).mono ?_
      rintro e w2 ⟨x, rfl, r2, g2⟩
      have O2 := hide (O.out.rd hlt g2)
      have R2 := hide r2
      have G2 := hide (World.grownBy.trans G.out g2)
      clear g2 r2 O R G
      cases x
      · go_wp2
        go_ret
        exact ⟨A, cap, l, O2.out.cap_le, hl, TX.out, rfl, O2.out, R2.out, G2.out⟩
      · by_cases h0 : 0 < l.length
        · obtain ⟨g, rfl, hg1, hg2⟩ : ∃ g, A = some ⟨g, 0, none⟩ ∧ w.heap.size ≤ g ∧ g < w2.heap.size := by
            rcases O2.out.form with ⟨_, _, e⟩ | h
            · rw [e] at h0; simp at h0
            · exact h
          go_wp2_with fail
          refine (text_any rb w2 R2.out).mono ?_
          rintro e w4 ⟨t, ht, rfl, r4, g4⟩
          have own4 := O2.out.rd hlt g4
          have c1 : ∃ x, w4.cell? ⟨g, 1, none⟩ = some x := by rw [own4.2.cellAt 1 (by omega)]; exact ⟨_, List.getElem?_eq_getElem (by rw [pcells_length]; omega)⟩
          obtain ⟨x1, c1⟩ := c1
          have f1 := own4.2.frozenAt 1
          have S4 := hide (own_text own4 h0 (t := t) (by unfold maxLen; omega))
          have G4 := hide (World.grownBy.trans G2.out g4)
          have R4 := hide r4
          have hg4 : g < w4.heap.size := by
            rcases own4.form with ⟨h, _⟩ | ⟨g', h, _, h2⟩
            · cases h
            · injection h with h; injection h with h; omega
          have hcl := O2.out.cap_le
          clear own4 g4 r4 O2 R2 G2
          go_wp2
          go_ret
          refine ⟨_, cap, l.set 0 ((l[0]'h0).1, t), by rw [List.length_set]; exact hcl, by rw [List.length_set]; exact hl, txtK_set TX.out ht, by rw [List.length_set]; rfl, S4.out, ?_, ?_⟩
          · exact R4.out.keep ((Below.refl _ w4).setCell (by show rb + 1 ≤ g; omega) _)
          · exact grown_on G4.out ((Below.refl _ w4).setCell (by show w.heap.size ≤ g; omega) _)
        · go_wp2
          go_ret
          exact ⟨A, cap, l, O2.out.cap_le, hl, TX.out, rfl, O2.out, R2.out, G2.out⟩

set_option maxRecDepth 100000 in
set_option maxHeartbeats 2000000 in
theorem hurtK_any (rb : Nat) (s : ByteArray) (w : World) (h : Rd w rb) (hs : s.size ≤ 2000) :
    Calls Tryd.prog 40 #[.pointer (some ⟨rb, 0, none⟩), .string s] w (RdT rb 2001 w) := by
  go_enter Tryd.func40, Tryd.ntmps40
  go_wp2_with fail
  refine (below_any rb 6 w h (by omega) (by omega)).mono ?_
  rintro e w1 ⟨x, hx0, hx1, rfl, r1, g1⟩
  have R1 := hide r1
  have G1 := hide g1
  clear r1 g1 h
  by_cases hx : x = 1
  · subst hx
    go_wp2_with fail
    refine (below_any rb ((s.size : Int) + 1) w1 R1.out (by omega) (by omega)).mono ?_
    rintro e w2 ⟨y, hy0, hy1, rfl, r2, g2⟩
    have R2 := hide r2
    have G2 := hide (World.grownBy.trans G1.out g2)
    clear r2 g2 R1 G1
    obtain ⟨k, rfl⟩ := Int.eq_ofNat_of_zero_le hy0
    have hk : k ≤ s.size := by omega
    go_wp2
    go_ret
    exact ⟨_, by rw [ByteArray.size_extract]; omega, rfl, R2.out, G2.out⟩
  by_cases hx2 : x = 2
  · subst hx2
    clear hx
    by_cases hs0 : 0 < s.size
    · go_wp2_with fail
      refine (below_any rb (s.size : Int) w1 R1.out (by omega) (by omega)).mono ?_
      rintro e w2 ⟨y, hy0, hy1, rfl, r2, g2⟩
      have R2 := hide r2
      have hlt := r2.lt
      have G2 := hide (World.grownBy.trans G1.out g2)
      clear r2 g2 R1 G1
      obtain ⟨k, rfl⟩ := Int.eq_ofNat_of_zero_le hy0
      have hk : k < s.size := by omega
      go_wp2_with fail
      have c1 : (0 : Int) ≤ (k : Int) := by omega
      have c2 : (k : Int) ≤ (s.size : Int) := by omega
      have c3 : (0 : Int) ≤ (k : Int) + 1 := by omega
      have c4 : (k : Int) + 1 ≤ (s.size : Int) := by omega
      have cw : IntKind.i64.wrap ((k : Int) + 1) = (k : Int) + 1 := IntWalk.i64_in _ (by omega)
      have z1 : (s.extract 0 k).size = k := by rw [ByteArray.size_extract]; omega
      have z2 : (s.extract (k + 1) s.size).size = s.size - (k + 1) := by rw [ByteArray.size_extract]; omega
      have Rb : Hid (Rd (w2.alloc (.cells #[.string ⟨#[0]⟩, .string ⟨#[55]⟩, .string ⟨#[255]⟩, .string ⟨#[32]⟩] 9)).drew rb) := hide (R2.out.below (((Below.refl _ w2).alloc (Nat.le_refl _) (.cells #[.string ⟨#[0]⟩, .string ⟨#[55]⟩, .string ⟨#[255]⟩, .string ⟨#[32]⟩] 9)).drew))
      have Ha : Hid ((w2.alloc (.cells #[.string ⟨#[0]⟩, .string ⟨#[55]⟩, .string ⟨#[255]⟩, .string ⟨#[32]⟩] 9)).drew.heap[w2.heap.size]? = some (.cells #[.string ⟨#[0]⟩, .string ⟨#[55]⟩, .string ⟨#[255]⟩, .string ⟨#[32]⟩] 9 (0, 0))) := hide (heap_alloc_new w2 (.cells #[.string ⟨#[0]⟩, .string ⟨#[55]⟩, .string ⟨#[255]⟩, .string ⟨#[32]⟩] 9))
      have Ga : Hid (w.grownBy (w2.alloc (.cells #[.string ⟨#[0]⟩, .string ⟨#[55]⟩, .string ⟨#[255]⟩, .string ⟨#[32]⟩] 9)).drew (some rb)) := hide (World.grownBy.trans G2.out (grown_of_below (((Below.refl _ w2).alloc (Nat.le_refl _) _).drew)))
      have hsz3 : (w2.alloc (.cells #[.string ⟨#[0]⟩, .string ⟨#[55]⟩, .string ⟨#[255]⟩, .string ⟨#[32]⟩] 9)).drew.heap.size = w2.heap.size + 1 := by simp
      have HS3 := hide hsz3
      clear hsz3
      have A4 : Hid (Calls Tryd.prog 48 #[.pointer (some ⟨rb, 0, none⟩), .int .i64 4] (w2.alloc (.cells #[.string ⟨#[0]⟩, .string ⟨#[55]⟩, .string ⟨#[255]⟩, .string ⟨#[32]⟩] 9)).drew fun e w' => ∃ (k2 : Nat) (a : ByteArray), k2 < 4 ∧ a.size ≤ 1 ∧ e = .returned (.int .i64 k2) ∧ w'.cell? ⟨w2.heap.size, k2, none⟩ = some (.string a) ∧ Hid (Rd w' rb) ∧ Hid (w.grownBy w' (some rb))) := hide ((below_any rb 4 _ Rb.out (by omega) (by omega)).mono (by
        rintro e w3 ⟨y, hy0', hy1', rfl, r3, g3⟩
        have hb3 := g3.block w2.heap.size (by rw [HS3.out]; omega) (by simp; omega)
        rw [Ha.out] at hb3
        obtain ⟨k2, rfl⟩ := Int.eq_ofNat_of_zero_le hy0'
        obtain ⟨a, ha, hc⟩ := four_cell w3 k2 (by omega) w2.heap.size hb3
        exact ⟨k2, a, by omega, ha, rfl, hc, r3, World.grownBy.trans Ga.out g3⟩))
      have A5 : Hid (Calls Tryd.prog 48 #[.pointer (some ⟨rb, 0, none⟩), .int .i64 4] w2.drew fun e w' => ∃ (k2 : Nat) (a : ByteArray), k2 < 4 ∧ a.size ≤ 1 ∧ e = .returned (.int .i64 k2) ∧ (w'.alloc (.cells #[.string ⟨#[0]⟩, .string ⟨#[55]⟩, .string ⟨#[255]⟩, .string ⟨#[32]⟩] 9)).cell? ⟨w'.heap.size, k2, none⟩ = some (.string a) ∧ Hid (Rd (w'.alloc (.cells #[.string ⟨#[0]⟩, .string ⟨#[55]⟩, .string ⟨#[255]⟩, .string ⟨#[32]⟩] 9)) rb) ∧ Hid (w.grownBy (w'.alloc (.cells #[.string ⟨#[0]⟩, .string ⟨#[55]⟩, .string ⟨#[255]⟩, .string ⟨#[32]⟩] 9)) (some rb))) := hide ((below_any rb 4 w2.drew R2.out (by omega) (by omega)).mono (by
        rintro e w3 ⟨y, hy0', hy1', rfl, r3, g3⟩
        obtain ⟨k2, rfl⟩ := Int.eq_ofNat_of_zero_le hy0'
        obtain ⟨a, ha, hc⟩ := four_cell (w3.alloc (.cells #[.string ⟨#[0]⟩, .string ⟨#[55]⟩, .string ⟨#[255]⟩, .string ⟨#[32]⟩] 9)) k2 (by omega) w3.heap.size (heap_alloc_new w3 (.cells #[.string ⟨#[0]⟩, .string ⟨#[55]⟩, .string ⟨#[255]⟩, .string ⟨#[32]⟩] 9))
        exact ⟨k2, a, by omega, ha, rfl, hc, r3.below ((Below.refl _ w3).alloc (Nat.le_refl _) _), World.grownBy.trans (World.grownBy.trans G2.out (World.grownBy.trans (grown_of_below ((Below.refl _ w2).drew)) g3)) (World.grownBy_alloc w3 _ _)⟩))
      clear R2 G2 Rb Ha Ga HS3
      go_region_with (first
        | (go_at_call 48; refine A4.out.mono ?_; rintro e w3 ⟨k2, a, hk2, ha, rfl, hc, R3, G3⟩; have zB : ¬ (9223372036854775807 < (s.extract 0 k).size + a.size) := (by omega); have zC : ¬ (9223372036854775807 < (s.extract 0 k).size + a.size + (s.extract (k + 1) s.size).size) := (by omega))
        | (go_at_call 48; refine A5.out.mono ?_; rintro e w3 ⟨k2, a, hk2, ha, rfl, hc, R3, G3⟩; have zB : ¬ (9223372036854775807 < (s.extract 0 k).size + a.size) := (by omega); have zC : ¬ (9223372036854775807 < (s.extract 0 k).size + a.size + (s.extract (k + 1) s.size).size) := (by omega)))
      all_goals
       go_wp2
       go_ret
       exact ⟨_, by rw [ByteArray.size_append, ByteArray.size_append, z1, z2]; omega, rfl, R3.out, G3.out⟩
    · go_wp2
      go_ret
      exact ⟨s, by omega, rfl, R1.out, G1.out⟩
  by_cases hx3 : x = 3
  · subst hx3
    clear hx hx2
    have R2 := hide (R1.out.below ((Below.refl _ w1).alloc (Nat.le_refl _) (.cells #[.string ⟨#[0]⟩, .string ⟨#[49]⟩, .string ⟨#[10]⟩, .string ⟨#[32]⟩] 9)))
    have HH := hide (heap_alloc_new w1 (.cells #[.string ⟨#[0]⟩, .string ⟨#[49]⟩, .string ⟨#[10]⟩, .string ⟨#[32]⟩] 9))
    have hlt := R1.out.lt
    go_wp2_with fail
    refine (below_any rb 4 _ R2.out (by omega) (by omega)).mono ?_
    rintro e w2 ⟨y, hy0, hy1, rfl, r2, g2⟩
    have R3 := hide r2
    have hb2 := g2.block w1.heap.size (by simp) (by simp; omega)
    rw [HH.out] at hb2
    have G2 := hide (World.grownBy.trans (World.grownBy.trans G1.out (World.grownBy_alloc w1 _ _)) g2)
    obtain ⟨k, rfl⟩ := Int.eq_ofNat_of_zero_le hy0
    have hk : k < 4 := by omega
    obtain ⟨a, ha, hc⟩ : ∃ a : ByteArray, a.size ≤ 1 ∧ w2.cell? ⟨w1.heap.size, k, none⟩ = some (.string a) := by
      rw [cell_of_row w2 w1.heap.size k _ _ _ hb2]
      match k, hk with
      | 0, _ => exact ⟨_, by decide, rfl⟩
      | 1, _ => exact ⟨_, by decide, rfl⟩
      | 2, _ => exact ⟨_, by decide, rfl⟩
      | 3, _ => exact ⟨_, by decide, rfl⟩
    clear r2 g2 hb2 R2 R1 HH G1
    have zB : ¬ (9223372036854775807 < s.size + a.size) := by omega
    go_wp2
    go_ret
    exact ⟨s ++ a, by rw [ByteArray.size_append]; omega, rfl, R3.out, G2.out⟩
  · have d1 : (x == 1) = false := by rw [beq_eq_false_iff_ne]; exact hx
    have d2 : (x == 2) = false := by rw [beq_eq_false_iff_ne]; exact hx2
    have d3 : (x == 3) = false := by rw [beq_eq_false_iff_ne]; exact hx3
    go_wp2
    go_ret
    exact ⟨s, by omega, rfl, R1.out, G1.out⟩


theorem packT_short {l : List Pr} (h : txtK l) (hl : l.length ≤ 60) : (packT l).size ≤ 1600 := by
  cases hb : objsB l
  · rw [packT_no hb]; simp
  · rw [packT_yes hb]
    have key : ∀ m : List Pr, txtK m → (packL m).size ≤ 26 * m.length := by
      intro m
      induction m with
      | nil => intro _; simp [packL]
      | cons p r ih =>
        intro hm
        have h1 := ih (fun q hq => hm q (List.mem_cons_of_mem _ hq))
        have h2 := pieceT_size p.2
        have h3 := hm p (List.mem_cons_self ..)
        simp only [packL, ByteArray.size_append, List.length_cons]
        omega
    have := key l h
    omega
set_option maxRecDepth 100000 in
set_option maxHeartbeats 1000000 in
theorem drawReadPack_any (A : Option Addr) (n cap : Nat) (w : World) (hn : n ≤ 1048576) (hin : CIn w w.heap.size A n) :
    Calls Tryd.prog 19 #[.slice A n cap] w fun e w' => ∃ s : ByteArray, s.size ≤ 2001 ∧ e = .returned (.string s) ∧ Below w.heap.size w w' := by
  have O := hide (l1Open_any A n cap w hn hin)
  clear hin
  go_enter Tryd.func19, Tryd.ntmps19
  go_wp2_with fail
  refine O.out.mono ?_
  rintro e w1 ⟨rfl, r1, b1⟩
  have B1 := hide b1
  clear b1 O
  go_wp2_with fail
  refine (objsK_any w.heap.size 4 w1 r1 (by omega) (by omega)).mono ?_
  rintro e w2 ⟨A2, cap2, l, h1, h2, h3, rfl, own2, r2, g2⟩
  have B2 := hide (B1.out.trans (grown_below g2 B1.out.size))
  have sz := packT_short h3 h2
  clear r1 g2 B1 h3
  go_wp2_with fail
  refine (specPackText_any A2 l cap2 w2 (by unfold maxLen; omega) own2.pin).mono ?_
  rintro e w3 ⟨rfl, b3⟩
  have B3 := hide (B2.out.trans (b3.mono B2.out.size))
  have R3 := hide (r2.below b3)
  clear own2 r2 b3 B2
  generalize packT l = s at *
  go_wp2_with fail
  refine (once_any w.heap.size 2 w3 R3.out (by omega) (by omega)).mono ?_
  rintro e w4 ⟨x, rfl, r4, g4⟩
  have B4 := hide (B3.out.trans (grown_below g4 B3.out.size))
  have R4 := hide r4
  clear r4 g4 B3 R3
  cases x
  · go_wp2_with fail
    refine (hurtK_any w.heap.size s w4 R4.out (by omega)).mono ?_
    rintro e w5 ⟨y, hy, rfl, r5, g5⟩
    have B5 := hide (B4.out.trans (grown_below g5 B4.out.size))
    clear r5 g5 B4 R4
    go_wp2
    go_ret
    exact ⟨y, hy, rfl, B5.out⟩
  · go_wp2
    go_ret
    exact ⟨s, by omega, rfl, B4.out⟩
end Go.Proofs.YtlipefnaeblhfaaDoor
