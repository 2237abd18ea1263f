/-
  What is drawn for the laws over commits (loosely: that it is such).
-/
import Derived.Test.YtmmeabfeehnajaaRDraw
import Derived.Test.YtmmeabfeehnajaaRRefsI
import Derived.Test.YtmmeabfeehnajaaCVal
import Derived.Test.YtmmeabfeehnajaaCPut
import Derived.Deep.RegionWith
namespace Go.Proofs.Ytmmeabfeehnajaa
open Go.RowKit

/-- a block that holds a commit -/
def CB (w : World) (g : Nat) (t : ByteArray) (A : Option Addr) (n cap : Nat) (m : ByteArray) : Prop := w.heap[g]? = some (.cells #[.string t, .slice A n cap, .string m] 44 (0, 0))
theorem CB.c0 {w : World} {g : Nat} {t m : ByteArray} {A : Option Addr} {n cap : Nat} (h : CB w g t A n cap m) : w.cell? ⟨g, 0, none⟩ = some (.string t) := cell_of_row _ g 0 _ _ (0, 0) h
theorem CB.c1 {w : World} {g : Nat} {t m : ByteArray} {A : Option Addr} {n cap : Nat} (h : CB w g t A n cap m) : w.cell? ⟨g, 1, none⟩ = some (.slice A n cap) := cell_of_row _ g 1 _ _ (0, 0) h
theorem CB.c2 {w : World} {g : Nat} {t m : ByteArray} {A : Option Addr} {n cap : Nat} (h : CB w g t A n cap m) : w.cell? ⟨g, 2, none⟩ = some (.string m) := cell_of_row _ g 2 _ _ (0, 0) h
theorem CB.frozen {w : World} {g : Nat} {t m : ByteArray} {A : Option Addr} {n cap : Nat} (h : CB w g t A n cap m) (j : Nat) : w.frozen? ⟨g, j, none⟩ = false := by simp [World.frozen?, show w.heap[g]? = _ from h]
theorem CB.lt {w : World} {g : Nat} {t m : ByteArray} {A : Option Addr} {n cap : Nat} (h : CB w g t A n cap m) : g < w.heap.size := (Array.getElem?_eq_some_iff.1 h).1
theorem CB.below {w w' : World} {g B : Nat} {t m : ByteArray} {A : Option Addr} {n cap : Nat} (h : CB w g t A n cap m) (hb : Below B w w') (hg : g < B) : CB w' g t A n cap m := (hb.block _ hg).trans h
theorem CB.all {w w' : World} {g : Nat} {t m : ByteArray} {A : Option Addr} {n cap : Nat} (h : CB w g t A n cap m) (hb : Below w.heap.size w w') : CB w' g t A n cap m := h.below hb h.lt
theorem CB.grown {w w' : World} {g rb : Nat} {t m : ByteArray} {A : Option Addr} {n cap : Nat} (h : CB w g t A n cap m) (hg : w.grownBy w' (some rb)) (hne : g ≠ rb) : CB w' g t A n cap m := (hg.block g h.lt (fun x => hne (by injection x))).trans h
theorem CB.s0 {w : World} {g : Nat} {t m : ByteArray} {A : Option Addr} {n cap : Nat} (h : CB w g t A n cap m) (t' : ByteArray) : CB (w.setCell ⟨g, 0, none⟩ (.string t')) g t' A n cap m := box_set h 0 _
theorem CB.s1 {w : World} {g : Nat} {t m : ByteArray} {A : Option Addr} {n cap : Nat} (h : CB w g t A n cap m) (A' : Option Addr) (n' cap' : Nat) : CB (w.setCell ⟨g, 1, none⟩ (.slice A' n' cap')) g t A' n' cap' m := box_set h 1 _
theorem CB.s2 {w : World} {g : Nat} {t m : ByteArray} {A : Option Addr} {n cap : Nat} (h : CB w g t A n cap m) (m' : ByteArray) : CB (w.setCell ⟨g, 2, none⟩ (.string m')) g t A n cap m' := box_set h 2 _
theorem CB.other {w : World} {g : Nat} {t m : ByteArray} {A : Option Addr} {n cap : Nat} (h : CB w g t A n cap m) (a : Addr) (u : Value) (hne : g ≠ a.block) : CB (w.setCell a u) g t A n cap m := (Below.heap_setCell w a u g hne).trans h
theorem CB.new (w : World) (t m : ByteArray) (A : Option Addr) (n cap : Nat) {s : Nat} (hs : w.heap.size = s) : CB (w.alloc (.cells #[.string t, .slice A n cap, .string m] 44)) s t A n cap m := by subst hs; exact heap_alloc_new w _
theorem ZOwn.rd {w w' : World} {rb B : Nat} {A : Option Addr} {cap : Nat} {l : List ByteArray} (h : ZOwn w B A cap l) (hB : rb < B) (hg : w.grownBy w' (some rb)) : ZOwn w' B A cap l := h.kept hg (fun x => by have := (h.row _ x).1; omega)
theorem ZOwn.setLow {w : World} {lo : Nat} {A : Option Addr} {cap : Nat} {l : List ByteArray} (h : ZOwn w lo A cap l) {a : Addr} (ha : a.block < lo) (u : Value) : ZOwn (w.setCell a u) lo A cap l := ownsRow_setCell_below h ha u
/-- texts of so many bytes at most -/
def short (n : Nat) (l : List ByteArray) : Prop := ∀ t ∈ l, t.size ≤ n
theorem ZOwn.sin {w : World} {B : Nat} {A : Option Addr} {cap : Nat} {l : List ByteArray} (h : ZOwn w B A cap l) (hs : short 1001 l) : SIn w w.heap.size A l := ⟨fun i hi => by have := hs _ (List.getElem_mem hi); unfold maxLen; omega, h.zin⟩
theorem SIn.other {w : World} {B : Nat} {A : Option Addr} {l : List ByteArray} (h : SIn w B A l) {a : Addr} (ha : ∀ g, rowOf A = some g → g ≠ a.block) (u : Value) : SIn (w.setCell a u) B A l :=
  ⟨h.1, fun hp => by
    obtain ⟨b, off, e, hb, hc⟩ := h.2 hp
    refine ⟨b, off, e, hb, fun i hi => ?_⟩
    rw [← hc i hi]
    exact World.cell?_of_block (w := w) (a := ⟨b, off + i, none⟩) (Below.heap_setCell w a u b (ha b (by rw [e]; rfl)))⟩
/-- a drawn commit -/
def DrawnCom (w : World) (e : Ending) (w' : World) : Prop := ∃ t A cap l m, t.size ≤ 1001 ∧ m.size ≤ 1001 ∧ l.length ≤ 3 ∧ e = .returned (.agg #[.string t, .slice A l.length cap, .string m]) ∧ SIn w' w'.heap.size A l ∧ (∀ g, rowOf A = some g → w.heap.size ≤ g) ∧ Below w.heap.size w w'

set_option maxRecDepth 100000 in
set_option maxHeartbeats 4000000 in
theorem drawCommitOk_any (A : Option Addr) (n cap : Nat) (w : World) (hn : n ≤ 1048576) (hin : CIn w w.heap.size A n) :
    Calls Try.prog 46 #[.slice A n cap] w (DrawnCom w) := by
  have b0 : Hid (Below w.heap.size w (w.alloc (.cells #[.string ⟨#[]⟩, .slice none 0 0, .string ⟨#[]⟩] 44))) := hide ((Below.refl _ _).alloc (Nat.le_refl _) _)
  have R0 : Hid (CB (w.alloc (.cells #[.string ⟨#[]⟩, .slice none 0 0, .string ⟨#[]⟩] 44)) w.heap.size ⟨#[]⟩ none 0 0 ⟨#[]⟩) := hide (CB.new w _ _ _ _ _ rfl)
  have z0 : (w.alloc (.cells #[.string ⟨#[]⟩, .slice none 0 0, .string ⟨#[]⟩] 44)).heap.size = w.heap.size + 1 := by simp
  have C0 := hide ((hin.keep b0.out).more b0.out.size)
  clear hin
  go_enter Try.func46, Try.ntmps46
  go_wp2_with fail
  refine (l1Open_any A n cap _ hn C0.out).mono ?_
  rintro e w1 ⟨rfl, r1, b1⟩
  have R1 := hide (R0.out.all b1)
  have B1 := hide (b0.out.trans (b1.mono b0.out.size))
  have rd1 := r1
  rw [z0] at rd1
  have D1 := hide rd1
  have hz1 := rd1.lt
  clear b1 r1 R0 C0 rd1
  go_wp2_with fail
  refine (specId ⟨#[116]⟩ _ (by unfold maxLen; decide)).mono ?_
  rintro e w2 ⟨rfl, b2⟩
  have ht := idT_short ⟨#[116]⟩
  generalize idT ⟨#[116]⟩ = t at *
  have R2 := hide (R1.out.all b2)
  have B2 := hide (B1.out.trans (b2.mono B1.out.size))
  have D2 := hide (D1.out.below b2)
  clear b2 R1 B1 D1
  go_wp2_with fail
  refine (val_any (w.heap.size + 1) _ (by first | exact D2.out | simpa using D2.out)).mono ?_
  rintro e w3 ⟨m, hm, _, rfl, r3, g3⟩
  have R3 := hide (R2.out.grown g3 (by omega))
  have B3 := hide (B2.out.trans ((grown_below g3 (Nat.le_of_lt D2.out.lt)).mono (by omega)))
  have D3 := hide r3
  have hz3 := r3.lt
  clear g3 r3 R2 B2 D2
  -- the commit's own block
  have bx : Hid (Below w3.heap.size w3 (w3.alloc (.cells #[.string t, .slice none 0 0, .string m] 44))) := hide ((Below.refl _ _).alloc (Nat.le_refl _) _)
  have C4 := hide (CB.new w3 t m none 0 0 rfl)
  have R4 := hide (R3.out.all bx.out)
  have B4 := hide (B3.out.trans (bx.out.mono B3.out.size))
  have D4 := hide (D3.out.below bx.out)
  go_wp2_with fail
  refine (below_any (w.heap.size + 1) 3 _ (by first | exact D4.out | simpa using D4.out) (by omega) (by omega)).mono ?_
  rintro e w5 ⟨x0, hx0, hx1, rfl, r5, g5⟩
  obtain ⟨k0, rfl⟩ := Int.eq_ofNat_of_zero_le hx0
  have C5 := hide (C4.out.grown g5 (by omega))
  have R5 := hide (R4.out.grown g5 (by omega))
  have B5 := hide (B4.out.trans ((grown_below g5 (by simp; omega)).mono (by omega)))
  have D5 := hide r5
  have hk2 : k0 ≤ 2 := by omega
  clear g5 r5 C4 R4 B4 D4 bx R3 B3 D3 hx0 hx1
  generalize hcb : w3.heap.size = cb at *
  clear hcb
  go_wp2
  go_loopw [5] (fun iv wr => ∃ (k : Nat) (A2 : Option Addr) (cap2 : Nat) (l : List ByteArray), iv = .int .i64 k ∧ l.length + k ≤ 2 ∧ Hid (short 16 l) ∧ Hid (CB wr cb t A2 l.length cap2 m) ∧ Hid (ZOwn wr (cb + 1) A2 cap2 l) ∧ Hid (Rd wr (w.heap.size + 1)) ∧ Hid (CB wr w.heap.size ⟨#[]⟩ none 0 0 ⟨#[]⟩) ∧ Hid (Below w.heap.size w wr)) (fun i _ => (intOf i).toNat)
  case atStart => exact ⟨k0, none, 0, [], rfl, by simpa using hk2, hide (fun _ h => absurd h (by simp)), C5, hide (World.ownsRow_nil _ _ _ _), D5, R5, B5⟩
  case round =>
    clear C5 R5 B5 D5
    obtain ⟨k, A2, cap2, l, rfl, hlk, SH, C, O, D, R, Q⟩ := hrel
    have hqs := Q.out.size
    have hcl := C.out.lt
    by_cases hk0 : 0 < k
    · have hkk : decide ((0 : Int) < (k : Int)) = true := decide_eq_true (by omega)
      have CELL : Hid (∀ (j : Nat), j < 3 → ∃ s : ByteArray, s.size ≤ 12 ∧ ∀ (W : World) (b : Nat), W.heap[b]? = some (.cells #[.string ⟨#[97]⟩, .string ⟨#[98]⟩, .string ⟨#[99]⟩] 9 (0, 0)) → W.cell? ⟨b, j, none⟩ = some (.string s)) := hide (fun j hj => by
        match j, hj with
        | 0, _ => exact ⟨_, by decide, fun W b h => (cell_of_row W b 0 _ _ _ h).trans rfl⟩
        | 1, _ => exact ⟨_, by decide, fun W b h => (cell_of_row W b 1 _ _ _ h).trans rfl⟩
        | 2, _ => exact ⟨_, by decide, fun W b h => (cell_of_row W b 2 _ _ _ h).trans rfl⟩)
      have ba : Hid (Below wr.heap.size wr (wr.drew.alloc (.cells #[.string ⟨#[97]⟩, .string ⟨#[98]⟩, .string ⟨#[99]⟩] 9))) := hide (((Below.refl _ wr).drew).alloc (Nat.le_refl _) _)
      have bd : Hid (Below wr.heap.size wr wr.drew) := hide ((Below.refl _ wr).drew)
      have FA := hide (below_any (w.heap.size + 1) 3 (wr.drew.alloc (.cells #[.string ⟨#[97]⟩, .string ⟨#[98]⟩, .string ⟨#[99]⟩] 9)) (D.out.below ba.out) (by omega) (by omega))
      have FB := hide (below_any (w.heap.size + 1) 3 wr.drew (D.out.below bd.out) (by omega) (by omega))
      have HA : Hid ((wr.drew.alloc (.cells #[.string ⟨#[97]⟩, .string ⟨#[98]⟩, .string ⟨#[99]⟩] 9)).heap[wr.heap.size]? = some (.cells #[.string ⟨#[97]⟩, .string ⟨#[98]⟩, .string ⟨#[99]⟩] 9 (0, 0))) := hide (heap_alloc_new wr.drew (.cells #[.string ⟨#[97]⟩, .string ⟨#[98]⟩, .string ⟨#[99]⟩] 9))
      have za : wr.heap.size < (wr.drew.alloc (.cells #[.string ⟨#[97]⟩, .string ⟨#[98]⟩, .string ⟨#[99]⟩] 9)).heap.size := by simp
      have p0 := C.out.c1
      have p1 := (C.out.all ba.out).c1
      have p2 := (C.out.all bd.out).c1
      have CA0 := hide (C.out.all ba.out)
      have CB0 := hide (C.out.all bd.out)
      have OA := hide (O.out.below ba.out)
      have OB := hide (O.out.below bd.out)
      have RA := hide (R.out.all ba.out)
      have RB' := hide (R.out.all bd.out)
      have QA := hide (Q.out.trans (ba.out.mono hqs))
      have QB := hide (Q.out.trans (bd.out.mono hqs))
      have hl1000 : l.length ≤ 1000 := by omega
      have ncr : cb ≠ w.heap.size + 1 := by omega
      have nsr : w.heap.size ≠ w.heap.size + 1 := by omega
      clear C O D R Q
      go_wp2
      go_region_with (first
        | (go_at_call 53; refine FA.out.mono ?_; rintro e w6 ⟨y, hy0, hy1, rfl, r6, g6⟩; obtain ⟨j, rfl⟩ := Int.eq_ofNat_of_zero_le hy0; obtain ⟨s, hs, hall⟩ := CELL.out j (by omega); have cA := hall w6 wr.heap.size ((g6.block wr.heap.size za (by simp; omega)).trans HA.out); have hji : (j : Int) < 3 := (by omega); have C6 := hide (CA0.out.grown g6 ncr); have O6 := hide (OA.out.rd (by omega) g6); have R6 := hide (RA.out.grown g6 nsr); have D6 := hide r6; have Q6 := hide (QA.out.trans ((grown_below g6 (by have := za; omega)).mono (by omega))); have p6 := C6.out.c1; have SP := hide (specId s w6 (by unfold maxLen; omega)); clear hall g6 r6 hy0 hy1)
        | (go_at_call 53; refine FB.out.mono ?_; rintro e w5' ⟨y, hy0, hy1, rfl, r6, g6⟩; obtain ⟨j, rfl⟩ := Int.eq_ofNat_of_zero_le hy0; obtain ⟨s, hs, hall⟩ := CELL.out j (by omega); have cB := hall (w5'.alloc (.cells #[.string ⟨#[97]⟩, .string ⟨#[98]⟩, .string ⟨#[99]⟩] 9)) w5'.heap.size (heap_alloc_new w5' _); have hji : (j : Int) < 3 := (by omega); have b6a : Hid (Below w5'.heap.size w5' (w5'.alloc (.cells #[.string ⟨#[97]⟩, .string ⟨#[98]⟩, .string ⟨#[99]⟩] 9))) := hide ((Below.refl _ _).alloc (Nat.le_refl _) _); have p6b := (CB0.out.grown g6 ncr).c1; have C6 := hide ((CB0.out.grown g6 ncr).all b6a.out); have O6 := hide ((OB.out.rd (by omega) g6).below b6a.out); have R6 := hide ((RB'.out.grown g6 nsr).all b6a.out); have D6 := hide (r6.below b6a.out); have q6 := QB.out.trans ((grown_below g6 (show w.heap.size + 1 ≤ wr.heap.size by omega)).mono (show w.heap.size ≤ w.heap.size + 1 by omega)); have Q6 := hide (q6.trans (b6a.out.mono q6.size)); have p6 := C6.out.c1; have SP := hide (specId s (w5'.alloc (.cells #[.string ⟨#[97]⟩, .string ⟨#[98]⟩, .string ⟨#[99]⟩] 9)) (by unfold maxLen; omega)); clear hall g6 r6 hy0 hy1 q6)
        | (go_at_call 55; refine SP.out.mono ?_; rintro e w7 ⟨rfl, b7⟩; have hid := idT_short s; have C7 := hide (C6.out.all b7); have O7 := hide (O6.out.below b7); have R7 := hide (R6.out.all b7); have D7 := hide (D6.out.below b7); have Q7 := hide (Q6.out.trans (b7.mono Q6.out.size)); have p7 := C7.out.c1; have hc7 := C7.out.lt; have LP := hide (l1Put_any A2 l cap2 (idT s) w7 (cb + 1) hl1000 O7.out (by omega)); clear b7)
        | (go_at_call 64; refine LP.out.mono ?_; rintro e w8 ⟨A8, cap8, l8, hl8, hmem, rfl, own8, b8⟩; have SH8 : Hid (short 16 l8) := hide (fun x hx => (by rcases hmem x hx with h | h; exact SH.out x h; rw [h]; exact hid)); have C8 := hide (C7.out.all b8); have O8 := hide own8; have R8 := hide (R7.out.all b8); have D8 := hide (D7.out.below b8); have Q8 := hide (Q7.out.trans (b8.mono Q7.out.size)); have p8 := C8.out.c1; have f8 := C8.out.frozen 1; clear b8 own8 hmem))
      all_goals
        have C9 := hide (C8.out.s1 A8 l8.length cap8)
        have O9 := hide (O8.out.setLow (a := ⟨cb, 1, none⟩) (by simp) (.slice A8 l8.length cap8))
        have R9 := hide (R8.out.other ⟨cb, 1, none⟩ (.slice A8 l8.length cap8) (by show w.heap.size ≠ cb; omega))
        have D9 := hide (D8.out.keep ((Below.refl (w.heap.size + 1 + 1) w8).setCell (p := ⟨cb, 1, none⟩) (by show w.heap.size + 1 + 1 ≤ cb; omega) (.slice A8 l8.length cap8)))
        have Q9 := hide (Q8.out.setCell (p := ⟨cb, 1, none⟩) (by show w.heap.size ≤ cb; omega) (.slice A8 l8.length cap8))
        go_wp2
        exact ⟨⟨k - 1, A8, cap8, l8, by go_num, by omega, SH8, C9, O9, D9, R9, Q9⟩, by simp [intOf]; omega⟩
    · go_wp2_with fail
      refine (below_any (w.heap.size + 1) 10 wr D.out (by omega) (by omega)).mono ?_
      rintro e w6 ⟨x, hx0, hx1, rfl, r6, g6⟩
      have C6 := hide (C.out.grown g6 (by omega))
      have O6 := hide (O.out.rd (by omega) g6)
      have R6 := hide (R.out.grown g6 (by omega))
      have D6 := hide r6
      have Q6 := hide (Q.out.trans ((grown_below g6 (show w.heap.size + 1 ≤ wr.heap.size by omega)).mono (by omega)))
      have hl2 : l.length ≤ 2 := by omega
      have hc6 := C6.out.lt
      clear g6 r6 C O R D Q
      by_cases x7 : x = 7
      · subst x7
        have q0 := C6.out.c0
        go_wp2_with fail
        refine (hurt_any (w.heap.size + 1) t w6 D6.out (by omega)).mono ?_
        rintro e w7 ⟨t7, ht7, rfl, r7, g7⟩
        have C7 := hide (C6.out.grown g7 (by omega))
        have O7 := hide (O6.out.rd (by omega) g7)
        have R7 := hide (R6.out.grown g7 (by omega))
        have Q7 := hide (Q6.out.trans ((grown_below g7 (show w.heap.size + 1 ≤ w6.heap.size by omega)).mono (by omega)))
        have q7 := C7.out.c0
        have f7 := C7.out.frozen 0
        clear g7 r7 C6 O6 R6 D6 Q6 q0
        have C8 := hide (C7.out.s0 t7)
        have O8 := hide (O7.out.setLow (a := ⟨cb, 0, none⟩) (by simp) (.string t7))
        have R8 := hide (R7.out.other ⟨cb, 0, none⟩ (.string t7) (by show w.heap.size ≠ cb; omega))
        have Q8 := hide (Q7.out.setCell (p := ⟨cb, 0, none⟩) (by show w.heap.size ≤ cb; omega) (.string t7))
        have cb0 := C8.out.c0
        have cb1 := C8.out.c1
        have cb2 := C8.out.c2
        have rz0 := R8.out.c0
        have rz1 := R8.out.c1
        have rz2 := R8.out.c2
        have fz0 := R8.out.frozen 0
        have fz1 := R8.out.frozen 1
        have fz2 := R8.out.frozen 2
        have H3 := hide (((R8.out.s0 t7).s1 A2 (l).length cap2).s2 m)
        have O3 := hide (((O8.out.setLow (a := ⟨w.heap.size, 0, none⟩) (by show w.heap.size < cb + 1; omega) (.string t7)).setLow (a := ⟨w.heap.size, 1, none⟩) (by show w.heap.size < cb + 1; omega) (.slice A2 (l).length cap2)).setLow (a := ⟨w.heap.size, 2, none⟩) (by show w.heap.size < cb + 1; omega) (.string m))
        have Q3 := hide (((Q8.out.setCell (p := ⟨w.heap.size, 0, none⟩) (Nat.le_refl _) (.string t7)).setCell (p := ⟨w.heap.size, 1, none⟩) (Nat.le_refl _) (.slice A2 (l).length cap2)).setCell (p := ⟨w.heap.size, 2, none⟩) (Nat.le_refl _) (.string m))
        have SF : Hid (short 1001 l) := hide (fun x hx => Nat.le_trans (SH.out x hx) (by omega))
        go_wp2
        have hx0 := H3.out.c0
        have hx1 := H3.out.c1
        have hx2 := H3.out.c2
        exact bodyPost_ret (v := .agg #[.string t7, .slice A2 (l).length cap2, .string m]) (by simp [results, Try.results46, go_sem, hx0, hx1, hx2]) rfl ⟨t7, A2, cap2, l, m, (by omega), (by omega), (by omega), rfl, O3.out.sin SF.out, fun g hg => by have := (O3.out.row g hg).1; omega, Q3.out⟩
      · by_cases x8 : x = 8
        · subst x8
          have q0 := C6.out.c0
          have q1 := C6.out.c1
          have hw6 : cb + 1 ≤ w6.heap.size := hc6
          go_wp2_with (at_builtin; refine wpList_appZ (l := l) (l' := [t]) 42 Try.underlying42 rfl (.tmp 40) (.tmp 43) rfl rfl rfl rfl rfl (O6.out.alloc _) (ZIn.one t _ rfl) (Nat.le_trans hw6 (by simp)) (by simp; omega) ?_; intro A7 cap7 w7 own7 g7 r7; have b7 := (O6.out.alloc (.cells #[Value.string t] 9)).grownBelow g7 (Nat.le_trans hw6 (by simp)); have b7' : Below (cb + 1) w6 w7 := ((Below.refl (cb + 1) w6).alloc hw6 (.cells #[Value.string t] 9)).trans b7; have C7 := hide (C6.out.below b7' (by omega)); have R7 := hide (R6.out.below b7' (by omega)); have Q7 := hide (Q6.out.trans (b7'.mono (by omega))); have O7 := hide own7; have q7 := C7.out.c1; have f7 := C7.out.frozen 1; clear own7 g7 r7 b7 b7'; have C8 := hide (C7.out.s1 A7 (l ++ [t]).length cap7); have O8 := hide (O7.out.setLow (a := ⟨cb, 1, none⟩) (by simp) (.slice A7 (l ++ [t]).length cap7)); have R8 := hide (R7.out.other ⟨cb, 1, none⟩ (.slice A7 (l ++ [t]).length cap7) (by show w.heap.size ≠ cb; omega)); have Q8 := hide (Q7.out.setCell (p := ⟨cb, 1, none⟩) (by show w.heap.size ≤ cb; omega) (.slice A7 (l ++ [t]).length cap7)); have E0 : (l ++ [t]).length = l.length + 1 := (by simp); rw [E0] at C8 O8 R8 Q8; have y0 := C8.out.c0; have y1 := C8.out.c1; have y2 := C8.out.c2; have rz0 := R8.out.c0; have rz1 := R8.out.c1; have rz2 := R8.out.c2; have fz0 := R8.out.frozen 0; have fz1 := R8.out.frozen 1; have fz2 := R8.out.frozen 2)
          have H3 := hide (((R8.out.s0 t).s1 A7 (l.length + 1) cap7).s2 m)
          have O3 := hide (((O8.out.setLow (a := ⟨w.heap.size, 0, none⟩) (by show w.heap.size < cb + 1; omega) (.string t)).setLow (a := ⟨w.heap.size, 1, none⟩) (by show w.heap.size < cb + 1; omega) (.slice A7 (l.length + 1) cap7)).setLow (a := ⟨w.heap.size, 2, none⟩) (by show w.heap.size < cb + 1; omega) (.string m))
          have Q3 := hide (((Q8.out.setCell (p := ⟨w.heap.size, 0, none⟩) (Nat.le_refl _) (.string t)).setCell (p := ⟨w.heap.size, 1, none⟩) (Nat.le_refl _) (.slice A7 (l.length + 1) cap7)).setCell (p := ⟨w.heap.size, 2, none⟩) (Nat.le_refl _) (.string m))
          have SF : Hid (short 1001 (l ++ [t])) := hide (fun x hx => by
            rw [List.mem_append] at hx
            rcases hx with h | h
            · exact Nat.le_trans (SH.out x h) (by omega)
            · simp at h; rw [h]; omega)
          have hx0 := H3.out.c0
          have hx1 := H3.out.c1
          have hx2 := H3.out.c2
          exact bodyPost_ret (v := .agg #[.string t, .slice A7 (l.length + 1) cap7, .string m]) (by simp [results, Try.results46, go_sem, hx0, hx1, hx2]) rfl ⟨t, A7, cap7, l ++ [t], m, by omega, by omega, by simp; omega, by simp, O3.out.sin SF.out, fun g hg => by have := (O3.out.row g hg).1; omega, Q3.out⟩
        · by_cases x9 : x = 9
          · subst x9
            have q0 := C6.out.c2
            go_wp2_with fail
            refine (hurt_any (w.heap.size + 1) m w6 D6.out (by omega)).mono ?_
            rintro e w7 ⟨m7, hm7, rfl, r7, g7⟩
            have C7 := hide (C6.out.grown g7 (by omega))
            have O7 := hide (O6.out.rd (by omega) g7)
            have R7 := hide (R6.out.grown g7 (by omega))
            have Q7 := hide (Q6.out.trans ((grown_below g7 (show w.heap.size + 1 ≤ w6.heap.size by omega)).mono (by omega)))
            have q7 := C7.out.c2
            have f7 := C7.out.frozen 2
            clear g7 r7 C6 O6 R6 D6 Q6 q0
            have C8 := hide (C7.out.s2 m7)
            have O8 := hide (O7.out.setLow (a := ⟨cb, 2, none⟩) (by simp) (.string m7))
            have R8 := hide (R7.out.other ⟨cb, 2, none⟩ (.string m7) (by show w.heap.size ≠ cb; omega))
            have Q8 := hide (Q7.out.setCell (p := ⟨cb, 2, none⟩) (by show w.heap.size ≤ cb; omega) (.string m7))
            have cb0 := C8.out.c0
            have cb1 := C8.out.c1
            have cb2 := C8.out.c2
            have rz0 := R8.out.c0
            have rz1 := R8.out.c1
            have rz2 := R8.out.c2
            have fz0 := R8.out.frozen 0
            have fz1 := R8.out.frozen 1
            have fz2 := R8.out.frozen 2
            have H3 := hide (((R8.out.s0 t).s1 A2 (l).length cap2).s2 m7)
            have O3 := hide (((O8.out.setLow (a := ⟨w.heap.size, 0, none⟩) (by show w.heap.size < cb + 1; omega) (.string t)).setLow (a := ⟨w.heap.size, 1, none⟩) (by show w.heap.size < cb + 1; omega) (.slice A2 (l).length cap2)).setLow (a := ⟨w.heap.size, 2, none⟩) (by show w.heap.size < cb + 1; omega) (.string m7))
            have Q3 := hide (((Q8.out.setCell (p := ⟨w.heap.size, 0, none⟩) (Nat.le_refl _) (.string t)).setCell (p := ⟨w.heap.size, 1, none⟩) (Nat.le_refl _) (.slice A2 (l).length cap2)).setCell (p := ⟨w.heap.size, 2, none⟩) (Nat.le_refl _) (.string m7))
            have SF : Hid (short 1001 l) := hide (fun x hx => Nat.le_trans (SH.out x hx) (by omega))
            go_wp2
            have hx0 := H3.out.c0
            have hx1 := H3.out.c1
            have hx2 := H3.out.c2
            exact bodyPost_ret (v := .agg #[.string t, .slice A2 (l).length cap2, .string m7]) (by simp [results, Try.results46, go_sem, hx0, hx1, hx2]) rfl ⟨t, A2, cap2, l, m7, (by omega), (by omega), (by omega), rfl, O3.out.sin SF.out, fun g hg => by have := (O3.out.row g hg).1; omega, Q3.out⟩
          · have x7b : (x == 7) = false := by rw [beq_eq_false_iff_ne]; exact x7
            have x8b : (x == 8) = false := by rw [beq_eq_false_iff_ne]; exact x8
            have x9b : (x == 9) = false := by rw [beq_eq_false_iff_ne]; exact x9
            have cb0 := C6.out.c0
            have cb1 := C6.out.c1
            have cb2 := C6.out.c2
            have rz0 := R6.out.c0
            have rz1 := R6.out.c1
            have rz2 := R6.out.c2
            have fz0 := R6.out.frozen 0
            have fz1 := R6.out.frozen 1
            have fz2 := R6.out.frozen 2
            have H3 := hide (((R6.out.s0 t).s1 A2 (l).length cap2).s2 m)
            have O3 := hide (((O6.out.setLow (a := ⟨w.heap.size, 0, none⟩) (by show w.heap.size < cb + 1; omega) (.string t)).setLow (a := ⟨w.heap.size, 1, none⟩) (by show w.heap.size < cb + 1; omega) (.slice A2 (l).length cap2)).setLow (a := ⟨w.heap.size, 2, none⟩) (by show w.heap.size < cb + 1; omega) (.string m))
            have Q3 := hide (((Q6.out.setCell (p := ⟨w.heap.size, 0, none⟩) (Nat.le_refl _) (.string t)).setCell (p := ⟨w.heap.size, 1, none⟩) (Nat.le_refl _) (.slice A2 (l).length cap2)).setCell (p := ⟨w.heap.size, 2, none⟩) (Nat.le_refl _) (.string m))
            have SF : Hid (short 1001 l) := hide (fun x hx => Nat.le_trans (SH.out x hx) (by omega))
            go_wp2
            have hx0 := H3.out.c0
            have hx1 := H3.out.c1
            have hx2 := H3.out.c2
            exact bodyPost_ret (v := .agg #[.string t, .slice A2 (l).length cap2, .string m]) (by simp [results, Try.results46, go_sem, hx0, hx1, hx2]) rfl ⟨t, A2, cap2, l, m, (by omega), (by omega), (by omega), rfl, O3.out.sin SF.out, fun g hg => by have := (O3.out.row g hg).1; omega, Q3.out⟩

theorem drawCommitText_any (A : Option Addr) (n cap : Nat) (w : World) (hn : n ≤ 1048576) (hin : CIn w w.heap.size A n) :
    Calls Try.prog 26 #[.slice A n cap] w (DrawnCom w) := by
  have b0 : Hid (Below w.heap.size w (w.alloc (.cells #[.string ⟨#[]⟩, .slice none 0 0, .string ⟨#[]⟩] 44))) := hide ((Below.refl _ _).alloc (Nat.le_refl _) _)
  have R0 : Hid (CB (w.alloc (.cells #[.string ⟨#[]⟩, .slice none 0 0, .string ⟨#[]⟩] 44)) w.heap.size ⟨#[]⟩ none 0 0 ⟨#[]⟩) := hide (CB.new w _ _ _ _ _ rfl)
  have z0 : (w.alloc (.cells #[.string ⟨#[]⟩, .slice none 0 0, .string ⟨#[]⟩] 44)).heap.size = w.heap.size + 1 := by simp
  go_enter Try.func26, Try.ntmps26
  go_wp2_with fail
  refine (drawCommitOk_any A n cap _ hn ((hin.keep b0.out).more b0.out.size)).mono ?_
  rintro e w1 ⟨t, A2, cap2, l, m, ht, hm, hl, rfl, si, hrow, b1⟩
  have R1 := hide (R0.out.all b1)
  have B1 := hide (b0.out.trans (b1.mono b0.out.size))
  have rz0 := R1.out.c0
  have rz1 := R1.out.c1
  have rz2 := R1.out.c2
  have fz0 := R1.out.frozen 0
  have fz1 := R1.out.frozen 1
  have fz2 := R1.out.frozen 2
  have H3 := hide (((R1.out.s0 t).s1 A2 l.length cap2).s2 m)
  have NE : ∀ g, rowOf A2 = some g → g ≠ w.heap.size := fun g hg => by have := hrow g hg; omega
  have SI := hide (((si.other (a := ⟨w.heap.size, 0, none⟩) NE (.string t)).other (a := ⟨w.heap.size, 1, none⟩) NE (.slice A2 l.length cap2)).other (a := ⟨w.heap.size, 2, none⟩) NE (.string m))
  have RW := hide hrow
  have Q3 := hide (((B1.out.setCell (p := ⟨w.heap.size, 0, none⟩) (Nat.le_refl _) (.string t)).setCell (p := ⟨w.heap.size, 1, none⟩) (Nat.le_refl _) (.slice A2 l.length cap2)).setCell (p := ⟨w.heap.size, 2, none⟩) (Nat.le_refl _) (.string m))
  clear si hrow b1 NE
  go_wp2
  have hx0 := H3.out.c0
  have hx1 := H3.out.c1
  have hx2 := H3.out.c2
  exact bodyPost_ret (v := .agg #[.string t, .slice A2 l.length cap2, .string m]) (by simp [results, Try.results26, go_sem, hx0, hx1, hx2]) rfl ⟨t, A2, cap2, l, m, ht, hm, hl, rfl, by simpa using SI.out, fun g hg => by have := RW.out g hg; omega, Q3.out⟩
end Go.Proofs.Ytmmeabfeehnajaa
