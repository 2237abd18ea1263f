/-
  laws.FnCommitTexts returns true whatever the code: a right commit comes back from its text; what is read, written again, has just its bytes. No conditions but that the two tables of the digest and the sentinel of the reader hold what the program's text lays (the card ties them).
-/
import Derived.Test.YtjbbdggckagphaaDoorJB
import Derived.Test.YtjbbdggckagphaaDoorJD
namespace Go.Proofs.YtjbbdggckagphaaDoor.LCommitTexts
open Go.RowKit Go.ChangeShapes Go.WideShapes Go.ChangeAt
open Go.ChangeMaps (open_string shut_string)
/-- a row of texts that came out -/
def SRow (w : World) (A : Option Addr) (l : List ByteArray) : Prop := SIn w w.heap.size A l
theorem SRow.below {w w' : World} {A : Option Addr} {l : List ByteArray} (h : SRow w A l) (hb : Below w.heap.size w w') : SRow w' A l := (SIn.below h hb).more hb.size
theorem nil_empty (l : List UInt8) : (l == []) = l.isEmpty := by cases l <;> rfl
theorem isEmpty_size {s : ByteArray} (h : 0 < s.size) : s.toList.isEmpty = false := by
  rw [Go.ByteArray.toList_eq]
  cases e : s.data.toList with
  | nil =>
    have : s.size = 0 := by rw [show s.size = s.data.toList.length by rfl, e]; rfl
    omega
  | cons a r => rfl
theorem rd_text {s : ByteArray} (h : rdOk s = true) : comTextS (rdC s).1 (rdC s).2.1 (rdC s).2.2 = s := by
  by_cases hx : ∃ c, isCom s c
  · obtain ⟨c, hc⟩ := hx
    rw [(rd_yes hc).2, comText_yes hc.1]
    exact hc.2
  · rw [(rd_no hx).1] at h
    cases h
theorem com_back {t m : ByteArray} {l : List ByteArray} (h : comB t l m = true) : rdOk (comTextS t l m) = true ∧ rdC (comTextS t l m) = (t, l, m) ∧ 0 < (comTextS t l m).size := by
  rw [comText_yes h]
  have hy := rd_yes (c := (t, l, m)) (s := textC t l m) ⟨h, rfl⟩
  refine ⟨hy.1, hy.2, ?_⟩
  unfold textC
  rw [ByteArray.size_append, ByteArray.size_append]
  have : (⟨#[10]⟩ : ByteArray).size = 1 := rfl
  omega
theorem rdOk_emptyC : rdOk ByteArray.empty = false := by
  by_cases hx : ∃ c, isCom ByteArray.empty c
  · obtain ⟨c, hc⟩ := hx
    have h := (com_back (t := c.1) (m := c.2.2) (l := c.2.1) hc.1).2.2
    rw [comText_yes hc.1, show textC c.1 c.2.1 c.2.2 = ByteArray.empty from hc.2] at h
    cases h
  · exact (rd_no hx).1

set_option maxRecDepth 100000 in
set_option maxHeartbeats 4000000 in
theorem walk (A : Option Addr) (n : Nat) (cap : Nat) (a : Addr) (w : World) (hl : n ≤ maxLen) (hin : CIn w w.heap.size A n) (hE : ErrC w a) :
    Calls Tryd.prog 3 #[.slice A n cap] w fun e w' => e = .returned (.bool true) ∧ Below w.heap.size w w' := by
  by_cases hbig : 1048576 < n
  · have d : decide (1048576 < n) = true := decide_eq_true hbig
    go_enter Tryd.func3, Tryd.ntmps3
    go_wp2_with (go_at_call 4; refine (big_any A n cap _ hl).mono ?_; rintro e w' ⟨rfl, rfl⟩)
    go_ret
    exact ⟨rfl, Below.refl _ _⟩
  have hn : n ≤ 1048576 := by omega
  have d : decide (1048576 < n) = false := decide_eq_false hbig
  have IN := hide hin
  have HE := hide hE
  have B0 : Hid (Below w.heap.size w w) := hide (Below.refl _ _)
  clear hin hE
  go_enter Tryd.func3, Tryd.ntmps3
  go_wp2_with fail
  refine (big_any A n cap w hl).mono ?_
  rintro e w' ⟨rfl, rfl⟩
  go_wp2_with fail
  refine (drawCommitText_any A n cap w hn IN.out).mono ?_
  rintro e w1 ⟨tC, AC, capC, lC, mC, htC, hmC, hlC, rfl, siC, _, b1⟩
  have bx := boxC_below w1 (.string tC) (.slice AC lC.length capC) (.string mC)
  have bo : BoxC _ w1.heap.size tC mC AC lC.length capC := boxC w1 tC mC AC lC.length capC
  obtain ⟨w2, hw2⟩ : ∃ W, W = w1.alloc (.cells #[.string tC, .slice AC lC.length capC, .string mC] 26) := ⟨_, rfl⟩
  rw [← hw2] at bx bo
  have bb := b1.trans (bx.mono b1.size)
  have ow : SRow w2 AC lC := SRow.below (w := w1) siC bx
  have B2 := hide (B0.out.trans (bb.mono B0.out.size))
  have C_2 := hide ow
  have Cb_2 := hide bo
  clear b1 bx bo bb ow siC B0
  have hnC : tC.size ≤ maxLen := by unfold maxLen; omega
  have hkC : mC.size ≤ maxLen := by unfold maxLen; omega
  have hhC : lC.length ≤ maxLen := by unfold maxLen; omega
  have q10 := Cb_2.out.c0
  rw [hw2] at q10
  have q11 := Cb_2.out.c1
  rw [hw2] at q11
  have q12 := Cb_2.out.c2
  rw [hw2] at q12
  go_wp2_with fail
  rw [← hw2]
  clear hw2
  refine ((implCommitText_any tC mC AC lC capC w2 hnC hkC hhC C_2.out)).mono ?_
  rintro e w3 ⟨rfl, b3⟩
  have B3 := hide (B2.out.trans (b3.mono B2.out.size))
  have C_3 := hide (C_2.out.below b3)
  have Cb_3 := hide (Cb_2.out.below b3)
  clear b3 B2 C_2 Cb_2
  go_wp2_with fail
  refine (drawCommitOk_any A n cap w3 hn ((IN.out.keep B3.out).more B3.out.size)).mono ?_
  rintro e w4 ⟨tX, AX, capX, lX, mX, htX, hmX, hlX, rfl, siX, _, b4⟩
  have bx := boxC_below w4 (.string tX) (.slice AX lX.length capX) (.string mX)
  have bo : BoxC _ w4.heap.size tX mX AX lX.length capX := boxC w4 tX mX AX lX.length capX
  obtain ⟨w5, hw5⟩ : ∃ W, W = w4.alloc (.cells #[.string tX, .slice AX lX.length capX, .string mX] 26) := ⟨_, rfl⟩
  rw [← hw5] at bx bo
  have bb := b4.trans (bx.mono b4.size)
  have ow : SRow w5 AX lX := SRow.below (w := w4) siX bx
  have B5 := hide (B3.out.trans (bb.mono B3.out.size))
  have C_5 := hide (C_3.out.below bb)
  have Cb_5 := hide (Cb_3.out.below bb)
  have X_5 := hide ow
  have Xb_5 := hide bo
  clear b4 bx bo bb ow siX B3 C_3 Cb_3
  have hnX : tX.size ≤ maxLen := by unfold maxLen; omega
  have hkX : mX.size ≤ maxLen := by unfold maxLen; omega
  have hhX : lX.length ≤ maxLen := by unfold maxLen; omega
  go_wp2_with fail
  rw [← hw5]
  clear hw5
  refine (drawReadCommit_any A n cap w5 hn ((IN.out.keep B5.out).more B5.out.size)).mono ?_
  rintro e w6 ⟨s, hs, rfl, b6⟩
  have B6 := hide (B5.out.trans (b6.mono B5.out.size))
  have C_6 := hide (C_5.out.below b6)
  have Cb_6 := hide (Cb_5.out.below b6)
  have X_6 := hide (X_5.out.below b6)
  have Xb_6 := hide (Xb_5.out.below b6)
  clear b6 B5 C_5 Cb_5 X_5 Xb_5
  obtain ⟨z10, z11, z12, z13⟩ := rd_sizes s
  have hsm : s.size ≤ maxLen := by unfold maxLen; omega
  go_wp2_with fail
  refine (implReadCommit_any s a w6 hsm (HE.out.below B6.out)).mono ?_
  rintro e w7 ⟨AY, capY, rfl, own7, b7⟩
  have bx := boxC_below w7 (.string (rdC s).1) (.slice AY (rdC s).2.1.length capY) (.string (rdC s).2.2)
  have bo : BoxC _ w7.heap.size (rdC s).1 (rdC s).2.2 AY (rdC s).2.1.length capY := boxC w7 (rdC s).1 (rdC s).2.2 AY (rdC s).2.1.length capY
  obtain ⟨w8, hw8⟩ : ∃ W, W = w7.alloc (.cells #[.string (rdC s).1, .slice AY (rdC s).2.1.length capY, .string (rdC s).2.2] 26) := ⟨_, rfl⟩
  rw [← hw8] at bx bo
  have ow := own7.below bx
  have bb := b7.trans (bx.mono b7.size)
  clear own7
  have B8 := hide (B6.out.trans (bb.mono B6.out.size))
  have C_8 := hide (C_6.out.below bb)
  have Cb_8 := hide (Cb_6.out.below bb)
  have X_8 := hide (X_6.out.below bb)
  have Xb_8 := hide (Xb_6.out.below bb)
  have Y_8 := hide (ow.more B6.out.size)
  have Yb_8 := hide bo
  clear b7 bx bo bb ow B6 C_6 Cb_6 X_6 Xb_6
  go_wp2_with fail
  rw [← hw8]
  clear hw8
  refine (specReadCommit_any s w8 (by omega)).mono ?_
  rintro e w9 ⟨AZ, capZ, rfl, own9, b9⟩
  have bx := boxC_below w9 (.string (rdC s).1) (.slice AZ (rdC s).2.1.length capZ) (.string (rdC s).2.2)
  have bo : BoxC _ w9.heap.size (rdC s).1 (rdC s).2.2 AZ (rdC s).2.1.length capZ := boxC w9 (rdC s).1 (rdC s).2.2 AZ (rdC s).2.1.length capZ
  obtain ⟨w10, hw10⟩ : ∃ W, W = w9.alloc (.cells #[.string (rdC s).1, .slice AZ (rdC s).2.1.length capZ, .string (rdC s).2.2] 26) := ⟨_, rfl⟩
  rw [← hw10] at bx bo
  have ow := own9.below bx
  have bb := b9.trans (bx.mono b9.size)
  clear own9
  have B10 := hide (B8.out.trans (bb.mono B8.out.size))
  have C_10 := hide (C_8.out.below bb)
  have Cb_10 := hide (Cb_8.out.below bb)
  have X_10 := hide (X_8.out.below bb)
  have Xb_10 := hide (Xb_8.out.below bb)
  have Y_10 := hide (Y_8.out.below bb)
  have Yb_10 := hide (Yb_8.out.below bb)
  have Z_10 := hide (ow.more B8.out.size)
  have Zb_10 := hide bo
  clear b9 bx bo bb ow B8 C_8 Cb_8 X_8 Xb_8 Y_8 Yb_8
  have e1 := eqS_yes (rfl : comTextS tC lC mC = comTextS tC lC mC)
  have e2 : (comB tX lX mX != comB tX lX mX) = false := by simp
  have e3 : (rdOk s != rdOk s) = false := by simp
  have RB := hide (fun h : rdOk s = true => rd_text h)
  have CYES : Hid (comB tC lC mC = true → rdOk (comTextS tC lC mC) = true ∧ rdC (comTextS tC lC mC) = (tC, lC, mC) ∧ 0 < (comTextS tC lC mC).size) := hide (fun h => com_back h)
  have CNO : Hid (comB tC lC mC = false → comTextS tC lC mC = ByteArray.empty) := hide (fun h => comText_no h)
  have hzC := comTextS_size tC mC lC
  go_wp2_with fail
  rw [← hw10]
  clear hw10
  cases hb : rdOk s
  · rw [hb] at e3
    clear RB
    have R1 : Hid (∀ u : Cls w10.heap.size w10, Calls Tryd.prog 11 #[.agg #[.string tC, .slice AC lC.length capC, .string mC]] u.wo fun e w' => e = .returned (.string (comTextS tC lC mC)) ∧ Below u.wo.heap.size u.wo w') := hide (fun u => specCommitText_any tC mC AC lC capC u.wo hnC hkC hhC (SRow.below C_10.out u.below))
    have R2 : Hid (∀ u : Cls w10.heap.size w10, Calls Tryd.prog 12 #[.agg #[.string tX, .slice AX lX.length capX, .string mX]] u.wo fun e w' => e = .returned (.bool (comB tX lX mX)) ∧ Below u.wo.heap.size u.wo w') := hide (fun u => implCommitOk_any tX mX AX lX capX u.wo hnX hkX hhX (SRow.below X_10.out u.below))
    have R3 : Hid (∀ u : Cls w10.heap.size w10, Calls Tryd.prog 13 #[.agg #[.string tX, .slice AX lX.length capX, .string mX]] u.wo fun e w' => e = .returned (.bool (comB tX lX mX)) ∧ Below u.wo.heap.size u.wo w') := hide (fun u => specCommitOk_any tX mX AX lX capX u.wo hnX hkX hhX (SRow.below X_10.out u.below))
    have R4 : Hid (∀ u : Cls w10.heap.size w10, Calls Tryd.prog 14 #[.agg #[.string (rdC s).1, .slice AY (rdC s).2.1.length capY, .string (rdC s).2.2], .agg #[.string (rdC s).1, .slice AZ (rdC s).2.1.length capZ, .string (rdC s).2.2]] u.wo fun e w' => e = .returned (.bool true) ∧ Below u.wo.heap.size u.wo w') := hide (fun u => sameCommit_same (rdC s).1 (rdC s).2.2 AY AZ (rdC s).2.1 capY capZ u.wo z11 ((Y_10.out.zin.below u.below).more u.below.size) ((Z_10.out.zin.below u.below).more u.below.size))
    have vC0 : ∀ u : Cls w10.heap.size w10, u.wo.cell? ⟨w1.heap.size, 0, none⟩ = some (.string tC) := cls_cell Cb_10.out.lt Cb_10.out.c0
    have vC1 : ∀ u : Cls w10.heap.size w10, u.wo.cell? ⟨w1.heap.size, 1, none⟩ = some (.slice AC lC.length capC) := cls_cell Cb_10.out.lt Cb_10.out.c1
    have vC2 : ∀ u : Cls w10.heap.size w10, u.wo.cell? ⟨w1.heap.size, 2, none⟩ = some (.string mC) := cls_cell Cb_10.out.lt Cb_10.out.c2
    have vX0 : ∀ u : Cls w10.heap.size w10, u.wo.cell? ⟨w4.heap.size, 0, none⟩ = some (.string tX) := cls_cell Xb_10.out.lt Xb_10.out.c0
    have vX1 : ∀ u : Cls w10.heap.size w10, u.wo.cell? ⟨w4.heap.size, 1, none⟩ = some (.slice AX lX.length capX) := cls_cell Xb_10.out.lt Xb_10.out.c1
    have vX2 : ∀ u : Cls w10.heap.size w10, u.wo.cell? ⟨w4.heap.size, 2, none⟩ = some (.string mX) := cls_cell Xb_10.out.lt Xb_10.out.c2
    have vY0 : ∀ u : Cls w10.heap.size w10, u.wo.cell? ⟨w7.heap.size, 0, none⟩ = some (.string (rdC s).1) := cls_cell Yb_10.out.lt Yb_10.out.c0
    have vY1 : ∀ u : Cls w10.heap.size w10, u.wo.cell? ⟨w7.heap.size, 1, none⟩ = some (.slice AY (rdC s).2.1.length capY) := cls_cell Yb_10.out.lt Yb_10.out.c1
    have vY2 : ∀ u : Cls w10.heap.size w10, u.wo.cell? ⟨w7.heap.size, 2, none⟩ = some (.string (rdC s).2.2) := cls_cell Yb_10.out.lt Yb_10.out.c2
    have vZ0 : ∀ u : Cls w10.heap.size w10, u.wo.cell? ⟨w9.heap.size, 0, none⟩ = some (.string (rdC s).1) := cls_cell Zb_10.out.lt Zb_10.out.c0
    have vZ1 : ∀ u : Cls w10.heap.size w10, u.wo.cell? ⟨w9.heap.size, 1, none⟩ = some (.slice AZ (rdC s).2.1.length capZ) := cls_cell Zb_10.out.lt Zb_10.out.c1
    have vZ2 : ∀ u : Cls w10.heap.size w10, u.wo.cell? ⟨w9.heap.size, 2, none⟩ = some (.string (rdC s).2.2) := cls_cell Zb_10.out.lt Zb_10.out.c2
    refine wp_region_cls (by kernel_rfl) (by kernel_rfl) w10.heap.size ?_
    repeat (go_big_quiet_step ((first | (go_at_call 11; exact cls_call (Nat.le_refl _) (R1.out _)) | (go_at_call 12; exact cls_call (Nat.le_refl _) (R2.out _)) | (go_at_call 13; exact cls_call (Nat.le_refl _) (R3.out _)) | (go_at_call 14; exact cls_call (Nat.le_refl _) (R4.out _)))))
    refine wpQuiet_nil ?_
    intro _ hw'
    obtain ⟨u, hw''⟩ := hw'
    subst hw''
    have bu := u.below
    obtain ⟨w11, hu⟩ : ∃ W, W = u.wo := ⟨_, rfl⟩
    rw [← hu] at bu ⊢
    clear hu
    have B11 := hide (B10.out.trans (bu.mono B10.out.size))
    have C_11 := hide (C_10.out.below bu)
    have Cb_11 := hide (Cb_10.out.below bu)
    have X_11 := hide (X_10.out.below bu)
    have Xb_11 := hide (Xb_10.out.below bu)
    have Y_11 := hide (Y_10.out.below bu)
    have Yb_11 := hide (Yb_10.out.below bu)
    have Z_11 := hide (Z_10.out.below bu)
    have Zb_11 := hide (Zb_10.out.below bu)
    clear bu R1 R2 R3 R4 vC0 vC1 vC2 vX0 vX1 vX2 vY0 vY1 vY2 vZ0 vZ1 vZ2 B10 C_10 Cb_10 X_10 Xb_10 Y_10 Yb_10 Z_10 Zb_10
    cases hc : comB tC lC mC
    · have E0 := hide (CNO.out hc)
      have OK0 : rdOk (comTextS tC lC mC) = false := by rw [E0.out, rdOk_emptyC]
      have g1 : ((comTextS tC lC mC).toList == ([] : List UInt8)) = true := by rw [E0.out, Go.ByteArray.toList_eq]; rfl
      have g2 : (comTextS tC lC mC).toList.isEmpty = true := by rw [E0.out, Go.ByteArray.toList_eq]; rfl
      have g3 := hide (rd_sizes (comTextS tC lC mC))
      clear E0
      generalize comTextS tC lC mC = st at *
      go_wp2_with fail
      refine (implReadCommit_any st a w11 (by unfold maxLen; omega) (HE.out.below B11.out)).mono ?_
      rintro e w12 ⟨AK, capK, rfl, own12, b12⟩
      have bx := boxC_below w12 (.string (rdC st).1) (.slice AK (rdC st).2.1.length capK) (.string (rdC st).2.2)
      have bo : BoxC _ w12.heap.size (rdC st).1 (rdC st).2.2 AK (rdC st).2.1.length capK := boxC w12 (rdC st).1 (rdC st).2.2 AK (rdC st).2.1.length capK
      obtain ⟨w13, hw13⟩ : ∃ W, W = w12.alloc (.cells #[.string (rdC st).1, .slice AK (rdC st).2.1.length capK, .string (rdC st).2.2] 26) := ⟨_, rfl⟩
      rw [← hw13] at bx bo
      have ow := own12.below bx
      have bb := b12.trans (bx.mono b12.size)
      clear own12
      have B13 := hide (B11.out.trans (bb.mono B11.out.size))
      have C_13 := hide (C_11.out.below bb)
      have Cb_13 := hide (Cb_11.out.below bb)
      have X_13 := hide (X_11.out.below bb)
      have Xb_13 := hide (Xb_11.out.below bb)
      have Y_13 := hide (Y_11.out.below bb)
      have Yb_13 := hide (Yb_11.out.below bb)
      have Z_13 := hide (Z_11.out.below bb)
      have Zb_13 := hide (Zb_11.out.below bb)
      have K_13 := hide (ow.more B11.out.size)
      have Kb_13 := hide bo
      clear b12 bx bo bb ow B11 C_11 Cb_11 X_11 Xb_11 Y_11 Yb_11 Z_11 Zb_11
      have HC := hide hc
      have q20 := Cb_13.out.c0
      rw [hw13] at q20
      have q21 := Cb_13.out.c1
      rw [hw13] at q21
      have q22 := Cb_13.out.c2
      rw [hw13] at q22
      go_wp2_with fail
      rw [← hw13]
      clear hw13
      have CO := (implCommitOk_any tC mC AC lC capC w13 hnC hkC hhC C_13.out)
      rw [hc] at CO
      refine CO.mono ?_
      rintro e w14 ⟨rfl, b14⟩
      have B14 := hide (B13.out.trans (b14.mono B13.out.size))
      have C_14 := hide (C_13.out.below b14)
      have Cb_14 := hide (Cb_13.out.below b14)
      have X_14 := hide (X_13.out.below b14)
      have Xb_14 := hide (Xb_13.out.below b14)
      have Y_14 := hide (Y_13.out.below b14)
      have Yb_14 := hide (Yb_13.out.below b14)
      have Z_14 := hide (Z_13.out.below b14)
      have Zb_14 := hide (Zb_13.out.below b14)
      have K_14 := hide (K_13.out.below b14)
      have Kb_14 := hide (Kb_13.out.below b14)
      clear CO b14 B13 C_13 Cb_13 X_13 Xb_13 Y_13 Yb_13 Z_13 Zb_13 K_13 Kb_13
      go_wp2_with fail
      go_ret
      exact ⟨rfl, B14.out⟩
    · obtain ⟨OK1, RC0, hpos⟩ := CYES.out hc
      have RC1 := hide RC0
      clear RC0
      have g1 : ((comTextS tC lC mC).toList == ([] : List UInt8)) = false := by rw [nil_empty]; exact isEmpty_size hpos
      have g2 := isEmpty_size hpos
      generalize comTextS tC lC mC = st at *
      go_wp2_with fail
      refine (implReadCommit_any st a w11 (by unfold maxLen; omega) (HE.out.below B11.out)).mono ?_
      rintro e w12 ⟨AK, capK, rfl, own12, b12⟩
      have bx := boxC_below w12 (.string (rdC st).1) (.slice AK (rdC st).2.1.length capK) (.string (rdC st).2.2)
      have bo : BoxC _ w12.heap.size (rdC st).1 (rdC st).2.2 AK (rdC st).2.1.length capK := boxC w12 (rdC st).1 (rdC st).2.2 AK (rdC st).2.1.length capK
      obtain ⟨w13, hw13⟩ : ∃ W, W = w12.alloc (.cells #[.string (rdC st).1, .slice AK (rdC st).2.1.length capK, .string (rdC st).2.2] 26) := ⟨_, rfl⟩
      rw [← hw13] at bx bo
      have ow := own12.below bx
      have bb := b12.trans (bx.mono b12.size)
      clear own12
      have B13 := hide (B11.out.trans (bb.mono B11.out.size))
      have C_13 := hide (C_11.out.below bb)
      have Cb_13 := hide (Cb_11.out.below bb)
      have X_13 := hide (X_11.out.below bb)
      have Xb_13 := hide (Xb_11.out.below bb)
      have Y_13 := hide (Y_11.out.below bb)
      have Yb_13 := hide (Yb_11.out.below bb)
      have Z_13 := hide (Z_11.out.below bb)
      have Zb_13 := hide (Zb_11.out.below bb)
      have K_13 := hide (ow.more B11.out.size)
      have Kb_13 := hide bo
      clear b12 bx bo bb ow B11 C_11 Cb_11 X_11 Xb_11 Y_11 Yb_11 Z_11 Zb_11
      have q20 := Cb_13.out.c0
      rw [hw13] at q20
      have q21 := Cb_13.out.c1
      rw [hw13] at q21
      have q22 := Cb_13.out.c2
      rw [hw13] at q22
      go_wp2_with fail
      rw [← hw13]
      clear hw13
      have CO := (implCommitOk_any tC mC AC lC capC w13 hnC hkC hhC C_13.out)
      rw [hc] at CO
      refine CO.mono ?_
      rintro e w14 ⟨rfl, b14⟩
      have B14 := hide (B13.out.trans (b14.mono B13.out.size))
      have C_14 := hide (C_13.out.below b14)
      have Cb_14 := hide (Cb_13.out.below b14)
      have X_14 := hide (X_13.out.below b14)
      have Xb_14 := hide (Xb_13.out.below b14)
      have Y_14 := hide (Y_13.out.below b14)
      have Yb_14 := hide (Yb_13.out.below b14)
      have Z_14 := hide (Z_13.out.below b14)
      have Zb_14 := hide (Zb_13.out.below b14)
      have K_14 := hide (K_13.out.below b14)
      have Kb_14 := hide (Kb_13.out.below b14)
      clear CO b14 B13 C_13 Cb_13 X_13 Xb_13 Y_13 Yb_13 Z_13 Zb_13 K_13 Kb_13
      have q30 := Cb_14.out.c0
      have q31 := Cb_14.out.c1
      have q32 := Cb_14.out.c2
      have q40 := Kb_14.out.c0
      have q41 := Kb_14.out.c1
      have q42 := Kb_14.out.c2
      have KZ : ZIn w14 w14.heap.size AK lC := by have := K_14.out.zin; rw [RC1.out] at this; exact this
      go_wp2_with fail
      have SC := sameCommit_same tC mC AK AC lC capK capC w14 hhC KZ C_14.out.2
      rw [RC1.out]
      refine SC.mono ?_
      rintro e w15 ⟨rfl, b15⟩
      have B15 := hide (B14.out.trans (b15.mono B14.out.size))
      have C_15 := hide (C_14.out.below b15)
      have Cb_15 := hide (Cb_14.out.below b15)
      have X_15 := hide (X_14.out.below b15)
      have Xb_15 := hide (Xb_14.out.below b15)
      have Y_15 := hide (Y_14.out.below b15)
      have Yb_15 := hide (Yb_14.out.below b15)
      have Z_15 := hide (Z_14.out.below b15)
      have Zb_15 := hide (Zb_14.out.below b15)
      have K_15 := hide (K_14.out.below b15)
      have Kb_15 := hide (Kb_14.out.below b15)
      clear SC b15 B14 C_14 Cb_14 X_14 Xb_14 Y_14 Yb_14 Z_14 Zb_14 K_14 Kb_14
      go_wp2_with fail
      go_ret
      exact ⟨rfl, B15.out⟩
  · have ce := RB.out hb
    have e5 := eqS_yes (rfl : s = s)
    rw [hb] at e3
    clear RB
    have R1 : Hid (∀ u : Cls w10.heap.size w10, Calls Tryd.prog 11 #[.agg #[.string tC, .slice AC lC.length capC, .string mC]] u.wo fun e w' => e = .returned (.string (comTextS tC lC mC)) ∧ Below u.wo.heap.size u.wo w') := hide (fun u => specCommitText_any tC mC AC lC capC u.wo hnC hkC hhC (SRow.below C_10.out u.below))
    have R2 : Hid (∀ u : Cls w10.heap.size w10, Calls Tryd.prog 12 #[.agg #[.string tX, .slice AX lX.length capX, .string mX]] u.wo fun e w' => e = .returned (.bool (comB tX lX mX)) ∧ Below u.wo.heap.size u.wo w') := hide (fun u => implCommitOk_any tX mX AX lX capX u.wo hnX hkX hhX (SRow.below X_10.out u.below))
    have R3 : Hid (∀ u : Cls w10.heap.size w10, Calls Tryd.prog 13 #[.agg #[.string tX, .slice AX lX.length capX, .string mX]] u.wo fun e w' => e = .returned (.bool (comB tX lX mX)) ∧ Below u.wo.heap.size u.wo w') := hide (fun u => specCommitOk_any tX mX AX lX capX u.wo hnX hkX hhX (SRow.below X_10.out u.below))
    have R4 : Hid (∀ u : Cls w10.heap.size w10, Calls Tryd.prog 14 #[.agg #[.string (rdC s).1, .slice AY (rdC s).2.1.length capY, .string (rdC s).2.2], .agg #[.string (rdC s).1, .slice AZ (rdC s).2.1.length capZ, .string (rdC s).2.2]] u.wo fun e w' => e = .returned (.bool true) ∧ Below u.wo.heap.size u.wo w') := hide (fun u => sameCommit_same (rdC s).1 (rdC s).2.2 AY AZ (rdC s).2.1 capY capZ u.wo z11 ((Y_10.out.zin.below u.below).more u.below.size) ((Z_10.out.zin.below u.below).more u.below.size))
    have R5 : Hid (∀ u : Cls w10.heap.size w10, Calls Tryd.prog 6 #[.agg #[.string (rdC s).1, .slice AY (rdC s).2.1.length capY, .string (rdC s).2.2]] u.wo fun e w' => e = .returned (.string s) ∧ Below u.wo.heap.size u.wo w') := hide (fun u => by
      have h := implCommitText_any (rdC s).1 (rdC s).2.2 AY (rdC s).2.1 capY u.wo z10 z12 z11 ⟨z13, (Y_10.out.zin.below u.below).more u.below.size⟩
      rw [ce] at h
      exact h)
    have vC0 : ∀ u : Cls w10.heap.size w10, u.wo.cell? ⟨w1.heap.size, 0, none⟩ = some (.string tC) := cls_cell Cb_10.out.lt Cb_10.out.c0
    have vC1 : ∀ u : Cls w10.heap.size w10, u.wo.cell? ⟨w1.heap.size, 1, none⟩ = some (.slice AC lC.length capC) := cls_cell Cb_10.out.lt Cb_10.out.c1
    have vC2 : ∀ u : Cls w10.heap.size w10, u.wo.cell? ⟨w1.heap.size, 2, none⟩ = some (.string mC) := cls_cell Cb_10.out.lt Cb_10.out.c2
    have vX0 : ∀ u : Cls w10.heap.size w10, u.wo.cell? ⟨w4.heap.size, 0, none⟩ = some (.string tX) := cls_cell Xb_10.out.lt Xb_10.out.c0
    have vX1 : ∀ u : Cls w10.heap.size w10, u.wo.cell? ⟨w4.heap.size, 1, none⟩ = some (.slice AX lX.length capX) := cls_cell Xb_10.out.lt Xb_10.out.c1
    have vX2 : ∀ u : Cls w10.heap.size w10, u.wo.cell? ⟨w4.heap.size, 2, none⟩ = some (.string mX) := cls_cell Xb_10.out.lt Xb_10.out.c2
    have vY0 : ∀ u : Cls w10.heap.size w10, u.wo.cell? ⟨w7.heap.size, 0, none⟩ = some (.string (rdC s).1) := cls_cell Yb_10.out.lt Yb_10.out.c0
    have vY1 : ∀ u : Cls w10.heap.size w10, u.wo.cell? ⟨w7.heap.size, 1, none⟩ = some (.slice AY (rdC s).2.1.length capY) := cls_cell Yb_10.out.lt Yb_10.out.c1
    have vY2 : ∀ u : Cls w10.heap.size w10, u.wo.cell? ⟨w7.heap.size, 2, none⟩ = some (.string (rdC s).2.2) := cls_cell Yb_10.out.lt Yb_10.out.c2
    have vZ0 : ∀ u : Cls w10.heap.size w10, u.wo.cell? ⟨w9.heap.size, 0, none⟩ = some (.string (rdC s).1) := cls_cell Zb_10.out.lt Zb_10.out.c0
    have vZ1 : ∀ u : Cls w10.heap.size w10, u.wo.cell? ⟨w9.heap.size, 1, none⟩ = some (.slice AZ (rdC s).2.1.length capZ) := cls_cell Zb_10.out.lt Zb_10.out.c1
    have vZ2 : ∀ u : Cls w10.heap.size w10, u.wo.cell? ⟨w9.heap.size, 2, none⟩ = some (.string (rdC s).2.2) := cls_cell Zb_10.out.lt Zb_10.out.c2
    refine wp_region_cls (by kernel_rfl) (by kernel_rfl) w10.heap.size ?_
    repeat (go_big_quiet_step ((first | (go_at_call 11; exact cls_call (Nat.le_refl _) (R1.out _)) | (go_at_call 12; exact cls_call (Nat.le_refl _) (R2.out _)) | (go_at_call 13; exact cls_call (Nat.le_refl _) (R3.out _)) | (go_at_call 14; exact cls_call (Nat.le_refl _) (R4.out _)) | (go_at_call 6; exact cls_call (Nat.le_refl _) (R5.out _)))))
    refine wpQuiet_nil ?_
    intro _ hw'
    obtain ⟨u, hw''⟩ := hw'
    subst hw''
    have bu := u.below
    obtain ⟨w11, hu⟩ : ∃ W, W = u.wo := ⟨_, rfl⟩
    rw [← hu] at bu ⊢
    clear hu
    have B11 := hide (B10.out.trans (bu.mono B10.out.size))
    have C_11 := hide (C_10.out.below bu)
    have Cb_11 := hide (Cb_10.out.below bu)
    have X_11 := hide (X_10.out.below bu)
    have Xb_11 := hide (Xb_10.out.below bu)
    have Y_11 := hide (Y_10.out.below bu)
    have Yb_11 := hide (Yb_10.out.below bu)
    have Z_11 := hide (Z_10.out.below bu)
    have Zb_11 := hide (Zb_10.out.below bu)
    clear bu R1 R2 R3 R4 R5 vC0 vC1 vC2 vX0 vX1 vX2 vY0 vY1 vY2 vZ0 vZ1 vZ2 B10 C_10 Cb_10 X_10 Xb_10 Y_10 Yb_10 Z_10 Zb_10
    cases hc : comB tC lC mC
    · have E0 := hide (CNO.out hc)
      have OK0 : rdOk (comTextS tC lC mC) = false := by rw [E0.out, rdOk_emptyC]
      have g1 : ((comTextS tC lC mC).toList == ([] : List UInt8)) = true := by rw [E0.out, Go.ByteArray.toList_eq]; rfl
      have g2 : (comTextS tC lC mC).toList.isEmpty = true := by rw [E0.out, Go.ByteArray.toList_eq]; rfl
      have g3 := hide (rd_sizes (comTextS tC lC mC))
      clear E0
      generalize comTextS tC lC mC = st at *
      go_wp2_with fail
      refine (implReadCommit_any st a w11 (by unfold maxLen; omega) (HE.out.below B11.out)).mono ?_
      rintro e w12 ⟨AK, capK, rfl, own12, b12⟩
      have bx := boxC_below w12 (.string (rdC st).1) (.slice AK (rdC st).2.1.length capK) (.string (rdC st).2.2)
      have bo : BoxC _ w12.heap.size (rdC st).1 (rdC st).2.2 AK (rdC st).2.1.length capK := boxC w12 (rdC st).1 (rdC st).2.2 AK (rdC st).2.1.length capK
      obtain ⟨w13, hw13⟩ : ∃ W, W = w12.alloc (.cells #[.string (rdC st).1, .slice AK (rdC st).2.1.length capK, .string (rdC st).2.2] 26) := ⟨_, rfl⟩
      rw [← hw13] at bx bo
      have ow := own12.below bx
      have bb := b12.trans (bx.mono b12.size)
      clear own12
      have B13 := hide (B11.out.trans (bb.mono B11.out.size))
      have C_13 := hide (C_11.out.below bb)
      have Cb_13 := hide (Cb_11.out.below bb)
      have X_13 := hide (X_11.out.below bb)
      have Xb_13 := hide (Xb_11.out.below bb)
      have Y_13 := hide (Y_11.out.below bb)
      have Yb_13 := hide (Yb_11.out.below bb)
      have Z_13 := hide (Z_11.out.below bb)
      have Zb_13 := hide (Zb_11.out.below bb)
      have K_13 := hide (ow.more B11.out.size)
      have Kb_13 := hide bo
      clear b12 bx bo bb ow B11 C_11 Cb_11 X_11 Xb_11 Y_11 Yb_11 Z_11 Zb_11
      have HC := hide hc
      have q20 := Cb_13.out.c0
      rw [hw13] at q20
      have q21 := Cb_13.out.c1
      rw [hw13] at q21
      have q22 := Cb_13.out.c2
      rw [hw13] at q22
      go_wp2_with fail
      rw [← hw13]
      clear hw13
      have CO := (implCommitOk_any tC mC AC lC capC w13 hnC hkC hhC C_13.out)
      rw [hc] at CO
      refine CO.mono ?_
      rintro e w14 ⟨rfl, b14⟩
      have B14 := hide (B13.out.trans (b14.mono B13.out.size))
      have C_14 := hide (C_13.out.below b14)
      have Cb_14 := hide (Cb_13.out.below b14)
      have X_14 := hide (X_13.out.below b14)
      have Xb_14 := hide (Xb_13.out.below b14)
      have Y_14 := hide (Y_13.out.below b14)
      have Yb_14 := hide (Yb_13.out.below b14)
      have Z_14 := hide (Z_13.out.below b14)
      have Zb_14 := hide (Zb_13.out.below b14)
      have K_14 := hide (K_13.out.below b14)
      have Kb_14 := hide (Kb_13.out.below b14)
      clear CO b14 B13 C_13 Cb_13 X_13 Xb_13 Y_13 Yb_13 Z_13 Zb_13 K_13 Kb_13
      go_wp2_with fail
      go_ret
      exact ⟨rfl, B14.out⟩
    · obtain ⟨OK1, RC0, hpos⟩ := CYES.out hc
      have RC1 := hide RC0
      clear RC0
      have g1 : ((comTextS tC lC mC).toList == ([] : List UInt8)) = false := by rw [nil_empty]; exact isEmpty_size hpos
      have g2 := isEmpty_size hpos
      generalize comTextS tC lC mC = st at *
      go_wp2_with fail
      refine (implReadCommit_any st a w11 (by unfold maxLen; omega) (HE.out.below B11.out)).mono ?_
      rintro e w12 ⟨AK, capK, rfl, own12, b12⟩
      have bx := boxC_below w12 (.string (rdC st).1) (.slice AK (rdC st).2.1.length capK) (.string (rdC st).2.2)
      have bo : BoxC _ w12.heap.size (rdC st).1 (rdC st).2.2 AK (rdC st).2.1.length capK := boxC w12 (rdC st).1 (rdC st).2.2 AK (rdC st).2.1.length capK
      obtain ⟨w13, hw13⟩ : ∃ W, W = w12.alloc (.cells #[.string (rdC st).1, .slice AK (rdC st).2.1.length capK, .string (rdC st).2.2] 26) := ⟨_, rfl⟩
      rw [← hw13] at bx bo
      have ow := own12.below bx
      have bb := b12.trans (bx.mono b12.size)
      clear own12
      have B13 := hide (B11.out.trans (bb.mono B11.out.size))
      have C_13 := hide (C_11.out.below bb)
      have Cb_13 := hide (Cb_11.out.below bb)
      have X_13 := hide (X_11.out.below bb)
      have Xb_13 := hide (Xb_11.out.below bb)
      have Y_13 := hide (Y_11.out.below bb)
      have Yb_13 := hide (Yb_11.out.below bb)
      have Z_13 := hide (Z_11.out.below bb)
      have Zb_13 := hide (Zb_11.out.below bb)
      have K_13 := hide (ow.more B11.out.size)
      have Kb_13 := hide bo
      clear b12 bx bo bb ow B11 C_11 Cb_11 X_11 Xb_11 Y_11 Yb_11 Z_11 Zb_11
      have q20 := Cb_13.out.c0
      rw [hw13] at q20
      have q21 := Cb_13.out.c1
      rw [hw13] at q21
      have q22 := Cb_13.out.c2
      rw [hw13] at q22
      go_wp2_with fail
      rw [← hw13]
      clear hw13
      have CO := (implCommitOk_any tC mC AC lC capC w13 hnC hkC hhC C_13.out)
      rw [hc] at CO
      refine CO.mono ?_
      rintro e w14 ⟨rfl, b14⟩
      have B14 := hide (B13.out.trans (b14.mono B13.out.size))
      have C_14 := hide (C_13.out.below b14)
      have Cb_14 := hide (Cb_13.out.below b14)
      have X_14 := hide (X_13.out.below b14)
      have Xb_14 := hide (Xb_13.out.below b14)
      have Y_14 := hide (Y_13.out.below b14)
      have Yb_14 := hide (Yb_13.out.below b14)
      have Z_14 := hide (Z_13.out.below b14)
      have Zb_14 := hide (Zb_13.out.below b14)
      have K_14 := hide (K_13.out.below b14)
      have Kb_14 := hide (Kb_13.out.below b14)
      clear CO b14 B13 C_13 Cb_13 X_13 Xb_13 Y_13 Yb_13 Z_13 Zb_13 K_13 Kb_13
      have q30 := Cb_14.out.c0
      have q31 := Cb_14.out.c1
      have q32 := Cb_14.out.c2
      have q40 := Kb_14.out.c0
      have q41 := Kb_14.out.c1
      have q42 := Kb_14.out.c2
      have KZ : ZIn w14 w14.heap.size AK lC := by have := K_14.out.zin; rw [RC1.out] at this; exact this
      go_wp2_with fail
      have SC := sameCommit_same tC mC AK AC lC capK capC w14 hhC KZ C_14.out.2
      rw [RC1.out]
      refine SC.mono ?_
      rintro e w15 ⟨rfl, b15⟩
      have B15 := hide (B14.out.trans (b15.mono B14.out.size))
      have C_15 := hide (C_14.out.below b15)
      have Cb_15 := hide (Cb_14.out.below b15)
      have X_15 := hide (X_14.out.below b15)
      have Xb_15 := hide (Xb_14.out.below b15)
      have Y_15 := hide (Y_14.out.below b15)
      have Yb_15 := hide (Yb_14.out.below b15)
      have Z_15 := hide (Z_14.out.below b15)
      have Zb_15 := hide (Zb_14.out.below b15)
      have K_15 := hide (K_14.out.below b15)
      have Kb_15 := hide (Kb_14.out.below b15)
      clear SC b15 B14 C_14 Cb_14 X_14 Xb_14 Y_14 Yb_14 Z_14 Zb_14 K_14 Kb_14
      go_wp2_with fail
      go_ret
      exact ⟨rfl, B15.out⟩

set_option maxRecDepth 100000 in
theorem contract (H : Type) (enc : TypeId × Value → H) (W : World) (base : Nat) (args : Array Value) (ds gs : List (DataW H)) (before : List MemPlace)
    (hval0 : ∀ (j : Nat) t v, Tryd.f3.params[j]? = some t → args[j]? = some v → Value.okWide Tryd.prog W .any base t v)
    (hW : DataW.Whole enc Tryd.prog Tryd.f3.params.toList Rows.fnCommitTextsSpec.vars false W args.toList ds gs before) (hL : laidMetH Tryd.prog Rows.fnCommitTextsRow.laid W) :
    Calls Tryd.prog 3 args W fun e W' => ∃ v, e = .returned v ∧ Rows.fnCommitTextsSpec.post enc Tryd.prog Tryd.f3 false true false false W args v W' := by
  have hval : ∀ (j : Nat) t v, Tryd.f3.params[j]? = some t → args[j]? = some v → Value.okWide Tryd.prog W .any base t v := hval0
  obtain ⟨a, hT, hvar⟩ := errs_of hL
  have hW' := hW
  obtain ⟨p, q, hA0, hV0, rfl, hfz, hnd⟩ := hW
  have hA : DataW.TrodAll enc Tryd.prog W 0 (fun _ => true) true Tryd.f3.params.toList args.toList ds p := hA0
  have hV : DataW.TrodVars enc Tryd.prog W (fun _ => true) ["loop.example/g00652/impl.errNoCommit"] gs q := hV0
  obtain ⟨rfl, rfl⟩ := hV.unique (vars_read1 enc gErr tErr Tryd.underlying38 hvar trivial _)
  rw [Tryd.params3] at hA hval
  obtain ⟨v0, vs0, d0, ds0, p0, q0, hargs, rfl, rfl, h0, r0⟩ := trodAll_cons hA
  obtain ⟨rfl, rfl, rfl⟩ := trodAll_nil r0
  obtain rfl : args = #[v0] := by cases args; simp_all
  obtain ⟨A0, n0, cap0, rfl⟩ := okWide_slice Tryd.underlying22 (hval 0 22 v0 rfl rfl)
  have lt0 : ∀ x ∈ p0, x.block < W.heap.size := by obtain ⟨m, hm⟩ := h0; exact DataW.trod_lt m _ _ _ hm
  obtain ⟨l0, rfl, hl0, hin0⟩ := open_code h0
  clear hA0 hval0
  refine (walk A0 n0 cap0 a W hl0 hin0 hT).mono fun e W' ⟨he, bel⟩ => ?_
  subst he
  exact ⟨_, rfl, _, _, _, [], _, _, hW', trodAll_mk1 (shut_bool Tryd.underlying4 _), (trodAll_cons_mk (Below.trod laidOut (by kernel_rfl) (of_decide_eq_true (by kernel_rfl)) h0 bel lt0) trodAll_mk0), vars_read1 enc gErr tErr Tryd.underlying38 (var?_below bel gErr (var_lt gErr hvar) hvar) trivial _, bel.frame _, fun h => by cases h⟩

/-- a world for the witness: the variables hold what their initialisers lay -/
noncomputable def laidWorld (os : Os) : World := layAll (World.holding Tryd.prog os ⟨#[], #[], []⟩)
theorem laid_met (os : Os) : laidMetH Tryd.prog Rows.fnCommitTextsRow.laid ((laidWorld os).forCall (fun _ _ => 0) ⟨#[], #[.slice none 0 0], []⟩).memory :=
  laidMetH_of_parts (laidMet_of_run' 8 (by kernel_rfl) (by kernel_rfl)) (by kernel_rfl)
theorem reads (os : Os) {H : Type} (enc : TypeId × Value → H) : ∃ x, DataW.whole enc Tryd.prog ((laidWorld os).forCall (fun _ _ => 0) ⟨#[], #[.slice none 0 0], []⟩).memory Tryd.f3.params.toList Rows.fnCommitTextsSpec.vars false (#[.slice none 0 0] : Array Value).toList 8 = some x :=
  Option.isSome_iff_exists.1 (by kernel_rfl)
set_option maxRecDepth 100000 in
theorem lifted (os : Os) (started : os.Started) (H : Type) (enc : TypeId × Value → H) (F : Stop.Interp) :
    ReturnsInHanded {} Tryd.checked os 3 .any ((OpenSpec.ofChange Rows.fnCommitTextsSpec).preRow enc Tryd.prog Tryd.f3 Rows.fnCommitTextsRow.domain false Rows.fnCommitTextsRow.laid) (((OpenSpec.ofChange Rows.fnCommitTextsSpec).at F).post enc Tryd.prog Tryd.f3 false true false false) := by
  obtain ⟨x, hx⟩ := reads os enc
  refine returnsInHanded_of_row (C := Tryd.checked) (s := OpenSpec.ofChange Rows.fnCommitTextsSpec) own started (by kernel_rfl) Tryd.func3
    (witness_row_at (enc := enc) (C := Tryd.checked) false (laidWorld os) #[.slice none 0 0] rfl (by kernel_rfl) (by kernel_rfl) (by kernel_rfl)
      (OpenSpec.preRow_of_cond 8 hx rfl (fun k hk => by cases hk) (by kernel_rfl) (laid_met os))) ?_
  intro W base args ds gs before hval hW _ _ _ hL _ _
  exact contract H enc W base args ds gs before hval hW hL
theorem said : Rows.FnCommitTextsSaid :=
  OpenClaim.holds_of_cond 3 Tryd.f3 rfl rfl rfl rfl rfl rfl rfl ⟨rfl, rfl, rfl, rfl, rfl⟩ rfl rfl rfl rfl rfl (by kernel_rfl) Tryd.func3 (by kernel_rfl)
    (of_decide_eq_true (by kernel_rfl)) (by unfold Func.isWrapper; first | (rw [if_pos (by decide +kernel)]; kernel_rfl) | (rw [if_neg (by decide +kernel)]; exact ⟨rfl, rfl⟩))
    (fun os started H enc _ F => by rw [OpenClaim.pre_eq_preRow]; exact lifted os started H enc F)
theorem plain (f : FuncId) (fn : Func) (hf : Tryd.pinned.checked.prog.funcNamed "loop.example/g00652/laws.FnCommitTexts" = some f) (hfn : Tryd.pinned.checked.prog.funcs[f]? = some fn) :
    false = Tryd.pinned.checked.prog.looks [] ∧ ∀ (j : Nat) t, fn.params[j]? = some t → Tryd.pinned.checked.prog.wantsStandIn t = false := by
  obtain rfl : f = 3 := Option.some.inj ((show Tryd.prog.funcNamed "loop.example/g00652/laws.FnCommitTexts" = some 3 by kernel_rfl).symm.trans hf) |>.symm
  obtain rfl : fn = Tryd.f3 := (Option.some.inj (Tryd.func3.symm.trans hfn)).symm
  refine ⟨by kernel_rfl, fun j t ht => ?_⟩
  rw [Tryd.params3] at ht
  have hm := Array.mem_of_getElem? ht
  simp only [List.mem_toArray, List.mem_cons, List.not_mem_nil, or_false] at hm
  subst hm
  exact (show Tryd.prog.wantsStandIn 22 = false by kernel_rfl)
theorem card : Rows.FnCommitTextsCardSaid :=
  Claim7.holds_tied_plain_at .later [] _ _ _ _ said (fun _ h => by cases h) (by kernel_rfl) (fun _ h => by cases h) fnCommitTexts_row_tie rfl ⟨rfl, rfl⟩ (by kernel_rfl) rfl plain (by kernel_rfl)

end Go.Proofs.YtjbbdggckagphaaDoor.LCommitTexts
namespace Go.Proofs.YtjbbdggckagphaaDoor
theorem fnCommitTexts_proved : Rows.FnCommitTextsCardSaid := LCommitTexts.card
end Go.Proofs.YtjbbdggckagphaaDoor
