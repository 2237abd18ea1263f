/-
  What the laws' own helpers on disks answer: szFileS with the sum, szDisk, toDisk, eqDisk; spec.ReadFile.
-/
import Derived.Test.YtblggbihnglipaaDLwO
import Derived.Test.YtblggbihnglipaaLSz
import Derived.Test.YtblggbihnglipaaDDkI
namespace Go.Proofs.Ytblggbihnglipaa
open Go.RowKit

set_option maxRecDepth 100000 in
set_option maxHeartbeats 1000000 in
theorem szFileS_sum (A : Option Addr) (l : List Pr) (cap : Nat) (left : Int) (w : World) (hl : l.length ≤ maxLen) (hin : PIn w w.heap.size A l) (h0 : 0 ≤ left) (h1 : left ≤ 1048576) :
    Calls Try.prog 39 #[.slice A l.length cap, .int .i64 left] w fun e w' => (e = .returned (.int .i64 (-1)) ∨ ∃ r : Int, 0 ≤ r ∧ r + l.length ≤ left ∧ (sumF l : Int) ≤ left ∧ e = .returned (.int .i64 r)) ∧ Below w.heap.size w w' := by
  unfold maxLen at hl
  have FIN : Hid (sumF (l.take l.length) = sumF l) := hide (by rw [List.take_length])
  obtain ⟨n, hn⟩ : ∃ n, l.length = n := ⟨_, rfl⟩
  have HN := hide hn
  rw [hn] at hl FIN ⊢
  clear hn
  by_cases c1 : left - n < 0
  · go_enter Try.func39, Try.ntmps39
    go_wp2
    go_ret
    exact ⟨.inl rfl, Below.refl _ _⟩
  · go_enter Try.func39, Try.ntmps39
    go_wp2
    go_loopw [1, 5] (fun r i wr => ∃ (k : Nat) (q : Int), k ≤ n ∧ i = .int .i64 k ∧ r = .int .i64 q ∧ 0 ≤ q ∧ q ≤ left - n ∧ Hid (q + (sumF (l.take k) : Int) ≤ left - n) ∧ Hid (Below w.heap.size w wr)) (fun _ i _ => n - (intOf i).toNat)
    case atStart => exact ⟨0, left - n, Nat.zero_le _, rfl, rfl, by omega, by omega, hide (by show left - n + ((sumF [] : Nat) : Int) ≤ left - n; rw [sumF_nil]; omega), Below.refl _ w⟩
    case round =>
      obtain ⟨k, q, hk, rfl, rfl, hq0, hq1, E, Q⟩ := hrel
      by_cases hlt : k < n
      · have hin2 := hin.below Q.out
        obtain ⟨b, off, rfl, hbB, hc⟩ := hin2.2 (by rw [HN.out]; omega)
        have hkl : k < l.length := by rw [HN.out]; omega
        obtain ⟨c1, c2⟩ := hc k hkl
        obtain ⟨s1, s2⟩ := hin2.1 k hkl
        have ES := hide (sumF_take_next hkl)
        generalize (l[k]'hkl).1 = s at *
        generalize (l[k]'hkl).2 = v at *
        clear hin hin2 hc FIN
        go_wp2_with fail
        refine (szPair_each s v q _ s1 s2 hq0 (by omega)).mono ?_
        rintro e w' ⟨hr, hb⟩
        rcases hr with rfl | ⟨r, hr0, hr1, rfl⟩
        · go_wp2
          go_ret
          exact ⟨.inl rfl, Q.out.trans (hb.mono Q.out.size)⟩
        · have E2 : Hid (r + (sumF (l.take (k + 1)) : Int) ≤ left - n) := hide (by rw [ES.out]; have := E.out; push_cast; omega)
          have hr2 : r ≤ left - n := by omega
          clear hr1 ES E
          go_wp2
          go_roundw
          case rel => exact ⟨k + 1, r, by omega, by go_num, rfl, hr0, hr2, E2, Q.out.trans (hb.mono Q.out.size)⟩
          case measure => simp [intOf]; omega
      · have ek : k = n := by omega
        have EE : Hid ((sumF l : Int) ≤ left) := hide (by have := E.out; rw [ek, FIN.out] at this; omega)
        clear ek E FIN
        go_wp2
        go_ret
        exact ⟨.inr ⟨q, hq0, by omega, EE.out, rfl⟩, Q.out⟩
set_option maxRecDepth 100000 in
set_option maxHeartbeats 1000000 in
theorem szDisk_any (A1 A2 A3 : Option Addr) (d : Dk) (c1 c2 c3 : Nat) (left : Int) (w : World) (hl1 : d.1.length ≤ maxLen) (hl2 : d.2.1.length ≤ maxLen) (hl3 : d.2.2.length ≤ maxLen) (hin : DkIn w w.heap.size A1 A2 A3 d) (h0 : 0 ≤ left) (h1 : left ≤ 1048576) :
    Calls Try.prog 12 #[.agg #[.slice A1 d.1.length c1, .slice A2 d.2.1.length c2, .slice A3 d.2.2.length c3], .int .i64 left] w fun e w' => (e = .returned (.int .i64 (-1)) ∨ ∃ r : Int, 0 ≤ r ∧ r ≤ left ∧ dskS d ∧ e = .returned (.int .i64 r)) ∧ Below w.heap.size w w' := by
  obtain ⟨lv, sf, os⟩ := d
  obtain ⟨i1, i2, i3⟩ := hin
  dsimp only at hl1 hl2 hl3 i1 i2 i3 ⊢
  have XR := heap_alloc_new w (.cells #[.slice A1 lv.length c1, .slice A2 sf.length c2, .slice A3 os.length c3] 25)
  have b0 := (Below.refl w.heap.size w).alloc (Nat.le_refl _) (.cells #[.slice A1 lv.length c1, .slice A2 sf.length c2, .slice A3 os.length c3] 25)
  obtain ⟨w0, hw0⟩ : ∃ W, w.alloc (.cells #[.slice A1 lv.length c1, .slice A2 sf.length c2, .slice A3 os.length c3] 25) = W := ⟨_, rfl⟩
  rw [hw0] at XR b0
  have hlt : w.heap.size < w0.heap.size := (Array.getElem?_eq_some_iff.1 XR).1
  have B0 := hide b0
  have XB : Hid (∀ W, Below w0.heap.size w0 W → W.heap[w.heap.size]? = some (.cells #[.slice A1 lv.length c1, .slice A2 sf.length c2, .slice A3 os.length c3] 25 (0, 0))) := hide (fun W h => heap_at XR h hlt)
  have WB : Hid (∀ W, Below w0.heap.size w0 W → Below w.heap.size w W) := hide (fun W h => B0.out.trans (h.mono B0.out.size))
  have S1 : Hid (∀ W (q : Int), Below w0.heap.size w0 W → 0 ≤ q → q ≤ 1048576 → Calls Try.prog 39 #[.slice A1 lv.length c1, .int .i64 q] W fun e w' => (e = .returned (.int .i64 (-1)) ∨ ∃ r : Int, 0 ≤ r ∧ r + lv.length ≤ q ∧ (sumF lv : Int) ≤ q ∧ e = .returned (.int .i64 r)) ∧ Below W.heap.size W w') := hide (fun W q h a b => szFileS_sum A1 lv c1 q W hl1 ((i1.below (WB.out W h)).more (WB.out W h).size) a b)
  have S2 : Hid (∀ W (q : Int), Below w0.heap.size w0 W → 0 ≤ q → q ≤ 1048576 → Calls Try.prog 39 #[.slice A2 sf.length c2, .int .i64 q] W fun e w' => (e = .returned (.int .i64 (-1)) ∨ ∃ r : Int, 0 ≤ r ∧ r + sf.length ≤ q ∧ (sumF sf : Int) ≤ q ∧ e = .returned (.int .i64 r)) ∧ Below W.heap.size W w') := hide (fun W q h a b => szFileS_sum A2 sf c2 q W hl2 ((i2.below (WB.out W h)).more (WB.out W h).size) a b)
  have S3 : Hid (∀ W (q : Int), Below w0.heap.size w0 W → 0 ≤ q → q ≤ 1048576 → Calls Try.prog 40 #[.slice A3 os.length c3, .int .i64 q] W fun e w' => (e = .returned (.int .i64 (-1)) ∨ ∃ r : Int, 0 ≤ r ∧ r + os.length ≤ q ∧ (∀ o ∈ os, opS o) ∧ e = .returned (.int .i64 r)) ∧ Below W.heap.size W w') := hide (fun W q h a b => szDOpS_each A3 os c3 q W hl3 ((i3.below (WB.out W h)).more (WB.out W h).size) a b)
  have R0 : Hid (Below w0.heap.size w0 w0) := hide (Below.refl _ _)
  have FIN : Hid (∀ r1 r2 r3 : Int, 0 ≤ r1 → 0 ≤ r2 → 0 ≤ r3 → r1 + lv.length ≤ left → r2 + sf.length ≤ r1 → r3 + os.length ≤ r2 → (sumF lv : Int) ≤ left → (sumF sf : Int) ≤ r1 → (∀ o ∈ os, opS o) → dskS (lv, sf, os) ∧ r3 ≤ left) := hide (fun r1 r2 r3 a b c e f g i j k => ⟨⟨by dsimp only; omega, by dsimp only; omega, by dsimp only; omega, by dsimp only; omega, by dsimp only; omega, k⟩, by omega⟩)
  have x0 := cell_of_row _ _ 0 _ _ _ XR
  clear i1 i2 i3 XR b0 hlt hl1 hl2 hl3
  generalize lv.length = n1 at *
  generalize sf.length = n2 at *
  generalize os.length = n3 at *
  go_enter Try.func12, Try.ntmps12
  go_wp2_with fail
  clear hw0 x0
  refine (S1.out _ _ R0.out h0 h1).mono ?_
  rintro e w1 ⟨hr, b1⟩
  have R1 := hide (R0.out.trans (b1.mono R0.out.size))
  have BB1 := hide (WB.out _ R1.out)
  have x1 := cell_of_row _ _ 1 _ _ _ (XB.out _ R1.out)
  clear b1 S1 R0
  rcases hr with rfl | ⟨r1, p1, q1, s1, rfl⟩
  · go_wp2
    go_ret
    exact ⟨.inl rfl, BB1.out⟩
  go_wp2_with fail
  refine (S2.out _ _ R1.out p1 (by omega)).mono ?_
  rintro e w2 ⟨hr, b2⟩
  have R2 := hide (R1.out.trans (b2.mono R1.out.size))
  have BB2 := hide (WB.out _ R2.out)
  have x2 := cell_of_row _ _ 2 _ _ _ (XB.out _ R2.out)
  clear b2 S2 R1 x1 BB1
  rcases hr with rfl | ⟨r2, p2, q2, s2, rfl⟩
  · go_wp2
    go_ret
    exact ⟨.inl rfl, BB2.out⟩
  go_wp2_with fail
  refine (S3.out _ _ R2.out p2 (by omega)).mono ?_
  rintro e w3 ⟨hr, b3⟩
  have R3 := hide (R2.out.trans (b3.mono R2.out.size))
  have BB3 := hide (WB.out _ R3.out)
  clear b3 S3 R2 x2 BB2
  rcases hr with rfl | ⟨r3, p3, q3, s3, rfl⟩
  · go_wp2
    go_ret
    exact ⟨.inl rfl, BB3.out⟩
  have F := hide (FIN.out r1 r2 r3 p1 p2 p3 q1 q2 q3 s1 s2 s3)
  clear FIN q1 q2 q3 s1 s2 s3
  go_wp2
  go_ret
  exact ⟨.inr ⟨r3, p3, F.out.2, F.out.1, rfl⟩, BB3.out⟩
noncomputable def eqK (d d' : Dk) : Bool := eqL d.1 d'.1 && (eqL d.2.1 d'.2.1 && eqDL d.2.2 d'.2.2)
theorem eqK_self (d : Dk) : eqK d d = true := by unfold eqK; rw [eqL_yes rfl, eqL_yes rfl, eqDL_yes rfl]; rfl
set_option maxRecDepth 100000 in
set_option maxHeartbeats 1000000 in
theorem eqDisk_any (A1 A2 A3 A1' A2' A3' : Option Addr) (d d' : Dk) (c1 c2 c3 c1' c2' c3' : Nat) (w : World) (hl : dskS d) (hl' : dskS d') (hin : DkIn w w.heap.size A1 A2 A3 d) (hin' : DkIn w w.heap.size A1' A2' A3' d') :
    Calls Try.prog 16 #[.agg #[.slice A1 d.1.length c1, .slice A2 d.2.1.length c2, .slice A3 d.2.2.length c3], .agg #[.slice A1' d'.1.length c1', .slice A2' d'.2.1.length c2', .slice A3' d'.2.2.length c3']] w fun e w' => e = .returned (.bool (eqK d d')) ∧ Below w.heap.size w w' := by
  obtain ⟨lv, sf, os⟩ := d
  obtain ⟨lv', sf', os'⟩ := d'
  obtain ⟨i1, i2, i3⟩ := hin
  obtain ⟨j1, j2, j3⟩ := hin'
  obtain ⟨g1, g2, g3, _⟩ := hl
  obtain ⟨k1, k2, k3, _⟩ := hl'
  dsimp only at g1 g2 g3 k1 k2 k3 i1 i2 i3 j1 j2 j3 ⊢
  have XR := heap_alloc_new w (.cells #[.slice A1 lv.length c1, .slice A2 sf.length c2, .slice A3 os.length c3] 31)
  have b0 := (Below.refl w.heap.size w).alloc (Nat.le_refl _) (.cells #[.slice A1 lv.length c1, .slice A2 sf.length c2, .slice A3 os.length c3] 31)
  obtain ⟨w0, hw0⟩ : ∃ W, w.alloc (.cells #[.slice A1 lv.length c1, .slice A2 sf.length c2, .slice A3 os.length c3] 31) = W := ⟨_, rfl⟩
  rw [hw0] at XR b0
  have hlt : w.heap.size < w0.heap.size := (Array.getElem?_eq_some_iff.1 XR).1
  have YR := heap_alloc_new w0 (.cells #[.slice A1' lv'.length c1', .slice A2' sf'.length c2', .slice A3' os'.length c3'] 31)
  have b1 := (Below.refl w0.heap.size w0).alloc (Nat.le_refl _) (.cells #[.slice A1' lv'.length c1', .slice A2' sf'.length c2', .slice A3' os'.length c3'] 31)
  obtain ⟨w1, hw1⟩ : ∃ W, w0.alloc (.cells #[.slice A1' lv'.length c1', .slice A2' sf'.length c2', .slice A3' os'.length c3'] 31) = W := ⟨_, rfl⟩
  rw [hw1] at YR b1
  have hlt1 : w0.heap.size < w1.heap.size := (Array.getElem?_eq_some_iff.1 YR).1
  have XR1 := heap_at XR b1 hlt
  have B1 := hide (b0.trans (b1.mono b0.size))
  have XB : Hid (∀ W, Below w1.heap.size w1 W → W.heap[w.heap.size]? = some (.cells #[.slice A1 lv.length c1, .slice A2 sf.length c2, .slice A3 os.length c3] 31 (0, 0))) := hide (fun W h => heap_at XR1 h (by omega))
  have YB : Hid (∀ W, Below w1.heap.size w1 W → W.heap[w0.heap.size]? = some (.cells #[.slice A1' lv'.length c1', .slice A2' sf'.length c2', .slice A3' os'.length c3'] 31 (0, 0))) := hide (fun W h => heap_at YR h hlt1)
  have WB : Hid (∀ W, Below w1.heap.size w1 W → Below w.heap.size w W) := hide (fun W h => B1.out.trans (h.mono B1.out.size))
  have E1 : Hid (∀ W, Below w1.heap.size w1 W → Calls Try.prog 53 #[.slice A1 lv.length c1, .slice A1' lv'.length c1'] W fun e w' => e = .returned (.bool (eqL lv lv')) ∧ Below W.heap.size W w') := hide (fun W h => eqPairS_any A1 A1' lv lv' c1 c1' W (by unfold maxLen; omega) (by unfold maxLen; omega) ((i1.below (WB.out W h)).more (WB.out W h).size) ((j1.below (WB.out W h)).more (WB.out W h).size))
  have E2 : Hid (∀ W, Below w1.heap.size w1 W → Calls Try.prog 53 #[.slice A2 sf.length c2, .slice A2' sf'.length c2'] W fun e w' => e = .returned (.bool (eqL sf sf')) ∧ Below W.heap.size W w') := hide (fun W h => eqPairS_any A2 A2' sf sf' c2 c2' W (by unfold maxLen; omega) (by unfold maxLen; omega) ((i2.below (WB.out W h)).more (WB.out W h).size) ((j2.below (WB.out W h)).more (WB.out W h).size))
  have E3 : Hid (∀ W, Below w1.heap.size w1 W → Calls Try.prog 54 #[.slice A3 os.length c3, .slice A3' os'.length c3'] W fun e w' => e = .returned (.bool (eqDL os os')) ∧ Below W.heap.size W w') := hide (fun W h => eqDOpS_any A3 A3' os os' c3 c3' W (by unfold maxLen; omega) (by unfold maxLen; omega) ((i3.below (WB.out W h)).more (WB.out W h).size) ((j3.below (WB.out W h)).more (WB.out W h).size))
  have R1 : Hid (Below w1.heap.size w1 w1) := hide (Below.refl _ _)
  have x0 := cell_of_row _ _ 0 _ _ _ (XB.out _ R1.out)
  have y0 := cell_of_row _ _ 0 _ _ _ (YB.out _ R1.out)
  have EK : Hid (eqK (lv, sf, os) (lv', sf', os') = (eqL lv lv' && (eqL sf sf' && eqDL os os'))) := hide rfl
  clear i1 i2 i3 j1 j2 j3 g1 g2 g3 k1 k2 k3 XR YR XR1 b0 b1 hlt hlt1
  generalize lv.length = n1 at *
  generalize sf.length = n2 at *
  generalize os.length = n3 at *
  generalize lv'.length = m1 at *
  generalize sf'.length = m2 at *
  generalize os'.length = m3 at *
  generalize eqK (lv, sf, os) (lv', sf', os') = ek at *
  generalize eqL lv lv' = e1 at *
  generalize eqL sf sf' = e2 at *
  generalize eqDL os os' = e3 at *
  go_enter Try.func16, Try.ntmps16
  go_wp2_with fail
  clear hw0 hw1 x0 y0
  refine (E1.out _ R1.out).mono ?_
  rintro e w2 ⟨rfl, b2⟩
  have R2 := hide (R1.out.trans (b2.mono R1.out.size))
  have BB2 := hide (WB.out _ R2.out)
  have x1 := cell_of_row _ _ 1 _ _ _ (XB.out _ R2.out)
  have y1 := cell_of_row _ _ 1 _ _ _ (YB.out _ R2.out)
  clear b2 E1 R1
  cases e1
  · go_wp2
    go_ret
    exact ⟨ret_bool (by rw [EK.out]; rfl), BB2.out⟩
  go_wp2_with fail
  clear x1 y1
  refine (E2.out _ R2.out).mono ?_
  rintro e w3 ⟨rfl, b3⟩
  have R3 := hide (R2.out.trans (b3.mono R2.out.size))
  have BB3 := hide (WB.out _ R3.out)
  have x2 := cell_of_row _ _ 2 _ _ _ (XB.out _ R3.out)
  have y2 := cell_of_row _ _ 2 _ _ _ (YB.out _ R3.out)
  clear b3 E2 R2 BB2
  cases e2
  · go_wp2
    go_ret
    exact ⟨ret_bool (by rw [EK.out]; rfl), BB3.out⟩
  go_wp2_with fail
  clear x2 y2
  refine (E3.out _ R3.out).mono ?_
  rintro e w4 ⟨rfl, b4⟩
  have R4 := hide (R3.out.trans (b4.mono R3.out.size))
  have BB4 := hide (WB.out _ R4.out)
  clear b4 E3 R3 BB3
  cases e3
  all_goals
    go_wp2
    go_ret
    exact ⟨ret_bool (by rw [EK.out]; rfl), BB4.out⟩
set_option maxRecDepth 100000 in
set_option maxHeartbeats 2000000 in
theorem specReadFile_any (A1 A2 A3 : Option Addr) (d : Dk) (c1 c2 c3 : Nat) (nm : ByteArray) (w : World) (hd : dskS d) (hin : DkIn w w.heap.size A1 A2 A3 d) :
    Calls Try.prog 17 #[.agg #[.slice A1 d.1.length c1, .slice A2 d.2.1.length c2, .slice A3 d.2.2.length c3], .string nm] w fun e w' => e = .returned (.tuple #[.string (rdV d nm), .bool (rdB d nm)]) ∧ Below w.heap.size w w' := by
  have XR := heap_alloc_new w (.cells #[.slice A1 d.1.length c1, .slice A2 d.2.1.length c2, .slice A3 d.2.2.length c3] 31)
  have b0 := (Below.refl w.heap.size w).alloc (Nat.le_refl _) (.cells #[.slice A1 d.1.length c1, .slice A2 d.2.1.length c2, .slice A3 d.2.2.length c3] 31)
  obtain ⟨w0, hw0⟩ : ∃ W, w.alloc (.cells #[.slice A1 d.1.length c1, .slice A2 d.2.1.length c2, .slice A3 d.2.2.length c3] 31) = W := ⟨_, rfl⟩
  rw [hw0] at XR b0
  have B0 := hide b0
  have DK := hide (specDiskOk_any A1 A2 A3 d c1 c2 c3 w0 hd ((hin.below b0).more b0.size))
  have IN := hide hin.1
  have x0 := cell_of_row _ _ 0 _ _ _ XR
  have x1 := cell_of_row _ _ 1 _ _ _ XR
  have x2 := cell_of_row _ _ 2 _ _ _ XR
  have XH := hide XR
  have hlt : w.heap.size < w0.heap.size := (Array.getElem?_eq_some_iff.1 XR).1
  clear b0 hin XR
  go_enter Try.func17, Try.ntmps17
  go_wp2_with fail
  clear x0 x1 x2 hw0
  refine DK.out.mono ?_
  rintro e w1 ⟨rfl, b1⟩
  have B1 := hide (B0.out.trans (b1.mono B0.out.size))
  have X1 := hide ((b1.block w.heap.size hlt).trans XH.out)
  clear b1 DK XH hlt
  cases hok : diskB d
  · have Z1 : Hid (rdV d nm = ⟨#[]⟩) := hide (by unfold rdV; rw [hok]; rfl)
    have Z2 : Hid (rdB d nm = false) := hide (by unfold rdB; rw [hok]; rfl)
    clear hok X1
    go_wp2
    go_ret2
    exact ⟨ret_sb Z1.out.symm Z2.out.symm, B1.out⟩
  · have hp := diskB_iff.1 hok
    have hln := hp.1.1
    have IN1 := (IN.out.below B1.out).more B1.out.size
    have DA := hide (l11At_any A1 d.1 c1 nm w1 w1.heap.size (by unfold maxLen; omega) IN1)
    have y0 := cell_of_row _ _ 0 _ _ _ X1.out
    have Z1 : Hid (rdV d nm = valOf d.1 nm) := hide (by unfold rdV; rw [hok]; rfl)
    have Z2 : Hid (rdB d nm = hasB d.1 nm) := hide (by unfold rdB; rw [hok]; rfl)
    cases hb : hasB d.1 nm
    · have V := hide (valOf_no hb)
      rw [at_none (filesP_ris hp.1) hb] at DA
      rw [hb] at Z2
      clear hok hp X1 IN1 hb hln
      go_wp2_with fail
      refine DA.out.mono ?_
      rintro e w2 ⟨rfl, rfl⟩
      clear DA y0
      go_wp2
      go_ret2
      exact ⟨ret_sb (by rw [Z1.out, V.out]; rfl) Z2.out.symm, B1.out⟩
    · obtain ⟨hj, hat, hvl⟩ := at_has (filesP_ris hp.1) hb
      obtain ⟨b, off, rfl, hbB, hc⟩ := IN1.2 (by omega)
      obtain ⟨_, q2⟩ := hc _ hj
      rw [hat] at DA
      rw [hvl] at q2
      rw [hb] at Z2
      generalize valOf d.1 nm = v at *
      generalize atN d.1 nm = j at *
      have hj2 : (j : Int) < (d.1.length : Int) := by omega
      clear hok hp X1 IN1 hb hat hvl hc
      go_wp2_with fail
      refine DA.out.mono ?_
      rintro e w2 ⟨rfl, rfl⟩
      clear DA
      go_wp2
      go_ret2
      exact ⟨ret_sb Z1.out.symm Z2.out.symm, B1.out⟩
end Go.Proofs.Ytblggbihnglipaa
