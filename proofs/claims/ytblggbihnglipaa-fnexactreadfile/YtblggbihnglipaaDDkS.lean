/-
  What spec.DiskOk answers.
-/
import Derived.Test.YtblggbihnglipaaDDkM
namespace Go.Proofs.Ytblggbihnglipaa
open Go.RowKit

theorem heap_at {w w' : World} {B g : Nat} {o : Obj} (h : w.heap[g]? = some o) (hb : Below B w w') (hg : g < B) : w'.heap[g]? = some o := (hb.block g hg).trans h
set_option maxRecDepth 100000 in
set_option maxHeartbeats 2000000 in
theorem specDiskOk_any (A1 A2 A3 : Option Addr) (d : Dk) (c1 c2 c3 : Nat) (w : World) (hd : dskS d) (hin : DkIn w w.heap.size A1 A2 A3 d) :
    Calls Try.prog 13 #[.agg #[.slice A1 d.1.length c1, .slice A2 d.2.1.length c2, .slice A3 d.2.2.length c3]] w fun e w' => e = .returned (.bool (diskB d)) ∧ Below w.heap.size w w' := by
  obtain ⟨lv, sf, os⟩ := d
  obtain ⟨h1, h2, h3, h4, h5, h6⟩ := hd
  obtain ⟨i1, i2, i3⟩ := hin
  dsimp only at h1 h2 h3 h4 h5 h6 i1 i2 i3 ⊢
  have XR := heap_alloc_new w (.cells #[.slice A1 lv.length c1, .slice A2 sf.length c2, .slice A3 os.length c3] 31)
  have b0 := (Below.refl w.heap.size w).alloc (Nat.le_refl _) (.cells #[.slice A1 lv.length c1, .slice A2 sf.length c2, .slice A3 os.length c3] 31)
  have s0 : (w.alloc (.cells #[.slice A1 lv.length c1, .slice A2 sf.length c2, .slice A3 os.length c3] 31)).heap.size = w.heap.size + 1 := by simp
  obtain ⟨w0, hw0⟩ : ∃ W, w.alloc (.cells #[.slice A1 lv.length c1, .slice A2 sf.length c2, .slice A3 os.length c3] 31) = W := ⟨_, rfl⟩
  rw [hw0] at XR b0 s0
  have B0 := hide b0
  have S0 := hide s0
  have BX : Hid (∀ W, Below w0.heap.size w0 W → W.heap[w.heap.size]? = some (.cells #[.slice A1 lv.length c1, .slice A2 sf.length c2, .slice A3 os.length c3] 31 (0, 0))) := hide (fun W h => heap_at XR h (by rw [S0.out]; omega))
  have WB : Hid (∀ W, Below w0.heap.size w0 W → Below w.heap.size w W) := hide (fun W h => B0.out.trans (h.mono B0.out.size))
  have FL : Hid (∀ W, Below w0.heap.size w0 W → Calls Try.prog 41 #[.slice A1 lv.length c1] W fun e w' => e = .returned (.bool (filesB lv)) ∧ Below W.heap.size W w') := hide (fun W h => l11Files_any A1 lv c1 W (by unfold maxLen; omega) ((i1.below (WB.out W h)).more (WB.out W h).size) (by omega))
  have FS : Hid (∀ W, Below w0.heap.size w0 W → Calls Try.prog 41 #[.slice A2 sf.length c2] W fun e w' => e = .returned (.bool (filesB sf)) ∧ Below W.heap.size W w') := hide (fun W h => l11Files_any A2 sf c2 W (by unfold maxLen; omega) ((i2.below (WB.out W h)).more (WB.out W h).size) (by omega))
  have R0 : Hid (Below w0.heap.size w0 w0) := hide (Below.refl _ _)
  have IN1 := hide i1
  have IN2 := hide i2
  have IN3 := hide i3
  have x0 := cell_of_row _ _ 0 _ _ _ XR
  clear i1 i2 i3 XR b0 s0
  go_enter Try.func13, Try.ntmps13
  go_wp2_with fail
  clear hw0 x0
  refine (FL.out _ R0.out).mono ?_
  rintro e w1 ⟨rfl, b1⟩
  have R1 := hide (R0.out.trans (b1.mono R0.out.size))
  have x1 := cell_of_row _ _ 1 _ _ _ (BX.out _ R1.out)
  clear b1 FL R0
  by_cases hp1 : filesP lv
  rotate_left
  · rw [filesB_no hp1]
    have Z : Hid (diskB (lv, sf, os) = false) := hide (diskB_no fun h => hp1 h.1)
    have BB := hide (WB.out _ R1.out)
    clear hp1 FS
    go_wp2
    go_ret
    exact ⟨ret_bool Z.out.symm, BB.out⟩
  rw [filesB_yes hp1]
  have P1 := hide hp1
  clear hp1
  go_wp2_with fail
  refine (FS.out _ R1.out).mono ?_
  rintro e w2 ⟨rfl, b2⟩
  have R2 := hide (R1.out.trans (b2.mono R1.out.size))
  have y1 := cell_of_row _ _ 1 _ _ _ (BX.out _ R2.out)
  have y2 := cell_of_row _ _ 2 _ _ _ (BX.out _ R2.out)
  clear b2 FS R1 x1
  by_cases hp2 : filesP sf
  rotate_left
  · rw [filesB_no hp2]
    have Z : Hid (diskB (lv, sf, os) = false) := hide (diskB_no fun h => hp2 h.2.1)
    have BB := hide (WB.out _ R2.out)
    clear hp2
    go_wp2
    go_ret
    exact ⟨ret_bool Z.out.symm, BB.out⟩
  rw [filesB_yes hp2]
  have P2 := hide hp2
  clear hp2
  by_cases hp3 : 200 < os.length
  · have Z : Hid (diskB (lv, sf, os) = false) := hide (diskB_no fun h => by have := h.2.2.1; dsimp only at this; omega)
    have BB := hide (WB.out _ R2.out)
    have d3 : decide ((200 : Int) < (os.length : Int)) = true := decide_eq_true (by omega)
    clear hp3
    generalize os.length = n at *
    go_wp2
    go_ret
    exact ⟨ret_bool Z.out.symm, BB.out⟩
  have hn : os.length ≤ 200 := by omega
  have d3 : decide ((200 : Int) < (os.length : Int)) = false := decide_eq_false (by omega)
  clear hp3
  have DO : Hid (∀ k (h : k < os.length) W Ar cr, Below w0.heap.size w0 W → PIn W W.heap.size Ar (runF sf (os.take k)) → filesP (runF sf (os.take k)) → Calls Try.prog 42 #[.slice Ar (runF sf (os.take k)).length cr, .agg #[.int .i64 (os[k]'h).1, .string (os[k]'h).2.1, .string (os[k]'h).2.2.1, .string (os[k]'h).2.2.2]] W (RetFB (runF sf (os.take (k + 1))) (doB (runF sf (os.take k)) (os[k]'h)) W)) := hide (fun k h W Ar cr _ hp hf => by
    have q := h6 _ (List.getElem_mem h)
    have v := val_le_sum (runF sf (os.take k)) (os[k]'h).2.1
    have f1 := hf.1
    have f2 := hf.2.2.2
    rw [runF_next sf os h]
    exact l11Do_any Ar (runF sf (os.take k)) cr _ _ _ _ W (filesP_ris hf) (by omega) (by unfold maxLen; have := q.1; omega) (by unfold maxLen; have := q.2.1; omega) (by unfold maxLen; have := q.2.2; omega) hp)
  have FO : Hid (∀ k (h : k < os.length) W, Calls Try.prog 43 #[.agg #[.int .i64 (os[k]'h).1, .string (os[k]'h).2.1, .string (os[k]'h).2.2.1, .string (os[k]'h).2.2.2]] W fun e w' => e = .returned (.bool (formB (os[k]'h))) ∧ Below W.heap.size W w') := hide (fun k h W => by
    have q := h6 _ (List.getElem_mem h)
    exact l11Form_any _ _ _ _ W (by unfold maxLen; have := q.1; omega) (by unfold maxLen; have := q.2.1; omega))
  have FN : Hid (∀ k (h : k < os.length) W Ar cr, PIn W W.heap.size Ar (runF sf (os.take (k + 1))) → filesP (runF sf (os.take k)) → Calls Try.prog 41 #[.slice Ar (runF sf (os.take (k + 1))).length cr] W fun e w' => e = .returned (.bool (filesB (runF sf (os.take (k + 1))))) ∧ Below W.heap.size W w') := hide (fun k h W Ar cr hp hf => by
    have q := h6 _ (List.getElem_mem h)
    have v := sumF_do (filesP_ris hf) (os[k]'h)
    have ln := doF_len (runF sf (os.take k)) (os[k]'h)
    have f1 := hf.1
    have f2 := hf.2.2.2
    rw [← runF_next sf os h] at v ln
    exact l11Files_any Ar _ cr W (by unfold maxLen; omega) hp (by have := q.2.2; omega))
  have SA : Hid (∀ W Ar cr, Below w0.heap.size w0 W → PIn W W.heap.size Ar (runF sf os) → filesP (runF sf os) → Calls Try.prog 44 #[.slice Ar (runF sf os).length cr, .slice A1 lv.length c1] W fun e w' => e = .returned (.bool (eqL (runF sf os) lv)) ∧ Quiet W w') := hide (fun W Ar cr hb hp hf => l11Same_any Ar A1 (runF sf os) lv cr c1 W W.heap.size W.heap.size (by unfold maxLen; have := hf.1; omega) (by unfold maxLen; omega) hp ((IN1.out.below (WB.out W hb)).more (WB.out W hb).size))
  have ZN : Hid (∀ k (h : k < os.length), ¬ (formP (os[k]'h) ∧ doB (runF sf (os.take k)) (os[k]'h) = true ∧ filesP (runF sf (os.take (k + 1)))) → diskB (lv, sf, os) = false) := hide (fun k h hn => diskB_no fun hp => hn (hp.2.2.2.1 k h h))
  have ZE : Hid (opsTo sf os os.length → eqL (runF sf os) lv = diskB (lv, sf, os)) := hide (fun h => by
    by_cases e : runF sf os = lv
    · rw [eqL_yes e, diskB_yes ⟨P1.out, P2.out, hn, h, e⟩]
    · rw [eqL_no e, diskB_no fun hp => e hp.2.2.2.2])
  have OT : Hid (opsTo sf os 0) := hide (opsTo_zero sf os)
  have ON : Hid (∀ k (h : k < os.length), opsTo sf os k → formP (os[k]'h) → doB (runF sf (os.take k)) (os[k]'h) = true → filesP (runF sf (os.take (k + 1))) → opsTo sf os (k + 1)) := hide (fun k h a b c e => opsTo_next h a b c e)
  have TK : Hid (os.take os.length = os) := hide (List.take_length ..)
  have IS : Hid (PIn w2 w2.heap.size A2 (runF sf (os.take 0))) := hide ((IN2.out.below (WB.out _ R2.out)).more (WB.out _ R2.out).size)
  have LS : Hid (sf.length = (runF sf (os.take 0)).length) := hide rfl
  have F0 : Hid (filesP (runF sf (os.take 0))) := hide P2.out
  clear h6 h3
  obtain ⟨n, hnn⟩ : ∃ n, os.length = n := ⟨_, rfl⟩
  have NN := hide hnn
  rw [hnn] at BX d3 hn y1 y2 ZE TK ⊢
  clear hnn
  go_wp2
  go_loopw [3, 4] (fun nv iv wr => ∃ (k : Nat) (Ar : Option Addr) (cr : Nat), k ≤ n ∧ nv = .slice Ar (runF sf (os.take k)).length cr ∧ iv = .int .i64 k ∧ Hid (opsTo sf os k) ∧ Hid (filesP (runF sf (os.take k))) ∧ Hid (PIn wr wr.heap.size Ar (runF sf (os.take k))) ∧ Hid (Below w0.heap.size w0 wr)) (fun _ i _ => n - (intOf i).toNat)
  case atStart => exact ⟨0, A2, c2, Nat.zero_le _, by rw [LS.out], rfl, OT, F0, IS, R2⟩
  case round =>
    clear OT F0 IS R2 y1 y2 LS
    obtain ⟨k, Ar, cr, hk, rfl, rfl, OK, FK, IK, RK⟩ := hrel
    have z2 := cell_of_row _ _ 2 _ _ _ (BX.out _ RK.out)
    by_cases hlt : k < n
    · have hkl : k < os.length := by rw [NN.out]; exact hlt
      obtain ⟨b, off, rfl, hbB, hc⟩ := IN3.out.2 (by omega)
      obtain ⟨q0, q1, q2, q3⟩ := hc k hkl
      have CC : Hid (∀ W, Below w0.heap.size w0 W → At4 W b (off + k * 4) (os[k]'hkl)) := hide (fun W h => (hc k hkl).keep fun o => (WB.out W h).cell hbB)
      have DK := hide (DO.out k hkl wr Ar cr RK.out IK.out FK.out)
      have FK2 := hide (fun W => FO.out k hkl W)
      have FN2 := hide (fun W Ar cr hp => FN.out k hkl W Ar cr hp FK.out)
      have ZK := hide (ZN.out k hkl)
      have OK2 := hide (fun a b c => ON.out k hkl OK.out a b c)
      obtain ⟨r0, r1, r2, r3⟩ := CC.out wr RK.out
      clear hc q0 q1 q2 q3 DO FO FN SA ZN ZE ON OK IK FK TK
      generalize os[k]'hkl = o at *
      obtain ⟨ok, onm, oto, odt⟩ := o
      dsimp only at *
      clear hkl
      go_wp2_with fail
      refine DK.out.mono ?_
      rintro e w3 ⟨A3', cp3, rfl, o3, b3⟩
      have R3 := hide (RK.out.trans (b3.mono RK.out.size))
      have z3 := cell_of_row _ _ 2 _ _ _ (BX.out _ R3.out)
      obtain ⟨u0, u1, u2, u3⟩ := CC.out w3 R3.out
      have I3 := hide o3.pin
      clear o3 b3 DK r0 r1 r2 r3 z2
      generalize hok : doB (runF sf (os.take k)) (ok, onm, oto, odt) = okb at *
      have HOK := hide hok
      clear hok
      cases okb
      · have Z := hide (ZK.out (fun h => by have := h.2.1; cases this))
        have BB := hide (WB.out _ R3.out)
        clear ZK OK2 FN2 FK2 I3
        generalize (runF sf (os.take (k + 1))).length = nx at *
        go_wp2
        go_ret
        exact ⟨ret_bool Z.out.symm, BB.out⟩
      · generalize hnx : (runF sf (os.take (k + 1))).length = nx at *
        have NX := hide hnx
        clear hnx
        go_wp2_with fail
        refine (FK2.out _).mono ?_
        rintro e w4 ⟨rfl, b4⟩
        have R4 := hide (R3.out.trans (b4.mono R3.out.size))
        have I4 := hide ((I3.out.below b4).more b4.size)
        clear b4 FK2 u0 u1 u2 u3 z3
        by_cases hf : formP (ok, onm, oto, odt)
        · rw [formB_yes hf]
          have FP := hide (FN2.out _ A3' cp3 I4.out)
          have HF := hide hf
          clear hf FN2
          go_wp2_with fail
          refine FP.out.mono ?_
          rintro e w5 ⟨rfl, b5⟩
          have R5 := hide (R4.out.trans (b5.mono R4.out.size))
          have I5 := hide ((I4.out.below b5).more b5.size)
          clear b5 FP
          by_cases hfl : filesP (runF sf (os.take (k + 1)))
          · rw [filesB_yes hfl]
            have OK3 := hide (OK2.out HF.out (by first | rfl | trivial) hfl)
            have HFL := hide hfl
            have HK := hide hlt
            clear hfl OK2 ZK
            go_wp2
            go_roundw
            case rel => exact ⟨k + 1, A3', cp3, HK.out, by rw [NX.out], by go_num, OK3, HFL, I5, R5⟩
            case measure => have := HK.out; simp [intOf]; omega
          · rw [filesB_no hfl]
            have Z := hide (ZK.out (fun h => hfl h.2.2))
            have BB := hide (WB.out _ R5.out)
            clear ZK OK2 hfl
            go_wp2
            go_ret
            exact ⟨ret_bool Z.out.symm, BB.out⟩
        · rw [formB_no hf]
          have Z := hide (ZK.out (fun h => hf h.1))
          have BB := hide (WB.out _ R4.out)
          clear ZK OK2 FN2 hf
          go_wp2
          go_ret
          exact ⟨ret_bool Z.out.symm, BB.out⟩
    · obtain rfl : k = n := by omega
      have hgt : ¬ ((k : Int) < (k : Int)) := by omega
      have ek : Hid (os.take k = os) := TK
      rw [ek.out] at IK FK ⊢
      have SX := hide (SA.out wr Ar cr RK.out IK.out FK.out)
      have ZX := hide (ZE.out OK.out)
      have z0 := cell_of_row _ _ 0 _ _ _ (BX.out _ RK.out)
      have BB := hide (WB.out _ RK.out)
      clear DO FO FN SA ZN ZE ON OK IK FK TK ek hlt
      generalize (runF sf os).length = nr at *
      go_wp2_with fail
      refine SX.out.mono ?_
      rintro e w3 ⟨rfl, q3⟩
      have B3 := hide (BB.out.trans (q3.below _))
      clear q3 SX
      go_wp2
      go_ret
      exact ⟨ret_bool ZX.out, B3.out⟩
end Go.Proofs.Ytblggbihnglipaa
