/-
  What impl.DiskOk and impl.ReadFile answer.
-/
import Derived.Test.YtblggbihnglipaaDAre
import Derived.Test.YtblggbihnglipaaDDkS
namespace Go.Proofs.Ytblggbihnglipaa
open Go.RowKit Go.Maps

theorem do_names {l : List Pr} {o : Dp} (hr : Ris l) (hl : ∀ p ∈ l, nameP p.1) (ho : formP o) : ∀ p ∈ doF l o, nameP p.1 := by
  intro p hp
  unfold doF at hp
  split at hp
  · rcases (mem_set hr ..).1 hp with e | e
    · rw [e]; exact ho.2.2.1
    · exact hl p e.1
  · split at hp
    · split at hp
      next h2 =>
        rcases (mem_set (ris_cut hr _) ..).1 hp with e | e
        · rw [e]; exact (ho.2.2.2.1 h2).1
        · exact hl p (List.mem_filter.1 e.1).1
      · exact hl p (List.mem_filter.1 hp).1
    · exact hl p hp
theorem fitB_iff {l : List Pr} : fitB l = true ↔ l.length ≤ 60 ∧ sumF l ≤ 200000 := by unfold fitB; rw [Bool.and_eq_true, decide_eq_true_iff, decide_eq_true_iff]
theorem fit_files {l : List Pr} {o : Dp} (hl : filesP l) (ho : formP o) : fitB (doF l o) = true ↔ filesP (doF l o) := by
  rw [fitB_iff]
  constructor
  · intro h
    exact ⟨h.1, do_names (filesP_ris hl) hl.2.1 ho, ris_iff.2 (doF_ris (filesP_ris hl) o), h.2⟩
  · intro h
    exact ⟨h.1, h.2.2.2⟩
theorem do_any {w : World} {B gm n : Nat} {l : List Pr} {rA : ByteArray → Option Addr} {rC : ByteArray → Nat} (h : FMap w B gm n l rA rC) (k : Int) (nm to dt : ByteArray) (hf : formP (k, nm, to, dt)) (hn : n < maxLen) (hB : B ≤ w.heap.size) (hnm : nm.size ≤ maxLen) (hto : to.size ≤ maxLen) (hs : (valOf l nm).size + dt.size ≤ 1099511627776) :
    Calls Try.prog 50 #[.map (some gm), opV k nm to dt] w (RetM w B gm n (doF l (k, nm, to, dt)) (doB l (k, nm, to, dt))) := by
  have h1 := hf.1
  have h2 := hf.2.1
  dsimp only at h1 h2
  rcases (by omega : k = 1 ∨ k = 2 ∨ k = 3) with e | e | e
  · subst e; exact do1_any h nm to dt hn hB hnm hs
  · subst e; exact do2_any h nm to dt hn hB hnm hto
  · subst e; exact do3_any h nm to dt hB hnm
set_option maxRecDepth 100000 in
set_option maxHeartbeats 4000000 in
theorem implDiskOk_any (A1 A2 A3 : Option Addr) (d : Dk) (c1 c2 c3 : Nat) (w : World) (hd : dskS d) (hin : DkIn w w.heap.size A1 A2 A3 d) :
    Calls Try.prog 15 #[.agg #[.slice A1 d.1.length c1, .slice A2 d.2.1.length c2, .slice A3 d.2.2.length c3]] w fun e w' => e = .returned (.bool (diskB d)) ∧ Below w.heap.size w w' := by
  obtain ⟨lv, sf, os⟩ := d
  obtain ⟨h1, h2, h3, h4, h5, h6⟩ := hd
  obtain ⟨i1, i2, i3⟩ := hin
  dsimp only at h1 h2 h3 h4 h5 h6 i1 i2 i3 ⊢
  have XR := heap_alloc_new w (.cells #[.slice A1 lv.length c1, .slice A2 sf.length c2, .slice A3 os.length c3] 31)
  have b0 := (Below.refl w.heap.size w).alloc (Nat.le_refl _) (.cells #[.slice A1 lv.length c1, .slice A2 sf.length c2, .slice A3 os.length c3] 31)
  have s0 : (w.alloc (.cells #[.slice A1 lv.length c1, .slice A2 sf.length c2, .slice A3 os.length c3] 31)).heap.size = w.heap.size + 1 := by simp
  obtain ⟨w0, hw0⟩ : ∃ W, w.alloc (.cells #[.slice A1 lv.length c1, .slice A2 sf.length c2, .slice A3 os.length c3] 31) = W := ⟨_, rfl⟩
  rw [hw0] at XR b0 s0
  have B0 := hide b0
  have S0 := hide s0
  have BX : Hid (∀ W, Below w0.heap.size w0 W → W.heap[w.heap.size]? = some (.cells #[.slice A1 lv.length c1, .slice A2 sf.length c2, .slice A3 os.length c3] 31 (0, 0))) := hide (fun W h => heap_at XR h (by rw [S0.out]; omega))
  have WB : Hid (∀ W, Below w0.heap.size w0 W → Below w.heap.size w W) := hide (fun W h => B0.out.trans (h.mono B0.out.size))
  have FL : Hid (∀ W, Below w0.heap.size w0 W → Calls Try.prog 47 #[.slice A1 lv.length c1] W fun e w' => e = .returned (.bool (filesB lv)) ∧ Below W.heap.size W w') := hide (fun W h => filesOk_any A1 lv c1 W (by unfold maxLen; omega) ((i1.below (WB.out W h)).more (WB.out W h).size) (by omega))
  have FS : Hid (∀ W, Below w0.heap.size w0 W → Calls Try.prog 47 #[.slice A2 sf.length c2] W fun e w' => e = .returned (.bool (filesB sf)) ∧ Below W.heap.size W w') := hide (fun W h => filesOk_any A2 sf c2 W (by unfold maxLen; omega) ((i2.below (WB.out W h)).more (WB.out W h).size) (by omega))
  have FI : Hid (∀ W, Below w0.heap.size w0 W → filesP sf → Calls Try.prog 48 #[.slice A2 sf.length c2] W fun e w' => ∃ rA rC, e = .returned (.map (some W.heap.size)) ∧ FMap w' (W.heap.size + 1) W.heap.size sf.length sf rA rC ∧ Below W.heap.size W w') := hide (fun W h hp => filesOf_any A2 sf c2 W (filesP_ris hp) h2 ((i2.below (WB.out W h)).more (WB.out W h).size))
  have R0 : Hid (Below w0.heap.size w0 w0) := hide (Below.refl _ _)
  have IN1 := hide i1
  have IN3 := hide i3
  have x0 := cell_of_row _ _ 0 _ _ _ XR
  clear i1 i2 i3 XR b0 s0
  go_enter Try.func15, Try.ntmps15
  go_wp2_with fail
  clear hw0 x0
  refine (FL.out _ R0.out).mono ?_
  rintro e w1 ⟨rfl, b1⟩
  have R1 := hide (R0.out.trans (b1.mono R0.out.size))
  have x1 := cell_of_row _ _ 1 _ _ _ (BX.out _ R1.out)
  clear b1 FL R0
  by_cases hp1 : filesP lv
  rotate_left
  · rw [filesB_no hp1]
    have Z : Hid (diskB (lv, sf, os) = false) := hide (diskB_no fun h => hp1 h.1)
    have BB := hide (WB.out _ R1.out)
    clear hp1 FS FI
    go_wp2
    go_ret
    exact ⟨ret_bool Z.out.symm, BB.out⟩
  rw [filesB_yes hp1]
  have P1 := hide hp1
  clear hp1
  go_wp2_with fail
  refine (FS.out _ R1.out).mono ?_
  rintro e w2 ⟨rfl, b2⟩
  have R2 := hide (R1.out.trans (b2.mono R1.out.size))
  have y1 := cell_of_row _ _ 1 _ _ _ (BX.out _ R2.out)
  have y2 := cell_of_row _ _ 2 _ _ _ (BX.out _ R2.out)
  clear b2 FS R1 x1
  by_cases hp2 : filesP sf
  rotate_left
  · rw [filesB_no hp2]
    have Z : Hid (diskB (lv, sf, os) = false) := hide (diskB_no fun h => hp2 h.2.1)
    have BB := hide (WB.out _ R2.out)
    clear hp2 FI
    go_wp2
    go_ret
    exact ⟨ret_bool Z.out.symm, BB.out⟩
  rw [filesB_yes hp2]
  have P2 := hide hp2
  clear hp2
  by_cases hp3 : 200 < os.length
  · have Z : Hid (diskB (lv, sf, os) = false) := hide (diskB_no fun h => by have := h.2.2.1; dsimp only at this; omega)
    have BB := hide (WB.out _ R2.out)
    have d3 : decide ((200 : Int) < (os.length : Int)) = true := decide_eq_true (by omega)
    clear hp3 FI
    generalize os.length = n at *
    go_wp2
    go_ret
    exact ⟨ret_bool Z.out.symm, BB.out⟩
  have hn : os.length ≤ 200 := by omega
  have d3 : decide ((200 : Int) < (os.length : Int)) = false := decide_eq_false (by omega)
  clear hp3
  have hs60 : Hid (sf.length ≤ 60) := hide P2.out.1
  have OP : Hid (∀ k (h : k < os.length) W, Calls Try.prog 49 #[.agg #[.int .i64 (os[k]'h).1, .string (os[k]'h).2.1, .string (os[k]'h).2.2.1, .string (os[k]'h).2.2.2]] W fun e w' => e = .returned (.tuple #[opV (os[k]'h).1 (os[k]'h).2.1 (os[k]'h).2.2.1 (os[k]'h).2.2.2, .bool (formB (os[k]'h))]) ∧ Below W.heap.size W w') := hide (fun k h W => by
    have q := h6 _ (List.getElem_mem h)
    exact opOf_any _ _ _ _ W (by unfold maxLen; have := q.1; omega) (by unfold maxLen; have := q.2.1; omega))
  have DO : Hid (∀ k (h : k < os.length) W gm rA rC, gm + 1 ≤ W.heap.size → FMap W (gm + 1) gm (sf.length + k) (runF sf (os.take k)) rA rC → filesP (runF sf (os.take k)) → formP (os[k]'h) → Calls Try.prog 50 #[.map (some gm), opV (os[k]'h).1 (os[k]'h).2.1 (os[k]'h).2.2.1 (os[k]'h).2.2.2] W (RetM W (gm + 1) gm (sf.length + k) (runF sf (os.take (k + 1))) (doB (runF sf (os.take k)) (os[k]'h)))) := hide (fun k h W gm rA rC hg fm hf ho => by
    have q := h6 _ (List.getElem_mem h)
    have v := val_le_sum (runF sf (os.take k)) (os[k]'h).2.1
    have f2 := hf.2.2.2
    rw [runF_next sf os h]
    exact do_any fm _ _ _ _ ho (by unfold maxLen; omega) hg (by unfold maxLen; have := q.1; omega) (by unfold maxLen; have := q.2.1; omega) (by have := q.2.2; omega))
  have FT : Hid (∀ k (h : k < os.length) W gm rA rC, FMap W (gm + 1) gm (sf.length + k + 1) (runF sf (os.take (k + 1))) rA rC → filesP (runF sf (os.take k)) → Calls Try.prog 51 #[.map (some gm)] W fun e w' => e = .returned (.bool (fitB (runF sf (os.take (k + 1))))) ∧ Below W.heap.size W w') := hide (fun k h W gm rA rC fm hf => by
    have q := h6 _ (List.getElem_mem h)
    have v := sumF_do (filesP_ris hf) (os[k]'h)
    have f2 := hf.2.2.2
    rw [← runF_next sf os h] at v
    exact fit_any fm (by have := q.2.2; omega))
  have FQ : Hid (∀ k (h : k < os.length), filesP (runF sf (os.take k)) → formP (os[k]'h) → (fitB (runF sf (os.take (k + 1))) = true ↔ filesP (runF sf (os.take (k + 1))))) := hide (fun k h hf ho => by
    rw [runF_next sf os h]
    exact fit_files hf ho)
  have AR : Hid (∀ W gm n rA rC, Below w0.heap.size w0 W → FMap W (gm + 1) gm n (runF sf os) rA rC → Calls Try.prog 52 #[.map (some gm), .slice A1 lv.length c1] W fun e w' => e = .returned (.bool (eqF (runF sf os) lv)) ∧ Below W.heap.size W w') := hide (fun W gm n rA rC hb fm => are_any fm A1 lv c1 ((IN1.out.below (WB.out W hb)).more (WB.out W hb).size) (filesP_ris P1.out) h1)
  have ZN : Hid (∀ k (h : k < os.length), ¬ (formP (os[k]'h) ∧ doB (runF sf (os.take k)) (os[k]'h) = true ∧ filesP (runF sf (os.take (k + 1)))) → diskB (lv, sf, os) = false) := hide (fun k h hn => diskB_no fun hp => hn (hp.2.2.2.1 k h h))
  have ZE : Hid (opsTo sf os os.length → eqF (runF sf os) lv = diskB (lv, sf, os)) := hide (fun h => by
    by_cases e : runF sf os = lv
    · rw [eqF_yes e, diskB_yes ⟨P1.out, P2.out, hn, h, e⟩]
    · rw [eqF_no e, diskB_no fun hp => e hp.2.2.2.2])
  have OT : Hid (opsTo sf os 0) := hide (opsTo_zero sf os)
  have ON : Hid (∀ k (h : k < os.length), opsTo sf os k → formP (os[k]'h) → doB (runF sf (os.take k)) (os[k]'h) = true → filesP (runF sf (os.take (k + 1))) → opsTo sf os (k + 1)) := hide (fun k h a b c e => opsTo_next h a b c e)
  have TK : Hid (os.take os.length = os) := hide (List.take_length ..)
  have F0 : Hid (filesP (runF sf (os.take 0))) := hide P2.out
  clear h6 h3
  obtain ⟨n, hnn⟩ : ∃ n, os.length = n := ⟨_, rfl⟩
  have NN := hide hnn
  rw [hnn] at BX d3 hn y1 y2 ZE TK ⊢
  clear hnn
  have FC := hide (FI.out w2 R2.out P2.out)
  clear FI
  go_wp2_with fail
  refine FC.out.mono ?_
  rintro e w3 ⟨rA, rC, rfl, fm, b3⟩
  have R3 := hide (R2.out.trans (b3.mono R2.out.size))
  have hgm : w2.heap.size + 1 ≤ w3.heap.size := fm.lt
  have FM0 : Hid (FMap w3 (w2.heap.size + 1) w2.heap.size (sf.length + 0) (runF sf (os.take 0)) rA rC) := hide fm
  have G0 : Hid (w2.heap.size + 1 ≤ w3.heap.size) := hide hgm
  have R2S : Hid (w0.heap.size ≤ w2.heap.size) := hide R2.out.size
  have z2 := cell_of_row _ _ 2 _ _ _ (BX.out _ R3.out)
  clear fm b3 FC y1 y2 hgm R2
  generalize w2.heap.size = gm at *
  go_wp2
  go_loopw [30] (fun iv wr => ∃ (k : Nat) (rA : ByteArray → Option Addr) (rC : ByteArray → Nat), k ≤ n ∧ iv = .int .i64 k ∧ Hid (opsTo sf os k) ∧ Hid (filesP (runF sf (os.take k))) ∧ Hid (FMap wr (gm + 1) gm (sf.length + k) (runF sf (os.take k)) rA rC) ∧ Hid (gm + 1 ≤ wr.heap.size) ∧ Hid (Below w0.heap.size w0 wr)) (fun i _ => n - (intOf i).toNat)
  case atStart => exact ⟨0, rA, rC, Nat.zero_le _, rfl, OT, F0, FM0, G0, R3⟩
  case round =>
    clear OT F0 FM0 G0 R3 z2
    obtain ⟨k, rA, rC, hk, rfl, OK, FK, MK, GK, RK⟩ := hrel
    by_cases hlt : k < n
    · have hkl : k < os.length := by rw [NN.out]; exact hlt
      obtain ⟨b, off, rfl, hbB, hc⟩ := IN3.out.2 (by omega)
      obtain ⟨r0, r1, r2, r3⟩ := (hc k hkl).keep fun o => (WB.out wr RK.out).cell hbB
      have OPK := hide (fun W => OP.out k hkl W)
      have DK := hide (fun W rA rC hg fm ho => DO.out k hkl W gm rA rC hg fm FK.out ho)
      have FTK := hide (fun W rA rC fm => FT.out k hkl W gm rA rC fm FK.out)
      have FQK := hide (fun ho => FQ.out k hkl FK.out ho)
      have ZK := hide (ZN.out k hkl)
      have OK2 := hide (fun a b c => ON.out k hkl OK.out a b c)
      have HK := hide hlt
      clear hc OP DO FT FQ AR ZN ZE ON OK FK TK
      generalize os[k]'hkl = o at *
      obtain ⟨ok, onm, oto, odt⟩ := o
      dsimp only at *
      clear hkl
      have bx := (Below.refl wr.heap.size wr).alloc (Nat.le_refl _) (.cells #[.int .i64 ok, .string onm, .string oto, .string odt] 45)
      obtain ⟨q0, q1, q2, q3⟩ := box4 wr (.int .i64 ok) (.string onm) (.string oto) (.string odt) 45
      have M4 := hide (MK.out.below bx)
      have R4 := hide (RK.out.trans (bx.mono RK.out.size))
      have G4 := hide (Nat.le_trans GK.out bx.size)
      obtain ⟨w4, hw4⟩ : ∃ W, wr.alloc (.cells #[.int .i64 ok, .string onm, .string oto, .string odt] 45) = W := ⟨_, rfl⟩
      rw [hw4] at q0 q1 q2 q3 M4 R4 G4
      clear bx MK GK
      go_wp2_with fail
      clear r0 r1 r2 r3 hw4 q0 q1 q2 q3
      refine (OPK.out _).mono ?_
      rintro e w5 ⟨rfl, b5⟩
      have M5 := hide (M4.out.below b5)
      have R5 := hide (R4.out.trans (b5.mono R4.out.size))
      have G5 := hide (Nat.le_trans G4.out b5.size)
      clear b5 M4 R4 G4 OPK
      by_cases hf : formP (ok, onm, oto, odt)
      rotate_left
      · rw [formB_no hf]
        have Z := hide (ZK.out (fun h => hf h.1))
        have BB := hide (WB.out _ R5.out)
        clear ZK OK2 DK FTK FQK hf
        go_wp2
        go_ret
        exact ⟨ret_bool Z.out.symm, BB.out⟩
      rw [formB_yes hf]
      have HF := hide hf
      have D5 := hide (DK.out w5 rA rC G5.out M5.out hf)
      clear hf DK
      go_wp2_with fail
      refine D5.out.mono ?_
      rintro e w6 ⟨rfl, ⟨rA6, rC6, fm6⟩, b6⟩
      have M6 := hide fm6
      have R6 := hide (R5.out.trans (b6.mono R2S.out))
      have G6 := hide (Nat.le_trans G5.out b6.size)
      clear fm6 b6 M5 R5 G5 D5
      cases hok : doB (runF sf (os.take k)) (ok, onm, oto, odt)
      · have Z := hide (ZK.out (fun h => by rw [hok] at h; cases h.2.1))
        have BB := hide (WB.out _ R6.out)
        clear ZK OK2 FTK FQK hok
        go_wp2
        go_ret
        exact ⟨ret_bool Z.out.symm, BB.out⟩
      have HOK := hide hok
      have T6 := hide (FTK.out w6 rA6 rC6 M6.out)
      clear hok FTK
      go_wp2_with fail
      refine T6.out.mono ?_
      rintro e w7 ⟨rfl, b7⟩
      have M7 := hide (M6.out.below b7)
      have R7 := hide (R6.out.trans (b7.mono R6.out.size))
      have G7 := hide (Nat.le_trans G6.out b7.size)
      clear b7 M6 R6 G6 T6
      cases hfit : fitB (runF sf (os.take (k + 1)))
      · have Z := hide (ZK.out (fun h => by have := (FQK.out HF.out).2 h.2.2; rw [hfit] at this; cases this))
        have BB := hide (WB.out _ R7.out)
        clear ZK OK2 FQK hfit
        go_wp2
        go_ret
        exact ⟨ret_bool Z.out.symm, BB.out⟩
      · have HFL := hide ((FQK.out HF.out).1 hfit)
        have OK3 := hide (OK2.out HF.out HOK.out HFL.out)
        clear hfit OK2 ZK FQK
        go_wp2
        go_roundw
        case rel => exact ⟨k + 1, rA6, rC6, HK.out, by go_num, OK3, HFL, M7, G7, R7⟩
        case measure => have := HK.out; simp [intOf]; omega
    · obtain rfl : k = n := by omega
      have hgt : ¬ ((k : Int) < (k : Int)) := by omega
      have ek : Hid (os.take k = os) := TK
      rw [ek.out] at MK
      have AX := hide (AR.out wr gm _ rA rC RK.out MK.out)
      have ZX := hide (ZE.out OK.out)
      have z0 := cell_of_row _ _ 0 _ _ _ (BX.out _ RK.out)
      have BB := hide (WB.out _ RK.out)
      clear DO FT FQ AR ZN ZE ON OK MK FK TK ek hlt OP
      go_wp2_with fail
      refine AX.out.mono ?_
      rintro e w8 ⟨rfl, b8⟩
      have B8 := hide (BB.out.trans (b8.mono BB.out.size))
      clear b8 AX
      go_wp2
      go_ret
      exact ⟨ret_bool ZX.out, B8.out⟩
/-- what is read of a disk -/
noncomputable def rdV (d : Dk) (nm : ByteArray) : ByteArray := if diskB d = true then valOf d.1 nm else ⟨#[]⟩
noncomputable def rdB (d : Dk) (nm : ByteArray) : Bool := diskB d && hasB d.1 nm
set_option maxRecDepth 100000 in
set_option maxHeartbeats 2000000 in
theorem implReadFile_any (A1 A2 A3 : Option Addr) (d : Dk) (c1 c2 c3 : Nat) (nm : ByteArray) (w : World) (hd : dskS d) (hin : DkIn w w.heap.size A1 A2 A3 d) :
    Calls Try.prog 18 #[.agg #[.slice A1 d.1.length c1, .slice A2 d.2.1.length c2, .slice A3 d.2.2.length c3], .string nm] w fun e w' => e = .returned (.tuple #[.string (rdV d nm), .bool (rdB d nm)]) ∧ Below w.heap.size w w' := by
  have XR := heap_alloc_new w (.cells #[.slice A1 d.1.length c1, .slice A2 d.2.1.length c2, .slice A3 d.2.2.length c3] 31)
  have b0 := (Below.refl w.heap.size w).alloc (Nat.le_refl _) (.cells #[.slice A1 d.1.length c1, .slice A2 d.2.1.length c2, .slice A3 d.2.2.length c3] 31)
  obtain ⟨w0, hw0⟩ : ∃ W, w.alloc (.cells #[.slice A1 d.1.length c1, .slice A2 d.2.1.length c2, .slice A3 d.2.2.length c3] 31) = W := ⟨_, rfl⟩
  rw [hw0] at XR b0
  have B0 := hide b0
  have DK := hide (implDiskOk_any A1 A2 A3 d c1 c2 c3 w0 hd ((hin.below b0).more b0.size))
  have IN := hide hin.1
  have x0 := cell_of_row _ _ 0 _ _ _ XR
  have x1 := cell_of_row _ _ 1 _ _ _ XR
  have x2 := cell_of_row _ _ 2 _ _ _ XR
  have XH := hide XR
  have hlt : w.heap.size < w0.heap.size := (Array.getElem?_eq_some_iff.1 XR).1
  clear b0 hin XR
  go_enter Try.func18, Try.ntmps18
  go_wp2_with fail
  clear x0 x1 x2 hw0
  refine DK.out.mono ?_
  rintro e w1 ⟨rfl, b1⟩
  have B1 := hide (B0.out.trans (b1.mono B0.out.size))
  have X1 := hide ((b1.block w.heap.size hlt).trans XH.out)
  clear b1 DK XH hlt
  cases hok : diskB d
  · have Z1 : Hid (rdV d nm = ⟨#[]⟩) := hide (by unfold rdV; rw [hok]; rfl)
    have Z2 : Hid (rdB d nm = false) := hide (by unfold rdB; rw [hok]; rfl)
    clear hok X1
    go_wp2
    go_ret2
    exact ⟨ret_sb Z1.out.symm Z2.out.symm, B1.out⟩
  · have hp := diskB_iff.1 hok
    have DA := hide (dataOf_any A1 d.1 c1 nm w1 (by have := hp.1.1; omega) ((IN.out.below B1.out).more B1.out.size) hp.1.2.2.1)
    have y0 := cell_of_row _ _ 0 _ _ _ X1.out
    have Z1 : Hid (rdV d nm = valOf d.1 nm) := hide (by unfold rdV; rw [hok]; rfl)
    have Z2 : Hid (rdB d nm = hasB d.1 nm) := hide (by unfold rdB; rw [hok]; rfl)
    clear hok hp X1
    go_wp2_with fail
    refine DA.out.mono ?_
    rintro e w2 ⟨rfl, b2⟩
    have B2 := hide (B1.out.trans (b2.mono B1.out.size))
    clear b2 DA y0
    go_wp2
    go_ret2
    exact ⟨ret_sb Z1.out.symm Z2.out.symm, B2.out⟩
end Go.Proofs.Ytblggbihnglipaa
