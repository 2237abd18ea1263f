/-
  laws.FnCommitted returns true whatever the code: what is committed is there, with its map, its parents and its note, beside all that was. No conditions but that the two tables of the digest and the sentinel of the reader hold what the program's text lays (the card ties them).
-/
import Derived.Test.YtehblaigbcbleaaGreatDoorJC
import Derived.Test.YtehblaigbcbleaaGreatDoorJD
import Derived.Test.YtehblaigbcbleaaGreatDoorJW
import Derived.Test.YtehblaigbcbleaaGreatDoorJJ
import Derived.Test.YtehblaigbcbleaaGreatDoorJO
namespace Go.Proofs.YtehblaigbcbleaaGreatDoor.LCommitted
open Go.RowKit Go.ChangeShapes Go.WideShapes Go.ChangeAt
open Go.ChangeMaps (open_string shut_string)
theorem cmI_size (l m : List Pr) (ps : List ByteArray) (note : ByteArray) : (cmI l m ps note).size ≤ maxLen := by
  unfold cmI
  split
  · exact idL_max _
  · simp
theorem cm_len {l m : List Pr} {ps : List ByteArray} {note : ByteArray} (h : cmP l m ps note) : (cmL l m ps note).length ≤ l.length + 2 := by
  rw [(cmB_yes h).2.1]
  have h1 := addL_one l (treeT m)
  have h2 := addL_one (addL l (treeT m)) (comT m ps note)
  omega
/-- what is committed is there -/
theorem cm_found {l m : List Pr} {ps : List ByteArray} {note : ByteArray} (h : cmP l m ps note) :
    repoB (cmL l m ps note) = true ∧ rdOk (findV (cmL l m ps note) (cmI l m ps note)) = true ∧ (rdC (findV (cmL l m ps note) (cmI l m ps note))).2.1 = ps ∧ (rdC (findV (cmL l m ps note) (cmI l m ps note))).2.2 = note ∧ matL (cmL l m ps note) (cmI l m ps note) = m ∧ matB (cmL l m ps note) (cmI l m ps note) = true := by
  obtain ⟨_, eL, eI⟩ := cmB_yes h
  rw [eL, eI]
  obtain ⟨v1, v2, v3, v4⟩ := cm_vals h
  have hrep := repo_cm h
  have ho := (repoB_iff.1 hrep).1
  obtain ⟨cr, cc⟩ := comT_text h.2.2.2.1
  obtain ⟨tr, tl⟩ := tree_text h.2.1
  have ht : treeB (findV (addL (addL l (treeT m)) (comT m ps note)) (rdC (findV (addL (addL l (treeT m)) (comT m ps note)) (idL (comT m ps note)))).1) = true ∧ treeL (findV (addL (addL l (treeT m)) (comT m ps note)) (rdC (findV (addL (addL l (treeT m)) (comT m ps note)) (idL (comT m ps note)))).1) = m := by
    rw [findV_yes ho, findV_yes ho, v2, cc]
    show treeB (valOf _ (idL (treeT m))) = true ∧ treeL (valOf _ (idL (treeT m))) = m
    rw [v3]
    exact ⟨tr, tl⟩
  have hr : rdOk (findV (addL (addL l (treeT m)) (comT m ps note)) (idL (comT m ps note))) = true := by rw [findV_yes ho, v2]; exact cr
  refine ⟨hrep, hr, by rw [findV_yes ho, v2, cc], by rw [findV_yes ho, v2, cc], ?_, ?_⟩
  · rw [(matB_yes hr).1]; exact ht.2
  · rw [(matB_yes hr).2]; exact ht.1

set_option maxRecDepth 100000 in
set_option maxHeartbeats 4000000 in
theorem walk (A : Option Addr) (n : Nat) (cap : Nat) (a : Addr) (w : World) (hl : n ≤ maxLen) (hin : CIn w w.heap.size A n) (hT : Tabs w) (hE : ErrC w a) :
    Calls Tryz.prog 5 #[.slice A n cap] w fun e w' => e = .returned (.bool true) ∧ Below w.heap.size w w' := by
  by_cases hbig : 1048576 < n
  · have d : decide (1048576 < n) = true := decide_eq_true hbig
    go_enter Tryz.func5, Tryz.ntmps5
    go_wp2_with (go_at_call 10; refine (big_any A n cap _ hl).mono ?_; rintro e w' ⟨rfl, rfl⟩)
    go_ret
    exact ⟨rfl, Below.refl _ _⟩
  have hn : n ≤ 1048576 := by omega
  have d : decide (1048576 < n) = false := decide_eq_false hbig
  have IN := hide hin
  have HT := hide hT
  have HB := hide hT.1
  have HE := hide hE
  have B0 : Hid (Below w.heap.size w w) := hide (Below.refl _ _)
  clear hin hT hE
  go_enter Tryz.func5, Tryz.ntmps5
  go_wp2_with fail
  refine (big_any A n cap w hl).mono ?_
  rintro e w' ⟨rfl, rfl⟩
  go_wp2_with fail
  refine (drawCommitted_any A n cap w hn IN.out).mono ?_
  rintro e w1 ⟨AL, capL, l, AM, capM, m, AP, capP, ps, note, hcL, hl60, hm40, hp3, hsp, hsn, _, rfl, oL, oM, oP, b1⟩
  have B1 := hide (B0.out.trans (b1.mono B0.out.size))
  have L_1 := hide oL
  have M_1 := hide oM
  have P_1 := hide oP
  clear b1 oL oM oP B0
  have hlm : l.length ≤ maxLen := by unfold maxLen; omega
  have hmm : m.length ≤ maxLen := by unfold maxLen; omega
  have hpm : ps.length ≤ maxLen := by unfold maxLen; omega
  have e1 : (cmB l m ps note != cmB l m ps note) = false := by simp
  have e4 : (cmB l m ps note == cmB l m ps note) = true := by simp
  have e5 := eqS_yes (rfl : cmI l m ps note = cmI l m ps note)
  have z1 := cmL_len l m ps note
  have z1m : (cmL l m ps note).length ≤ maxLen := by unfold maxLen; omega
  have zim : (cmI l m ps note).size ≤ maxLen := cmI_size _ _ _ _
  go_wp2_with fail
  refine (implCommitted_any AL l capL AM m capM AP ps capP note a w1 hlm L_1.out.pin hmm M_1.out.pin hpm (sin_of hsp P_1.out.zin) hsn (HT.out.below B1.out HB.out) (HE.out.below B1.out)).mono ?_
  rintro e w2 ⟨AN, capN, hcN, rfl, own2, b2⟩
  have B2 := hide (B1.out.trans (b2.mono B1.out.size))
  have L_2 := hide (L_1.out.below b2)
  have M_2 := hide (M_1.out.below b2)
  have P_2 := hide (P_1.out.below b2)
  have N_2 := hide (own2.more B1.out.size)
  clear b2 own2 B1 L_1 M_1 P_1
  go_wp2_with fail
  refine (specCommitted_any AL l capL AM m capM AP ps capP note w2 hlm hcL L_2.out.pin hmm M_2.out.pin hpm (sin_of hsp P_2.out.zin) hsn).mono ?_
  rintro e w3 ⟨AX, capX, hcX, rfl, own3, b3⟩
  have B3 := hide (B2.out.trans (b3.mono B2.out.size))
  have L_3 := hide (L_2.out.below b3)
  have M_3 := hide (M_2.out.below b3)
  have P_3 := hide (P_2.out.below b3)
  have N_3 := hide (N_2.out.below b3)
  have X_3 := hide (own3.more B2.out.size)
  clear b3 own3 B2 L_2 M_2 P_2 N_2
  go_wp2_with fail
  refine (drawCommitAt_any A n cap w3 hn ((IN.out.keep B3.out).more B3.out.size)).mono ?_
  rintro e w4 ⟨AY, capY, ly, ky, hcY, hlY, h16Y, _, rfl, own4, b4⟩
  have B4 := hide (B3.out.trans (b4.mono B3.out.size))
  have L_4 := hide (L_3.out.below b4)
  have M_4 := hide (M_3.out.below b4)
  have P_4 := hide (P_3.out.below b4)
  have N_4 := hide (N_3.out.below b4)
  have X_4 := hide (X_3.out.below b4)
  have Y_4 := hide (own4.more B3.out.size)
  clear b4 own4 B3 L_3 M_3 P_3 N_3 X_3
  have hmY : ly.length ≤ maxLen := by unfold maxLen; omega
  have hiY : ky.size ≤ maxLen := by unfold maxLen; omega
  obtain ⟨s, hs⟩ : ∃ s, s = findV ly ky := ⟨_, rfl⟩
  have HS := hide hs
  clear hs
  obtain ⟨z10, z11, z12, z13⟩ := rd_sizes s
  have e6 : (rdOk s != rdOk s) = false := by simp
  have e7 : (rdOk s == rdOk s) = true := by simp
  go_wp2_with fail
  have CX := implCommitAt_any AY ly capY ky a w4 hiY hmY Y_4.out.pin (HT.out.below B4.out HB.out) (HE.out.below B4.out)
  rw [← HS.out] at CX
  refine CX.mono ?_
  rintro e w5 ⟨AC, capC, rfl, own5, b5⟩
  clear CX
  have bx := boxC_below w5 (.string (rdC s).1) (.slice AC (rdC s).2.1.length capC) (.string (rdC s).2.2)
  have bo : BoxC _ w5.heap.size (rdC s).1 (rdC s).2.2 AC (rdC s).2.1.length capC := boxC w5 (rdC s).1 (rdC s).2.2 AC (rdC s).2.1.length capC
  obtain ⟨w6, hw6⟩ : ∃ W, W = w5.alloc (.cells #[.string (rdC s).1, .slice AC (rdC s).2.1.length capC, .string (rdC s).2.2] 38) := ⟨_, rfl⟩
  rw [← hw6] at bx bo
  have ow := own5.below bx
  have bb := b5.trans (bx.mono b5.size)
  clear own5
  have B6 := hide (B4.out.trans (bb.mono B4.out.size))
  have L_6 := hide (L_4.out.below bb)
  have M_6 := hide (M_4.out.below bb)
  have P_6 := hide (P_4.out.below bb)
  have N_6 := hide (N_4.out.below bb)
  have X_6 := hide (X_4.out.below bb)
  have Y_6 := hide (Y_4.out.below bb)
  have C_6 := hide (ow.more B4.out.size)
  have Cb_6 := hide bo
  clear b5 bx bo bb ow B4 L_4 M_4 P_4 N_4 X_4 Y_4
  go_wp2_with fail
  rw [← hw6]
  clear hw6
  have CX := specCommitAt_any AY ly capY ky w6 hmY Y_6.out.pin
  rw [← HS.out] at CX
  refine CX.mono ?_
  rintro e w7 ⟨AD, capD, rfl, own7, b7⟩
  clear CX
  have bx := boxC_below w7 (.string (rdC s).1) (.slice AD (rdC s).2.1.length capD) (.string (rdC s).2.2)
  have bo : BoxC _ w7.heap.size (rdC s).1 (rdC s).2.2 AD (rdC s).2.1.length capD := boxC w7 (rdC s).1 (rdC s).2.2 AD (rdC s).2.1.length capD
  obtain ⟨w8, hw8⟩ : ∃ W, W = w7.alloc (.cells #[.string (rdC s).1, .slice AD (rdC s).2.1.length capD, .string (rdC s).2.2] 38) := ⟨_, rfl⟩
  rw [← hw8] at bx bo
  have ow := own7.below bx
  have bb := b7.trans (bx.mono b7.size)
  clear own7
  have B8 := hide (B6.out.trans (bb.mono B6.out.size))
  have L_8 := hide (L_6.out.below bb)
  have M_8 := hide (M_6.out.below bb)
  have P_8 := hide (P_6.out.below bb)
  have N_8 := hide (N_6.out.below bb)
  have X_8 := hide (X_6.out.below bb)
  have Y_8 := hide (Y_6.out.below bb)
  have C_8 := hide (C_6.out.below bb)
  have Cb_8 := hide (Cb_6.out.below bb)
  have D_8 := hide (ow.more B6.out.size)
  have Db_8 := hide bo
  clear b7 bx bo bb ow B6 L_6 M_6 P_6 N_6 X_6 Y_6 C_6 Cb_6
  go_wp2_with fail
  rw [← hw8]
  clear hw8
  refine (drawMapAt_any A n cap w8 hn ((IN.out.keep B8.out).more B8.out.size)).mono ?_
  rintro e w9 ⟨AZ, capZ, lz, kz, hcZ, hlZ, h16Z, _, rfl, own9, b9⟩
  have B9 := hide (B8.out.trans (b9.mono B8.out.size))
  have L_9 := hide (L_8.out.below b9)
  have M_9 := hide (M_8.out.below b9)
  have P_9 := hide (P_8.out.below b9)
  have N_9 := hide (N_8.out.below b9)
  have X_9 := hide (X_8.out.below b9)
  have Y_9 := hide (Y_8.out.below b9)
  have C_9 := hide (C_8.out.below b9)
  have Cb_9 := hide (Cb_8.out.below b9)
  have D_9 := hide (D_8.out.below b9)
  have Db_9 := hide (Db_8.out.below b9)
  have Z_9 := hide (own9.more B8.out.size)
  clear b9 own9 B8 L_8 M_8 P_8 N_8 X_8 Y_8 C_8 Cb_8 D_8 Db_8
  have hmZ : lz.length ≤ maxLen := by unfold maxLen; omega
  have hiZ : kz.size ≤ maxLen := by unfold maxLen; omega
  have e8 : (matB lz kz != matB lz kz) = false := by simp
  have e9 : (matB lz kz == matB lz kz) = true := by simp
  have z2 := matL_len lz kz
  have z2m : (matL lz kz).length ≤ maxLen := by unfold maxLen; omega
  go_wp2_with fail
  refine (implMapAt_any AZ lz capZ kz a w9 hiZ hmZ Z_9.out.pin (HT.out.below B9.out HB.out) (HE.out.below B9.out)).mono ?_
  rintro e w10 ⟨AE, capE, hcE, rfl, own10, b10⟩
  have B10 := hide (B9.out.trans (b10.mono B9.out.size))
  have L_10 := hide (L_9.out.below b10)
  have M_10 := hide (M_9.out.below b10)
  have P_10 := hide (P_9.out.below b10)
  have N_10 := hide (N_9.out.below b10)
  have X_10 := hide (X_9.out.below b10)
  have Y_10 := hide (Y_9.out.below b10)
  have C_10 := hide (C_9.out.below b10)
  have Cb_10 := hide (Cb_9.out.below b10)
  have D_10 := hide (D_9.out.below b10)
  have Db_10 := hide (Db_9.out.below b10)
  have Z_10 := hide (Z_9.out.below b10)
  have E_10 := hide (own10.more B9.out.size)
  clear b10 own10 B9 L_9 M_9 P_9 N_9 X_9 Y_9 C_9 Cb_9 D_9 Db_9 Z_9
  go_wp2_with fail
  refine (specMapAt_any AZ lz capZ kz w10 hmZ Z_10.out.pin).mono ?_
  rintro e w11 ⟨AF, capF, hcF, rfl, own11, b11⟩
  have B11 := hide (B10.out.trans (b11.mono B10.out.size))
  have L_11 := hide (L_10.out.below b11)
  have M_11 := hide (M_10.out.below b11)
  have P_11 := hide (P_10.out.below b11)
  have N_11 := hide (N_10.out.below b11)
  have X_11 := hide (X_10.out.below b11)
  have Y_11 := hide (Y_10.out.below b11)
  have C_11 := hide (C_10.out.below b11)
  have Cb_11 := hide (Cb_10.out.below b11)
  have D_11 := hide (D_10.out.below b11)
  have Db_11 := hide (Db_10.out.below b11)
  have Z_11 := hide (Z_10.out.below b11)
  have E_11 := hide (E_10.out.below b11)
  have F_11 := hide (own11.more B10.out.size)
  clear b11 own11 B10 L_10 M_10 P_10 N_10 X_10 Y_10 C_10 Cb_10 D_10 Db_10 Z_10 E_10
  have e3 := eqL_self (cmL l m ps note)
  have e3m := eqL_self (matL lz kz)
  have e3n := eqL_self m
  clear HS
  go_wp2_with fail
  refine (sameMap_any AN AX _ _ capN capX w11 _ _ z1m z1m N_11.out.pin X_11.out.pin).mono ?_
  rintro e w12 ⟨rfl, q12⟩
  have b12 := q12.below w11.heap.size
  have B12 := hide (B11.out.trans (b12.mono B11.out.size))
  have L_12 := hide (L_11.out.below b12)
  have M_12 := hide (M_11.out.below b12)
  have P_12 := hide (P_11.out.below b12)
  have N_12 := hide (N_11.out.below b12)
  have X_12 := hide (X_11.out.below b12)
  have Y_12 := hide (Y_11.out.below b12)
  have C_12 := hide (C_11.out.below b12)
  have Cb_12 := hide (Cb_11.out.below b12)
  have D_12 := hide (D_11.out.below b12)
  have Db_12 := hide (Db_11.out.below b12)
  have Z_12 := hide (Z_11.out.below b12)
  have E_12 := hide (E_11.out.below b12)
  have F_12 := hide (F_11.out.below b12)
  clear b12 q12 B11 L_11 M_11 P_11 N_11 X_11 Y_11 C_11 Cb_11 D_11 Db_11 Z_11 E_11 F_11
  have q10 := Cb_12.out.c0
  have q11 := Cb_12.out.c1
  have q12 := Cb_12.out.c2
  have q20 := Db_12.out.c0
  have q21 := Db_12.out.c1
  have q22 := Db_12.out.c2
  go_wp2_with fail
  refine (sameCommit_same (rdC s).1 (rdC s).2.2 AC AD (rdC s).2.1 capC capD w12 z11 C_12.out.zin D_12.out.zin).mono ?_
  rintro e w13 ⟨rfl, b13⟩
  have B13 := hide (B12.out.trans (b13.mono B12.out.size))
  have L_13 := hide (L_12.out.below b13)
  have M_13 := hide (M_12.out.below b13)
  have P_13 := hide (P_12.out.below b13)
  have N_13 := hide (N_12.out.below b13)
  have X_13 := hide (X_12.out.below b13)
  have Y_13 := hide (Y_12.out.below b13)
  have C_13 := hide (C_12.out.below b13)
  have Cb_13 := hide (Cb_12.out.below b13)
  have D_13 := hide (D_12.out.below b13)
  have Db_13 := hide (Db_12.out.below b13)
  have Z_13 := hide (Z_12.out.below b13)
  have E_13 := hide (E_12.out.below b13)
  have F_13 := hide (F_12.out.below b13)
  clear b13 B12 L_12 M_12 P_12 N_12 X_12 Y_12 C_12 Cb_12 D_12 Db_12 Z_12 E_12 F_12
  go_wp2_with fail
  refine (M.sameMap_any AE AF _ _ capE capF w13 _ _ z2m z2m E_13.out.pin F_13.out.pin).mono ?_
  rintro e w14 ⟨rfl, q14⟩
  have b14 := q14.below w13.heap.size
  have B14 := hide (B13.out.trans (b14.mono B13.out.size))
  have L_14 := hide (L_13.out.below b14)
  have M_14 := hide (M_13.out.below b14)
  have P_14 := hide (P_13.out.below b14)
  have N_14 := hide (N_13.out.below b14)
  have X_14 := hide (X_13.out.below b14)
  have Y_14 := hide (Y_13.out.below b14)
  have C_14 := hide (C_13.out.below b14)
  have Cb_14 := hide (Cb_13.out.below b14)
  have D_14 := hide (D_13.out.below b14)
  have Db_14 := hide (Db_13.out.below b14)
  have Z_14 := hide (Z_13.out.below b14)
  have E_14 := hide (E_13.out.below b14)
  have F_14 := hide (F_13.out.below b14)
  clear b14 q14 B13 L_13 M_13 P_13 N_13 X_13 Y_13 C_13 Cb_13 D_13 Db_13 Z_13 E_13 F_13
  cases hb : cmB l m ps note
  · rw [hb] at e1 e4
    go_wp2_with fail
    refine (sameMap_any AN AX _ _ capN capX w14 _ _ z1m z1m N_14.out.pin X_14.out.pin).mono ?_
    rintro e w15 ⟨rfl, q15⟩
    have b15 := q15.below w14.heap.size
    have B15 := hide (B14.out.trans (b15.mono B14.out.size))
    have L_15 := hide (L_14.out.below b15)
    have M_15 := hide (M_14.out.below b15)
    have P_15 := hide (P_14.out.below b15)
    have N_15 := hide (N_14.out.below b15)
    have X_15 := hide (X_14.out.below b15)
    have Y_15 := hide (Y_14.out.below b15)
    have C_15 := hide (C_14.out.below b15)
    have Cb_15 := hide (Cb_14.out.below b15)
    have D_15 := hide (D_14.out.below b15)
    have Db_15 := hide (Db_14.out.below b15)
    have Z_15 := hide (Z_14.out.below b15)
    have E_15 := hide (E_14.out.below b15)
    have F_15 := hide (F_14.out.below b15)
    clear b15 q15 B14 L_14 M_14 P_14 N_14 X_14 Y_14 C_14 Cb_14 D_14 Db_14 Z_14 E_14 F_14
    have q30 := Cb_15.out.c0
    have q31 := Cb_15.out.c1
    have q32 := Cb_15.out.c2
    have q40 := Db_15.out.c0
    have q41 := Db_15.out.c1
    have q42 := Db_15.out.c2
    go_wp2_with fail
    refine (sameCommit_same (rdC s).1 (rdC s).2.2 AC AD (rdC s).2.1 capC capD w15 z11 C_15.out.zin D_15.out.zin).mono ?_
    rintro e w16 ⟨rfl, b16⟩
    have B16 := hide (B15.out.trans (b16.mono B15.out.size))
    have L_16 := hide (L_15.out.below b16)
    have M_16 := hide (M_15.out.below b16)
    have P_16 := hide (P_15.out.below b16)
    have N_16 := hide (N_15.out.below b16)
    have X_16 := hide (X_15.out.below b16)
    have Y_16 := hide (Y_15.out.below b16)
    have C_16 := hide (C_15.out.below b16)
    have Cb_16 := hide (Cb_15.out.below b16)
    have D_16 := hide (D_15.out.below b16)
    have Db_16 := hide (Db_15.out.below b16)
    have Z_16 := hide (Z_15.out.below b16)
    have E_16 := hide (E_15.out.below b16)
    have F_16 := hide (F_15.out.below b16)
    clear b16 B15 L_15 M_15 P_15 N_15 X_15 Y_15 C_15 Cb_15 D_15 Db_15 Z_15 E_15 F_15
    go_wp2_with fail
    refine (M.sameMap_any AE AF _ _ capE capF w16 _ _ z2m z2m E_16.out.pin F_16.out.pin).mono ?_
    rintro e w17 ⟨rfl, q17⟩
    have b17 := q17.below w16.heap.size
    have B17 := hide (B16.out.trans (b17.mono B16.out.size))
    have L_17 := hide (L_16.out.below b17)
    have M_17 := hide (M_16.out.below b17)
    have P_17 := hide (P_16.out.below b17)
    have N_17 := hide (N_16.out.below b17)
    have X_17 := hide (X_16.out.below b17)
    have Y_17 := hide (Y_16.out.below b17)
    have C_17 := hide (C_16.out.below b17)
    have Cb_17 := hide (Cb_16.out.below b17)
    have D_17 := hide (D_16.out.below b17)
    have Db_17 := hide (Db_16.out.below b17)
    have Z_17 := hide (Z_16.out.below b17)
    have E_17 := hide (E_16.out.below b17)
    have F_17 := hide (F_16.out.below b17)
    clear b17 q17 B16 L_16 M_16 P_16 N_16 X_16 Y_16 C_16 Cb_16 D_16 Db_16 Z_16 E_16 F_16
    go_wp2_with fail
    go_ret
    exact ⟨rfl, B17.out⟩
  · have HC := hide (cmB_iff.1 hb)
    have CF := hide (cm_found HC.out)
    have JN := hide (cm_join HC.out)
    have LL := cm_len HC.out
    rw [hb] at e1 e4
    clear hb
    generalize cmL l m ps note = nl at *
    generalize cmI l m ps note = ni at *
    obtain ⟨s2, hs2⟩ : ∃ s2, s2 = findV nl ni := ⟨_, rfl⟩
    have hok2 : rdOk s2 = true := by rw [hs2]; exact CF.out.2.1
    have HPS2 : Hid ((rdC s2).2.1 = ps) := hide (by rw [hs2]; exact CF.out.2.2.1)
    have HNT2 : Hid ((rdC s2).2.2 = note) := hide (by rw [hs2]; exact CF.out.2.2.2.1)
    have HS2 := hide hs2
    clear hs2
    go_wp2_with fail
    have CX := implCommitAt_any AN nl capN ni a w14 zim z1m N_14.out.pin (HT.out.below B14.out HB.out) (HE.out.below B14.out)
    rw [← HS2.out] at CX
    refine CX.mono ?_
    rintro e w15 ⟨AG, capG, rfl, own15, b15⟩
    clear CX
    have bx := boxC_below w15 (.string (rdC s2).1) (.slice AG (rdC s2).2.1.length capG) (.string (rdC s2).2.2)
    have bo : BoxC _ w15.heap.size (rdC s2).1 (rdC s2).2.2 AG (rdC s2).2.1.length capG := boxC w15 (rdC s2).1 (rdC s2).2.2 AG (rdC s2).2.1.length capG
    obtain ⟨w16, hw16⟩ : ∃ W, W = w15.alloc (.cells #[.string (rdC s2).1, .slice AG (rdC s2).2.1.length capG, .string (rdC s2).2.2] 38) := ⟨_, rfl⟩
    rw [← hw16] at bx bo
    have ow := own15.below bx
    have bb := b15.trans (bx.mono b15.size)
    clear own15
    have B16 := hide (B14.out.trans (bb.mono B14.out.size))
    have L_16 := hide (L_14.out.below bb)
    have M_16 := hide (M_14.out.below bb)
    have P_16 := hide (P_14.out.below bb)
    have N_16 := hide (N_14.out.below bb)
    have X_16 := hide (X_14.out.below bb)
    have Y_16 := hide (Y_14.out.below bb)
    have C_16 := hide (C_14.out.below bb)
    have Cb_16 := hide (Cb_14.out.below bb)
    have D_16 := hide (D_14.out.below bb)
    have Db_16 := hide (Db_14.out.below bb)
    have Z_16 := hide (Z_14.out.below bb)
    have E_16 := hide (E_14.out.below bb)
    have F_16 := hide (F_14.out.below bb)
    have G_16 := hide (ow.more B14.out.size)
    have Gb_16 := hide bo
    clear b15 bx bo bb ow B14 L_14 M_14 P_14 N_14 X_14 Y_14 C_14 Cb_14 D_14 Db_14 Z_14 E_14 F_14
    have g0 := hok2
    go_wp2_with fail
    rw [← hw16]
    clear hw16
    have MA := implMapAt_any AN nl capN ni a w16 zim z1m N_16.out.pin (HT.out.below B16.out HB.out) (HE.out.below B16.out)
    rw [CF.out.2.2.2.2.1, CF.out.2.2.2.2.2] at MA
    refine MA.mono ?_
    rintro e w17 ⟨AR, capR, hcR, rfl, own17, b17⟩
    have B17 := hide (B16.out.trans (b17.mono B16.out.size))
    have L_17 := hide (L_16.out.below b17)
    have M_17 := hide (M_16.out.below b17)
    have P_17 := hide (P_16.out.below b17)
    have N_17 := hide (N_16.out.below b17)
    have X_17 := hide (X_16.out.below b17)
    have Y_17 := hide (Y_16.out.below b17)
    have C_17 := hide (C_16.out.below b17)
    have Cb_17 := hide (Cb_16.out.below b17)
    have D_17 := hide (D_16.out.below b17)
    have Db_17 := hide (Db_16.out.below b17)
    have Z_17 := hide (Z_16.out.below b17)
    have E_17 := hide (E_16.out.below b17)
    have F_17 := hide (F_16.out.below b17)
    have G_17 := hide (G_16.out.below b17)
    have Gb_17 := hide (Gb_16.out.below b17)
    have R_17 := hide (own17.more B16.out.size)
    clear MA b17 own17 B16 L_16 M_16 P_16 N_16 X_16 Y_16 C_16 Cb_16 D_16 Db_16 Z_16 E_16 F_16 G_16 Gb_16
    go_wp2_with fail
    have JA := implJoined_any AN nl capN AL l capL w17 z1m hlm N_17.out.pin L_17.out.pin (HT.out.below B17.out HB.out)
    rw [JN.out.1, JN.out.2] at JA
    refine JA.mono ?_
    rintro e w18 ⟨AJ, capJ, hcJ, rfl, own18, b18⟩
    have B18 := hide (B17.out.trans (b18.mono B17.out.size))
    have L_18 := hide (L_17.out.below b18)
    have M_18 := hide (M_17.out.below b18)
    have P_18 := hide (P_17.out.below b18)
    have N_18 := hide (N_17.out.below b18)
    have X_18 := hide (X_17.out.below b18)
    have Y_18 := hide (Y_17.out.below b18)
    have C_18 := hide (C_17.out.below b18)
    have Cb_18 := hide (Cb_17.out.below b18)
    have D_18 := hide (D_17.out.below b18)
    have Db_18 := hide (Db_17.out.below b18)
    have Z_18 := hide (Z_17.out.below b18)
    have E_18 := hide (E_17.out.below b18)
    have F_18 := hide (F_17.out.below b18)
    have G_18 := hide (G_17.out.below b18)
    have Gb_18 := hide (Gb_17.out.below b18)
    have R_18 := hide (R_17.out.below b18)
    have J_18 := hide (own18.more B17.out.size)
    clear JA b18 own18 B17 L_17 M_17 P_17 N_17 X_17 Y_17 C_17 Cb_17 D_17 Db_17 Z_17 E_17 F_17 G_17 Gb_17 R_17
    go_wp2_with fail
    have RO := implRepoOk_any AN nl capN a w18 z1m N_18.out.pin (HT.out.below B18.out HB.out) (HE.out.below B18.out)
    rw [CF.out.1] at RO
    refine RO.mono ?_
    rintro e w19 ⟨rfl, b19⟩
    have B19 := hide (B18.out.trans (b19.mono B18.out.size))
    have L_19 := hide (L_18.out.below b19)
    have M_19 := hide (M_18.out.below b19)
    have P_19 := hide (P_18.out.below b19)
    have N_19 := hide (N_18.out.below b19)
    have X_19 := hide (X_18.out.below b19)
    have Y_19 := hide (Y_18.out.below b19)
    have C_19 := hide (C_18.out.below b19)
    have Cb_19 := hide (Cb_18.out.below b19)
    have D_19 := hide (D_18.out.below b19)
    have Db_19 := hide (Db_18.out.below b19)
    have Z_19 := hide (Z_18.out.below b19)
    have E_19 := hide (E_18.out.below b19)
    have F_19 := hide (F_18.out.below b19)
    have G_19 := hide (G_18.out.below b19)
    have Gb_19 := hide (Gb_18.out.below b19)
    have R_19 := hide (R_18.out.below b19)
    have J_19 := hide (J_18.out.below b19)
    clear RO b19 B18 L_18 M_18 P_18 N_18 X_18 Y_18 C_18 Cb_18 D_18 Db_18 Z_18 E_18 F_18 G_18 Gb_18 R_18 J_18
    have e10 := eqS_yes HNT2.out
    have e11 : (nl.length : Int) ≤ (l.length : Int) + 2 := by omega
    have q30 := Gb_19.out.c0
    have q31 := Gb_19.out.c1
    have q32 := Gb_19.out.c2
    have PZ : Hid (ZIn w19 w19.heap.size AG ps) := hide (HPS2.out ▸ G_19.out.zin)
    go_wp2_with fail
    have ST := sameTexts_same AG AP ps capG capP w19 _ _ hpm PZ.out P_19.out.zin
    rw [show (rdC s2).2.1.length = ps.length by rw [HPS2.out]]
    refine ST.mono ?_
    rintro e w20 ⟨rfl, q20⟩
    have b20 := q20.below w19.heap.size
    have B20 := hide (B19.out.trans (b20.mono B19.out.size))
    have L_20 := hide (L_19.out.below b20)
    have M_20 := hide (M_19.out.below b20)
    have P_20 := hide (P_19.out.below b20)
    have N_20 := hide (N_19.out.below b20)
    have X_20 := hide (X_19.out.below b20)
    have Y_20 := hide (Y_19.out.below b20)
    have C_20 := hide (C_19.out.below b20)
    have Cb_20 := hide (Cb_19.out.below b20)
    have D_20 := hide (D_19.out.below b20)
    have Db_20 := hide (Db_19.out.below b20)
    have Z_20 := hide (Z_19.out.below b20)
    have E_20 := hide (E_19.out.below b20)
    have F_20 := hide (F_19.out.below b20)
    have G_20 := hide (G_19.out.below b20)
    have Gb_20 := hide (Gb_19.out.below b20)
    have R_20 := hide (R_19.out.below b20)
    have J_20 := hide (J_19.out.below b20)
    clear ST b20 q20 B19 L_19 M_19 P_19 N_19 X_19 Y_19 C_19 Cb_19 D_19 Db_19 Z_19 E_19 F_19 G_19 Gb_19 R_19 J_19
    have q42 := Gb_20.out.c2
    go_wp2_with fail
    refine (M.sameMap_any AR AM _ _ capR capM w20 _ _ hmm hmm R_20.out.pin M_20.out.pin).mono ?_
    rintro e w21 ⟨rfl, q21⟩
    have b21 := q21.below w20.heap.size
    have B21 := hide (B20.out.trans (b21.mono B20.out.size))
    have L_21 := hide (L_20.out.below b21)
    have M_21 := hide (M_20.out.below b21)
    have P_21 := hide (P_20.out.below b21)
    have N_21 := hide (N_20.out.below b21)
    have X_21 := hide (X_20.out.below b21)
    have Y_21 := hide (Y_20.out.below b21)
    have C_21 := hide (C_20.out.below b21)
    have Cb_21 := hide (Cb_20.out.below b21)
    have D_21 := hide (D_20.out.below b21)
    have Db_21 := hide (Db_20.out.below b21)
    have Z_21 := hide (Z_20.out.below b21)
    have E_21 := hide (E_20.out.below b21)
    have F_21 := hide (F_20.out.below b21)
    have G_21 := hide (G_20.out.below b21)
    have Gb_21 := hide (Gb_20.out.below b21)
    have R_21 := hide (R_20.out.below b21)
    have J_21 := hide (J_20.out.below b21)
    clear b21 q21 B20 L_20 M_20 P_20 N_20 X_20 Y_20 C_20 Cb_20 D_20 Db_20 Z_20 E_20 F_20 G_20 Gb_20 R_20 J_20
    go_wp2_with fail
    refine (sameMap_any AJ AN _ _ capJ capN w21 _ _ z1m z1m J_21.out.pin N_21.out.pin).mono ?_
    rintro e w22 ⟨rfl, q22⟩
    have b22 := q22.below w21.heap.size
    have B22 := hide (B21.out.trans (b22.mono B21.out.size))
    have L_22 := hide (L_21.out.below b22)
    have M_22 := hide (M_21.out.below b22)
    have P_22 := hide (P_21.out.below b22)
    have N_22 := hide (N_21.out.below b22)
    have X_22 := hide (X_21.out.below b22)
    have Y_22 := hide (Y_21.out.below b22)
    have C_22 := hide (C_21.out.below b22)
    have Cb_22 := hide (Cb_21.out.below b22)
    have D_22 := hide (D_21.out.below b22)
    have Db_22 := hide (Db_21.out.below b22)
    have Z_22 := hide (Z_21.out.below b22)
    have E_22 := hide (E_21.out.below b22)
    have F_22 := hide (F_21.out.below b22)
    have G_22 := hide (G_21.out.below b22)
    have Gb_22 := hide (Gb_21.out.below b22)
    have R_22 := hide (R_21.out.below b22)
    have J_22 := hide (J_21.out.below b22)
    clear b22 q22 B21 L_21 M_21 P_21 N_21 X_21 Y_21 C_21 Cb_21 D_21 Db_21 Z_21 E_21 F_21 G_21 Gb_21 R_21 J_21
    go_wp2_with fail
    go_ret
    exact ⟨rfl, B22.out⟩

theorem plainVars : ∀ n ∈ Rows.fnCommittedSpec.vars, n = "loop.example/g00652/impl.errNoCommit" ∨ ∀ g t, Tryz.prog.globalNamed n = some g → (Tryz.prog.globals[g]?).map (·.type) = some t → Tryz.prog.readableRec t = true ∧ t < Tryz.prog.types.size := by
  intro n hn
  have hb : (Rows.fnCommittedSpec.vars).all (fun n => n == "loop.example/g00652/impl.errNoCommit" || ((Tryz.prog.globalNamed n).bind fun g => (Tryz.prog.globals[g]?).map fun x => Tryz.prog.readableRec x.type && decide (x.type < Tryz.prog.types.size)).getD false) = true := by kernel_rfl
  have h := List.all_eq_true.1 hb n hn
  rw [Bool.or_eq_true] at h
  rcases h with h | h
  · exact .inl (by simpa using h)
  refine .inr fun g t h1 h2 => ?_
  rw [h1] at h
  obtain ⟨x, hx, rfl⟩ := Option.map_eq_some_iff.1 h2
  simp only [Option.bind_some, hx, Option.map_some, Option.getD_some, Bool.and_eq_true, decide_eq_true_eq] at h
  exact h
set_option maxRecDepth 100000 in
theorem contract (H : Type) (enc : TypeId × Value → H) (W : World) (base : Nat) (args : Array Value) (ds gs : List (DataW H)) (before : List MemPlace)
    (hval0 : ∀ (j : Nat) t v, Tryz.f5.params[j]? = some t → args[j]? = some v → Value.okWide Tryz.prog W .any base t v)
    (hW : DataW.Whole enc Tryz.prog Tryz.f5.params.toList Rows.fnCommittedSpec.vars false W args.toList ds gs before) (hL : laidMetH Tryz.prog Rows.fnCommittedRow.laid W) :
    Calls Tryz.prog 5 args W fun e W' => ∃ v, e = .returned v ∧ Rows.fnCommittedSpec.post enc Tryz.prog Tryz.f5 false true false false W args v W' := by
  have hval : ∀ (j : Nat) t v, Tryz.f5.params[j]? = some t → args[j]? = some v → Value.okWide Tryz.prog W .any base t v := hval0
  have hT : Tabs W := tabs_of (l := Rows.fnCommittedRow.laid) hL (List.mem_cons_self ..) (List.mem_cons_of_mem _ (List.mem_cons_self ..))
  obtain ⟨a, hE, hvar⟩ := errs_in (W := W) (laid_tail (laid_tail hL))
  have hW' := hW
  obtain ⟨p, q, hA0, hV, rfl, hfz, hnd⟩ := hW
  have hA : DataW.TrodAll enc Tryz.prog W 0 (fun _ => true) true Tryz.f5.params.toList args.toList ds p := hA0
  rw [Tryz.params5] at hA hval
  obtain ⟨v0, vs0, d0, ds0, p0, q0, hargs, rfl, rfl, h0, r0⟩ := trodAll_cons hA
  obtain ⟨rfl, rfl, rfl⟩ := trodAll_nil r0
  obtain rfl : args = #[v0] := by cases args; simp_all
  obtain ⟨x0, x1, x2, rfl⟩ := list3 (vars_len hV)
  obtain ⟨A0, n0, cap0, rfl⟩ := okWide_slice Tryz.underlying22 (hval 0 22 v0 rfl rfl)
  have lt0 : ∀ x ∈ p0, x.block < W.heap.size := by obtain ⟨m, hm⟩ := h0; exact DataW.trod_lt m _ _ _ hm
  obtain ⟨l0, rfl, hl0, hin0⟩ := open_code h0
  clear hA0 hval0
  refine (walk A0 n0 cap0 a W hl0 hin0 hT hE).mono fun e W' ⟨he, bel⟩ => ?_
  subst he
  exact ⟨_, rfl, _, _, _, [], _, q, hW', trodAll_mk1 (shut_bool Tryz.underlying4 _), (trodAll_cons_mk (Below.trod laidOut (by kernel_rfl) (of_decide_eq_true (by kernel_rfl)) h0 bel lt0) trodAll_mk0), vars_stayE laidOut bel hvar plainVars hV, bel.frame _, fun h => by cases h⟩

/-- a world for the witness: the tables hold what their initialisers lay -/
noncomputable def laidWorld (os : Os) : World := layAllE (World.holding Tryz.prog os ⟨#[], #[], []⟩)
theorem laid_met (os : Os) : laidMet Tryz.prog Rows.fnCommittedRow.laid ((laidWorld os).forCall (fun _ _ => 0) ⟨#[], #[.slice none 0 0], []⟩).memory :=
  laidMet_of_run' 8 (by kernel_rfl) (by kernel_rfl)
theorem reads (os : Os) {H : Type} (enc : TypeId × Value → H) : ∃ x, DataW.whole enc Tryz.prog ((laidWorld os).forCall (fun _ _ => 0) ⟨#[], #[.slice none 0 0], []⟩).memory Tryz.f5.params.toList Rows.fnCommittedSpec.vars false (#[.slice none 0 0] : Array Value).toList 8 = some x :=
  Option.isSome_iff_exists.1 (by kernel_rfl)
set_option maxRecDepth 100000 in
theorem lifted (os : Os) (started : os.Started) (H : Type) (enc : TypeId × Value → H) (F : Stop.Interp) :
    ReturnsInHanded {} Tryz.checked os 5 .any ((OpenSpec.ofChange Rows.fnCommittedSpec).preRow enc Tryz.prog Tryz.f5 Rows.fnCommittedRow.domain false Rows.fnCommittedRow.laid) (((OpenSpec.ofChange Rows.fnCommittedSpec).at F).post enc Tryz.prog Tryz.f5 false true false false) := by
  obtain ⟨x, hx⟩ := reads os enc
  refine returnsInHanded_of_row (C := Tryz.checked) (s := OpenSpec.ofChange Rows.fnCommittedSpec) own started (by kernel_rfl) Tryz.func5
    (witness_row_at (enc := enc) (C := Tryz.checked) false (laidWorld os) #[.slice none 0 0] rfl (by kernel_rfl) (by kernel_rfl) (by kernel_rfl)
      (OpenSpec.preRow_of_cond 8 hx rfl (fun k hk => by cases hk) (by kernel_rfl) (laid_met os))) ?_
  intro W base args ds gs before hval hW _ _ _ hL _ _
  exact contract H enc W base args ds gs before hval hW hL
theorem said : Rows.FnCommittedSaid :=
  OpenClaim.holds_of_cond 5 Tryz.f5 rfl rfl rfl rfl rfl rfl rfl ⟨rfl, rfl, rfl, rfl, rfl⟩ rfl rfl rfl rfl rfl (by kernel_rfl) Tryz.func5 (by kernel_rfl)
    (of_decide_eq_true (by kernel_rfl)) (by unfold Func.isWrapper; first | (rw [if_pos (by decide +kernel)]; kernel_rfl) | (rw [if_neg (by decide +kernel)]; exact ⟨rfl, rfl⟩))
    (fun os started H enc _ F => by rw [OpenClaim.pre_eq_preRow]; exact lifted os started H enc F)
theorem plain (f : FuncId) (fn : Func) (hf : Tryz.pinned.checked.prog.funcNamed "loop.example/g00652/laws.FnCommitted" = some f) (hfn : Tryz.pinned.checked.prog.funcs[f]? = some fn) :
    false = Tryz.pinned.checked.prog.looks [] ∧ ∀ (j : Nat) t, fn.params[j]? = some t → Tryz.pinned.checked.prog.wantsStandIn t = false := by
  obtain rfl : f = 5 := Option.some.inj ((show Tryz.prog.funcNamed "loop.example/g00652/laws.FnCommitted" = some 5 by kernel_rfl).symm.trans hf) |>.symm
  obtain rfl : fn = Tryz.f5 := (Option.some.inj (Tryz.func5.symm.trans hfn)).symm
  refine ⟨by kernel_rfl, fun j t ht => ?_⟩
  rw [Tryz.params5] at ht
  have hm := Array.mem_of_getElem? ht
  simp only [List.mem_toArray, List.mem_cons, List.not_mem_nil, or_false] at hm
  subst hm
  exact (show Tryz.prog.wantsStandIn 22 = false by kernel_rfl)
theorem card : Rows.FnCommittedCardSaid :=
  Claim7.holds_tied_plain_at .later [] _ _ _ _ said (fun _ h => by cases h) (by kernel_rfl) (fun _ h => by cases h) fnCommitted_row_tie rfl ⟨rfl, rfl⟩ (by kernel_rfl) rfl plain (by kernel_rfl)

end Go.Proofs.YtehblaigbcbleaaGreatDoor.LCommitted
namespace Go.Proofs.YtehblaigbcbleaaGreatDoor
theorem fnCommitted_proved : Rows.FnCommittedCardSaid := LCommitted.card
end Go.Proofs.YtehblaigbcbleaaGreatDoor
