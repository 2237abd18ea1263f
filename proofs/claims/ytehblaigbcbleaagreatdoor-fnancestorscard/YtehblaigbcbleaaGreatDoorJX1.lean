/-
  laws.FnAncestors returns true whatever the code: all parents of what is reached are reached, and what is reached but where it begins is a parent of one. No conditions but that the two tables of the digest and the sentinel of the reader hold what the program's text lays (the card ties them).
-/
import Derived.Test.YtehblaigbcbleaaGreatDoorJD
import Derived.BigQuiet
import Derived.Test.YtehblaigbcbleaaGreatDoorJC
import Derived.Test.YtehblaigbcbleaaGreatDoorJB
import Derived.Test.YtehblaigbcbleaaGreatDoorJR
/-
  What spec.DrawRepoOk gives: objects, loosely: that they are such.
-/
namespace Go.Proofs.YtehblaigbcbleaaGreatDoor
open Go.RowKit

set_option maxRecDepth 100000 in
set_option maxHeartbeats 2000000 in
theorem drawRepoOk_any (A : Option Addr) (n cap : Nat) (w : World) (hn : n ≤ 1048576) (hin : CIn w w.heap.size A n) :
    Calls Tryz.prog 28 #[.slice A n cap] w (DrawnO w) := by
  go_enter Tryz.func28, Tryz.ntmps28
  go_wp2_with fail
  refine (l1Open_any A n cap w hn hin).mono ?_
  rintro e w1 ⟨rfl, r1, b1⟩
  have B1 := hide b1
  have hlt1 := r1.lt
  clear b1 hin
  go_wp2_with fail
  refine (repo_any w.heap.size 6 w1 r1 (by omega) (by omega)).mono ?_
  rintro e w2 ⟨A2, cap2, l, As, caps, ids, hc2, hi6, TP, rfl, own2, zown2, r2, g2⟩
  have B2 := hide (B1.out.trans (grown_below g2 B1.out.size))
  have O2 := hide own2
  have R2 := hide r2
  have hl60 := top_objs TP
  have hs1 := B1.out.size
  clear own2 zown2 g2 r1 r2 B1 TP
  go_wp2_with fail
  refine (once_any w.heap.size 4 w2 R2.out (by omega) (by omega)).mono ?_
  rintro e w3 ⟨x, rfl, r3, g3⟩
  have B3 := hide (B2.out.trans (grown_below g3 B2.out.size))
  have O3a := hide (O2.out.rd hlt1 g3)
  have O3 := hide (O3a.out.more (B' := w.heap.size) hs1)
  have R3 := hide r3
  clear g3 r3 B2 O2 R2
  by_cases hx : x = true ∧ 0 < l.length
  · obtain ⟨rfl, h0⟩ := hx
    obtain ⟨m, hm, hm1, hml⟩ : ∃ m : Nat, min (2 : Int) (l.length : Int) = (m : Int) ∧ 1 ≤ m ∧ m ≤ l.length := by
      rcases Nat.lt_or_ge l.length 2 with h | h
      · exact ⟨1, by omega, by omega, by omega⟩
      · exact ⟨2, by omega, by omega, by omega⟩
    have K1 : ∀ W, (Instr.slice 24 (.slice A2 l.length cap2) none (some (.int .i64 (1 : Int))) none).run Tryz.prog W = .ok (.slice (cutA A2 cap2 0) 1 cap2) W := run_cut_h 24 Tryz.underlying24 A2 l.length cap2 1 (by omega)
    have K2 := run_cut_l 24 Tryz.underlying24 A2 l.length cap2 m hml
    have IN1 := hide (O3.out.pin.take cap2 1)
    have IN2 := hide (O3.out.pin.drop hc2 m)
    have E1 := hide (show (l.take 1).length = 1 by rw [List.length_take]; omega)
    have E2 := hide (show (l.drop m).length = l.length - m by rw [List.length_drop])
    have W3 : w.heap.size ≤ w3.heap.size := B3.out.size
    have O4 := hide (Own.built w3 w3.heap.size (Nat.le_refl _)).drew
    have B4 := hide (((Below.refl w3.heap.size w3).alloc (Nat.le_refl _) (.cells #[] 81)).drew)
    have IN1b := hide (IN1.out.below B4.out)
    have hla : (l.take 1).length ≤ 60 := by rw [E1.out]; omega
    have hlb : (l.drop m).length ≤ 60 := by rw [E2.out]; omega
    clear O3 O3a
    generalize l.take 1 = la at *
    generalize l.drop m = lb at *
    generalize l.length = ln at *
    go_wp2_with fail
    go_region_law (first
      | (refine step_app (n := 0) (m := 1) (A := some ⟨w3.heap.size, 0, none⟩) (cap := 0) (A' := cutA A2 cap2 0) (c := cap2) 24 Tryz.underlying24 rfl (.tmp 20) (.tmp 22) rfl (by simp [Act.eval, Act.put]) (by simp [Act.eval, Act.put]) rfl E1.out.symm O4.out IN1b.out B4.out.size (by rw [E1.out]; simp) ?_; intro A5 cap5 w5 own5 g5 r5; have B5 := hide (B4.out.trans (O4.out.grownBelow (by rw [rowOf_own]; exact g5) B4.out.size)); have O5 := hide own5; clear own5 g5)
      | (refine step_app (n := la.length) (m := ln - m) (A := A5) (cap := cap5) (A' := cutA A2 cap2 m) (c := cap2 - m) 24 Tryz.underlying24 rfl (.tmp 23) (.tmp 28) rfl (by simp [Act.eval, Act.put]) (by simp [Act.eval, Act.put]) (by simp) E2.out.symm O5.out (IN2.out.below B5.out) B5.out.size (by rw [List.length_append, E1.out, E2.out]; simp; omega) ?_; intro A6 cap6 w6 own6 g6 r6; have B6 := hide (B5.out.trans (O5.out.grownBelow (by rw [rowOf_own]; exact g6) B5.out.size)); have O6 := hide own6; clear own6 g6))
    all_goals
      go_wp2
      go_ret
      have O7 := O6.out.more W3
      have hlen : (([] ++ la) ++ lb).length = la.length + lb.length := by simp
      exact ⟨A6, cap6, _, O7.cap_le, by rw [hlen, E1.out, E2.out]; omega, by first | rfl | (rw [hlen]; rfl), O7, B3.out.trans (B6.out.mono W3)⟩
  · have W3 : w.heap.size ≤ w3.heap.size := B3.out.size
    have FIN : Hid (∀ w4, w3.grownBy w4 (some w.heap.size) → DrawnO w (.returned (.slice A2 l.length cap2)) w4) := hide (fun w4 g4 => ⟨A2, cap2, l, hc2, by omega, rfl, (O3a.out.rd hlt1 g4).more hs1, B3.out.trans (grown_below g4 W3)⟩)
    have hx2 : x = true → ¬ 0 < l.length := fun e h => hx ⟨e, h⟩
    clear hx O3 O3a hc2 hl60
    generalize l.length = ln at *
    cases x
    case' true =>
      have h0 : ¬ 0 < ln := hx2 rfl
    all_goals
      clear hx2
      go_wp2_with fail
      refine (once_any w.heap.size 8 w3 R3.out (by omega) (by omega)).mono ?_
      rintro e w4 ⟨y, rfl, r4, g4⟩
      have F := hide (FIN.out w4 g4)
      have B4 := hide (B3.out.trans (grown_below g4 W3))
      have R4 := hide r4
      have hlt4 := r4.lt
      clear FIN g4 r4 R3 B3
      cases y
      · go_wp2_with fail
        go_ret
        exact F.out
      · go_wp2_with fail
        refine (objsR_any w.heap.size 3 w4 R4.out (by omega) (by omega)).mono ?_
        rintro e w5 ⟨A5, cap5, l5, hc5, hl5, rfl, own5, r5, g5⟩
        have F5 : Hid (DrawnO w (.returned (.slice A5 l5.length cap5)) w5) := hide ⟨A5, cap5, l5, hc5, by omega, rfl, own5.more (by omega), B4.out.trans (grown_below g5 B4.out.size)⟩
        clear own5 r5 g5 F B4 R4
        go_wp2_with fail
        go_ret
        exact F5.out
end Go.Proofs.YtehblaigbcbleaaGreatDoor
namespace Go.Proofs.YtehblaigbcbleaaGreatDoor.LAncestors
open Go.RowKit Go.ChangeShapes Go.WideShapes Go.ChangeAt
open Go.ChangeMaps (open_string shut_string)
/-- all parents of these -/
noncomputable def allK (l : List Pr) (S : List ByteArray) : List ByteArray := S.flatMap (parK l)
theorem allK_mem {l : List Pr} {S : List ByteArray} {q : ByteArray} : q ∈ allK l S ↔ ∃ k ∈ S, q ∈ parK l k := by unfold allK; rw [List.mem_flatMap]
theorem allK_next (l : List Pr) (S : List ByteArray) {i : Nat} (h : i < S.length) : allK l (S.take (i + 1)) = allK l (S.take i) ++ parK l S[i] := by
  unfold allK
  rw [List.take_succ_eq_append_getElem h, List.flatMap_append]
  simp
theorem allK_len (l : List Pr) : ∀ S : List ByteArray, (allK l S).length ≤ 2 * S.length
  | [] => by simp [allK]
  | k :: r => by
    have h := allK_len l r
    have h2 := parK_len l k
    unfold allK at h ⊢
    rw [List.flatMap_cons, List.length_append, List.length_cons]
    omega

set_option maxRecDepth 100000 in
set_option maxHeartbeats 4000000 in
theorem walk (A : Option Addr) (n : Nat) (cap : Nat) (a : Addr) (w : World) (hl : n ≤ maxLen) (hin : CIn w w.heap.size A n) (hT : Tabs w) (hE : ErrC w a) :
    Calls Tryz.prog 6 #[.slice A n cap] w fun e w' => e = .returned (.bool true) ∧ Below w.heap.size w w' := by
  by_cases hbig : 1048576 < n
  · have d : decide (1048576 < n) = true := decide_eq_true hbig
    go_enter Tryz.func6, Tryz.ntmps6
    go_wp2_with (go_at_call 10; refine (big_any A n cap _ hl).mono ?_; rintro e w' ⟨rfl, rfl⟩)
    go_ret
    exact ⟨rfl, Below.refl _ _⟩
  have hn : n ≤ 1048576 := by omega
  have d : decide (1048576 < n) = false := decide_eq_false hbig
  have IN := hide hin
  have HT := hide hT
  have HB := hide hT.1
  have HE := hide hE
  have B0 : Hid (Below w.heap.size w w) := hide (Below.refl _ _)
  clear hin hT hE
  go_enter Tryz.func6, Tryz.ntmps6
  go_wp2_with fail
  refine (big_any A n cap w hl).mono ?_
  rintro e w' ⟨rfl, rfl⟩
  go_wp2_with fail
  refine (drawAncestors_any A n cap w hn IN.out).mono ?_
  rintro e w1 ⟨AL, capL, l, id, hcL, hl60, hid16, ⟨ids, htop⟩, rfl, oL, b1⟩
  have B1 := hide (B0.out.trans (b1.mono B0.out.size))
  have L_1 := hide oL
  have HTOP := hide htop
  clear b1 oL B0 htop
  have hlm : l.length ≤ maxLen := by unfold maxLen; omega
  have hidm : id.size ≤ maxLen := by unfold maxLen; omega
  have HO := hide (repoB_iff.1 HTOP.out.rep).1
  have HZ : (valOf l id).size ≤ 1048576 := Nat.le_trans (valOf_size HO.out id) (by decide)
  have hal := ancK_len l id
  have halm : (ancK l id).length ≤ maxLen := by unfold maxLen; omega
  go_wp2_with fail
  refine (implAncestors_any AL l capL id a w1 hlm L_1.out.pin hidm (HT.out.below B1.out HB.out) (HE.out.below B1.out)).mono ?_
  rintro e w2 ⟨AN, capN, rfl, own2, b2⟩
  have B2 := hide (B1.out.trans (b2.mono B1.out.size))
  have L_2 := hide (L_1.out.below b2)
  have N_2 := hide (own2.more B1.out.size)
  clear b2 own2 B1 L_1
  go_wp2_with fail
  refine (drawRepoOk_any A n cap w2 hn ((IN.out.keep B2.out).more B2.out.size)).mono ?_
  rintro e w3 ⟨AZ, capZ, lz, hcZ, hlz, rfl, own3, b3⟩
  have B3 := hide (B2.out.trans (b3.mono B2.out.size))
  have L_3 := hide (L_2.out.below b3)
  have N_3 := hide (N_2.out.below b3)
  have Z_3 := hide (own3.more B2.out.size)
  clear b3 own3 B2 L_2 N_2
  have hzm : lz.length ≤ maxLen := by unfold maxLen; omega
  have e1 : (repoB lz != repoB lz) = false := by simp
  go_wp2_with fail
  refine (specAncestors_any AL l capL id w3 hlm L_3.out.pin HZ).mono ?_
  rintro e w4 ⟨AX, capX, rfl, own4, b4⟩
  have B4 := hide (B3.out.trans (b4.mono B3.out.size))
  have L_4 := hide (L_3.out.below b4)
  have N_4 := hide (N_3.out.below b4)
  have Z_4 := hide (Z_3.out.below b4)
  have X_4 := hide (own4.more B3.out.size)
  clear b4 own4 B3 L_3 N_3 Z_3
  go_wp2_with fail
  refine (sameTexts_same AN AX (ancK l id) capN capX w4 _ _ halm N_4.out.zin X_4.out.zin).mono ?_
  rintro e w5 ⟨rfl, q5⟩
  have b5 := q5.below w4.heap.size
  have B5 := hide (B4.out.trans (b5.mono B4.out.size))
  have L_5 := hide (L_4.out.below b5)
  have N_5 := hide (N_4.out.below b5)
  have Z_5 := hide (Z_4.out.below b5)
  have X_5 := hide (X_4.out.below b5)
  clear b5 q5 B4 L_4 N_4 Z_4 X_4
  go_wp2_with fail
  refine (implRepoOk_any AZ lz capZ a w5 hzm Z_5.out.pin (HT.out.below B5.out HB.out) (HE.out.below B5.out)).mono ?_
  rintro e w6 ⟨rfl, b6⟩
  have B6 := hide (B5.out.trans (b6.mono B5.out.size))
  have L_6 := hide (L_5.out.below b6)
  have N_6 := hide (N_5.out.below b6)
  have Z_6 := hide (Z_5.out.below b6)
  have X_6 := hide (X_5.out.below b6)
  clear b6 B5 L_5 N_5 Z_5 X_5
  go_wp2_with fail
  refine (specRepoOk_any AZ lz capZ w6 hzm Z_6.out.pin).mono ?_
  rintro e w7 ⟨rfl, b7⟩
  have B7 := hide (B6.out.trans (b7.mono B6.out.size))
  have L_7 := hide (L_6.out.below b7)
  have N_7 := hide (N_6.out.below b7)
  have Z_7 := hide (Z_6.out.below b7)
  have X_7 := hide (X_6.out.below b7)
  clear b7 B6 L_6 N_6 Z_6 X_6
  clear hcZ
  have NZ := hide N_7.out.zin
  have CA : Hid (∀ z ∈ ancK l id, ∀ W, Below w7.heap.size w7 W → Calls Tryz.prog 19 #[.slice AL l.length capL, .string z] W fun e w' => ∃ A cap, e = .returned (.tuple #[.agg #[.string (rdC (valOf l z)).1, .slice A (parK l z).length cap, .string (rdC (valOf l z)).2.2], .bool true]) ∧ ZOwn w' W.heap.size A cap (parK l z) ∧ Below W.heap.size W w') := hide (fun z hz W hb => by
    have hr := anc_rd hz
    have h := implCommitAt_any AL l capL z a W (key_max HO.out hr) hlm ((L_7.out.below hb).pin) (HT.out.below (B7.out.trans (hb.mono B7.out.size)) HB.out) (HE.out.below (B7.out.trans (hb.mono B7.out.size)))
    rw [findV_yes HO.out] at h
    refine h.mono ?_
    rintro e w' ⟨A', cap', rfl, o', b'⟩
    rw [rd_par l z] at o' ⊢
    rw [hr]
    exact ⟨A', cap', rfl, o', b'⟩)
  have SUB : Hid (∀ z ∈ ancK l id, ∀ q ∈ parK l z, q ∈ ancK l id) := hide (fun z hz q hq => anc_par hz hq)
  have ALL : Hid (∀ z ∈ ancK l id, z ≠ id → hasK (allK l (ancK l id)) z = true) := hide (fun z hz hne => by
    obtain ⟨k, hk, hq⟩ := anc_of hz hne
    exact hasK_yes (allK_mem.2 ⟨k, hk, hq⟩))
  have RIS := hide (ancK_ris l id).1
  have HAS : Hid (0 < (ancK l id).length → hasK (ancK l id) id = true) := hide (fun h => by
    obtain ⟨h1, h2, _⟩ := ancK_mem.1 (List.getElem_mem h)
    exact hasK_yes (ancK_mem.2 ⟨h1, h2, .self⟩))
  have WI : Hid (∀ z ∈ ancK l id, ∀ A cap W, Below w7.heap.size w7 W → ZIn W W.heap.size A (parK l z) → Calls Tryz.prog 31 #[.slice A (parK l z).length cap, .slice AN (ancK l id).length capN] W fun e w' => e = .returned (.bool true) ∧ Quiet W w') := hide (fun z hz A cap W hb hin => by
    have := parK_len l z
    exact within_yes A AN (parK l z) (ancK l id) cap capN W _ _ (by unfold maxLen; omega) halm hin (NZ.out.below hb) (SUB.out z hz))
  have LR : Hid (∀ W, Below w7.heap.size w7 W → Calls Tryz.prog 33 #[.slice AN (ancK l id).length capN] W fun e w' => e = .returned (.bool true) ∧ Quiet W w') := hide (fun W hb => lawsRises_yes AN (ancK l id) capN W _ halm RIS.out (NZ.out.below hb))
  have LH : Hid (∀ s W, Below w7.heap.size w7 W → Calls Tryz.prog 32 #[.slice AN (ancK l id).length capN, .string s] W fun e w' => e = .returned (.bool (hasK (ancK l id) s)) ∧ W = w') := hide (fun s W hb => lawsHas_any AN (ancK l id) capN s W _ halm (NZ.out.below hb))
  have PL : Hid (∀ z, (parK l z).length ≤ 2) := hide (fun z => parK_len l z)
  have AL0 : Hid (allK l ((ancK l id).take 0) = []) := hide (by rw [List.take_zero]; rfl)
  have O0 := hide (ZOwn.built w7 w7.heap.size (Nat.le_refl _))
  have Q0 := hide ((Below.refl w7.heap.size w7).alloc (Nat.le_refl _) (.cells #[] 9))
  clear L_7 N_7 X_7 Z_7 HTOP hlm halm hzm HZ HO HE HT hcL SUB RIS
  generalize l.length = ln at *
  generalize ancK l id = pa at *
  generalize hpn : pa.length = pn at *
  have PN := hide hpn
  clear hpn
  rw [← AL0.out] at O0
  go_wp2_with fail
  go_loopw [7, 8] (fun av iv wr => ∃ (i : Nat) (A : Option Addr) (cap : Nat), i ≤ pn ∧ iv = .int .i64 i ∧ av = .slice A (allK l (pa.take i)).length cap ∧ Hid (ZOwn wr w7.heap.size A cap (allK l (pa.take i))) ∧ Hid (Below w7.heap.size w7 wr)) (fun _ i _ => pn - (intOf i).toNat)
  case atStart => exact ⟨0, _, 0, Nat.zero_le _, rfl, by rw [AL0.out]; rfl, O0, Q0⟩
  case round =>
    clear O0 Q0
    obtain ⟨i, A1, cap1, hi, rfl, rfl, O, Q⟩ := hrel
    have sj := Q.out.size
    by_cases hlt : i < pn
    · have hil : i < pa.length := by rw [PN.out]; exact hlt
      obtain ⟨b, off, eN, hb, hc⟩ := NZ.out (by omega)
      subst eN
      have ci := cellB Q.out hb (hc i hil)
      have zm := List.getElem_mem hil
      have TK := hide (allK_next l pa hil)
      have AT := allK_len l (pa.take i)
      have hti : (pa.take i).length ≤ 60 := Nat.le_trans (List.length_take_le ..) (by omega)
      have hp2 := PL.out (pa[i]'hil)
      have CC := hide (CA.out _ zm wr Q.out)
      have WW := hide (WI.out _ zm)
      clear hc
      generalize pa[i]'hil = z at *
      generalize allK l (pa.take i) = all at *
      generalize hpz : parK l z = pz at *
      clear hpz
      generalize (rdC (valOf l z)).1 = t1 at *
      generalize (rdC (valOf l z)).2.2 = t3 at *
      go_wp2_with fail
      refine CC.out.mono ?_
      rintro e w8 ⟨A8, cap8, rfl, own8, b8⟩
      have bx := boxC_below w8 (.string t1) (.slice A8 pz.length cap8) (.string t3)
      have bo : BoxC _ w8.heap.size t1 t3 A8 pz.length cap8 := boxC w8 t1 t3 A8 pz.length cap8
      obtain ⟨w9, hw9⟩ : ∃ W, W = w8.alloc (.cells #[.string t1, .slice A8 pz.length cap8, .string t3] 38) := ⟨_, rfl⟩
      rw [← hw9] at bx bo
      have bb := b8.trans (bx.mono b8.size)
      have P9 := hide (own8.below bx).zin
      have O9 := hide (O.out.below bb)
      have Q9 := hide (Q.out.trans (bb.mono sj))
      have X9 := hide bo
      clear own8 b8 bx bo bb CC
      have c1 := X9.out.c1
      have W9 := hide (WW.out A8 cap8 w9 Q9.out P9.out)
      go_wp2_with fail
      rw [← hw9]
      clear hw9
      go_wp2_with fail
      refine W9.out.mono ?_
      rintro e w10 ⟨rfl, q10⟩
      have b10 := q10.below w9.heap.size
      have P10 := hide (P9.out.below b10)
      have O10 := hide (O9.out.below b10)
      have Q10 := hide (Q9.out.trans (b10.mono Q9.out.size))
      have c1' := (X9.out.below b10).c1
      clear q10 b10 W9 P9 O9 c1 X9
      go_wp2_with (at_builtin; refine wpList_appZ 26 Tryz.underlying26 rfl (.tmp 62) (.tmp 64) rfl rfl rfl rfl rfl O10.out P10.out Q10.out.size (by omega) ?_; intro A11 cap11 w11 own11 g11 r11; have O11 := hide own11; have Q11 := hide (Q10.out.trans (O10.out.grownBelow g11 Q10.out.size)); clear own11 g11 r11)
      go_roundw
      case rel => exact ⟨i + 1, A11, cap11, by omega, by go_num, by rw [TK.out, List.length_append], by rw [TK.out]; exact O11, Q11⟩
      case measure => simp [intOf]; omega
    · have hgt : ¬ ((i : Int) < (pn : Int)) := by omega
      have ei : pa.take i = pa := List.take_of_length_le (by rw [PN.out]; omega)
      rw [ei] at O ⊢
      have AT := allK_len l pa
      have AZ' := hide O.out.zin
      have hallm : (allK l pa).length ≤ maxLen := by unfold maxLen; rw [PN.out] at AT; omega
      clear hlt
      obtain ⟨wm, hwm⟩ : ∃ W, W = wr := ⟨wr, rfl⟩
      subst hwm
      have LA : Hid (∀ s W, Below wm.heap.size wm W → Calls Tryz.prog 32 #[.slice A1 (allK l pa).length cap1, .string s] W fun e w' => e = .returned (.bool (hasK (allK l pa) s)) ∧ W = w') := hide (fun s W hb => lawsHas_any A1 (allK l pa) cap1 s W _ hallm (AZ'.out.below hb))
      clear AZ' O AT hallm ei
      generalize allK l pa = all at *
      go_wp2_with fail
      go_loopw [11] (fun iv wr => ∃ i : Nat, i ≤ pn ∧ iv = .int .i64 i ∧ Hid (Below wm.heap.size wm wr)) (fun i _ => pn - (intOf i).toNat)
      case atStart => exact ⟨0, Nat.zero_le _, rfl, hide (Below.refl _ _)⟩
      case round =>
        obtain ⟨i, hi, rfl, Q2⟩ := hrel
        have QQ := hide (Q.out.trans (Q2.out.mono sj))
        by_cases hlt : i < pn
        · have hil : i < pa.length := by rw [PN.out]; exact hlt
          obtain ⟨b, off, eN, hb, hc⟩ := NZ.out (by omega)
          subst eN
          have ci := cellB QQ.out hb (hc i hil)
          have zm := List.getElem_mem hil
          have HA := hide (LA.out (pa[i]'hil) wr Q2.out)
          have AE := hide (ALL.out _ zm)
          clear hc
          generalize pa[i]'hil = z at *
          by_cases hz : z = id
          · have e2 := eqS_yes hz
            clear AE HA
            go_wp2_with fail
            go_roundw
            case rel => exact ⟨i + 1, by omega, by go_num, Q2⟩
            case measure => simp [intOf]; omega
          · have e2 := eqS_no hz
            rw [AE.out hz] at HA
            go_wp2_with fail
            refine HA.out.mono ?_
            rintro e w' ⟨rfl, rfl⟩
            go_wp2_with fail
            go_roundw
            case rel => exact ⟨i + 1, by omega, by go_num, Q2⟩
            case measure => simp [intOf]; omega
        · have hgt : ¬ ((i : Int) < (pn : Int)) := by omega
          have RR := hide (LR.out wr QQ.out)
          clear hlt
          go_wp2_with fail
          refine RR.out.mono ?_
          rintro e w5 ⟨rfl, q5⟩
          have Q5 := hide (QQ.out.trans ((q5.below _).mono QQ.out.size))
          by_cases hp0 : 0 < pn
          · have HH := hide (LH.out id w5 Q5.out)
            rw [HAS.out hp0] at HH
            have g0 : ((pn : Int) == 0) = false := by simp only [beq_eq_false_iff_ne, ne_eq]; omega
            have g1 : decide ((pn : Int) = 0) = false := decide_eq_false (by omega)
            go_wp2_with fail
            refine HH.out.mono ?_
            rintro e w' ⟨rfl, rfl⟩
            go_wp2_with fail
            go_ret
            exact ⟨rfl, B7.out.trans (Q5.out.mono B7.out.size)⟩
          · have hp1 : pn = 0 := by omega
            have g0 : ((pn : Int) == 0) = true := by rw [hp1]; rfl
            have g1 : decide ((pn : Int) = 0) = true := by rw [hp1]; rfl
            go_wp2_with fail
            go_ret
            exact ⟨rfl, B7.out.trans (Q5.out.mono B7.out.size)⟩

theorem plainVars : ∀ n ∈ Rows.fnAncestorsSpec.vars, n = "loop.example/g00652/impl.errNoCommit" ∨ ∀ g t, Tryz.prog.globalNamed n = some g → (Tryz.prog.globals[g]?).map (·.type) = some t → Tryz.prog.readableRec t = true ∧ t < Tryz.prog.types.size := by
  intro n hn
  have hb : (Rows.fnAncestorsSpec.vars).all (fun n => n == "loop.example/g00652/impl.errNoCommit" || ((Tryz.prog.globalNamed n).bind fun g => (Tryz.prog.globals[g]?).map fun x => Tryz.prog.readableRec x.type && decide (x.type < Tryz.prog.types.size)).getD false) = true := by kernel_rfl
  have h := List.all_eq_true.1 hb n hn
  rw [Bool.or_eq_true] at h
  rcases h with h | h
  · exact .inl (by simpa using h)
  refine .inr fun g t h1 h2 => ?_
  rw [h1] at h
  obtain ⟨x, hx, rfl⟩ := Option.map_eq_some_iff.1 h2
  simp only [Option.bind_some, hx, Option.map_some, Option.getD_some, Bool.and_eq_true, decide_eq_true_eq] at h
  exact h
set_option maxRecDepth 100000 in
theorem contract (H : Type) (enc : TypeId × Value → H) (W : World) (base : Nat) (args : Array Value) (ds gs : List (DataW H)) (before : List MemPlace)
    (hval0 : ∀ (j : Nat) t v, Tryz.f6.params[j]? = some t → args[j]? = some v → Value.okWide Tryz.prog W .any base t v)
    (hW : DataW.Whole enc Tryz.prog Tryz.f6.params.toList Rows.fnAncestorsSpec.vars false W args.toList ds gs before) (hL : laidMetH Tryz.prog Rows.fnAncestorsRow.laid W) :
    Calls Tryz.prog 6 args W fun e W' => ∃ v, e = .returned v ∧ Rows.fnAncestorsSpec.post enc Tryz.prog Tryz.f6 false true false false W args v W' := by
  have hval : ∀ (j : Nat) t v, Tryz.f6.params[j]? = some t → args[j]? = some v → Value.okWide Tryz.prog W .any base t v := hval0
  have hT : Tabs W := tabs_of (l := Rows.fnAncestorsRow.laid) hL (List.mem_cons_self ..) (List.mem_cons_of_mem _ (List.mem_cons_self ..))
  obtain ⟨a, hE, hvar⟩ := errs_in (W := W) (laid_tail (laid_tail hL))
  have hW' := hW
  obtain ⟨p, q, hA0, hV, rfl, hfz, hnd⟩ := hW
  have hA : DataW.TrodAll enc Tryz.prog W 0 (fun _ => true) true Tryz.f6.params.toList args.toList ds p := hA0
  rw [Tryz.params6] at hA hval
  obtain ⟨v0, vs0, d0, ds0, p0, q0, hargs, rfl, rfl, h0, r0⟩ := trodAll_cons hA
  obtain ⟨rfl, rfl, rfl⟩ := trodAll_nil r0
  obtain rfl : args = #[v0] := by cases args; simp_all
  obtain ⟨x0, x1, x2, rfl⟩ := list3 (vars_len hV)
  obtain ⟨A0, n0, cap0, rfl⟩ := okWide_slice Tryz.underlying22 (hval 0 22 v0 rfl rfl)
  have lt0 : ∀ x ∈ p0, x.block < W.heap.size := by obtain ⟨m, hm⟩ := h0; exact DataW.trod_lt m _ _ _ hm
  obtain ⟨l0, rfl, hl0, hin0⟩ := open_code h0
  clear hA0 hval0
  refine (walk A0 n0 cap0 a W hl0 hin0 hT hE).mono fun e W' ⟨he, bel⟩ => ?_
  subst he
  exact ⟨_, rfl, _, _, _, [], _, q, hW', trodAll_mk1 (shut_bool Tryz.underlying4 _), (trodAll_cons_mk (Below.trod laidOut (by kernel_rfl) (of_decide_eq_true (by kernel_rfl)) h0 bel lt0) trodAll_mk0), vars_stayE laidOut bel hvar plainVars hV, bel.frame _, fun h => by cases h⟩

/-- a world for the witness: the tables hold what their initialisers lay -/
noncomputable def laidWorld (os : Os) : World := layAllE (World.holding Tryz.prog os ⟨#[], #[], []⟩)
theorem laid_met (os : Os) : laidMet Tryz.prog Rows.fnAncestorsRow.laid ((laidWorld os).forCall (fun _ _ => 0) ⟨#[], #[.slice none 0 0], []⟩).memory :=
  laidMet_of_run' 8 (by kernel_rfl) (by kernel_rfl)
theorem reads (os : Os) {H : Type} (enc : TypeId × Value → H) : ∃ x, DataW.whole enc Tryz.prog ((laidWorld os).forCall (fun _ _ => 0) ⟨#[], #[.slice none 0 0], []⟩).memory Tryz.f6.params.toList Rows.fnAncestorsSpec.vars false (#[.slice none 0 0] : Array Value).toList 8 = some x :=
  Option.isSome_iff_exists.1 (by kernel_rfl)
set_option maxRecDepth 100000 in
theorem lifted (os : Os) (started : os.Started) (H : Type) (enc : TypeId × Value → H) (F : Stop.Interp) :
    ReturnsInHanded {} Tryz.checked os 6 .any ((OpenSpec.ofChange Rows.fnAncestorsSpec).preRow enc Tryz.prog Tryz.f6 Rows.fnAncestorsRow.domain false Rows.fnAncestorsRow.laid) (((OpenSpec.ofChange Rows.fnAncestorsSpec).at F).post enc Tryz.prog Tryz.f6 false true false false) := by
  obtain ⟨x, hx⟩ := reads os enc
  refine returnsInHanded_of_row (C := Tryz.checked) (s := OpenSpec.ofChange Rows.fnAncestorsSpec) own started (by kernel_rfl) Tryz.func6
    (witness_row_at (enc := enc) (C := Tryz.checked) false (laidWorld os) #[.slice none 0 0] rfl (by kernel_rfl) (by kernel_rfl) (by kernel_rfl)
      (OpenSpec.preRow_of_cond 8 hx rfl (fun k hk => by cases hk) (by kernel_rfl) (laid_met os))) ?_
  intro W base args ds gs before hval hW _ _ _ hL _ _
  exact contract H enc W base args ds gs before hval hW hL
theorem said : Rows.FnAncestorsSaid :=
  OpenClaim.holds_of_cond 6 Tryz.f6 rfl rfl rfl rfl rfl rfl rfl ⟨rfl, rfl, rfl, rfl, rfl⟩ rfl rfl rfl rfl rfl (by kernel_rfl) Tryz.func6 (by kernel_rfl)
    (of_decide_eq_true (by kernel_rfl)) (by unfold Func.isWrapper; first | (rw [if_pos (by decide +kernel)]; kernel_rfl) | (rw [if_neg (by decide +kernel)]; exact ⟨rfl, rfl⟩))
    (fun os started H enc _ F => by rw [OpenClaim.pre_eq_preRow]; exact lifted os started H enc F)
theorem plain (f : FuncId) (fn : Func) (hf : Tryz.pinned.checked.prog.funcNamed "loop.example/g00652/laws.FnAncestors" = some f) (hfn : Tryz.pinned.checked.prog.funcs[f]? = some fn) :
    false = Tryz.pinned.checked.prog.looks [] ∧ ∀ (j : Nat) t, fn.params[j]? = some t → Tryz.pinned.checked.prog.wantsStandIn t = false := by
  obtain rfl : f = 6 := Option.some.inj ((show Tryz.prog.funcNamed "loop.example/g00652/laws.FnAncestors" = some 6 by kernel_rfl).symm.trans hf) |>.symm
  obtain rfl : fn = Tryz.f6 := (Option.some.inj (Tryz.func6.symm.trans hfn)).symm
  refine ⟨by kernel_rfl, fun j t ht => ?_⟩
  rw [Tryz.params6] at ht
  have hm := Array.mem_of_getElem? ht
  simp only [List.mem_toArray, List.mem_cons, List.not_mem_nil, or_false] at hm
  subst hm
  exact (show Tryz.prog.wantsStandIn 22 = false by kernel_rfl)
theorem card : Rows.FnAncestorsCardSaid :=
  Claim7.holds_tied_plain_at .later [] _ _ _ _ said (fun _ h => by cases h) (by kernel_rfl) (fun _ h => by cases h) fnAncestors_row_tie rfl ⟨rfl, rfl⟩ (by kernel_rfl) rfl plain (by kernel_rfl)

end Go.Proofs.YtehblaigbcbleaaGreatDoor.LAncestors
namespace Go.Proofs.YtehblaigbcbleaaGreatDoor
theorem fnAncestors_proved : Rows.FnAncestorsCardSaid := LAncestors.card
end Go.Proofs.YtehblaigbcbleaaGreatDoor
