/-
  laws.FnBases returns true whatever the code: the best of what two have in common is behind both, none of it behind another one, and all that both have is behind one of it. No conditions but that the two tables of the digest and the sentinel of the reader hold what the program's text lays (the card ties them).
-/
import Derived.Test.YtehblaigbcbleaaGreatDoorJC
import Derived.Test.YtehblaigbcbleaaGreatDoorJD
import Derived.Test.YtehblaigbcbleaaGreatDoorJB
import Derived.Test.YtehblaigbcbleaaGreatDoorJO
namespace Go.Proofs.YtehblaigbcbleaaGreatDoor.LBases
open Go.RowKit Go.ChangeShapes Go.WideShapes Go.ChangeAt
open Go.ChangeMaps (open_string shut_string)

set_option maxRecDepth 100000 in
set_option maxHeartbeats 4000000 in
theorem walk (A : Option Addr) (n : Nat) (cap : Nat) (a : Addr) (w : World) (hl : n ≤ maxLen) (hin : CIn w w.heap.size A n) (hT : Tabs w) (hE : ErrC w a) :
    Calls Tryz.prog 8 #[.slice A n cap] w fun e w' => e = .returned (.bool true) ∧ Below w.heap.size w w' := by
  by_cases hbig : 1048576 < n
  · have d : decide (1048576 < n) = true := decide_eq_true hbig
    go_enter Tryz.func8, Tryz.ntmps8
    go_wp2_with (go_at_call 10; refine (big_any A n cap _ hl).mono ?_; rintro e w' ⟨rfl, rfl⟩)
    go_ret
    exact ⟨rfl, Below.refl _ _⟩
  have hn : n ≤ 1048576 := by omega
  have d : decide (1048576 < n) = false := decide_eq_false hbig
  have IN := hide hin
  have HT := hide hT
  have HB := hide hT.1
  have HE := hide hE
  have B0 : Hid (Below w.heap.size w w) := hide (Below.refl _ _)
  clear hin hT hE
  go_enter Tryz.func8, Tryz.ntmps8
  go_wp2_with fail
  refine (big_any A n cap w hl).mono ?_
  rintro e w' ⟨rfl, rfl⟩
  go_wp2_with fail
  refine (drawBasesOf_any A n cap w hn IN.out).mono ?_
  rintro e w1 ⟨AL, capL, l, x, y, hcL, hl60, hx16, hy16, ⟨ids, htop⟩, rfl, oL, b1⟩
  have B1 := hide (B0.out.trans (b1.mono B0.out.size))
  have L_1 := hide oL
  have AC := hide htop.acy
  have HO := hide (repoB_iff.1 htop.rep).1
  clear b1 oL B0 htop
  have hlm : l.length ≤ maxLen := by unfold maxLen; omega
  have hxm : x.size ≤ maxLen := by unfold maxLen; omega
  have hym : y.size ≤ maxLen := by unfold maxLen; omega
  have HZ : Hid (∀ k, (valOf l k).size ≤ 1048576) := hide (fun k => Nat.le_trans (valOf_size HO.out k) (by decide))
  have hal := ancK_len l x
  have hbl := ancK_len l y
  have hsl := bestK_len l x y
  have ham : (ancK l x).length ≤ maxLen := by unfold maxLen; omega
  have hbm : (ancK l y).length ≤ maxLen := by unfold maxLen; omega
  have hsm : (bestK l x y).length ≤ maxLen := by unfold maxLen; omega
  go_wp2_with fail
  refine (implBases_any AL l capL x y a w1 hlm L_1.out.pin hxm hym (HT.out.below B1.out HB.out) (HE.out.below B1.out)).mono ?_
  rintro e w2 ⟨AN, capN, rfl, own2, b2⟩
  have B2 := hide (B1.out.trans (b2.mono B1.out.size))
  have L_2 := hide (L_1.out.below b2)
  have N_2 := hide (own2.more B1.out.size)
  clear b2 own2 B1 L_1
  go_wp2_with fail
  refine (specBases_any AL l capL x y w2 hlm L_2.out.pin HZ.out).mono ?_
  rintro e w3 ⟨AX, capX, rfl, own3, b3⟩
  have B3 := hide (B2.out.trans (b3.mono B2.out.size))
  have L_3 := hide (L_2.out.below b3)
  have N_3 := hide (N_2.out.below b3)
  have X_3 := hide (own3.more B2.out.size)
  clear b3 own3 B2 L_2 N_2
  go_wp2_with fail
  refine (sameTexts_same AN AX (bestK l x y) capN capX w3 _ _ hsm N_3.out.zin X_3.out.zin).mono ?_
  rintro e w4 ⟨rfl, q4⟩
  have b4 := q4.below w3.heap.size
  have B4 := hide (B3.out.trans (b4.mono B3.out.size))
  have L_4 := hide (L_3.out.below b4)
  have N_4 := hide (N_3.out.below b4)
  have X_4 := hide (X_3.out.below b4)
  clear b4 q4 B3 L_3 N_3 X_3
  go_wp2_with fail
  have SW := implBases_any AL l capL y x a w4 hlm L_4.out.pin hym hxm (HT.out.below B4.out HB.out) (HE.out.below B4.out)
  rw [bestK_swap l x y] at SW
  refine SW.mono ?_
  rintro e w5 ⟨AY, capY, rfl, own5, b5⟩
  have B5 := hide (B4.out.trans (b5.mono B4.out.size))
  have L_5 := hide (L_4.out.below b5)
  have N_5 := hide (N_4.out.below b5)
  have X_5 := hide (X_4.out.below b5)
  have Y_5 := hide (own5.more B4.out.size)
  clear SW b5 own5 B4 L_4 N_4 X_4
  go_wp2_with fail
  refine (sameTexts_same AY AN (bestK l x y) capY capN w5 _ _ hsm Y_5.out.zin N_5.out.zin).mono ?_
  rintro e w6 ⟨rfl, q6⟩
  have b6 := q6.below w5.heap.size
  have B6 := hide (B5.out.trans (b6.mono B5.out.size))
  have L_6 := hide (L_5.out.below b6)
  have N_6 := hide (N_5.out.below b6)
  have X_6 := hide (X_5.out.below b6)
  have Y_6 := hide (Y_5.out.below b6)
  clear b6 q6 B5 L_5 N_5 X_5 Y_5
  go_wp2_with fail
  refine (lawsRises_yes AN (bestK l x y) capN w6 _ hsm (bestK_ris l x y) N_6.out.zin).mono ?_
  rintro e w7 ⟨rfl, q7⟩
  have b7 := q7.below w6.heap.size
  have B7 := hide (B6.out.trans (b7.mono B6.out.size))
  have L_7 := hide (L_6.out.below b7)
  have N_7 := hide (N_6.out.below b7)
  have X_7 := hide (X_6.out.below b7)
  have Y_7 := hide (Y_6.out.below b7)
  clear b7 q7 B6 L_6 N_6 X_6 Y_6
  go_wp2_with fail
  refine (implAncestors_any AL l capL x a w7 hlm L_7.out.pin hxm (HT.out.below B7.out HB.out) (HE.out.below B7.out)).mono ?_
  rintro e w8 ⟨AP, capP, rfl, own8, b8⟩
  have B8 := hide (B7.out.trans (b8.mono B7.out.size))
  have L_8 := hide (L_7.out.below b8)
  have N_8 := hide (N_7.out.below b8)
  have X_8 := hide (X_7.out.below b8)
  have Y_8 := hide (Y_7.out.below b8)
  have P_8 := hide (own8.more B7.out.size)
  clear b8 own8 B7 L_7 N_7 X_7 Y_7
  go_wp2_with fail
  refine (implAncestors_any AL l capL y a w8 hlm L_8.out.pin hym (HT.out.below B8.out HB.out) (HE.out.below B8.out)).mono ?_
  rintro e w9 ⟨AQ, capQ, rfl, own9, b9⟩
  have B9 := hide (B8.out.trans (b9.mono B8.out.size))
  have L_9 := hide (L_8.out.below b9)
  have N_9 := hide (N_8.out.below b9)
  have X_9 := hide (X_8.out.below b9)
  have Y_9 := hide (Y_8.out.below b9)
  have P_9 := hide (P_8.out.below b9)
  have Q_9 := hide (own9.more B8.out.size)
  clear b9 own9 B8 L_8 N_8 X_8 Y_8 P_8
  have NZ := hide N_9.out.zin
  have PZ := hide P_9.out.zin
  have QZ := hide Q_9.out.zin
  have HX : Hid (∀ s W, Below w9.heap.size w9 W → Calls Tryz.prog 32 #[.slice AP (ancK l x).length capP, .string s] W fun e w' => e = .returned (.bool (hasK (ancK l x) s)) ∧ W = w') := hide (fun s W hb => lawsHas_any AP (ancK l x) capP s W w9.heap.size ham (PZ.out.below hb))
  have HY : Hid (∀ s W, Below w9.heap.size w9 W → Calls Tryz.prog 32 #[.slice AQ (ancK l y).length capQ, .string s] W fun e w' => e = .returned (.bool (hasK (ancK l y) s)) ∧ W = w') := hide (fun s W hb => lawsHas_any AQ (ancK l y) capQ s W w9.heap.size hbm (QZ.out.below hb))
  have IS : Hid (∀ s u, u ∈ bestK l x y → ∀ W, Below w9.heap.size w9 W → Calls Tryz.prog 35 #[.slice AL l.length capL, .string s, .string u] W fun e w' => e = .returned (.bool (isAncV l s u)) ∧ Below W.heap.size W w') := hide (fun s u hu W hb => implIsAncestor_any AL l capL s u a W hlm ((L_9.out.below hb).pin) (key_max HO.out (anc_rd (best_in hu).1)) (HT.out.below (B9.out.trans (hb.mono B9.out.size)) HB.out) (HE.out.below (B9.out.trans (hb.mono B9.out.size))))
  have BX : Hid (∀ s ∈ bestK l x y, hasK (ancK l x) s = true ∧ hasK (ancK l y) s = true) := hide (fun s hs => ⟨hasK_yes (best_in hs).1, hasK_yes (best_in hs).2⟩)
  have APA : Hid (∀ s ∈ bestK l x y, ∀ u ∈ bestK l x y, u ≠ s → isAncV l s u = false) := hide (fun s hs u hu hne => best_apart hs hu hne)
  have ND := hide (risK_nodup (bestK_ris l x y))
  have AL2 : Hid (∀ s ∈ ancK l x, hasK (ancK l y) s = true → anyK l (bestK l x y) s = true) := hide (fun s hs h => anyK_best AC.out hs (Classical.byContradiction fun hn => by rw [hasK_no hn] at h; cases h))
  clear L_9 N_9 X_9 Y_9 P_9 Q_9 hlm hxm hym ham hbm hsm HZ HO AC HE HT hcL
  generalize l.length = ln at *
  generalize bestK l x y = best at *
  generalize ancK l x = pa at *
  generalize ancK l y = pb at *
  generalize hbn : best.length = bn at *
  generalize hpn : pa.length = pn at *
  generalize pb.length = qn at *
  have BN := hide hbn
  have PN := hide hpn
  clear hbn hpn
  go_wp2_with fail
  go_loopw [9] (fun iv wr => ∃ i : Nat, i ≤ bn ∧ iv = .int .i64 i ∧ Hid (Below w9.heap.size w9 wr)) (fun i _ => bn - (intOf i).toNat)
  case atStart => exact ⟨0, Nat.zero_le _, rfl, hide (Below.refl _ _)⟩
  case round =>
    obtain ⟨i, hi, rfl, Q⟩ := hrel
    have sj := Q.out.size
    by_cases hlt : i < bn
    · have hil : i < best.length := by rw [BN.out]; exact hlt
      obtain ⟨b, off, eN, hb, hc⟩ := NZ.out (by omega)
      subst eN
      have HC := hide hc
      have ci := cellB Q.out hb (hc i hil)
      have zm := List.getElem_mem hil
      have hX := hide (HX.out (best[i]'hil) wr Q.out)
      have hY := hide (HY.out (best[i]'hil) wr Q.out)
      rw [(BX.out _ zm).1] at hX
      rw [(BX.out _ zm).2] at hY
      have NE : Hid (∀ k (h : k < best.length), k ≠ i → best[k] ≠ best[i]'hil) := hide (fun k h hne e => hne ((List.getElem_inj ND.out).1 e))
      have hbr : b < wr.heap.size := by omega
      clear hc
      generalize best[i]'hil = z at *
      go_wp2_with fail
      refine hX.out.mono ?_
      rintro e w' ⟨rfl, rfl⟩
      go_wp2_with fail
      refine hY.out.mono ?_
      rintro e w' ⟨rfl, rfl⟩
      obtain ⟨wi, hwi⟩ : ∃ W, W = wr := ⟨wr, rfl⟩
      subst hwi
      go_wp2_with fail
      go_loopw [10] (fun kv wr => ∃ k : Nat, k ≤ bn ∧ kv = .int .i64 k ∧ Hid (Below wi.heap.size wi wr)) (fun i _ => bn - (intOf i).toNat)
      case atStart => exact ⟨0, Nat.zero_le _, rfl, hide (Below.refl _ _)⟩
      case round =>
        obtain ⟨k, hk, rfl, Q2⟩ := hrel
        have s2 := Q2.out.size
        have QQ := hide (Q.out.trans (Q2.out.mono sj))
        have di := cellB Q2.out hbr ci
        by_cases hltk : k < bn
        · have hkl : k < best.length := by rw [BN.out]; exact hltk
          have dk := cellB QQ.out hb (HC.out k hkl)
          have um := List.getElem_mem hkl
          have hbw : b < wr.heap.size := by omega
          by_cases hki : k = i
          · have q1 : ((k : Int) != (i : Int)) = false := by rw [hki]; simp
            have q2 : decide ((k : Int) = (i : Int)) = true := decide_eq_true (by rw [hki])
            go_wp2_with fail
            refine wp_region_cls (by kernel_rfl) (by kernel_rfl) wr.heap.size ?_
            repeat (go_big_quiet_step ((fail)))
            refine wpQuiet_nil ?_
            intro _ hw'
            obtain ⟨u, hw''⟩ := hw'
            subst hw''
            have Q3 := hide (Q2.out.trans (u.below.mono s2))
            go_wp2_with fail
            go_roundw
            case rel => exact ⟨k + 1, by omega, by go_num, Q3⟩
            case measure => simp [intOf]; omega
          · have q1 : ((k : Int) != (i : Int)) = true := by simp only [bne_iff_ne, ne_eq]; omega
            have q2 : decide ((k : Int) = (i : Int)) = false := decide_eq_false (by omega)
            have IC : Hid (∀ u : Cls wr.heap.size wr, Calls Tryz.prog 35 #[.slice AL ln capL, .string z, .string (best[k]'hkl)] u.wo fun e w' => e = .returned (.bool false) ∧ Below u.wo.heap.size u.wo w') := hide (fun u => by
              have h := IS.out z _ um u.wo (QQ.out.trans (u.below.mono (Nat.le_trans sj s2)))
              rw [APA.out z zm _ um (NE.out k hkl hki)] at h
              exact h)
            generalize best[k]'hkl = v at *
            have y1 := cls_cell (B := wr.heap.size) (p := ⟨b, off + i, none⟩) hbw di
            have y2 := cls_cell (B := wr.heap.size) (p := ⟨b, off + k, none⟩) hbw dk
            go_wp2_with fail
            refine wp_region_cls (by kernel_rfl) (by kernel_rfl) wr.heap.size ?_
            repeat (go_big_quiet_step ((go_at_call 35; exact cls_call (Nat.le_refl _) (IC.out _))))
            refine wpQuiet_nil ?_
            intro _ hw'
            obtain ⟨u, hw''⟩ := hw'
            subst hw''
            have Q3 := hide (Q2.out.trans (u.below.mono s2))
            go_wp2_with fail
            go_roundw
            case rel => exact ⟨k + 1, by omega, by go_num, Q3⟩
            case measure => simp [intOf]; omega
        · have hgt : ¬ ((k : Int) < (bn : Int)) := by omega
          clear hltk
          go_wp2_with fail
          go_roundw
          case rel => exact ⟨i + 1, by omega, by go_num, QQ⟩
          case measure => simp [intOf]; omega
    · have hgt : ¬ ((i : Int) < (bn : Int)) := by omega
      clear hlt
      obtain ⟨wm, hwm⟩ : ∃ W, W = wr := ⟨wr, rfl⟩
      subst hwm
      have PZ1 := hide (PZ.out.below Q.out)
      go_wp2_with fail
      go_loopw [11] (fun iv wr => ∃ i : Nat, i ≤ pn ∧ iv = .int .i64 i ∧ Hid (Below w9.heap.size w9 wr)) (fun i _ => pn - (intOf i).toNat)
      case atStart => exact ⟨0, Nat.zero_le _, rfl, Q⟩
      case round =>
        clear Q sj
        obtain ⟨i, hi, rfl, Q⟩ := hrel
        have sj := Q.out.size
        by_cases hlt : i < pn
        · have hil : i < pa.length := by rw [PN.out]; exact hlt
          obtain ⟨b, off, eP, hb, hc⟩ := PZ.out (by omega)
          subst eP
          have ci := cellB Q.out hb (hc i hil)
          have zm := List.getElem_mem hil
          have hY := hide (HY.out (pa[i]'hil) wr Q.out)
          have AE := hide (AL2.out _ zm)
          have hbr : b < wr.heap.size := by omega
          clear hc
          generalize pa[i]'hil = z at *
          go_wp2_with fail
          refine hY.out.mono ?_
          rintro e w' ⟨rfl, rfl⟩
          cases hhas : hasK pb z
          · go_wp2_with fail
            go_roundw
            case rel => exact ⟨i + 1, by omega, by go_num, Q⟩
            case measure => simp [intOf]; omega
          · have AE1 := hide (AE.out hhas)
            clear hhas AE
            obtain ⟨wi, hwi⟩ : ∃ W, W = wr := ⟨wr, rfl⟩
            subst hwi
            go_wp2_with fail
            go_loopw [12, 13] (fun uv kv wr => ∃ k : Nat, k ≤ bn ∧ kv = .int .i64 k ∧ uv = .bool (anyK l (best.take k) z) ∧ Hid (Below wi.heap.size wi wr)) (fun _ i _ => bn - (intOf i).toNat)
            case atStart => exact ⟨0, Nat.zero_le _, rfl, by rw [List.take_zero, anyK_nil], hide (Below.refl _ _)⟩
            case round =>
              obtain ⟨k, hk, rfl, rfl, Q2⟩ := hrel
              have s2 := Q2.out.size
              have QQ := hide (Q.out.trans (Q2.out.mono sj))
              have di := cellB Q2.out hbr ci
              by_cases hltk : k < bn
              · have hkl : k < best.length := by rw [BN.out]; exact hltk
                obtain ⟨b2, off2, eN, hb2, hc2⟩ := NZ.out (by omega)
                subst eN
                have dk := cellB QQ.out hb2 (hc2 k hkl)
                have um := List.getElem_mem hkl
                have hbw : b < wr.heap.size := by omega
                have hbw2 : b2 < wr.heap.size := by omega
                have TK : Hid (anyK l (best.take (k + 1)) z = (anyK l (best.take k) z || isAncV l z (best[k]'hkl))) := hide (by rw [List.take_succ_eq_append_getElem hkl, anyK_next])
                have IC : Hid (∀ u : Cls wr.heap.size wr, Calls Tryz.prog 35 #[.slice AL ln capL, .string z, .string (best[k]'hkl)] u.wo fun e w' => e = .returned (.bool (isAncV l z (best[k]'hkl))) ∧ Below u.wo.heap.size u.wo w') := hide (fun u => IS.out z _ um u.wo (QQ.out.trans (u.below.mono (Nat.le_trans sj s2))))
                clear hc2
                generalize best[k]'hkl = v at *
                have y1 := cls_cell (B := wr.heap.size) (p := ⟨b, off + i, none⟩) hbw di
                have y2 := cls_cell (B := wr.heap.size) (p := ⟨b2, off2 + k, none⟩) hbw2 dk
                cases hany : anyK l (best.take k) z
                · rw [hany] at TK
                  clear hany
                  go_wp2_with fail
                  refine wp_region_cls (by kernel_rfl) (by kernel_rfl) wr.heap.size ?_
                  repeat (go_big_quiet_step ((go_at_call 35; exact cls_call (Nat.le_refl _) (IC.out _))))
                  refine wpQuiet_nil ?_
                  intro _ hw'
                  obtain ⟨u, hw''⟩ := hw'
                  subst hw''
                  have Q3 := hide (Q2.out.trans (u.below.mono s2))
                  go_wp2_with fail
                  go_roundw
                  case rel => exact ⟨k + 1, by omega, by go_num, by rw [TK.out, Bool.false_or], Q3⟩
                  case measure => simp [intOf]; omega
                · rw [hany] at TK
                  clear hany
                  go_wp2_with fail
                  refine wp_region_cls (by kernel_rfl) (by kernel_rfl) wr.heap.size ?_
                  repeat (go_big_quiet_step ((fail)))
                  refine wpQuiet_nil ?_
                  intro _ hw'
                  obtain ⟨u, hw''⟩ := hw'
                  subst hw''
                  have Q3 := hide (Q2.out.trans (u.below.mono s2))
                  go_wp2_with fail
                  go_roundw
                  case rel => exact ⟨k + 1, by omega, by go_num, by rw [TK.out, Bool.true_or], Q3⟩
                  case measure => simp [intOf]; omega
              · have hgt : ¬ ((k : Int) < (bn : Int)) := by omega
                have ek : best.take k = best := List.take_of_length_le (by rw [BN.out]; omega)
                have AE2 : Hid (anyK l (best.take k) z = true) := hide (by rw [ek]; exact AE1.out)
                rw [AE2.out]
                clear hltk ek AE2
                go_wp2_with fail
                go_roundw
                case rel => exact ⟨i + 1, by omega, by go_num, QQ⟩
                case measure => simp [intOf]; omega
        · have hgt : ¬ ((i : Int) < (pn : Int)) := by omega
          clear hlt
          go_wp2_with fail
          go_ret
          exact ⟨rfl, B9.out.trans (Q.out.mono B9.out.size)⟩

theorem plainVars : ∀ n ∈ Rows.fnBasesSpec.vars, n = "loop.example/g00652/impl.errNoCommit" ∨ ∀ g t, Tryz.prog.globalNamed n = some g → (Tryz.prog.globals[g]?).map (·.type) = some t → Tryz.prog.readableRec t = true ∧ t < Tryz.prog.types.size := by
  intro n hn
  have hb : (Rows.fnBasesSpec.vars).all (fun n => n == "loop.example/g00652/impl.errNoCommit" || ((Tryz.prog.globalNamed n).bind fun g => (Tryz.prog.globals[g]?).map fun x => Tryz.prog.readableRec x.type && decide (x.type < Tryz.prog.types.size)).getD false) = true := by kernel_rfl
  have h := List.all_eq_true.1 hb n hn
  rw [Bool.or_eq_true] at h
  rcases h with h | h
  · exact .inl (by simpa using h)
  refine .inr fun g t h1 h2 => ?_
  rw [h1] at h
  obtain ⟨x, hx, rfl⟩ := Option.map_eq_some_iff.1 h2
  simp only [Option.bind_some, hx, Option.map_some, Option.getD_some, Bool.and_eq_true, decide_eq_true_eq] at h
  exact h
set_option maxRecDepth 100000 in
theorem contract (H : Type) (enc : TypeId × Value → H) (W : World) (base : Nat) (args : Array Value) (ds gs : List (DataW H)) (before : List MemPlace)
    (hval0 : ∀ (j : Nat) t v, Tryz.f8.params[j]? = some t → args[j]? = some v → Value.okWide Tryz.prog W .any base t v)
    (hW : DataW.Whole enc Tryz.prog Tryz.f8.params.toList Rows.fnBasesSpec.vars false W args.toList ds gs before) (hL : laidMetH Tryz.prog Rows.fnBasesRow.laid W) :
    Calls Tryz.prog 8 args W fun e W' => ∃ v, e = .returned v ∧ Rows.fnBasesSpec.post enc Tryz.prog Tryz.f8 false true false false W args v W' := by
  have hval : ∀ (j : Nat) t v, Tryz.f8.params[j]? = some t → args[j]? = some v → Value.okWide Tryz.prog W .any base t v := hval0
  have hT : Tabs W := tabs_of (l := Rows.fnBasesRow.laid) hL (List.mem_cons_self ..) (List.mem_cons_of_mem _ (List.mem_cons_self ..))
  obtain ⟨a, hE, hvar⟩ := errs_in (W := W) (laid_tail (laid_tail hL))
  have hW' := hW
  obtain ⟨p, q, hA0, hV, rfl, hfz, hnd⟩ := hW
  have hA : DataW.TrodAll enc Tryz.prog W 0 (fun _ => true) true Tryz.f8.params.toList args.toList ds p := hA0
  rw [Tryz.params8] at hA hval
  obtain ⟨v0, vs0, d0, ds0, p0, q0, hargs, rfl, rfl, h0, r0⟩ := trodAll_cons hA
  obtain ⟨rfl, rfl, rfl⟩ := trodAll_nil r0
  obtain rfl : args = #[v0] := by cases args; simp_all
  obtain ⟨x0, x1, x2, rfl⟩ := list3 (vars_len hV)
  obtain ⟨A0, n0, cap0, rfl⟩ := okWide_slice Tryz.underlying22 (hval 0 22 v0 rfl rfl)
  have lt0 : ∀ x ∈ p0, x.block < W.heap.size := by obtain ⟨m, hm⟩ := h0; exact DataW.trod_lt m _ _ _ hm
  obtain ⟨l0, rfl, hl0, hin0⟩ := open_code h0
  clear hA0 hval0
  refine (walk A0 n0 cap0 a W hl0 hin0 hT hE).mono fun e W' ⟨he, bel⟩ => ?_
  subst he
  exact ⟨_, rfl, _, _, _, [], _, q, hW', trodAll_mk1 (shut_bool Tryz.underlying4 _), (trodAll_cons_mk (Below.trod laidOut (by kernel_rfl) (of_decide_eq_true (by kernel_rfl)) h0 bel lt0) trodAll_mk0), vars_stayE laidOut bel hvar plainVars hV, bel.frame _, fun h => by cases h⟩

/-- a world for the witness: the tables hold what their initialisers lay -/
noncomputable def laidWorld (os : Os) : World := layAllE (World.holding Tryz.prog os ⟨#[], #[], []⟩)
theorem laid_met (os : Os) : laidMet Tryz.prog Rows.fnBasesRow.laid ((laidWorld os).forCall (fun _ _ => 0) ⟨#[], #[.slice none 0 0], []⟩).memory :=
  laidMet_of_run' 8 (by kernel_rfl) (by kernel_rfl)
theorem reads (os : Os) {H : Type} (enc : TypeId × Value → H) : ∃ x, DataW.whole enc Tryz.prog ((laidWorld os).forCall (fun _ _ => 0) ⟨#[], #[.slice none 0 0], []⟩).memory Tryz.f8.params.toList Rows.fnBasesSpec.vars false (#[.slice none 0 0] : Array Value).toList 8 = some x :=
  Option.isSome_iff_exists.1 (by kernel_rfl)
set_option maxRecDepth 100000 in
theorem lifted (os : Os) (started : os.Started) (H : Type) (enc : TypeId × Value → H) (F : Stop.Interp) :
    ReturnsInHanded {} Tryz.checked os 8 .any ((OpenSpec.ofChange Rows.fnBasesSpec).preRow enc Tryz.prog Tryz.f8 Rows.fnBasesRow.domain false Rows.fnBasesRow.laid) (((OpenSpec.ofChange Rows.fnBasesSpec).at F).post enc Tryz.prog Tryz.f8 false true false false) := by
  obtain ⟨x, hx⟩ := reads os enc
  refine returnsInHanded_of_row (C := Tryz.checked) (s := OpenSpec.ofChange Rows.fnBasesSpec) own started (by kernel_rfl) Tryz.func8
    (witness_row_at (enc := enc) (C := Tryz.checked) false (laidWorld os) #[.slice none 0 0] rfl (by kernel_rfl) (by kernel_rfl) (by kernel_rfl)
      (OpenSpec.preRow_of_cond 8 hx rfl (fun k hk => by cases hk) (by kernel_rfl) (laid_met os))) ?_
  intro W base args ds gs before hval hW _ _ _ hL _ _
  exact contract H enc W base args ds gs before hval hW hL
theorem said : Rows.FnBasesSaid :=
  OpenClaim.holds_of_cond 8 Tryz.f8 rfl rfl rfl rfl rfl rfl rfl ⟨rfl, rfl, rfl, rfl, rfl⟩ rfl rfl rfl rfl rfl (by kernel_rfl) Tryz.func8 (by kernel_rfl)
    (of_decide_eq_true (by kernel_rfl)) (by unfold Func.isWrapper; first | (rw [if_pos (by decide +kernel)]; kernel_rfl) | (rw [if_neg (by decide +kernel)]; exact ⟨rfl, rfl⟩))
    (fun os started H enc _ F => by rw [OpenClaim.pre_eq_preRow]; exact lifted os started H enc F)
theorem plain (f : FuncId) (fn : Func) (hf : Tryz.pinned.checked.prog.funcNamed "loop.example/g00652/laws.FnBases" = some f) (hfn : Tryz.pinned.checked.prog.funcs[f]? = some fn) :
    false = Tryz.pinned.checked.prog.looks [] ∧ ∀ (j : Nat) t, fn.params[j]? = some t → Tryz.pinned.checked.prog.wantsStandIn t = false := by
  obtain rfl : f = 8 := Option.some.inj ((show Tryz.prog.funcNamed "loop.example/g00652/laws.FnBases" = some 8 by kernel_rfl).symm.trans hf) |>.symm
  obtain rfl : fn = Tryz.f8 := (Option.some.inj (Tryz.func8.symm.trans hfn)).symm
  refine ⟨by kernel_rfl, fun j t ht => ?_⟩
  rw [Tryz.params8] at ht
  have hm := Array.mem_of_getElem? ht
  simp only [List.mem_toArray, List.mem_cons, List.not_mem_nil, or_false] at hm
  subst hm
  exact (show Tryz.prog.wantsStandIn 22 = false by kernel_rfl)
theorem card : Rows.FnBasesCardSaid :=
  Claim7.holds_tied_plain_at .later [] _ _ _ _ said (fun _ h => by cases h) (by kernel_rfl) (fun _ h => by cases h) fnBases_row_tie rfl ⟨rfl, rfl⟩ (by kernel_rfl) rfl plain (by kernel_rfl)

end Go.Proofs.YtehblaigbcbleaaGreatDoor.LBases
namespace Go.Proofs.YtehblaigbcbleaaGreatDoor
theorem fnBases_proved : Rows.FnBasesCardSaid := LBases.card
end Go.Proofs.YtehblaigbcbleaaGreatDoor
