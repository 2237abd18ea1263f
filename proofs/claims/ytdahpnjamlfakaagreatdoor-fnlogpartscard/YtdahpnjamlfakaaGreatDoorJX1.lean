/-
  laws.FnLogParts returns true whatever the code: a parent's log is the log without what is not behind it, in the same order. No conditions but that the two tables of the digest and the sentinel of the reader hold what the program's text lays (the card ties them).
-/
import Derived.Test.YtdahpnjamlfakaaGreatDoorJC
import Derived.Test.YtdahpnjamlfakaaGreatDoorJD
import Derived.Test.YtdahpnjamlfakaaGreatDoorJL
import Derived.Test.YtdahpnjamlfakaaGreatDoorJK
import Derived.Test.YtdahpnjamlfakaaGreatDoorJB
import Derived.Test.YtdahpnjamlfakaaGreatDoorJO
namespace Go.Proofs.YtdahpnjamlfakaaGreatDoor.LLogParts
open Go.RowKit Go.ChangeShapes Go.WideShapes Go.ChangeAt
open Go.ChangeMaps (open_string shut_string)

set_option maxRecDepth 100000 in
set_option maxHeartbeats 4000000 in
theorem walk (A : Option Addr) (n : Nat) (cap : Nat) (a : Addr) (w : World) (hl : n ≤ maxLen) (hin : CIn w w.heap.size A n) (hT : Tabs w) (hE : ErrC w a) :
    Calls Tryz.prog 6 #[.slice A n cap] w fun e w' => e = .returned (.bool true) ∧ Below w.heap.size w w' := by
  by_cases hbig : 1048576 < n
  · have d : decide (1048576 < n) = true := decide_eq_true hbig
    go_enter Tryz.func6, Tryz.ntmps6
    go_wp2_with (go_at_call 8; refine (big_any A n cap _ hl).mono ?_; rintro e w' ⟨rfl, rfl⟩)
    go_ret
    exact ⟨rfl, Below.refl _ _⟩
  have hn : n ≤ 1048576 := by omega
  have d : decide (1048576 < n) = false := decide_eq_false hbig
  have IN := hide hin
  have HT := hide hT
  have HB := hide hT.1
  have HE := hide hE
  have B0 : Hid (Below w.heap.size w w) := hide (Below.refl _ _)
  clear hin hT hE
  go_enter Tryz.func6, Tryz.ntmps6
  go_wp2_with fail
  refine (big_any A n cap w hl).mono ?_
  rintro e w' ⟨rfl, rfl⟩
  go_wp2_with fail
  refine (drawLogOf_any A n cap w hn IN.out).mono ?_
  rintro e w1 ⟨AL, capL, l, id, hcL, hl60, hid16, ⟨ids, htop⟩, rfl, oL, b1⟩
  have B1 := hide (B0.out.trans (b1.mono B0.out.size))
  have L_1 := hide oL
  have HTOP := hide htop
  clear b1 oL B0 htop
  have hlm : l.length ≤ maxLen := by unfold maxLen; omega
  have hidm : id.size ≤ maxLen := by unfold maxLen; omega
  have HO := hide (repoB_iff.1 HTOP.out.rep).1
  have HR := hide HTOP.out.rep
  have HA := hide HTOP.out.acy
  have HZ : (valOf l id).size ≤ 1048576 := Nat.le_trans (valOf_size HO.out id) (by decide)
  have hal := ancK_len l id
  have halm : (ancK l id).length ≤ maxLen := by unfold maxLen; omega
  have hol : (logK l id).length ≤ 60 := by rw [logK_len]; exact hal
  have holm : (logK l id).length ≤ maxLen := by unfold maxLen; omega
  go_wp2_with fail
  refine (implLogOf_any AL l capL id a w1 hlm L_1.out.pin hidm HA.out (HT.out.below B1.out HB.out) (HE.out.below B1.out)).mono ?_
  rintro e w2 ⟨AO, capO, rfl, own2, b2⟩
  have B2 := hide (B1.out.trans (b2.mono B1.out.size))
  have L_2 := hide (L_1.out.below b2)
  have O_2 := hide (own2.more B1.out.size)
  clear b2 own2 B1 L_1
  go_wp2_with fail
  refine (specLogOf_any AL l capL id w2 hlm L_2.out.pin HZ HA.out HR.out).mono ?_
  rintro e w3 ⟨AX, capX, rfl, own3, b3⟩
  have B3 := hide (B2.out.trans (b3.mono B2.out.size))
  have L_3 := hide (L_2.out.below b3)
  have O_3 := hide (O_2.out.below b3)
  have X_3 := hide (own3.more B2.out.size)
  clear b3 own3 B2 L_2 O_2
  go_wp2_with fail
  refine (sameTexts_same AO AX (logK l id) capO capX w3 _ _ holm O_3.out.zin X_3.out.zin).mono ?_
  rintro e w4 ⟨rfl, q4⟩
  have b4 := q4.below w3.heap.size
  have B4 := hide (B3.out.trans (b4.mono B3.out.size))
  have L_4 := hide (L_3.out.below b4)
  have O_4 := hide (O_3.out.below b4)
  have X_4 := hide (X_3.out.below b4)
  clear b4 q4 B3 L_3 O_3 X_3
  have OZ := hide O_4.out.zin
  have CA : Hid (∀ W, Below w4.heap.size w4 W → Calls Tryz.prog 12 #[.slice AL l.length capL, .string id] W fun e w' => ∃ A cap t m b, e = .returned (.tuple #[.agg #[.string t, .slice A (parK l id).length cap, .string m], .bool b]) ∧ ZOwn w' W.heap.size A cap (parK l id) ∧ Below W.heap.size W w') := hide (fun W hb => by
    have h := implCommitAt_any AL l capL id a W hidm hlm ((L_4.out.below hb).pin) (HT.out.below (B4.out.trans (hb.mono B4.out.size)) HB.out) (HE.out.below (B4.out.trans (hb.mono B4.out.size)))
    rw [findV_yes HO.out] at h
    refine h.mono ?_
    rintro e w' ⟨A', cap', rfl, o', b'⟩
    rw [rd_par l id] at o' ⊢
    exact ⟨A', cap', _, _, _, rfl, o', b'⟩)
  have PIN : Hid (∀ q ∈ parK l id, q ∈ ancK l id) := hide (fun q hq => by
    have hr : rdOk (valOf l id) = true := by
      cases h : rdOk (valOf l id)
      · rw [parK_no h] at hq; cases hq
      · rfl
    exact ancK_mem.2 ⟨HR.out, hr, .next .self hq⟩)
  have POS : Hid (∀ q ∈ parK l id, 0 < (logK l id).length) := hide (fun q hq => by
    have h := ((logK_all l id).2 q).2 (PIN.out q hq)
    exact List.length_pos_of_mem h)
  have PRT : Hid (∀ q ∈ parK l id, (logK l id).filter (fun z => isAncV l z q) = logK l q) := hide (fun q hq => log_part (PIN.out q hq))
  have IS : Hid (∀ s q, q ∈ parK l id → ∀ W, Below w4.heap.size w4 W → Calls Tryz.prog 19 #[.slice AL l.length capL, .string s, .string q] W fun e w' => e = .returned (.bool (isAncV l s q)) ∧ Below W.heap.size W w') := hide (fun s q hq W hb => implIsAncestor_any AL l capL s q a W hlm ((L_4.out.below hb).pin) (key_max HO.out (parK_com HR.out hq)) (HT.out.below (B4.out.trans (hb.mono B4.out.size)) HB.out) (HE.out.below (B4.out.trans (hb.mono B4.out.size))))
  have LG : Hid (∀ q, q ∈ parK l id → ∀ W, Below w4.heap.size w4 W → Calls Tryz.prog 14 #[.slice AL l.length capL, .string q] W (RetZ W.heap.size (logK l q) W)) := hide (fun q hq W hb => implLogOf_any AL l capL q a W hlm ((L_4.out.below hb).pin) (key_max HO.out (parK_com HR.out hq)) HA.out (HT.out.below (B4.out.trans (hb.mono B4.out.size)) HB.out) (HE.out.below (B4.out.trans (hb.mono B4.out.size))))
  have LQ : Hid (∀ q, (logK l q).length ≤ maxLen) := hide (fun q => by rw [logK_len]; have := ancK_len l q; unfold maxLen; omega)
  have R0 : Hid (Below w4.heap.size w4 w4) := hide (Below.refl _ _)
  have hp2 := parK_len l id
  clear L_4 O_4 X_4 HTOP hlm hidm HO HR HA HZ HE HT hcL halm holm hid16 hl60 hal PIN
  generalize l.length = ln at *
  generalize logK l id = o at *
  generalize parK l id = ps at *
  obtain ⟨on, hon⟩ : ∃ n, o.length = n := ⟨_, rfl⟩
  have ON := hide hon
  rw [hon] at hol POS ⊢
  clear hon
  go_wp2_with fail
  refine (CA.out _ R0.out).mono ?_
  rintro e wc ⟨A3, c3, t3, m3, bb, rfl, o3, b3⟩
  have XB := hide (heap_alloc_new wc (.cells #[.string t3, .slice A3 ps.length c3, .string m3] 30))
  have bx := (Below.refl wc.heap.size wc).alloc (Nat.le_refl _) (.cells #[.string t3, .slice A3 ps.length c3, .string m3] 30)
  have PZ := hide (o3.below bx).zin
  have R4 := hide (R0.out.trans ((b3.trans (bx.mono b3.size)).mono R0.out.size))
  have S4 : Hid ((wc.alloc (.cells #[.string t3, .slice A3 ps.length c3, .string m3] 30)).heap.size = wc.heap.size + 1) := hide (by simp)
  obtain ⟨w4, hw4⟩ : ∃ W, wc.alloc (.cells #[.string t3, .slice A3 ps.length c3, .string m3] 30) = W := ⟨_, rfl⟩
  rw [hw4] at XB PZ R4 S4
  obtain ⟨gx, hgx⟩ : ∃ g, wc.heap.size = g := ⟨_, rfl⟩
  rw [hgx] at XB S4
  obtain ⟨np, hnp⟩ : ∃ np, ps.length = np := ⟨_, rfl⟩
  have NP := hide hnp
  rw [hnp] at XB hw4 hp2 ⊢
  have Q4 : Hid (Below w4.heap.size w4 w4) := hide (Below.refl _ _)
  have s4 := R4.out.size
  clear o3 b3 bx CA hnp R0
  go_wp2
  clear hw4 hgx
  go_loopw [8] (fun iv wr => ∃ j : Nat, j ≤ np ∧ iv = .int .i64 j ∧ Hid (Below w4.heap.size w4 wr)) (fun i _ => np - (intOf i).toNat)
  case atStart => exact ⟨0, Nat.zero_le _, rfl, Q4⟩
  case round =>
    clear Q4
    obtain ⟨j, hj, rfl, Q⟩ := hrel
    have sQ := Q.out.size
    have XQ := hide ((Q.out.block gx (by rw [S4.out]; omega)).trans XB.out)
    have x1 := cell_of_row _ _ 1 _ _ _ XQ.out
    by_cases hlt : j < np
    · have hjl : j < ps.length := by rw [NP.out]; exact hlt
      have hm := List.getElem_mem hjl
      have on0 := POS.out _ hm
      obtain ⟨gq, offq, rfl, hgq, hcq⟩ := PZ.out (by omega)
      have cq := hide (cellB Q.out hgq (hcq j hjl))
      have PRq := hide (PRT.out _ hm)
      have ISq := hide (fun s W hb => IS.out s _ hm W hb)
      have LGq := hide (fun W hb => LG.out _ hm W hb)
      have HL := hide hlt
      clear hcq POS
      generalize ps[j]'hjl = q at *
      clear hm hjl hlt
      have lq := LQ.out q
      obtain ⟨w5, hw5⟩ : ∃ w5, w5 = wr := ⟨wr, rfl⟩
      subst hw5
      have OB := hide (ZOwn.built w5 w5.heap.size (Nat.le_refl _))
      have BB := hide ((Below.refl w5.heap.size w5).alloc (Nat.le_refl _) (.cells #[] 9))
      have F0 : Hid ((o.take 0).filter (fun z => isAncV l z q) = []) := hide (by simp)
      go_wp2
      clear x1
      go_loopw [9, 10] (fun ov kv wr => ∃ (k : Nat) (A9 : Option Addr) (c9 : Nat), k ≤ on ∧ ov = .slice A9 ((o.take k).filter (fun z => isAncV l z q)).length c9 ∧ kv = .int .i64 k ∧ Hid (ZOwn wr w5.heap.size A9 c9 ((o.take k).filter (fun z => isAncV l z q))) ∧ Hid (Below w5.heap.size w5 wr)) (fun _ k _ => on - (intOf k).toNat)
      case atStart => exact ⟨0, some ⟨w5.heap.size, 0, none⟩, 0, Nat.zero_le _, by rw [F0.out]; rfl, rfl, by rw [F0.out]; exact OB, BB⟩
      case round =>
        clear OB BB F0
        obtain ⟨k, A9, c9, hk, rfl, rfl, O9, Q2⟩ := hrel
        have s2 := Q2.out.size
        have XQ2 := hide ((Q2.out.block gx (by have := S4.out; omega)).trans XQ.out)
        have x1 := cell_of_row _ _ 1 _ _ _ XQ2.out
        have cq2 := cellB Q2.out (by omega) cq.out
        have hfl : ((o.take k).filter (fun z => isAncV l z q)).length ≤ 60 := Nat.le_trans (List.length_filter_le ..) (Nat.le_trans (List.length_take_le ..) (by omega))
        by_cases hlt : k < on
        · have hkl : k < o.length := by rw [ON.out]; exact hlt
          obtain ⟨bo, offo, rfl, hbo, hco⟩ := OZ.out (by omega)
          have hbw : bo < w5.heap.size := by have := R4.out.size; omega
          have ck := cellB Q2.out hbw (cellB (R4.out.trans (Q.out.mono R4.out.size)) hbo (hco k hkl))
          have TK : Hid ((o.take (k + 1)).filter (fun z => isAncV l z q) = (o.take k).filter (fun z => isAncV l z q) ++ (if isAncV l (o[k]'hkl) q then [o[k]'hkl] else [])) := hide (by rw [List.take_succ_eq_append_getElem hkl, List.filter_append]; cases h : isAncV l (o[k]'hkl) q <;> simp [h])
          have HK := hide hlt
          clear hco
          generalize o[k]'hkl = y at *
          have IY := hide (fun W hb => ISq.out y W hb)
          clear hkl hlt
          generalize hfn : (o.take k).filter (fun z => isAncV l z q) = fk at *
          clear hfn
          generalize isAncV l y q = iv at *
          go_wp2_with fail
          refine wp_region_cls (by kernel_rfl) (by kernel_rfl) wr.heap.size ?_
          have C1 := cls_cell (w := wr) (B := wr.heap.size) (p := ⟨bo, offo + k, none⟩) (by show bo < _; omega) ck
          have C2 := cls_cell (w := wr) (B := wr.heap.size) (p := ⟨gx, 1, none⟩) (by have := S4.out; show gx < _; omega) x1
          have C3 := cls_cell (w := wr) (B := wr.heap.size) (p := ⟨gq, offq + j, none⟩) (by show gq < _; omega) cq2
          repeat (go_big_quiet_step ((go_at_call 19; with_reducible exact cls_call (Nat.le_refl _) (IY.out _ (R4.out.trans ((Q.out.trans ((Q2.out.trans ((Cls.below _).mono s2)).mono sQ)).mono s4))))))
          refine wpQuiet_nil ?_
          intro _ hw'
          obtain ⟨u, hw2⟩ := hw'
          subst hw2
          have Q9 := hide (Q2.out.trans (u.below.mono s2))
          have O8 := hide (O9.out.below u.below)
          have ck9 := (u.below.cell (p := ⟨bo, offo + k, none⟩) (by show bo < _; omega)).trans ck
          obtain ⟨wx, hwx⟩ : ∃ W, u.wo = W := ⟨_, rfl⟩
          rw [hwx] at Q9 O8 ck9 ⊢
          clear C1 C2 C3 ck x1 cq2 IY O9 hwx u
          cases iv
          · have TK2 : Hid ((o.take (k + 1)).filter (fun z => isAncV l z q) = fk) := hide (by rw [TK.out]; simp)
            clear TK
            go_wp2
            go_roundw
            case rel => exact ⟨k + 1, A9, c9, HK.out, by rw [TK2.out], by have := HK.out; go_num, by rw [TK2.out]; exact O8, Q9⟩
            case measure => have := HK.out; simp [intOf]; omega
          · have TK2 : Hid ((o.take (k + 1)).filter (fun z => isAncV l z q) = fk ++ [y]) := hide (by rw [TK.out]; simp)
            clear TK
            generalize hfn : fk.length = fn at *
            have FN := hide hfn
            clear hfn
            have s9 := Q9.out.size
            go_wp2_with (at_builtin; refine wpList_appZ (l' := [y]) 28 Tryz.underlying28 rfl (.tmp 63) (.tmp 68) rfl rfl rfl FN.out.symm rfl (O8.out.alloc _) (ZIn.one y _ rfl) (Nat.le_trans s9 (by simp)) (by rw [FN.out]; simp; omega) ?_; intro A4 cap4 w7 own4 g4 r4; have b4 := (O8.out.alloc (.cells #[Value.string y] 9)).grownBelow g4 (Nat.le_trans s9 (by simp)); have B4 := hide ((Q9.out.alloc s9 (.cells #[Value.string y] 9)).trans b4); have O4 := hide own4; clear own4 g4 r4 b4)
            go_roundw
            case rel => exact ⟨k + 1, A4, cap4, HK.out, by rw [TK2.out, List.length_append, FN.out]; rfl, by have := HK.out; go_num, by rw [TK2.out]; exact O4, B4⟩
            case measure => have := HK.out; simp [intOf]; omega
        · have ek : o.take k = o := List.take_of_length_le (by rw [ON.out]; omega)
          have hgt : ¬ ((k : Int) < (on : Int)) := by omega
          rw [ek, PRq.out] at O9 ⊢
          have IP := hide O9.out.zin
          have LX := hide (LGq.out wr (R4.out.trans ((Q.out.trans (Q2.out.mono sQ)).mono s4)))
          clear hlt ek O9 hfl
          obtain ⟨w6, hw6⟩ : ∃ w6, w6 = wr := ⟨wr, rfl⟩
          subst hw6
          obtain ⟨lg, hlg⟩ : ∃ n, (logK l q).length = n := ⟨_, rfl⟩
          have LGN := hide hlg
          rw [hlg]
          clear hlg
          go_wp2_with fail
          refine LX.out.mono ?_
          rintro e w7 ⟨A7, c7, rfl, o7, b7⟩
          have ST := hide (sameTexts_same A7 A9 (logK l q) c7 c9 w7 _ _ lq o7.zin (IP.out.below b7))
          have Q7 := hide (Q2.out.trans (b7.mono s2))
          rw [LGN.out] at ST
          clear LX o7 b7 IP x1
          rw [LGN.out]
          go_wp2_with fail
          refine ST.out.mono ?_
          rintro e w8 ⟨rfl, q8⟩
          have Q8 := hide (Q.out.trans ((Q7.out.trans (q8.below _)).mono sQ))
          clear ST q8 Q7
          go_wp2
          go_roundw
          case rel => exact ⟨j + 1, HL.out, by have := HL.out; go_num, Q8⟩
          case measure => have := HL.out; simp [intOf]; omega
    · have hgt : ¬ ((j : Int) < (np : Int)) := by omega
      have dg : decide ((j : Int) < (np : Int)) = false := decide_eq_false (by omega)
      have F := hide (B4.out.trans ((R4.out.trans (Q.out.mono s4)).mono B4.out.size))
      clear hlt
      go_wp2
      go_ret
      exact ⟨rfl, F.out⟩

theorem plainVars : ∀ n ∈ Rows.fnLogPartsSpec.vars, n = "loop.example/g00652/impl.errNoCommit" ∨ ∀ g t, Tryz.prog.globalNamed n = some g → (Tryz.prog.globals[g]?).map (·.type) = some t → Tryz.prog.readableRec t = true ∧ t < Tryz.prog.types.size := by
  intro n hn
  have hb : (Rows.fnLogPartsSpec.vars).all (fun n => n == "loop.example/g00652/impl.errNoCommit" || ((Tryz.prog.globalNamed n).bind fun g => (Tryz.prog.globals[g]?).map fun x => Tryz.prog.readableRec x.type && decide (x.type < Tryz.prog.types.size)).getD false) = true := by kernel_rfl
  have h := List.all_eq_true.1 hb n hn
  rw [Bool.or_eq_true] at h
  rcases h with h | h
  · exact .inl (by simpa using h)
  refine .inr fun g t h1 h2 => ?_
  rw [h1] at h
  obtain ⟨x, hx, rfl⟩ := Option.map_eq_some_iff.1 h2
  simp only [Option.bind_some, hx, Option.map_some, Option.getD_some, Bool.and_eq_true, decide_eq_true_eq] at h
  exact h
set_option maxRecDepth 100000 in
theorem contract (H : Type) (enc : TypeId × Value → H) (W : World) (base : Nat) (args : Array Value) (ds gs : List (DataW H)) (before : List MemPlace)
    (hval0 : ∀ (j : Nat) t v, Tryz.f6.params[j]? = some t → args[j]? = some v → Value.okWide Tryz.prog W .any base t v)
    (hW : DataW.Whole enc Tryz.prog Tryz.f6.params.toList Rows.fnLogPartsSpec.vars false W args.toList ds gs before) (hL : laidMetH Tryz.prog Rows.fnLogPartsRow.laid W) :
    Calls Tryz.prog 6 args W fun e W' => ∃ v, e = .returned v ∧ Rows.fnLogPartsSpec.post enc Tryz.prog Tryz.f6 false true false false W args v W' := by
  have hval : ∀ (j : Nat) t v, Tryz.f6.params[j]? = some t → args[j]? = some v → Value.okWide Tryz.prog W .any base t v := hval0
  have hT : Tabs W := tabs_of (l := Rows.fnLogPartsRow.laid) hL (List.mem_cons_self ..) (List.mem_cons_of_mem _ (List.mem_cons_self ..))
  obtain ⟨a, hE, hvar⟩ := errs_in (W := W) (laid_tail (laid_tail hL))
  have hW' := hW
  obtain ⟨p, q, hA0, hV, rfl, hfz, hnd⟩ := hW
  have hA : DataW.TrodAll enc Tryz.prog W 0 (fun _ => true) true Tryz.f6.params.toList args.toList ds p := hA0
  rw [Tryz.params6] at hA hval
  obtain ⟨v0, vs0, d0, ds0, p0, q0, hargs, rfl, rfl, h0, r0⟩ := trodAll_cons hA
  obtain ⟨rfl, rfl, rfl⟩ := trodAll_nil r0
  obtain rfl : args = #[v0] := by cases args; simp_all
  obtain ⟨x0, x1, x2, rfl⟩ := list3 (vars_len hV)
  obtain ⟨A0, n0, cap0, rfl⟩ := okWide_slice Tryz.underlying22 (hval 0 22 v0 rfl rfl)
  have lt0 : ∀ x ∈ p0, x.block < W.heap.size := by obtain ⟨m, hm⟩ := h0; exact DataW.trod_lt m _ _ _ hm
  obtain ⟨l0, rfl, hl0, hin0⟩ := open_code h0
  clear hA0 hval0
  refine (walk A0 n0 cap0 a W hl0 hin0 hT hE).mono fun e W' ⟨he, bel⟩ => ?_
  subst he
  exact ⟨_, rfl, _, _, _, [], _, q, hW', trodAll_mk1 (shut_bool Tryz.underlying4 _), (trodAll_cons_mk (Below.trod laidOut (by kernel_rfl) (of_decide_eq_true (by kernel_rfl)) h0 bel lt0) trodAll_mk0), vars_stayE laidOut bel hvar plainVars hV, bel.frame _, fun h => by cases h⟩

/-- a world for the witness: the tables hold what their initialisers lay -/
noncomputable def laidWorld (os : Os) : World := layAllE (World.holding Tryz.prog os ⟨#[], #[], []⟩)
theorem laid_met (os : Os) : laidMet Tryz.prog Rows.fnLogPartsRow.laid ((laidWorld os).forCall (fun _ _ => 0) ⟨#[], #[.slice none 0 0], []⟩).memory :=
  laidMet_of_run' 8 (by kernel_rfl) (by kernel_rfl)
theorem reads (os : Os) {H : Type} (enc : TypeId × Value → H) : ∃ x, DataW.whole enc Tryz.prog ((laidWorld os).forCall (fun _ _ => 0) ⟨#[], #[.slice none 0 0], []⟩).memory Tryz.f6.params.toList Rows.fnLogPartsSpec.vars false (#[.slice none 0 0] : Array Value).toList 8 = some x :=
  Option.isSome_iff_exists.1 (by kernel_rfl)
set_option maxRecDepth 100000 in
theorem lifted (os : Os) (started : os.Started) (H : Type) (enc : TypeId × Value → H) (F : Stop.Interp) :
    ReturnsInHanded {} Tryz.checked os 6 .any ((OpenSpec.ofChange Rows.fnLogPartsSpec).preRow enc Tryz.prog Tryz.f6 Rows.fnLogPartsRow.domain false Rows.fnLogPartsRow.laid) (((OpenSpec.ofChange Rows.fnLogPartsSpec).at F).post enc Tryz.prog Tryz.f6 false true false false) := by
  obtain ⟨x, hx⟩ := reads os enc
  refine returnsInHanded_of_row (C := Tryz.checked) (s := OpenSpec.ofChange Rows.fnLogPartsSpec) own started (by kernel_rfl) Tryz.func6
    (witness_row_at (enc := enc) (C := Tryz.checked) false (laidWorld os) #[.slice none 0 0] rfl (by kernel_rfl) (by kernel_rfl) (by kernel_rfl)
      (OpenSpec.preRow_of_cond 8 hx rfl (fun k hk => by cases hk) (by kernel_rfl) (laid_met os))) ?_
  intro W base args ds gs before hval hW _ _ _ hL _ _
  exact contract H enc W base args ds gs before hval hW hL
theorem said : Rows.FnLogPartsSaid :=
  OpenClaim.holds_of_cond 6 Tryz.f6 rfl rfl rfl rfl rfl rfl rfl ⟨rfl, rfl, rfl, rfl, rfl⟩ rfl rfl rfl rfl rfl (by kernel_rfl) Tryz.func6 (by kernel_rfl)
    (of_decide_eq_true (by kernel_rfl)) (by unfold Func.isWrapper; first | (rw [if_pos (by decide +kernel)]; kernel_rfl) | (rw [if_neg (by decide +kernel)]; exact ⟨rfl, rfl⟩))
    (fun os started H enc _ F => by rw [OpenClaim.pre_eq_preRow]; exact lifted os started H enc F)
theorem plain (f : FuncId) (fn : Func) (hf : Tryz.pinned.checked.prog.funcNamed "loop.example/g00652/laws.FnLogParts" = some f) (hfn : Tryz.pinned.checked.prog.funcs[f]? = some fn) :
    false = Tryz.pinned.checked.prog.looks [] ∧ ∀ (j : Nat) t, fn.params[j]? = some t → Tryz.pinned.checked.prog.wantsStandIn t = false := by
  obtain rfl : f = 6 := Option.some.inj ((show Tryz.prog.funcNamed "loop.example/g00652/laws.FnLogParts" = some 6 by kernel_rfl).symm.trans hf) |>.symm
  obtain rfl : fn = Tryz.f6 := (Option.some.inj (Tryz.func6.symm.trans hfn)).symm
  refine ⟨by kernel_rfl, fun j t ht => ?_⟩
  rw [Tryz.params6] at ht
  have hm := Array.mem_of_getElem? ht
  simp only [List.mem_toArray, List.mem_cons, List.not_mem_nil, or_false] at hm
  subst hm
  exact (show Tryz.prog.wantsStandIn 22 = false by kernel_rfl)
theorem card : Rows.FnLogPartsCardSaid :=
  Claim7.holds_tied_plain_at .later [] _ _ _ _ said (fun _ h => by cases h) (by kernel_rfl) (fun _ h => by cases h) fnLogParts_row_tie rfl ⟨rfl, rfl⟩ (by kernel_rfl) rfl plain (by kernel_rfl)

end Go.Proofs.YtdahpnjamlfakaaGreatDoor.LLogParts
namespace Go.Proofs.YtdahpnjamlfakaaGreatDoor
theorem fnLogParts_proved : Rows.FnLogPartsCardSaid := LLogParts.card
end Go.Proofs.YtdahpnjamlfakaaGreatDoor
