/-
  laws.FnBehindNew returns true whatever the code: what is committed changes nothing of what is behind all others; its parents are behind it. No conditions but that the two tables of the digest and the sentinel of the reader hold what the program's text lays (the card ties them).
-/
import Derived.Test.YtdahpnjamlfakaaGreatDoorJC
import Derived.Test.YtdahpnjamlfakaaGreatDoorJD
import Derived.Test.YtdahpnjamlfakaaGreatDoorJW
import Derived.Test.YtdahpnjamlfakaaGreatDoorJJ
import Derived.Test.YtdahpnjamlfakaaGreatDoorJO
import Derived.Test.YtdahpnjamlfakaaGreatDoorJK
import Derived.Test.YtdahpnjamlfakaaGreatDoorJB
namespace Go.Proofs.YtdahpnjamlfakaaGreatDoor.LBehindNew
open Go.RowKit Go.ChangeShapes Go.WideShapes Go.ChangeAt
open Go.ChangeMaps (open_string shut_string)
theorem cmI_sizeB (l m : List Pr) (ps : List ByteArray) (note : ByteArray) : (cmI l m ps note).size ≤ maxLen := by
  unfold cmI
  split
  · exact idL_max _
  · simp
theorem acy_cm {l m : List Pr} {ids ps : List ByteArray} {note : ByteArray} (h : Top l ids) (hc : cmP l m ps note) : Acy (addL (addL l (treeT m)) (comT m ps note)) := by
  by_cases hm : idL (comT m ps note) ∈ ids
  · obtain ⟨v1, v2, v3, v4⟩ := cm_vals hc
    obtain ⟨rk, hrk⟩ := h.acy
    refine ⟨rk, fun k q hq => hrk k q ?_⟩
    cases hk : rdOk (valOf (addL (addL l (treeT m)) (comT m ps note)) k)
    · rw [parK_no hk] at hq
      cases hq
    · have hh : hasB l k = true := by
        rcases v4 k hk with e | e
        · rw [e]; exact has_rd ((h.mem _).1 hm)
        · exact has_rd e
      rw [parK_of (v1 k hh)] at hq
      exact hq
  · exact (top_step h hc (fun q hq => (h.mem q).2 (hc.2.2.1 q hq)) hm).acy
theorem cm_new {l m : List Pr} {ids ps : List ByteArray} {note : ByteArray} (h : Top l ids) (hc : cmP l m ps note) :
    repoB (cmL l m ps note) = true ∧ Acy (cmL l m ps note) ∧ (∀ q ∈ ps, q.size = 16 ∧ isAncV (cmL l m ps note) q (cmI l m ps note) = true ∧ ancK (cmL l m ps note) q = ancK l q ∧ logK (cmL l m ps note) q = logK l q) ∧ isAncV (cmL l m ps note) (cmI l m ps note) (cmI l m ps note) = true := by
  obtain ⟨_, eL, eI⟩ := cmB_yes hc
  rw [eL, eI]
  obtain ⟨v1, v2, v3, v4⟩ := cm_vals hc
  have hrep := repo_cm hc
  have hac := acy_cm h hc
  obtain ⟨cr, cc⟩ := comT_text hc.2.2.2.1
  have hr : rdOk (valOf (addL (addL l (treeT m)) (comT m ps note)) (idL (comT m ps note))) = true := by rw [v2]; exact cr
  have hp : parK (addL (addL l (treeT m)) (comT m ps note)) (idL (comT m ps note)) = ps := by
    unfold parK
    rw [if_pos hr, v2, cc]
  refine ⟨hrep, hac, fun q hq => ⟨parK_size (l := addL (addL l (treeT m)) (comT m ps note)) (k := idL (comT m ps note)) (by rw [hp]; exact hq), memK_iff.2 (ancK_mem.2 ⟨hrep, hr, .next .self (by rw [hp]; exact hq)⟩), anc_grow h.rep hrep v1 (hc.2.2.1 q hq), log_grow h.rep hrep h.acy hac v1 (hc.2.2.1 q hq)⟩, memK_iff.2 (ancK_mem.2 ⟨hrep, hr, .self⟩)⟩

set_option maxRecDepth 100000 in
set_option maxHeartbeats 4000000 in
theorem walk (A : Option Addr) (n : Nat) (cap : Nat) (a : Addr) (w : World) (hl : n ≤ maxLen) (hin : CIn w w.heap.size A n) (hT : Tabs w) (hE : ErrC w a) :
    Calls Tryz.prog 7 #[.slice A n cap] w fun e w' => e = .returned (.bool true) ∧ Below w.heap.size w w' := by
  by_cases hbig : 1048576 < n
  · have d : decide (1048576 < n) = true := decide_eq_true hbig
    go_enter Tryz.func7, Tryz.ntmps7
    go_wp2_with (go_at_call 8; refine (big_any A n cap _ hl).mono ?_; rintro e w' ⟨rfl, rfl⟩)
    go_ret
    exact ⟨rfl, Below.refl _ _⟩
  have hn : n ≤ 1048576 := by omega
  have d : decide (1048576 < n) = false := decide_eq_false hbig
  have IN := hide hin
  have HT := hide hT
  have HB := hide hT.1
  have HE := hide hE
  have B0 : Hid (Below w.heap.size w w) := hide (Below.refl _ _)
  clear hin hT hE
  go_enter Tryz.func7, Tryz.ntmps7
  go_wp2_with fail
  refine (big_any A n cap w hl).mono ?_
  rintro e w' ⟨rfl, rfl⟩
  go_wp2_with fail
  refine (drawCommitted_any A n cap w hn IN.out).mono ?_
  rintro e w1 ⟨AL, capL, l, AM, capM, m, AP, capP, ps, note, hcL, hl60, hm40, hp3, hsp, hsn, ⟨ids, htop⟩, rfl, oL, oM, oP, b1⟩
  have B1 := hide (B0.out.trans (b1.mono B0.out.size))
  have L_1 := hide oL
  have M_1 := hide oM
  have P_1 := hide oP
  have HTOP := hide htop
  clear b1 oL oM oP B0 htop
  have hlm : l.length ≤ maxLen := by unfold maxLen; omega
  have hmm : m.length ≤ maxLen := by unfold maxLen; omega
  have hpm : ps.length ≤ maxLen := by unfold maxLen; omega
  have e1 : (cmB l m ps note != cmB l m ps note) = false := by simp
  have e4 : (cmB l m ps note == cmB l m ps note) = true := by simp
  have e5 := eqS_yes (rfl : cmI l m ps note = cmI l m ps note)
  have z1 := cmL_len l m ps note
  have z1m : (cmL l m ps note).length ≤ maxLen := by unfold maxLen; omega
  have zim : (cmI l m ps note).size ≤ maxLen := cmI_sizeB _ _ _ _
  have e3 := eqL_self (cmL l m ps note)
  go_wp2_with fail
  refine (implCommitted_any AL l capL AM m capM AP ps capP note a w1 hlm L_1.out.pin hmm M_1.out.pin hpm (sin_of hsp P_1.out.zin) hsn (HT.out.below B1.out HB.out) (HE.out.below B1.out)).mono ?_
  rintro e w2 ⟨AN, capN, hcN, rfl, own2, b2⟩
  have B2 := hide (B1.out.trans (b2.mono B1.out.size))
  have L_2 := hide (L_1.out.below b2)
  have M_2 := hide (M_1.out.below b2)
  have P_2 := hide (P_1.out.below b2)
  have N_2 := hide (own2.more B1.out.size)
  clear b2 own2 B1 L_1 M_1 P_1
  go_wp2_with fail
  refine (specCommitted_any AL l capL AM m capM AP ps capP note w2 hlm hcL L_2.out.pin hmm M_2.out.pin hpm (sin_of hsp P_2.out.zin) hsn).mono ?_
  rintro e w3 ⟨AX, capX, hcX, rfl, own3, b3⟩
  have B3 := hide (B2.out.trans (b3.mono B2.out.size))
  have L_3 := hide (L_2.out.below b3)
  have M_3 := hide (M_2.out.below b3)
  have P_3 := hide (P_2.out.below b3)
  have N_3 := hide (N_2.out.below b3)
  have X_3 := hide (own3.more B2.out.size)
  clear b3 own3 B2 L_2 M_2 P_2 N_2
  go_wp2_with fail
  refine (sameMap_any AN AX _ _ capN capX w3 _ _ z1m z1m N_3.out.pin X_3.out.pin).mono ?_
  rintro e w4 ⟨rfl, q4⟩
  have b4 := q4.below w3.heap.size
  have B4 := hide (B3.out.trans (b4.mono B3.out.size))
  have L_4 := hide (L_3.out.below b4)
  have M_4 := hide (M_3.out.below b4)
  have P_4 := hide (P_3.out.below b4)
  have N_4 := hide (N_3.out.below b4)
  have X_4 := hide (X_3.out.below b4)
  clear b4 q4 B3 L_3 M_3 P_3 N_3 X_3
  cases hb : cmB l m ps note
  · rw [hb] at e1 e4
    go_wp2_with fail
    refine (sameMap_any AN AX _ _ capN capX w4 _ _ z1m z1m N_4.out.pin X_4.out.pin).mono ?_
    rintro e w5 ⟨rfl, q5⟩
    have b5 := q5.below w4.heap.size
    have B5 := hide (B4.out.trans (b5.mono B4.out.size))
    have L_5 := hide (L_4.out.below b5)
    have M_5 := hide (M_4.out.below b5)
    have P_5 := hide (P_4.out.below b5)
    have N_5 := hide (N_4.out.below b5)
    have X_5 := hide (X_4.out.below b5)
    clear b5 q5 B4 L_4 M_4 P_4 N_4 X_4
    go_wp2_with fail
    go_ret
    exact ⟨rfl, B5.out⟩
  · have CN := hide (cm_new HTOP.out (cmB_iff.1 hb))
    have HRL := hide HTOP.out.rep
    have HAL := hide HTOP.out.acy
    rw [hb] at e1 e4
    have PL := hide P_4.out.zin
    have CQ : Hid (∀ W, Below w4.heap.size w4 W → Tabs W ∧ ErrC W a ∧ PIn W W.heap.size AL l ∧ PIn W W.heap.size AN (cmL l m ps note)) := hide (fun W hb => ⟨HT.out.below (B4.out.trans (hb.mono B4.out.size)) HB.out, HE.out.below (B4.out.trans (hb.mono B4.out.size)), (L_4.out.below hb).pin, (N_4.out.below hb).pin⟩)
    have KM : Hid (∀ q ∈ ps, q.size ≤ maxLen) := hide (fun q hq => by rw [(CN.out.2.2.1 q hq).1]; unfold maxLen; omega)
    have IA : Hid (∀ q ∈ ps, ∀ W, Below w4.heap.size w4 W → Calls Tryz.prog 19 #[.slice AN (cmL l m ps note).length capN, .string q, .string (cmI l m ps note)] W fun e w' => e = .returned (.bool true) ∧ Below W.heap.size W w') := hide (fun q hq W hb => by
      obtain ⟨c1, c2, c3, c4⟩ := CQ.out W hb
      have h := implIsAncestor_any AN (cmL l m ps note) capN q (cmI l m ps note) a W z1m c4 zim c1 c2
      rw [(CN.out.2.2.1 q hq).2.1] at h
      exact h)
    have II : Hid (∀ W, Below w4.heap.size w4 W → Calls Tryz.prog 19 #[.slice AN (cmL l m ps note).length capN, .string (cmI l m ps note), .string (cmI l m ps note)] W fun e w' => e = .returned (.bool true) ∧ Below W.heap.size W w') := hide (fun W hb => by
      obtain ⟨c1, c2, c3, c4⟩ := CQ.out W hb
      have h := implIsAncestor_any AN (cmL l m ps note) capN (cmI l m ps note) (cmI l m ps note) a W z1m c4 zim c1 c2
      rw [CN.out.2.2.2] at h
      exact h)
    have AQN : Hid (∀ q ∈ ps, ∀ W, Below w4.heap.size w4 W → Calls Tryz.prog 15 #[.slice AN (cmL l m ps note).length capN, .string q] W (RetZ W.heap.size (ancK l q) W)) := hide (fun q hq W hb => by
      obtain ⟨c1, c2, c3, c4⟩ := CQ.out W hb
      have h := implAncestors_any AN (cmL l m ps note) capN q a W z1m c4 (KM.out q hq) c1 c2
      rw [(CN.out.2.2.1 q hq).2.2.1] at h
      exact h)
    have AQL : Hid (∀ q ∈ ps, ∀ W, Below w4.heap.size w4 W → Calls Tryz.prog 15 #[.slice AL l.length capL, .string q] W (RetZ W.heap.size (ancK l q) W)) := hide (fun q hq W hb => by
      obtain ⟨c1, c2, c3, c4⟩ := CQ.out W hb
      exact implAncestors_any AL l capL q a W hlm c3 (KM.out q hq) c1 c2)
    have GQN : Hid (∀ q ∈ ps, ∀ W, Below w4.heap.size w4 W → Calls Tryz.prog 14 #[.slice AN (cmL l m ps note).length capN, .string q] W (RetZ W.heap.size (logK l q) W)) := hide (fun q hq W hb => by
      obtain ⟨c1, c2, c3, c4⟩ := CQ.out W hb
      have h := implLogOf_any AN (cmL l m ps note) capN q a W z1m c4 (KM.out q hq) CN.out.2.1 c1 c2
      rw [(CN.out.2.2.1 q hq).2.2.2] at h
      exact h)
    have GQL : Hid (∀ q ∈ ps, ∀ W, Below w4.heap.size w4 W → Calls Tryz.prog 14 #[.slice AL l.length capL, .string q] W (RetZ W.heap.size (logK l q) W)) := hide (fun q hq W hb => by
      obtain ⟨c1, c2, c3, c4⟩ := CQ.out W hb
      exact implLogOf_any AL l capL q a W hlm c3 (KM.out q hq) HAL.out c1 c2)
    have ZA : Hid (∀ q, (ancK l q).length ≤ maxLen) := hide (fun q => by have := ancK_len l q; unfold maxLen; omega)
    have ZL : Hid (∀ q, (logK l q).length ≤ maxLen) := hide (fun q => by rw [logK_len]; exact ZA.out q)
    have R0 : Hid (Below w4.heap.size w4 w4) := hide (Below.refl _ _)
    clear L_4 N_4 X_4 M_4 P_4 HTOP HRL HAL CN CQ KM HE HT hb hcL hl60 hm40 hlm hmm z1 z1m zim hsp hsn
    generalize cmI l m ps note = ni at *
    generalize (cmL l m ps note).length = nn at *
    generalize l.length = ln at *
    obtain ⟨np, hnp⟩ : ∃ np, ps.length = np := ⟨_, rfl⟩
    have NP := hide hnp
    rw [hnp] at hp3 hpm ⊢
    clear hnp
    go_wp2
    clear e1 e3 e4 e5
    go_loopw [13] (fun iv wr => ∃ j : Nat, j ≤ np ∧ iv = .int .i64 j ∧ Hid (Below w4.heap.size w4 wr)) (fun i _ => np - (intOf i).toNat)
    case atStart => exact ⟨0, Nat.zero_le _, rfl, R0⟩
    case round =>
      clear R0
      obtain ⟨j, hj, rfl, Q⟩ := hrel
      have sQ := Q.out.size
      by_cases hlt : j < np
      · have hjl : j < ps.length := by rw [NP.out]; exact hlt
        obtain ⟨bp, offp, rfl, hbp, hcp⟩ := PL.out (by omega)
        have cb := hcp j hjl
        have cq := cellB Q.out hbp cb
        have hm := List.getElem_mem hjl
        have I1 := hide (IA.out _ hm)
        have I2 := hide (AQN.out _ hm)
        have I3 := hide (AQL.out _ hm)
        have I5 := hide (GQN.out _ hm)
        have I6 := hide (GQL.out _ hm)
        have HL := hide hlt
        clear hcp
        generalize ps[j]'hjl = q at *
        clear hm hjl
        have za := ZA.out q
        have zl := ZL.out q
        generalize hga : ancK l q = ga at *
        generalize hgl : logK l q = gl at *
        clear hga hgl IA AQN AQL GQN GQL ZA ZL II
        have QD : Hid (Below w4.heap.size w4 wr.drew) := hide Q.out.drew
        go_wp2_with fail
        go_region_held3 (fun w' => w'.cell? ⟨bp, offp + j, none⟩ = some (.string q)) (first | go_keep | exact cellB Q7.out hbp cb | exact cellB Q6.out hbp cb | exact cellB Q5.out hbp cb | exact cellB Q4.out hbp cb | exact cellB Q3.out hbp cb | exact cellB Q2.out hbp cb | exact cellB Q1.out hbp cb | exact cellB QD.out hbp cb) (first
          | (go_at_call 19; refine (I1.out _ QD.out).mono ?_; rintro e y1 ⟨rfl, b1⟩; have Q1 := hide (QD.out.trans (b1.mono QD.out.size)); clear b1)
          | (go_at_call 15; refine (I3.out _ Q2.out).mono ?_; rintro e y3 ⟨A3, c3, rfl, o3, b3⟩; have Z3 := hide o3.zin; have Z2b := hide (Z2.out.below b3); have Q3 := hide (Q2.out.trans (b3.mono Q2.out.size)); clear b3 o3)
          | (go_at_call 15; refine (I2.out _ Q1.out).mono ?_; rintro e y2 ⟨A2, c2, rfl, o2, b2⟩; have Z2 := hide o2.zin; have Q2 := hide (Q1.out.trans (b2.mono Q1.out.size)); clear b2 o2)
          | (go_at_call 16; refine (sameTexts_same A5 A6 gl c5 c6 _ _ _ zl Z5b.out Z6.out).mono ?_; rintro e y7 ⟨rfl, q7⟩; have Q7 := hide (Q6.out.trans (q7.below _)); clear q7)
          | (go_at_call 16; refine (sameTexts_same A2 A3 ga c2 c3 _ _ _ za Z2b.out Z3.out).mono ?_; rintro e y4 ⟨rfl, q4⟩; have Q4 := hide (Q3.out.trans (q4.below _)); clear q4)
          | (go_at_call 14; refine (I6.out _ Q5.out).mono ?_; rintro e y6 ⟨A6, c6, rfl, o6, b6⟩; have Z6 := hide o6.zin; have Z5b := hide (Z5.out.below b6); have Q6 := hide (Q5.out.trans (b6.mono Q5.out.size)); clear b6 o6)
          | (go_at_call 14; refine (I5.out _ Q4.out).mono ?_; rintro e y5 ⟨A5, c5, rfl, o5, b5⟩; have Z5 := hide o5.zin; have Q5 := hide (Q4.out.trans (b5.mono Q4.out.size)); clear b5 o5))
        all_goals
          go_wp2
          go_roundw
          case rel => exact ⟨j + 1, HL.out, by have := HL.out; go_num, Q7⟩
          case measure => have := HL.out; simp [intOf]; omega
      · have hgt : ¬ ((j : Int) < (np : Int)) := by omega
        have I9 := hide (II.out wr Q.out)
        clear hlt IA AQN AQL GQN GQL ZA ZL II
        go_wp2_with fail
        refine I9.out.mono ?_
        rintro e y1 ⟨rfl, b1⟩
        have F := hide (B4.out.trans ((Q.out.trans (b1.mono sQ)).mono B4.out.size))
        clear b1 I9
        go_wp2
        go_ret
        exact ⟨rfl, F.out⟩

theorem plainVars : ∀ n ∈ Rows.fnBehindNewSpec.vars, n = "loop.example/g00652/impl.errNoCommit" ∨ ∀ g t, Tryz.prog.globalNamed n = some g → (Tryz.prog.globals[g]?).map (·.type) = some t → Tryz.prog.readableRec t = true ∧ t < Tryz.prog.types.size := by
  intro n hn
  have hb : (Rows.fnBehindNewSpec.vars).all (fun n => n == "loop.example/g00652/impl.errNoCommit" || ((Tryz.prog.globalNamed n).bind fun g => (Tryz.prog.globals[g]?).map fun x => Tryz.prog.readableRec x.type && decide (x.type < Tryz.prog.types.size)).getD false) = true := by kernel_rfl
  have h := List.all_eq_true.1 hb n hn
  rw [Bool.or_eq_true] at h
  rcases h with h | h
  · exact .inl (by simpa using h)
  refine .inr fun g t h1 h2 => ?_
  rw [h1] at h
  obtain ⟨x, hx, rfl⟩ := Option.map_eq_some_iff.1 h2
  simp only [Option.bind_some, hx, Option.map_some, Option.getD_some, Bool.and_eq_true, decide_eq_true_eq] at h
  exact h
set_option maxRecDepth 100000 in
theorem contract (H : Type) (enc : TypeId × Value → H) (W : World) (base : Nat) (args : Array Value) (ds gs : List (DataW H)) (before : List MemPlace)
    (hval0 : ∀ (j : Nat) t v, Tryz.f7.params[j]? = some t → args[j]? = some v → Value.okWide Tryz.prog W .any base t v)
    (hW : DataW.Whole enc Tryz.prog Tryz.f7.params.toList Rows.fnBehindNewSpec.vars false W args.toList ds gs before) (hL : laidMetH Tryz.prog Rows.fnBehindNewRow.laid W) :
    Calls Tryz.prog 7 args W fun e W' => ∃ v, e = .returned v ∧ Rows.fnBehindNewSpec.post enc Tryz.prog Tryz.f7 false true false false W args v W' := by
  have hval : ∀ (j : Nat) t v, Tryz.f7.params[j]? = some t → args[j]? = some v → Value.okWide Tryz.prog W .any base t v := hval0
  have hT : Tabs W := tabs_of (l := Rows.fnBehindNewRow.laid) hL (List.mem_cons_self ..) (List.mem_cons_of_mem _ (List.mem_cons_self ..))
  obtain ⟨a, hE, hvar⟩ := errs_in (W := W) (laid_tail (laid_tail hL))
  have hW' := hW
  obtain ⟨p, q, hA0, hV, rfl, hfz, hnd⟩ := hW
  have hA : DataW.TrodAll enc Tryz.prog W 0 (fun _ => true) true Tryz.f7.params.toList args.toList ds p := hA0
  rw [Tryz.params7] at hA hval
  obtain ⟨v0, vs0, d0, ds0, p0, q0, hargs, rfl, rfl, h0, r0⟩ := trodAll_cons hA
  obtain ⟨rfl, rfl, rfl⟩ := trodAll_nil r0
  obtain rfl : args = #[v0] := by cases args; simp_all
  obtain ⟨x0, x1, x2, rfl⟩ := list3 (vars_len hV)
  obtain ⟨A0, n0, cap0, rfl⟩ := okWide_slice Tryz.underlying22 (hval 0 22 v0 rfl rfl)
  have lt0 : ∀ x ∈ p0, x.block < W.heap.size := by obtain ⟨m, hm⟩ := h0; exact DataW.trod_lt m _ _ _ hm
  obtain ⟨l0, rfl, hl0, hin0⟩ := open_code h0
  clear hA0 hval0
  refine (walk A0 n0 cap0 a W hl0 hin0 hT hE).mono fun e W' ⟨he, bel⟩ => ?_
  subst he
  exact ⟨_, rfl, _, _, _, [], _, q, hW', trodAll_mk1 (shut_bool Tryz.underlying4 _), (trodAll_cons_mk (Below.trod laidOut (by kernel_rfl) (of_decide_eq_true (by kernel_rfl)) h0 bel lt0) trodAll_mk0), vars_stayE laidOut bel hvar plainVars hV, bel.frame _, fun h => by cases h⟩

/-- a world for the witness: the tables hold what their initialisers lay -/
noncomputable def laidWorld (os : Os) : World := layAllE (World.holding Tryz.prog os ⟨#[], #[], []⟩)
theorem laid_met (os : Os) : laidMet Tryz.prog Rows.fnBehindNewRow.laid ((laidWorld os).forCall (fun _ _ => 0) ⟨#[], #[.slice none 0 0], []⟩).memory :=
  laidMet_of_run' 8 (by kernel_rfl) (by kernel_rfl)
theorem reads (os : Os) {H : Type} (enc : TypeId × Value → H) : ∃ x, DataW.whole enc Tryz.prog ((laidWorld os).forCall (fun _ _ => 0) ⟨#[], #[.slice none 0 0], []⟩).memory Tryz.f7.params.toList Rows.fnBehindNewSpec.vars false (#[.slice none 0 0] : Array Value).toList 8 = some x :=
  Option.isSome_iff_exists.1 (by kernel_rfl)
set_option maxRecDepth 100000 in
theorem lifted (os : Os) (started : os.Started) (H : Type) (enc : TypeId × Value → H) (F : Stop.Interp) :
    ReturnsInHanded {} Tryz.checked os 7 .any ((OpenSpec.ofChange Rows.fnBehindNewSpec).preRow enc Tryz.prog Tryz.f7 Rows.fnBehindNewRow.domain false Rows.fnBehindNewRow.laid) (((OpenSpec.ofChange Rows.fnBehindNewSpec).at F).post enc Tryz.prog Tryz.f7 false true false false) := by
  obtain ⟨x, hx⟩ := reads os enc
  refine returnsInHanded_of_row (C := Tryz.checked) (s := OpenSpec.ofChange Rows.fnBehindNewSpec) own started (by kernel_rfl) Tryz.func7
    (witness_row_at (enc := enc) (C := Tryz.checked) false (laidWorld os) #[.slice none 0 0] rfl (by kernel_rfl) (by kernel_rfl) (by kernel_rfl)
      (OpenSpec.preRow_of_cond 8 hx rfl (fun k hk => by cases hk) (by kernel_rfl) (laid_met os))) ?_
  intro W base args ds gs before hval hW _ _ _ hL _ _
  exact contract H enc W base args ds gs before hval hW hL
theorem said : Rows.FnBehindNewSaid :=
  OpenClaim.holds_of_cond 7 Tryz.f7 rfl rfl rfl rfl rfl rfl rfl ⟨rfl, rfl, rfl, rfl, rfl⟩ rfl rfl rfl rfl rfl (by kernel_rfl) Tryz.func7 (by kernel_rfl)
    (of_decide_eq_true (by kernel_rfl)) (by unfold Func.isWrapper; first | (rw [if_pos (by decide +kernel)]; kernel_rfl) | (rw [if_neg (by decide +kernel)]; exact ⟨rfl, rfl⟩))
    (fun os started H enc _ F => by rw [OpenClaim.pre_eq_preRow]; exact lifted os started H enc F)
theorem plain (f : FuncId) (fn : Func) (hf : Tryz.pinned.checked.prog.funcNamed "loop.example/g00652/laws.FnBehindNew" = some f) (hfn : Tryz.pinned.checked.prog.funcs[f]? = some fn) :
    false = Tryz.pinned.checked.prog.looks [] ∧ ∀ (j : Nat) t, fn.params[j]? = some t → Tryz.pinned.checked.prog.wantsStandIn t = false := by
  obtain rfl : f = 7 := Option.some.inj ((show Tryz.prog.funcNamed "loop.example/g00652/laws.FnBehindNew" = some 7 by kernel_rfl).symm.trans hf) |>.symm
  obtain rfl : fn = Tryz.f7 := (Option.some.inj (Tryz.func7.symm.trans hfn)).symm
  refine ⟨by kernel_rfl, fun j t ht => ?_⟩
  rw [Tryz.params7] at ht
  have hm := Array.mem_of_getElem? ht
  simp only [List.mem_toArray, List.mem_cons, List.not_mem_nil, or_false] at hm
  subst hm
  exact (show Tryz.prog.wantsStandIn 22 = false by kernel_rfl)
theorem card : Rows.FnBehindNewCardSaid :=
  Claim7.holds_tied_plain_at .later [] _ _ _ _ said (fun _ h => by cases h) (by kernel_rfl) (fun _ h => by cases h) fnBehindNew_row_tie rfl ⟨rfl, rfl⟩ (by kernel_rfl) rfl plain (by kernel_rfl)

end Go.Proofs.YtdahpnjamlfakaaGreatDoor.LBehindNew
namespace Go.Proofs.YtdahpnjamlfakaaGreatDoor
theorem fnBehindNew_proved : Rows.FnBehindNewCardSaid := LBehindNew.card
end Go.Proofs.YtdahpnjamlfakaaGreatDoor
