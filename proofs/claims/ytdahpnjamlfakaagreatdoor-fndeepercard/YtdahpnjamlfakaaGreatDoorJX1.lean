/-
  laws.FnDeeper returns true whatever the code: what is behind another one is less deep. No conditions but that the two tables of the digest and the sentinel of the reader hold what the program's text lays (the card ties them).
-/
import Derived.Test.YtdahpnjamlfakaaGreatDoorJC
import Derived.Test.YtdahpnjamlfakaaGreatDoorJD
import Derived.Test.YtdahpnjamlfakaaGreatDoorJL
import Derived.Test.YtdahpnjamlfakaaGreatDoorJB
namespace Go.Proofs.YtdahpnjamlfakaaGreatDoor.LDeeper
open Go.RowKit Go.ChangeShapes Go.WideShapes Go.ChangeAt
open Go.ChangeMaps (open_string shut_string)

set_option maxRecDepth 100000 in
set_option maxHeartbeats 4000000 in
theorem walk (A : Option Addr) (n : Nat) (cap : Nat) (a : Addr) (w : World) (hl : n ≤ maxLen) (hin : CIn w w.heap.size A n) (hT : Tabs w) (hE : ErrC w a) :
    Calls Tryz.prog 5 #[.slice A n cap] w fun e w' => e = .returned (.bool true) ∧ Below w.heap.size w w' := by
  by_cases hbig : 1048576 < n
  · have d : decide (1048576 < n) = true := decide_eq_true hbig
    go_enter Tryz.func5, Tryz.ntmps5
    go_wp2_with (go_at_call 8; refine (big_any A n cap _ hl).mono ?_; rintro e w' ⟨rfl, rfl⟩)
    go_ret
    exact ⟨rfl, Below.refl _ _⟩
  have hn : n ≤ 1048576 := by omega
  have d : decide (1048576 < n) = false := decide_eq_false hbig
  have IN := hide hin
  have HT := hide hT
  have HB := hide hT.1
  have HE := hide hE
  have B0 : Hid (Below w.heap.size w w) := hide (Below.refl _ _)
  clear hin hT hE
  go_enter Tryz.func5, Tryz.ntmps5
  go_wp2_with fail
  refine (big_any A n cap w hl).mono ?_
  rintro e w' ⟨rfl, rfl⟩
  go_wp2_with fail
  refine (drawDepthOf_any A n cap w hn IN.out).mono ?_
  rintro e w1 ⟨AL, capL, l, id, hcL, hl60, hid16, ⟨ids, htop⟩, rfl, oL, b1⟩
  have B1 := hide (B0.out.trans (b1.mono B0.out.size))
  have L_1 := hide oL
  have HTOP := hide htop
  clear b1 oL B0 htop
  have hlm : l.length ≤ maxLen := by unfold maxLen; omega
  have hidm : id.size ≤ maxLen := by unfold maxLen; omega
  have HO := hide (repoB_iff.1 HTOP.out.rep).1
  have HR := hide HTOP.out.rep
  have HA := hide HTOP.out.acy
  have ID : Hid (∀ z W, z.size ≤ maxLen → Below w1.heap.size w1 W → Calls Tryz.prog 10 #[.slice AL l.length capL, .string z] W fun e w' => e = .returned (.int .i64 (dpV l z)) ∧ Below W.heap.size W w') := hide (fun z W hz hb => implDepthOf_any AL l capL z a W hlm ((L_1.out.below hb).pin) hz HA.out (HT.out.below (B1.out.trans (hb.mono B1.out.size)) HB.out) (HE.out.below (B1.out.trans (hb.mono B1.out.size))))
  have SD : Hid (∀ W, Below w1.heap.size w1 W → Calls Tryz.prog 11 #[.slice AL l.length capL, .string id] W fun e w' => e = .returned (.int .i64 (dpV l id)) ∧ Below W.heap.size W w') := hide (fun W hb => specDepthOf_any AL l capL id W hlm ((L_1.out.below hb).pin) (Nat.le_trans (valOf_size HO.out id) (by decide)) HA.out HR.out)
  have R0 : Hid (Below w1.heap.size w1 w1) := hide (Below.refl _ _)
  have TB : Hid (∀ W, Below w1.heap.size w1 W → Below w.heap.size w W) := hide (fun W hb => B1.out.trans (hb.mono B1.out.size))
  have AN : Hid (∀ W, Below w1.heap.size w1 W → Calls Tryz.prog 15 #[.slice AL l.length capL, .string id] W (RetZ W.heap.size (ancK l id) W)) := hide (fun W hb => implAncestors_any AL l capL id a W hlm ((L_1.out.below hb).pin) hidm (HT.out.below (B1.out.trans (hb.mono B1.out.size)) HB.out) (HE.out.below (B1.out.trans (hb.mono B1.out.size))))
  cases hr : rdOk (valOf l id)
  · have DV : dpV l id = -1 := dpV_no (fun k => by rw [hr] at k; cases k.1)
    rw [DV] at SD
    have I1 := hide (ID.out id w1 hidm R0.out)
    rw [DV] at I1
    clear L_1 HTOP hlm hidm HO HR HA HE HT hcL ID DV hr hid16 hl60 AN
    generalize l.length = ln at *
    go_wp2_with fail
    refine I1.out.mono ?_
    rintro e wa ⟨rfl, ba⟩
    have Ra := hide (R0.out.trans (ba.mono R0.out.size))
    clear ba
    go_wp2_with fail
    refine (SD.out wa Ra.out).mono ?_
    rintro e wb ⟨rfl, bb⟩
    have Rb := hide (Ra.out.trans (bb.mono Ra.out.size))
    clear bb
    go_wp2_with fail
    refine (SD.out wb Rb.out).mono ?_
    rintro e wc ⟨rfl, bc⟩
    have Rc := hide (TB.out wc (Rb.out.trans (bc.mono Rb.out.size)))
    clear bc
    go_wp2
    go_ret
    exact ⟨rfl, Rc.out⟩
  · have DV : dpV l id = (depK l id : Int) := dpV_yes hr HR.out
    rw [DV] at SD
    have I1 := hide (ID.out id w1 hidm R0.out)
    rw [DV] at I1
    have dn : decide ((depK l id : Int) < 0) = false := decide_eq_false (by omega)
    have de : ((depK l id : Int) != (depK l id : Int)) = false := by simp
    have DL : depK l id + 1 ≤ l.length := dep_le HR.out (depK_is HA.out) hr
    clear DV
    have IP : Hid (∀ q ∈ ancK l id, ∀ W, Below w1.heap.size w1 W → Calls Tryz.prog 10 #[.slice AL l.length capL, .string q] W fun e w' => e = .returned (.int .i64 (depK l q : Int)) ∧ Below W.heap.size W w') := hide (fun q hq W hb => by
      have hc := anc_rd hq
      have h := ID.out q W (key_max HO.out hc) hb
      rw [dpV_yes hc HR.out] at h
      exact h)
    have LS : Hid (∀ q ∈ ancK l id, q ≠ id → depK l q < depK l id) := hide (fun q hq hne => dep_less HA.out hq hne)
    have MN : Hid (depK l id < (ancK l id).length) := hide (dep_many HA.out HR.out hr)
    have hal := ancK_len l id
    clear L_1 HTOP hlm hidm HO HR HA HE HT hcL ID hr hid16
    generalize depK l id = d at *
    generalize hpa : ancK l id = pa at *
    clear hpa
    generalize l.length = ln at *
    go_wp2_with fail
    refine I1.out.mono ?_
    rintro e wa ⟨rfl, ba⟩
    have Ra := hide (R0.out.trans (ba.mono R0.out.size))
    clear ba I1
    go_wp2_with fail
    refine (SD.out wa Ra.out).mono ?_
    rintro e wb ⟨rfl, bb⟩
    have Rb := hide (Ra.out.trans (bb.mono Ra.out.size))
    clear bb SD Ra
    go_wp2_with fail
    refine (AN.out wb Rb.out).mono ?_
    rintro e wc ⟨A3, c3, rfl, o3, b3⟩
    have O4 := hide o3.zin
    have R4 := hide (Rb.out.trans (b3.mono Rb.out.size))
    have Q4 : Hid (Below wc.heap.size wc wc) := hide (Below.refl _ _)
    obtain ⟨np, hnp⟩ : ∃ np, pa.length = np := ⟨_, rfl⟩
    have NP := hide hnp
    rw [hnp] at hal MN ⊢
    clear o3 b3 AN Rb hnp R0
    go_wp2
    go_loopw [7] (fun iv wr => ∃ j : Nat, j ≤ np ∧ iv = .int .i64 j ∧ Hid (Below wc.heap.size wc wr)) (fun i _ => np - (intOf i).toNat)
    case atStart => exact ⟨0, Nat.zero_le _, rfl, Q4⟩
    case round =>
      clear Q4
      obtain ⟨j, hj, rfl, Q⟩ := hrel
      by_cases hlt : j < np
      · have hjl : j < pa.length := by rw [NP.out]; exact hlt
        obtain ⟨gq, offq, rfl, hgq, hcq⟩ := O4.out (by omega)
        have cq := cellB Q.out hgq (hcq j hjl)
        have IQ := hide (IP.out _ (List.getElem_mem hjl) wr (R4.out.trans (Q.out.mono R4.out.size)))
        have LQ := hide (LS.out _ (List.getElem_mem hjl))
        have HL := hide hlt
        clear hcq IP LS
        generalize hqq : pa[j]'hjl = q at *
        clear hqq hjl
        by_cases hq : q = id
        · have dq : (q.toList == id.toList) = true := eqS_yes hq
          clear hq IQ LQ
          go_wp2
          go_roundw
          case rel => exact ⟨j + 1, HL.out, by have := HL.out; go_num, Q⟩
          case measure => have := HL.out; simp [intOf]; omega
        · have dq : (q.toList == id.toList) = false := eqS_no hq
          have lt := LQ.out hq
          clear hq LQ
          generalize depK l q = e1 at *
          have dg : decide ((d : Int) ≤ (e1 : Int)) = false := decide_eq_false (by omega)
          go_wp2_with fail
          refine IQ.out.mono ?_
          rintro e wd ⟨rfl, bd⟩
          have Q5 := hide (Q.out.trans (bd.mono Q.out.size))
          clear bd IQ
          go_wp2
          go_roundw
          case rel => exact ⟨j + 1, HL.out, by have := HL.out; go_num, Q5⟩
          case measure => have := HL.out; simp [intOf]; omega
      · have dd : decide ((d : Int) < (np : Int)) = true := decide_eq_true (by have := MN.out; omega)
        have dd2 : decide (d < np) = true := decide_eq_true MN.out
        have hgt : ¬ ((j : Int) < (np : Int)) := by omega
        have F := hide (TB.out wr (R4.out.trans (Q.out.mono R4.out.size)))
        clear hlt
        go_wp2
        go_ret
        exact ⟨rfl, F.out⟩

theorem plainVars : ∀ n ∈ Rows.fnDeeperSpec.vars, n = "loop.example/g00652/impl.errNoCommit" ∨ ∀ g t, Tryz.prog.globalNamed n = some g → (Tryz.prog.globals[g]?).map (·.type) = some t → Tryz.prog.readableRec t = true ∧ t < Tryz.prog.types.size := by
  intro n hn
  have hb : (Rows.fnDeeperSpec.vars).all (fun n => n == "loop.example/g00652/impl.errNoCommit" || ((Tryz.prog.globalNamed n).bind fun g => (Tryz.prog.globals[g]?).map fun x => Tryz.prog.readableRec x.type && decide (x.type < Tryz.prog.types.size)).getD false) = true := by kernel_rfl
  have h := List.all_eq_true.1 hb n hn
  rw [Bool.or_eq_true] at h
  rcases h with h | h
  · exact .inl (by simpa using h)
  refine .inr fun g t h1 h2 => ?_
  rw [h1] at h
  obtain ⟨x, hx, rfl⟩ := Option.map_eq_some_iff.1 h2
  simp only [Option.bind_some, hx, Option.map_some, Option.getD_some, Bool.and_eq_true, decide_eq_true_eq] at h
  exact h
set_option maxRecDepth 100000 in
theorem contract (H : Type) (enc : TypeId × Value → H) (W : World) (base : Nat) (args : Array Value) (ds gs : List (DataW H)) (before : List MemPlace)
    (hval0 : ∀ (j : Nat) t v, Tryz.f5.params[j]? = some t → args[j]? = some v → Value.okWide Tryz.prog W .any base t v)
    (hW : DataW.Whole enc Tryz.prog Tryz.f5.params.toList Rows.fnDeeperSpec.vars false W args.toList ds gs before) (hL : laidMetH Tryz.prog Rows.fnDeeperRow.laid W) :
    Calls Tryz.prog 5 args W fun e W' => ∃ v, e = .returned v ∧ Rows.fnDeeperSpec.post enc Tryz.prog Tryz.f5 false true false false W args v W' := by
  have hval : ∀ (j : Nat) t v, Tryz.f5.params[j]? = some t → args[j]? = some v → Value.okWide Tryz.prog W .any base t v := hval0
  have hT : Tabs W := tabs_of (l := Rows.fnDeeperRow.laid) hL (List.mem_cons_self ..) (List.mem_cons_of_mem _ (List.mem_cons_self ..))
  obtain ⟨a, hE, hvar⟩ := errs_in (W := W) (laid_tail (laid_tail hL))
  have hW' := hW
  obtain ⟨p, q, hA0, hV, rfl, hfz, hnd⟩ := hW
  have hA : DataW.TrodAll enc Tryz.prog W 0 (fun _ => true) true Tryz.f5.params.toList args.toList ds p := hA0
  rw [Tryz.params5] at hA hval
  obtain ⟨v0, vs0, d0, ds0, p0, q0, hargs, rfl, rfl, h0, r0⟩ := trodAll_cons hA
  obtain ⟨rfl, rfl, rfl⟩ := trodAll_nil r0
  obtain rfl : args = #[v0] := by cases args; simp_all
  obtain ⟨x0, x1, x2, rfl⟩ := list3 (vars_len hV)
  obtain ⟨A0, n0, cap0, rfl⟩ := okWide_slice Tryz.underlying22 (hval 0 22 v0 rfl rfl)
  have lt0 : ∀ x ∈ p0, x.block < W.heap.size := by obtain ⟨m, hm⟩ := h0; exact DataW.trod_lt m _ _ _ hm
  obtain ⟨l0, rfl, hl0, hin0⟩ := open_code h0
  clear hA0 hval0
  refine (walk A0 n0 cap0 a W hl0 hin0 hT hE).mono fun e W' ⟨he, bel⟩ => ?_
  subst he
  exact ⟨_, rfl, _, _, _, [], _, q, hW', trodAll_mk1 (shut_bool Tryz.underlying4 _), (trodAll_cons_mk (Below.trod laidOut (by kernel_rfl) (of_decide_eq_true (by kernel_rfl)) h0 bel lt0) trodAll_mk0), vars_stayE laidOut bel hvar plainVars hV, bel.frame _, fun h => by cases h⟩

/-- a world for the witness: the tables hold what their initialisers lay -/
noncomputable def laidWorld (os : Os) : World := layAllE (World.holding Tryz.prog os ⟨#[], #[], []⟩)
theorem laid_met (os : Os) : laidMet Tryz.prog Rows.fnDeeperRow.laid ((laidWorld os).forCall (fun _ _ => 0) ⟨#[], #[.slice none 0 0], []⟩).memory :=
  laidMet_of_run' 8 (by kernel_rfl) (by kernel_rfl)
theorem reads (os : Os) {H : Type} (enc : TypeId × Value → H) : ∃ x, DataW.whole enc Tryz.prog ((laidWorld os).forCall (fun _ _ => 0) ⟨#[], #[.slice none 0 0], []⟩).memory Tryz.f5.params.toList Rows.fnDeeperSpec.vars false (#[.slice none 0 0] : Array Value).toList 8 = some x :=
  Option.isSome_iff_exists.1 (by kernel_rfl)
set_option maxRecDepth 100000 in
theorem lifted (os : Os) (started : os.Started) (H : Type) (enc : TypeId × Value → H) (F : Stop.Interp) :
    ReturnsInHanded {} Tryz.checked os 5 .any ((OpenSpec.ofChange Rows.fnDeeperSpec).preRow enc Tryz.prog Tryz.f5 Rows.fnDeeperRow.domain false Rows.fnDeeperRow.laid) (((OpenSpec.ofChange Rows.fnDeeperSpec).at F).post enc Tryz.prog Tryz.f5 false true false false) := by
  obtain ⟨x, hx⟩ := reads os enc
  refine returnsInHanded_of_row (C := Tryz.checked) (s := OpenSpec.ofChange Rows.fnDeeperSpec) own started (by kernel_rfl) Tryz.func5
    (witness_row_at (enc := enc) (C := Tryz.checked) false (laidWorld os) #[.slice none 0 0] rfl (by kernel_rfl) (by kernel_rfl) (by kernel_rfl)
      (OpenSpec.preRow_of_cond 8 hx rfl (fun k hk => by cases hk) (by kernel_rfl) (laid_met os))) ?_
  intro W base args ds gs before hval hW _ _ _ hL _ _
  exact contract H enc W base args ds gs before hval hW hL
theorem said : Rows.FnDeeperSaid :=
  OpenClaim.holds_of_cond 5 Tryz.f5 rfl rfl rfl rfl rfl rfl rfl ⟨rfl, rfl, rfl, rfl, rfl⟩ rfl rfl rfl rfl rfl (by kernel_rfl) Tryz.func5 (by kernel_rfl)
    (of_decide_eq_true (by kernel_rfl)) (by unfold Func.isWrapper; first | (rw [if_pos (by decide +kernel)]; kernel_rfl) | (rw [if_neg (by decide +kernel)]; exact ⟨rfl, rfl⟩))
    (fun os started H enc _ F => by rw [OpenClaim.pre_eq_preRow]; exact lifted os started H enc F)
theorem plain (f : FuncId) (fn : Func) (hf : Tryz.pinned.checked.prog.funcNamed "loop.example/g00652/laws.FnDeeper" = some f) (hfn : Tryz.pinned.checked.prog.funcs[f]? = some fn) :
    false = Tryz.pinned.checked.prog.looks [] ∧ ∀ (j : Nat) t, fn.params[j]? = some t → Tryz.pinned.checked.prog.wantsStandIn t = false := by
  obtain rfl : f = 5 := Option.some.inj ((show Tryz.prog.funcNamed "loop.example/g00652/laws.FnDeeper" = some 5 by kernel_rfl).symm.trans hf) |>.symm
  obtain rfl : fn = Tryz.f5 := (Option.some.inj (Tryz.func5.symm.trans hfn)).symm
  refine ⟨by kernel_rfl, fun j t ht => ?_⟩
  rw [Tryz.params5] at ht
  have hm := Array.mem_of_getElem? ht
  simp only [List.mem_toArray, List.mem_cons, List.not_mem_nil, or_false] at hm
  subst hm
  exact (show Tryz.prog.wantsStandIn 22 = false by kernel_rfl)
theorem card : Rows.FnDeeperCardSaid :=
  Claim7.holds_tied_plain_at .later [] _ _ _ _ said (fun _ h => by cases h) (by kernel_rfl) (fun _ h => by cases h) fnDeeper_row_tie rfl ⟨rfl, rfl⟩ (by kernel_rfl) rfl plain (by kernel_rfl)

end Go.Proofs.YtdahpnjamlfakaaGreatDoor.LDeeper
namespace Go.Proofs.YtdahpnjamlfakaaGreatDoor
theorem fnDeeper_proved : Rows.FnDeeperCardSaid := LDeeper.card
end Go.Proofs.YtdahpnjamlfakaaGreatDoor
