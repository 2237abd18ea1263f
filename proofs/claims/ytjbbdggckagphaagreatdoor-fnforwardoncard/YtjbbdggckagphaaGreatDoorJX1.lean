/-
  laws.FnForwardOn returns true whatever the code: a ref that goes by what is behind comes to the same. No conditions but that the two tables of the digest and the sentinel of the reader hold what the program's text lays (the card ties them).
-/
import Derived.Test.YtjbbdggckagphaaGreatDoorJC
import Derived.Test.YtjbbdggckagphaaGreatDoorJD
import Derived.Test.YtjbbdggckagphaaGreatDoorJF
import Derived.Test.YtjbbdggckagphaaGreatDoorJW
namespace Go.Proofs.YtjbbdggckagphaaGreatDoor.LForwardOn
open Go.RowKit Go.ChangeShapes Go.WideShapes Go.ChangeAt
open Go.ChangeMaps (open_string shut_string)

set_option maxRecDepth 100000 in
set_option maxHeartbeats 4000000 in
theorem walk (A : Option Addr) (n : Nat) (cap : Nat) (a : Addr) (w : World) (hl : n ≤ maxLen) (hin : CIn w w.heap.size A n) (hT : Tabs w) (hE : ErrC w a) :
    Calls Tryz.prog 4 #[.slice A n cap] w fun e w' => e = .returned (.bool true) ∧ Below w.heap.size w w' := by
  by_cases hbig : 1048576 < n
  · have d : decide (1048576 < n) = true := decide_eq_true hbig
    go_enter Tryz.func4, Tryz.ntmps4
    go_wp2_with (go_at_call 6; refine (big_any A n cap _ hl).mono ?_; rintro e w' ⟨rfl, rfl⟩)
    go_ret
    exact ⟨rfl, Below.refl _ _⟩
  have hn : n ≤ 1048576 := by omega
  have d : decide (1048576 < n) = false := decide_eq_false hbig
  have IN := hide hin
  have HT := hide hT
  have HB := hide hT.1
  have HE := hide hE
  have B0 : Hid (Below w.heap.size w w) := hide (Below.refl _ _)
  clear hin hT hE
  go_enter Tryz.func4, Tryz.ntmps4
  go_wp2_with fail
  refine (big_any A n cap w hl).mono ?_
  rintro e w' ⟨rfl, rfl⟩
  go_wp2_with fail
  refine (drawForward_any A n cap w hn IN.out).mono ?_
  rintro e w1 ⟨AL, capL, l, AF, capF, r, k, id, hcL, hl60, hcF, hr3, hk12, hid16, ⟨ids, htop⟩, rfl, oL, oF, b1⟩
  have B1 := hide (B0.out.trans (b1.mono B0.out.size))
  have L_1 := hide oL
  have F_1 := hide oF
  have HO := hide (repoB_iff.1 htop.rep).1
  clear b1 oL oF B0 htop
  have hlm : l.length ≤ maxLen := by unfold maxLen; omega
  have hrm : r.length ≤ maxLen := by unfold maxLen; omega
  have hkm : k.size ≤ maxLen := by unfold maxLen; omega
  have hidm : id.size ≤ maxLen := by unfold maxLen; omega
  have HZ : Hid (∀ k, (valOf l k).size ≤ 1048576) := hide (fun k => Nat.le_trans (valOf_size HO.out k) (by decide))
  have e1 : (fwB l r k id != fwB l r k id) = false := by simp
  have e2 : (fwB l r k id == fwB l r k id) = true := by simp
  have e3 := eqL_self (fwL l r k id)
  have hfl := fwL_len l r k id
  have hfm : (fwL l r k id).length ≤ maxLen := by unfold maxLen; omega
  go_wp2_with fail
  refine (implForward_any AL l capL AF r capF k id a w1 hlm L_1.out.pin hrm F_1.out.pin hkm hidm (HT.out.below B1.out HB.out) (HE.out.below B1.out)).mono ?_
  rintro e w2 ⟨AN, capN, hcN, rfl, own2, b2⟩
  have B2 := hide (B1.out.trans (b2.mono B1.out.size))
  have L_2 := hide (L_1.out.below b2)
  have F_2 := hide (F_1.out.below b2)
  have N_2 := hide (own2.more B1.out.size)
  clear b2 own2 B1 L_1 F_1
  go_wp2_with fail
  refine (specForward_any AL l capL AF r capF k id w2 hlm L_2.out.pin HZ.out hrm hcF F_2.out.pin hkm hidm).mono ?_
  rintro e w3 ⟨AX, capX, hcX, rfl, own3, b3⟩
  have B3 := hide (B2.out.trans (b3.mono B2.out.size))
  have L_3 := hide (L_2.out.below b3)
  have F_3 := hide (F_2.out.below b3)
  have N_3 := hide (N_2.out.below b3)
  have X_3 := hide (own3.more B2.out.size)
  clear b3 own3 B2 L_2 F_2 N_2
  go_wp2_with fail
  refine (R.sameMap_any AN AX _ _ capN capX w3 _ _ hfm hfm N_3.out.pin X_3.out.pin).mono ?_
  rintro e w4 ⟨rfl, q4⟩
  have b4 := q4.below w3.heap.size
  have B4 := hide (B3.out.trans (b4.mono B3.out.size))
  have L_4 := hide (L_3.out.below b4)
  have F_4 := hide (F_3.out.below b4)
  have N_4 := hide (N_3.out.below b4)
  have X_4 := hide (X_3.out.below b4)
  clear b4 q4 B3 L_3 F_3 N_3 X_3
  cases hb : fwB l r k id
  · rw [hb] at e1 e2
    go_wp2_with fail
    refine (R.sameMap_any AN AX _ _ capN capX w4 _ _ hfm hfm N_4.out.pin X_4.out.pin).mono ?_
    rintro e w5 ⟨rfl, q5⟩
    have b5 := q5.below w4.heap.size
    have B5 := hide (B4.out.trans (b5.mono B4.out.size))
    have L_5 := hide (L_4.out.below b5)
    have F_5 := hide (F_4.out.below b5)
    have N_5 := hide (N_4.out.below b5)
    have X_5 := hide (X_4.out.below b5)
    clear b5 q5 B4 L_4 F_4 N_4 X_4
    go_wp2_with fail
    go_ret
    exact ⟨rfl, B5.out⟩
  · have HBF := hide hb
    rw [hb] at e1 e2
    clear hb
    have hal := ancK_len l id
    go_wp2_with fail
    refine (implAncestors_any AL l capL id a w4 hlm L_4.out.pin hidm (HT.out.below B4.out HB.out) (HE.out.below B4.out)).mono ?_
    rintro e w5 ⟨AS, capS, rfl, own5, b5⟩
    have B5 := hide (B4.out.trans (b5.mono B4.out.size))
    have L_5 := hide (L_4.out.below b5)
    have F_5 := hide (F_4.out.below b5)
    have N_5 := hide (N_4.out.below b5)
    have X_5 := hide (X_4.out.below b5)
    have S_5 := hide (own5.more B4.out.size)
    clear b5 own5 B4 L_4 F_4 N_4 X_4
    have NZ := hide S_5.out.zin
    have NP := hide N_5.out.pin
    have FW : Hid (∀ z ∈ ancK l id, ∀ W, Below w5.heap.size w5 W → Calls Tryz.prog 8 #[.slice AL l.length capL, .slice AF r.length capF, .string k, .string z] W (R.RetOwnB W.heap.size (fwL l r k z) (fwB l r k z) W)) := hide (fun z hz W hb => implForward_any AL l capL AF r capF k z a W hlm ((L_5.out.below hb).pin) hrm ((F_5.out.below hb).pin) hkm (key_max HO.out (anc_rd hz)) (HT.out.below (B5.out.trans (hb.mono B5.out.size)) HB.out) (HE.out.below (B5.out.trans (hb.mono B5.out.size))))
    have FX : Hid (∀ z ∈ ancK l id, fwB l r k z = true → ∀ A' cap' W, Below w5.heap.size w5 W → PIn W W.heap.size A' (fwL l r k z) → Calls Tryz.prog 8 #[.slice AL l.length capL, .slice A' (fwL l r k z).length cap', .string k, .string id] W (R.RetOwnB W.heap.size (fwL l r k id) true W)) := hide (fun z hz h2 A' cap' W hb hin => by
      obtain ⟨h3, h4⟩ := fw_on HBF.out hz h2 (by omega)
      have hfz := fwL_len l r k z
      have h := implForward_any AL l capL A' (fwL l r k z) cap' k id a W hlm ((L_5.out.below hb).pin) (by unfold maxLen; omega) hin hkm hidm (HT.out.below (B5.out.trans (hb.mono B5.out.size)) HB.out) (HE.out.below (B5.out.trans (hb.mono B5.out.size)))
      rw [h3, h4] at h
      exact h)
    clear L_5 F_5 N_5 X_5 S_5 HBF hlm hrm hkm hidm HZ HO HE HT hcL hcF
    generalize l.length = ln at *
    generalize r.length = rn at *
    generalize ancK l id = pa at *
    generalize hpn : pa.length = pn at *
    have PN := hide hpn
    clear hpn
    have FL := hide (fun z => fwL_len l r k z)
    generalize fwL l r k id = want at *
    generalize fwB l r k id = ok at *
    go_wp2_with fail
    go_loopw [12] (fun iv wr => ∃ i : Nat, i ≤ pn ∧ iv = .int .i64 i ∧ Hid (Below w5.heap.size w5 wr)) (fun i _ => pn - (intOf i).toNat)
    case atStart => exact ⟨0, Nat.zero_le _, rfl, hide (Below.refl _ _)⟩
    case round =>
      obtain ⟨i, hi, rfl, Q⟩ := hrel
      have sj := Q.out.size
      by_cases hlt : i < pn
      · have hil : i < pa.length := by rw [PN.out]; exact hlt
        obtain ⟨b, off, eN, hb, hc⟩ := NZ.out (by omega)
        subst eN
        have ci := cellB Q.out hb (hc i hil)
        have F1 := hide (FW.out _ (List.getElem_mem hil) wr Q.out)
        have F2 := hide (FX.out _ (List.getElem_mem hil))
        clear hc
        generalize pa[i]'hil = z at *
        have flz := FL.out z
        generalize fwL l r k z = xz at *
        generalize fwB l r k z = oz at *
        go_wp2_with fail
        refine F1.out.mono ?_
        rintro e w6 ⟨A6, cap6, hc6, rfl, o6, b6⟩
        have Q6 := hide (Q.out.trans (b6.mono sj))
        have O6 := hide o6
        clear o6 b6 F1
        cases oz
        · go_wp2_with fail
          go_roundw
          case rel => exact ⟨i + 1, by omega, by go_num, Q6⟩
          case measure => simp [intOf]; omega
        · have F3 := hide (F2.out rfl A6 cap6 w6 Q6.out O6.out.pin)
          go_wp2_with fail
          refine F3.out.mono ?_
          rintro e w7 ⟨A7, cap7, hc7, rfl, o7, b7⟩
          have Q7 := hide (Q6.out.trans (b7.mono Q6.out.size))
          have O7 := hide o7
          clear o7 b7 F3 F2
          have SM := hide (R.sameMap_any A7 AN want want cap7 capN w7 _ _ hfm hfm O7.out.pin (NP.out.below Q7.out))
          go_wp2_with fail
          refine SM.out.mono ?_
          rintro e w8 ⟨rfl, q8⟩
          have Q8 := hide (Q7.out.trans ((q8.below _).mono Q7.out.size))
          clear q8 SM
          go_wp2_with fail
          go_roundw
          case rel => exact ⟨i + 1, by omega, by go_num, Q8⟩
          case measure => simp [intOf]; omega
      · have hgt : ¬ ((i : Int) < (pn : Int)) := by omega
        clear hlt
        go_wp2_with fail
        go_ret
        exact ⟨rfl, B5.out.trans (Q.out.mono B5.out.size)⟩

theorem plainVars : ∀ n ∈ Rows.fnForwardOnSpec.vars, n = "loop.example/g00652/impl.errNoCommit" ∨ ∀ g t, Tryz.prog.globalNamed n = some g → (Tryz.prog.globals[g]?).map (·.type) = some t → Tryz.prog.readableRec t = true ∧ t < Tryz.prog.types.size := by
  intro n hn
  have hb : (Rows.fnForwardOnSpec.vars).all (fun n => n == "loop.example/g00652/impl.errNoCommit" || ((Tryz.prog.globalNamed n).bind fun g => (Tryz.prog.globals[g]?).map fun x => Tryz.prog.readableRec x.type && decide (x.type < Tryz.prog.types.size)).getD false) = true := by kernel_rfl
  have h := List.all_eq_true.1 hb n hn
  rw [Bool.or_eq_true] at h
  rcases h with h | h
  · exact .inl (by simpa using h)
  refine .inr fun g t h1 h2 => ?_
  rw [h1] at h
  obtain ⟨x, hx, rfl⟩ := Option.map_eq_some_iff.1 h2
  simp only [Option.bind_some, hx, Option.map_some, Option.getD_some, Bool.and_eq_true, decide_eq_true_eq] at h
  exact h
set_option maxRecDepth 100000 in
theorem contract (H : Type) (enc : TypeId × Value → H) (W : World) (base : Nat) (args : Array Value) (ds gs : List (DataW H)) (before : List MemPlace)
    (hval0 : ∀ (j : Nat) t v, Tryz.f4.params[j]? = some t → args[j]? = some v → Value.okWide Tryz.prog W .any base t v)
    (hW : DataW.Whole enc Tryz.prog Tryz.f4.params.toList Rows.fnForwardOnSpec.vars false W args.toList ds gs before) (hL : laidMetH Tryz.prog Rows.fnForwardOnRow.laid W) :
    Calls Tryz.prog 4 args W fun e W' => ∃ v, e = .returned v ∧ Rows.fnForwardOnSpec.post enc Tryz.prog Tryz.f4 false true false false W args v W' := by
  have hval : ∀ (j : Nat) t v, Tryz.f4.params[j]? = some t → args[j]? = some v → Value.okWide Tryz.prog W .any base t v := hval0
  have hT : Tabs W := tabs_of (l := Rows.fnForwardOnRow.laid) hL (List.mem_cons_self ..) (List.mem_cons_of_mem _ (List.mem_cons_self ..))
  obtain ⟨a, hE, hvar⟩ := errs_in (W := W) (laid_tail (laid_tail hL))
  have hW' := hW
  obtain ⟨p, q, hA0, hV, rfl, hfz, hnd⟩ := hW
  have hA : DataW.TrodAll enc Tryz.prog W 0 (fun _ => true) true Tryz.f4.params.toList args.toList ds p := hA0
  rw [Tryz.params4] at hA hval
  obtain ⟨v0, vs0, d0, ds0, p0, q0, hargs, rfl, rfl, h0, r0⟩ := trodAll_cons hA
  obtain ⟨rfl, rfl, rfl⟩ := trodAll_nil r0
  obtain rfl : args = #[v0] := by cases args; simp_all
  obtain ⟨x0, x1, x2, rfl⟩ := list3 (vars_len hV)
  obtain ⟨A0, n0, cap0, rfl⟩ := okWide_slice Tryz.underlying22 (hval 0 22 v0 rfl rfl)
  have lt0 : ∀ x ∈ p0, x.block < W.heap.size := by obtain ⟨m, hm⟩ := h0; exact DataW.trod_lt m _ _ _ hm
  obtain ⟨l0, rfl, hl0, hin0⟩ := open_code h0
  clear hA0 hval0
  refine (walk A0 n0 cap0 a W hl0 hin0 hT hE).mono fun e W' ⟨he, bel⟩ => ?_
  subst he
  exact ⟨_, rfl, _, _, _, [], _, q, hW', trodAll_mk1 (shut_bool Tryz.underlying4 _), (trodAll_cons_mk (Below.trod laidOut (by kernel_rfl) (of_decide_eq_true (by kernel_rfl)) h0 bel lt0) trodAll_mk0), vars_stayE laidOut bel hvar plainVars hV, bel.frame _, fun h => by cases h⟩

/-- a world for the witness: the tables hold what their initialisers lay -/
noncomputable def laidWorld (os : Os) : World := layAllE (World.holding Tryz.prog os ⟨#[], #[], []⟩)
theorem laid_met (os : Os) : laidMet Tryz.prog Rows.fnForwardOnRow.laid ((laidWorld os).forCall (fun _ _ => 0) ⟨#[], #[.slice none 0 0], []⟩).memory :=
  laidMet_of_run' 8 (by kernel_rfl) (by kernel_rfl)
theorem reads (os : Os) {H : Type} (enc : TypeId × Value → H) : ∃ x, DataW.whole enc Tryz.prog ((laidWorld os).forCall (fun _ _ => 0) ⟨#[], #[.slice none 0 0], []⟩).memory Tryz.f4.params.toList Rows.fnForwardOnSpec.vars false (#[.slice none 0 0] : Array Value).toList 8 = some x :=
  Option.isSome_iff_exists.1 (by kernel_rfl)
set_option maxRecDepth 100000 in
theorem lifted (os : Os) (started : os.Started) (H : Type) (enc : TypeId × Value → H) (F : Stop.Interp) :
    ReturnsInHanded {} Tryz.checked os 4 .any ((OpenSpec.ofChange Rows.fnForwardOnSpec).preRow enc Tryz.prog Tryz.f4 Rows.fnForwardOnRow.domain false Rows.fnForwardOnRow.laid) (((OpenSpec.ofChange Rows.fnForwardOnSpec).at F).post enc Tryz.prog Tryz.f4 false true false false) := by
  obtain ⟨x, hx⟩ := reads os enc
  refine returnsInHanded_of_row (C := Tryz.checked) (s := OpenSpec.ofChange Rows.fnForwardOnSpec) own started (by kernel_rfl) Tryz.func4
    (witness_row_at (enc := enc) (C := Tryz.checked) false (laidWorld os) #[.slice none 0 0] rfl (by kernel_rfl) (by kernel_rfl) (by kernel_rfl)
      (OpenSpec.preRow_of_cond 8 hx rfl (fun k hk => by cases hk) (by kernel_rfl) (laid_met os))) ?_
  intro W base args ds gs before hval hW _ _ _ hL _ _
  exact contract H enc W base args ds gs before hval hW hL
theorem said : Rows.FnForwardOnSaid :=
  OpenClaim.holds_of_cond 4 Tryz.f4 rfl rfl rfl rfl rfl rfl rfl ⟨rfl, rfl, rfl, rfl, rfl⟩ rfl rfl rfl rfl rfl (by kernel_rfl) Tryz.func4 (by kernel_rfl)
    (of_decide_eq_true (by kernel_rfl)) (by unfold Func.isWrapper; first | (rw [if_pos (by decide +kernel)]; kernel_rfl) | (rw [if_neg (by decide +kernel)]; exact ⟨rfl, rfl⟩))
    (fun os started H enc _ F => by rw [OpenClaim.pre_eq_preRow]; exact lifted os started H enc F)
theorem plain (f : FuncId) (fn : Func) (hf : Tryz.pinned.checked.prog.funcNamed "loop.example/g00652/laws.FnForwardOn" = some f) (hfn : Tryz.pinned.checked.prog.funcs[f]? = some fn) :
    false = Tryz.pinned.checked.prog.looks [] ∧ ∀ (j : Nat) t, fn.params[j]? = some t → Tryz.pinned.checked.prog.wantsStandIn t = false := by
  obtain rfl : f = 4 := Option.some.inj ((show Tryz.prog.funcNamed "loop.example/g00652/laws.FnForwardOn" = some 4 by kernel_rfl).symm.trans hf) |>.symm
  obtain rfl : fn = Tryz.f4 := (Option.some.inj (Tryz.func4.symm.trans hfn)).symm
  refine ⟨by kernel_rfl, fun j t ht => ?_⟩
  rw [Tryz.params4] at ht
  have hm := Array.mem_of_getElem? ht
  simp only [List.mem_toArray, List.mem_cons, List.not_mem_nil, or_false] at hm
  subst hm
  exact (show Tryz.prog.wantsStandIn 22 = false by kernel_rfl)
theorem card : Rows.FnForwardOnCardSaid :=
  Claim7.holds_tied_plain_at .later [] _ _ _ _ said (fun _ h => by cases h) (by kernel_rfl) (fun _ h => by cases h) fnForwardOn_row_tie rfl ⟨rfl, rfl⟩ (by kernel_rfl) rfl plain (by kernel_rfl)

end Go.Proofs.YtjbbdggckagphaaGreatDoor.LForwardOn
namespace Go.Proofs.YtjbbdggckagphaaGreatDoor
theorem fnForwardOn_proved : Rows.FnForwardOnCardSaid := LForwardOn.card
end Go.Proofs.YtjbbdggckagphaaGreatDoor
