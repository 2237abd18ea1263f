/-
  laws.FnForward returns true whatever the code: where a ref has gone it stands, what it named is behind that, and it goes there again. No conditions but that the two tables of the digest and the sentinel of the reader hold what the program's text lays (the card ties them).
-/
import Derived.Test.YtjbbdggckagphaaGreatDoorJC
import Derived.Test.YtjbbdggckagphaaGreatDoorJD
import Derived.Test.YtjbbdggckagphaaGreatDoorJF
import Derived.Test.YtjbbdggckagphaaGreatDoorJW
namespace Go.Proofs.YtjbbdggckagphaaGreatDoor.LForward
open Go.RowKit Go.ChangeShapes Go.WideShapes Go.ChangeAt
open Go.ChangeMaps (open_string shut_string)

set_option maxRecDepth 100000 in
set_option maxHeartbeats 4000000 in
theorem walk (A : Option Addr) (n : Nat) (cap : Nat) (a : Addr) (w : World) (hl : n ≤ maxLen) (hin : CIn w w.heap.size A n) (hT : Tabs w) (hE : ErrC w a) :
    Calls Tryz.prog 3 #[.slice A n cap] w fun e w' => e = .returned (.bool true) ∧ Below w.heap.size w w' := by
  by_cases hbig : 1048576 < n
  · have d : decide (1048576 < n) = true := decide_eq_true hbig
    go_enter Tryz.func3, Tryz.ntmps3
    go_wp2_with (go_at_call 6; refine (big_any A n cap _ hl).mono ?_; rintro e w' ⟨rfl, rfl⟩)
    go_ret
    exact ⟨rfl, Below.refl _ _⟩
  have hn : n ≤ 1048576 := by omega
  have d : decide (1048576 < n) = false := decide_eq_false hbig
  have IN := hide hin
  have HT := hide hT
  have HB := hide hT.1
  have HE := hide hE
  have B0 : Hid (Below w.heap.size w w) := hide (Below.refl _ _)
  clear hin hT hE
  go_enter Tryz.func3, Tryz.ntmps3
  go_wp2_with fail
  refine (big_any A n cap w hl).mono ?_
  rintro e w' ⟨rfl, rfl⟩
  go_wp2_with fail
  refine (drawForward_any A n cap w hn IN.out).mono ?_
  rintro e w1 ⟨AL, capL, l, AF, capF, r, k, id, hcL, hl60, hcF, hr3, hk12, hid16, ⟨ids, htop⟩, rfl, oL, oF, b1⟩
  have B1 := hide (B0.out.trans (b1.mono B0.out.size))
  have L_1 := hide oL
  have F_1 := hide oF
  have HO := hide (repoB_iff.1 htop.rep).1
  clear b1 oL oF B0 htop
  have hlm : l.length ≤ maxLen := by unfold maxLen; omega
  have hrm : r.length ≤ maxLen := by unfold maxLen; omega
  have hkm : k.size ≤ maxLen := by unfold maxLen; omega
  have hidm : id.size ≤ maxLen := by unfold maxLen; omega
  have HZ : Hid (∀ k, (valOf l k).size ≤ 1048576) := hide (fun k => Nat.le_trans (valOf_size HO.out k) (by decide))
  have e1 : (fwB l r k id != fwB l r k id) = false := by simp
  have e2 : (fwB l r k id == fwB l r k id) = true := by simp
  have e3 := eqL_self (fwL l r k id)
  have hfl := fwL_len l r k id
  have hfm : (fwL l r k id).length ≤ maxLen := by unfold maxLen; omega
  go_wp2_with fail
  refine (implForward_any AL l capL AF r capF k id a w1 hlm L_1.out.pin hrm F_1.out.pin hkm hidm (HT.out.below B1.out HB.out) (HE.out.below B1.out)).mono ?_
  rintro e w2 ⟨AN, capN, hcN, rfl, own2, b2⟩
  have B2 := hide (B1.out.trans (b2.mono B1.out.size))
  have L_2 := hide (L_1.out.below b2)
  have F_2 := hide (F_1.out.below b2)
  have N_2 := hide (own2.more B1.out.size)
  clear b2 own2 B1 L_1 F_1
  go_wp2_with fail
  refine (specForward_any AL l capL AF r capF k id w2 hlm L_2.out.pin HZ.out hrm hcF F_2.out.pin hkm hidm).mono ?_
  rintro e w3 ⟨AX, capX, hcX, rfl, own3, b3⟩
  have B3 := hide (B2.out.trans (b3.mono B2.out.size))
  have L_3 := hide (L_2.out.below b3)
  have F_3 := hide (F_2.out.below b3)
  have N_3 := hide (N_2.out.below b3)
  have X_3 := hide (own3.more B2.out.size)
  clear b3 own3 B2 L_2 F_2 N_2
  go_wp2_with fail
  refine (R.sameMap_any AN AX _ _ capN capX w3 _ _ hfm hfm N_3.out.pin X_3.out.pin).mono ?_
  rintro e w4 ⟨rfl, q4⟩
  have b4 := q4.below w3.heap.size
  have B4 := hide (B3.out.trans (b4.mono B3.out.size))
  have L_4 := hide (L_3.out.below b4)
  have F_4 := hide (F_3.out.below b4)
  have N_4 := hide (N_3.out.below b4)
  have X_4 := hide (X_3.out.below b4)
  clear b4 q4 B3 L_3 F_3 N_3 X_3
  cases hb : fwB l r k id
  · rw [hb] at e1 e2
    go_wp2_with fail
    refine (R.sameMap_any AN AX _ _ capN capX w4 _ _ hfm hfm N_4.out.pin X_4.out.pin).mono ?_
    rintro e w5 ⟨rfl, q5⟩
    have b5 := q5.below w4.heap.size
    have B5 := hide (B4.out.trans (b5.mono B4.out.size))
    have L_5 := hide (L_4.out.below b5)
    have F_5 := hide (F_4.out.below b5)
    have N_5 := hide (N_4.out.below b5)
    have X_5 := hide (X_4.out.below b5)
    clear b5 q5 B4 L_4 F_4 N_4 X_4
    go_wp2_with fail
    go_ret
    exact ⟨rfl, B5.out⟩
  · have AG := hide (fw_again hb)
    have HA : Hid (R.gotB r k = true → isAncV l (R.gotV r k) id = true) := hide (fun h => (fwB_iff.1 hb).2.2.1 h)
    rw [hb] at e1 e2
    clear hb
    have e5 := eqS_yes (rfl : id = id)
    go_wp2_with fail
    refine (R.implRefOf_any AF r capF k w4 hrm F_4.out.pin).mono ?_
    rintro e w5 ⟨rfl, b5⟩
    have B5 := hide (B4.out.trans (b5.mono B4.out.size))
    have L_5 := hide (L_4.out.below b5)
    have F_5 := hide (F_4.out.below b5)
    have N_5 := hide (N_4.out.below b5)
    have X_5 := hide (X_4.out.below b5)
    clear b5 B4 L_4 F_4 N_4 X_4
    go_wp2_with fail
    have RO := R.implRefOf_any AN (fwL l r k id) capN k w5 hfm N_5.out.pin
    rw [AG.out.1, AG.out.2.1] at RO
    refine RO.mono ?_
    rintro e w6 ⟨rfl, b6⟩
    have B6 := hide (B5.out.trans (b6.mono B5.out.size))
    have L_6 := hide (L_5.out.below b6)
    have F_6 := hide (F_5.out.below b6)
    have N_6 := hide (N_5.out.below b6)
    have X_6 := hide (X_5.out.below b6)
    clear RO b6 B5 L_5 F_5 N_5 X_5
    go_wp2_with fail
    have FA := implForward_any AL l capL AN (fwL l r k id) capN k id a w6 hlm L_6.out.pin hfm N_6.out.pin hkm hidm (HT.out.below B6.out HB.out) (HE.out.below B6.out)
    rw [AG.out.2.2.1, AG.out.2.2.2] at FA
    refine FA.mono ?_
    rintro e w7 ⟨AR, capR, hcR, rfl, own7, b7⟩
    have B7 := hide (B6.out.trans (b7.mono B6.out.size))
    have L_7 := hide (L_6.out.below b7)
    have F_7 := hide (F_6.out.below b7)
    have N_7 := hide (N_6.out.below b7)
    have X_7 := hide (X_6.out.below b7)
    have R_7 := hide (own7.more B6.out.size)
    clear FA b7 own7 B6 L_6 F_6 N_6 X_6
    cases hg : R.gotB r k
    · go_wp2_with fail
      refine (R.sameMap_any AR AN _ _ capR capN w7 _ _ hfm hfm R_7.out.pin N_7.out.pin).mono ?_
      rintro e w8 ⟨rfl, q8⟩
      have b8 := q8.below w7.heap.size
      have B8 := hide (B7.out.trans (b8.mono B7.out.size))
      have L_8 := hide (L_7.out.below b8)
      have F_8 := hide (F_7.out.below b8)
      have N_8 := hide (N_7.out.below b8)
      have X_8 := hide (X_7.out.below b8)
      have R_8 := hide (R_7.out.below b8)
      clear b8 q8 B7 L_7 F_7 N_7 X_7 R_7
      go_wp2_with fail
      go_ret
      exact ⟨rfl, B8.out⟩
    · have HV := hide (HA.out hg)
      go_wp2_with fail
      have IA := implIsAncestor_any AL l capL (R.gotV r k) id a w7 hlm L_7.out.pin hidm (HT.out.below B7.out HB.out) (HE.out.below B7.out)
      rw [HV.out] at IA
      refine IA.mono ?_
      rintro e w8 ⟨rfl, b8⟩
      have B8 := hide (B7.out.trans (b8.mono B7.out.size))
      have L_8 := hide (L_7.out.below b8)
      have F_8 := hide (F_7.out.below b8)
      have N_8 := hide (N_7.out.below b8)
      have X_8 := hide (X_7.out.below b8)
      have R_8 := hide (R_7.out.below b8)
      clear IA b8 B7 L_7 F_7 N_7 X_7 R_7
      go_wp2_with fail
      refine (R.sameMap_any AR AN _ _ capR capN w8 _ _ hfm hfm R_8.out.pin N_8.out.pin).mono ?_
      rintro e w9 ⟨rfl, q9⟩
      have b9 := q9.below w8.heap.size
      have B9 := hide (B8.out.trans (b9.mono B8.out.size))
      have L_9 := hide (L_8.out.below b9)
      have F_9 := hide (F_8.out.below b9)
      have N_9 := hide (N_8.out.below b9)
      have X_9 := hide (X_8.out.below b9)
      have R_9 := hide (R_8.out.below b9)
      clear b9 q9 B8 L_8 F_8 N_8 X_8 R_8
      go_wp2_with fail
      go_ret
      exact ⟨rfl, B9.out⟩

theorem plainVars : ∀ n ∈ Rows.fnForwardSpec.vars, n = "loop.example/g00652/impl.errNoCommit" ∨ ∀ g t, Tryz.prog.globalNamed n = some g → (Tryz.prog.globals[g]?).map (·.type) = some t → Tryz.prog.readableRec t = true ∧ t < Tryz.prog.types.size := by
  intro n hn
  have hb : (Rows.fnForwardSpec.vars).all (fun n => n == "loop.example/g00652/impl.errNoCommit" || ((Tryz.prog.globalNamed n).bind fun g => (Tryz.prog.globals[g]?).map fun x => Tryz.prog.readableRec x.type && decide (x.type < Tryz.prog.types.size)).getD false) = true := by kernel_rfl
  have h := List.all_eq_true.1 hb n hn
  rw [Bool.or_eq_true] at h
  rcases h with h | h
  · exact .inl (by simpa using h)
  refine .inr fun g t h1 h2 => ?_
  rw [h1] at h
  obtain ⟨x, hx, rfl⟩ := Option.map_eq_some_iff.1 h2
  simp only [Option.bind_some, hx, Option.map_some, Option.getD_some, Bool.and_eq_true, decide_eq_true_eq] at h
  exact h
set_option maxRecDepth 100000 in
theorem contract (H : Type) (enc : TypeId × Value → H) (W : World) (base : Nat) (args : Array Value) (ds gs : List (DataW H)) (before : List MemPlace)
    (hval0 : ∀ (j : Nat) t v, Tryz.f3.params[j]? = some t → args[j]? = some v → Value.okWide Tryz.prog W .any base t v)
    (hW : DataW.Whole enc Tryz.prog Tryz.f3.params.toList Rows.fnForwardSpec.vars false W args.toList ds gs before) (hL : laidMetH Tryz.prog Rows.fnForwardRow.laid W) :
    Calls Tryz.prog 3 args W fun e W' => ∃ v, e = .returned v ∧ Rows.fnForwardSpec.post enc Tryz.prog Tryz.f3 false true false false W args v W' := by
  have hval : ∀ (j : Nat) t v, Tryz.f3.params[j]? = some t → args[j]? = some v → Value.okWide Tryz.prog W .any base t v := hval0
  have hT : Tabs W := tabs_of (l := Rows.fnForwardRow.laid) hL (List.mem_cons_self ..) (List.mem_cons_of_mem _ (List.mem_cons_self ..))
  obtain ⟨a, hE, hvar⟩ := errs_in (W := W) (laid_tail (laid_tail hL))
  have hW' := hW
  obtain ⟨p, q, hA0, hV, rfl, hfz, hnd⟩ := hW
  have hA : DataW.TrodAll enc Tryz.prog W 0 (fun _ => true) true Tryz.f3.params.toList args.toList ds p := hA0
  rw [Tryz.params3] at hA hval
  obtain ⟨v0, vs0, d0, ds0, p0, q0, hargs, rfl, rfl, h0, r0⟩ := trodAll_cons hA
  obtain ⟨rfl, rfl, rfl⟩ := trodAll_nil r0
  obtain rfl : args = #[v0] := by cases args; simp_all
  obtain ⟨x0, x1, x2, rfl⟩ := list3 (vars_len hV)
  obtain ⟨A0, n0, cap0, rfl⟩ := okWide_slice Tryz.underlying22 (hval 0 22 v0 rfl rfl)
  have lt0 : ∀ x ∈ p0, x.block < W.heap.size := by obtain ⟨m, hm⟩ := h0; exact DataW.trod_lt m _ _ _ hm
  obtain ⟨l0, rfl, hl0, hin0⟩ := open_code h0
  clear hA0 hval0
  refine (walk A0 n0 cap0 a W hl0 hin0 hT hE).mono fun e W' ⟨he, bel⟩ => ?_
  subst he
  exact ⟨_, rfl, _, _, _, [], _, q, hW', trodAll_mk1 (shut_bool Tryz.underlying4 _), (trodAll_cons_mk (Below.trod laidOut (by kernel_rfl) (of_decide_eq_true (by kernel_rfl)) h0 bel lt0) trodAll_mk0), vars_stayE laidOut bel hvar plainVars hV, bel.frame _, fun h => by cases h⟩

/-- a world for the witness: the tables hold what their initialisers lay -/
noncomputable def laidWorld (os : Os) : World := layAllE (World.holding Tryz.prog os ⟨#[], #[], []⟩)
theorem laid_met (os : Os) : laidMet Tryz.prog Rows.fnForwardRow.laid ((laidWorld os).forCall (fun _ _ => 0) ⟨#[], #[.slice none 0 0], []⟩).memory :=
  laidMet_of_run' 8 (by kernel_rfl) (by kernel_rfl)
theorem reads (os : Os) {H : Type} (enc : TypeId × Value → H) : ∃ x, DataW.whole enc Tryz.prog ((laidWorld os).forCall (fun _ _ => 0) ⟨#[], #[.slice none 0 0], []⟩).memory Tryz.f3.params.toList Rows.fnForwardSpec.vars false (#[.slice none 0 0] : Array Value).toList 8 = some x :=
  Option.isSome_iff_exists.1 (by kernel_rfl)
set_option maxRecDepth 100000 in
theorem lifted (os : Os) (started : os.Started) (H : Type) (enc : TypeId × Value → H) (F : Stop.Interp) :
    ReturnsInHanded {} Tryz.checked os 3 .any ((OpenSpec.ofChange Rows.fnForwardSpec).preRow enc Tryz.prog Tryz.f3 Rows.fnForwardRow.domain false Rows.fnForwardRow.laid) (((OpenSpec.ofChange Rows.fnForwardSpec).at F).post enc Tryz.prog Tryz.f3 false true false false) := by
  obtain ⟨x, hx⟩ := reads os enc
  refine returnsInHanded_of_row (C := Tryz.checked) (s := OpenSpec.ofChange Rows.fnForwardSpec) own started (by kernel_rfl) Tryz.func3
    (witness_row_at (enc := enc) (C := Tryz.checked) false (laidWorld os) #[.slice none 0 0] rfl (by kernel_rfl) (by kernel_rfl) (by kernel_rfl)
      (OpenSpec.preRow_of_cond 8 hx rfl (fun k hk => by cases hk) (by kernel_rfl) (laid_met os))) ?_
  intro W base args ds gs before hval hW _ _ _ hL _ _
  exact contract H enc W base args ds gs before hval hW hL
theorem said : Rows.FnForwardSaid :=
  OpenClaim.holds_of_cond 3 Tryz.f3 rfl rfl rfl rfl rfl rfl rfl ⟨rfl, rfl, rfl, rfl, rfl⟩ rfl rfl rfl rfl rfl (by kernel_rfl) Tryz.func3 (by kernel_rfl)
    (of_decide_eq_true (by kernel_rfl)) (by unfold Func.isWrapper; first | (rw [if_pos (by decide +kernel)]; kernel_rfl) | (rw [if_neg (by decide +kernel)]; exact ⟨rfl, rfl⟩))
    (fun os started H enc _ F => by rw [OpenClaim.pre_eq_preRow]; exact lifted os started H enc F)
theorem plain (f : FuncId) (fn : Func) (hf : Tryz.pinned.checked.prog.funcNamed "loop.example/g00652/laws.FnForward" = some f) (hfn : Tryz.pinned.checked.prog.funcs[f]? = some fn) :
    false = Tryz.pinned.checked.prog.looks [] ∧ ∀ (j : Nat) t, fn.params[j]? = some t → Tryz.pinned.checked.prog.wantsStandIn t = false := by
  obtain rfl : f = 3 := Option.some.inj ((show Tryz.prog.funcNamed "loop.example/g00652/laws.FnForward" = some 3 by kernel_rfl).symm.trans hf) |>.symm
  obtain rfl : fn = Tryz.f3 := (Option.some.inj (Tryz.func3.symm.trans hfn)).symm
  refine ⟨by kernel_rfl, fun j t ht => ?_⟩
  rw [Tryz.params3] at ht
  have hm := Array.mem_of_getElem? ht
  simp only [List.mem_toArray, List.mem_cons, List.not_mem_nil, or_false] at hm
  subst hm
  exact (show Tryz.prog.wantsStandIn 22 = false by kernel_rfl)
theorem card : Rows.FnForwardCardSaid :=
  Claim7.holds_tied_plain_at .later [] _ _ _ _ said (fun _ h => by cases h) (by kernel_rfl) (fun _ h => by cases h) fnForward_row_tie rfl ⟨rfl, rfl⟩ (by kernel_rfl) rfl plain (by kernel_rfl)

end Go.Proofs.YtjbbdggckagphaaGreatDoor.LForward
namespace Go.Proofs.YtjbbdggckagphaaGreatDoor
theorem fnForward_proved : Rows.FnForwardCardSaid := LForward.card
end Go.Proofs.YtjbbdggckagphaaGreatDoor
