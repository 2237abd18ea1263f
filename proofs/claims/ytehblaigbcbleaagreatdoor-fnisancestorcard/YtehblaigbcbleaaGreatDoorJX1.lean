/-
  laws.FnIsAncestor returns true whatever the code: what is behind what is behind another one is behind that; of two behind each other both are one. No conditions but that the two tables of the digest and the sentinel of the reader hold what the program's text lays (the card ties them).
-/
import Derived.Test.YtehblaigbcbleaaGreatDoorJC
import Derived.Test.YtehblaigbcbleaaGreatDoorJD
import Derived.Test.YtehblaigbcbleaaGreatDoorJB
namespace Go.Proofs.YtehblaigbcbleaaGreatDoor.LIsAncestor
open Go.RowKit Go.ChangeShapes Go.WideShapes Go.ChangeAt
open Go.ChangeMaps (open_string shut_string)

set_option maxRecDepth 100000 in
set_option maxHeartbeats 4000000 in
theorem walk (A : Option Addr) (n : Nat) (cap : Nat) (a : Addr) (w : World) (hl : n ≤ maxLen) (hin : CIn w w.heap.size A n) (hT : Tabs w) (hE : ErrC w a) :
    Calls Tryz.prog 7 #[.slice A n cap] w fun e w' => e = .returned (.bool true) ∧ Below w.heap.size w w' := by
  by_cases hbig : 1048576 < n
  · have d : decide (1048576 < n) = true := decide_eq_true hbig
    go_enter Tryz.func7, Tryz.ntmps7
    go_wp2_with (go_at_call 10; refine (big_any A n cap _ hl).mono ?_; rintro e w' ⟨rfl, rfl⟩)
    go_ret
    exact ⟨rfl, Below.refl _ _⟩
  have hn : n ≤ 1048576 := by omega
  have d : decide (1048576 < n) = false := decide_eq_false hbig
  have IN := hide hin
  have HT := hide hT
  have HB := hide hT.1
  have HE := hide hE
  have B0 : Hid (Below w.heap.size w w) := hide (Below.refl _ _)
  clear hin hT hE
  go_enter Tryz.func7, Tryz.ntmps7
  go_wp2_with fail
  refine (big_any A n cap w hl).mono ?_
  rintro e w' ⟨rfl, rfl⟩
  go_wp2_with fail
  refine (drawIsAncestor_any A n cap w hn IN.out).mono ?_
  rintro e w1 ⟨AL, capL, l, x, y, hcL, hl60, hx, hy, ⟨ids, htop⟩, rfl, oL, b1⟩
  have B1 := hide (B0.out.trans (b1.mono B0.out.size))
  have L_1 := hide oL
  have AC := hide htop.acy
  have HZ : Hid (∀ k, (valOf l k).size ≤ 1048576) := hide (fun k => Nat.le_trans (valOf_size (repoB_iff.1 htop.rep).1 k) (by decide))
  clear b1 oL B0 htop
  have hlm : l.length ≤ maxLen := by unfold maxLen; omega
  have hxm : x.size ≤ maxLen := by unfold maxLen; omega
  have hym : y.size ≤ maxLen := by unfold maxLen; omega
  have e1 : (isAncV l x y != isAncV l x y) = false := by simp
  have hxl := ancK_len l x
  have hyl := ancK_len l y
  have hxk : (ancK l x).length ≤ maxLen := by unfold maxLen; omega
  have hyk : (ancK l y).length ≤ maxLen := by unfold maxLen; omega
  have SUB : Hid (isAncV l x y = true → ∀ z ∈ ancK l x, z ∈ ancK l y) := hide (fun h => anc_sub (memK_iff.1 h))
  have TWO : Hid (isAncV l x y = true → isAncV l y x = true → x = y) := hide (fun h1 h2 => anc_two AC.out (memK_iff.1 h1) (memK_iff.1 h2))
  go_wp2_with fail
  refine (implIsAncestor_any AL l capL x y a w1 hlm L_1.out.pin hym (HT.out.below B1.out HB.out) (HE.out.below B1.out)).mono ?_
  rintro e w2 ⟨rfl, b2⟩
  have B2 := hide (B1.out.trans (b2.mono B1.out.size))
  have L_2 := hide (L_1.out.below b2)
  clear b2 B1 L_1
  go_wp2_with fail
  refine (specIsAncestor_any AL l capL x y w2 hlm L_2.out.pin HZ.out).mono ?_
  rintro e w3 ⟨rfl, b3⟩
  have B3 := hide (B2.out.trans (b3.mono B2.out.size))
  have L_3 := hide (L_2.out.below b3)
  clear b3 B2 L_2
  cases hb : isAncV l x y
  · rw [hb] at e1
    go_wp2
    go_ret
    exact ⟨rfl, B3.out⟩
  · have SB := hide (SUB.out hb)
    have TW := hide (TWO.out hb)
    rw [hb] at e1
    clear hb SUB TWO
    go_wp2_with fail
    refine (implAncestors_any AL l capL x a w3 hlm L_3.out.pin hxm (HT.out.below B3.out HB.out) (HE.out.below B3.out)).mono ?_
    rintro e w4 ⟨AN, capN, rfl, own4, b4⟩
    have B4 := hide (B3.out.trans (b4.mono B3.out.size))
    have L_4 := hide (L_3.out.below b4)
    have N_4 := hide (own4.more B3.out.size)
    clear b4 own4 B3 L_3
    go_wp2_with fail
    refine (implAncestors_any AL l capL y a w4 hlm L_4.out.pin hym (HT.out.below B4.out HB.out) (HE.out.below B4.out)).mono ?_
    rintro e w5 ⟨AX, capX, rfl, own5, b5⟩
    have B5 := hide (B4.out.trans (b5.mono B4.out.size))
    have L_5 := hide (L_4.out.below b5)
    have N_5 := hide (N_4.out.below b5)
    have X_5 := hide (own5.more B4.out.size)
    clear b5 own5 B4 L_4 N_4
    go_wp2_with fail
    refine (within_yes AN AX _ _ capN capX w5 _ _ hxk hyk N_5.out.zin X_5.out.zin SB.out).mono ?_
    rintro e w6 ⟨rfl, q6⟩
    have b6 := q6.below w5.heap.size
    have B6 := hide (B5.out.trans (b6.mono B5.out.size))
    have L_6 := hide (L_5.out.below b6)
    have N_6 := hide (N_5.out.below b6)
    have X_6 := hide (X_5.out.below b6)
    clear b6 q6 B5 L_5 N_5 X_5
    go_wp2_with fail
    refine (implIsAncestor_any AL l capL y x a w6 hlm L_6.out.pin hxm (HT.out.below B6.out HB.out) (HE.out.below B6.out)).mono ?_
    rintro e w7 ⟨rfl, b7⟩
    have B7 := hide (B6.out.trans (b7.mono B6.out.size))
    have L_7 := hide (L_6.out.below b7)
    have N_7 := hide (N_6.out.below b7)
    have X_7 := hide (X_6.out.below b7)
    clear b7 B6 L_6 N_6 X_6
    cases hc : isAncV l y x
    · go_wp2
      go_ret
      exact ⟨rfl, B7.out⟩
    · have hxy := TW.out hc
      subst hxy
      have e2 := eqS_yes (rfl : x = x)
      go_wp2
      go_ret
      exact ⟨rfl, B7.out⟩

theorem plainVars : ∀ n ∈ Rows.fnIsAncestorSpec.vars, n = "loop.example/g00652/impl.errNoCommit" ∨ ∀ g t, Tryz.prog.globalNamed n = some g → (Tryz.prog.globals[g]?).map (·.type) = some t → Tryz.prog.readableRec t = true ∧ t < Tryz.prog.types.size := by
  intro n hn
  have hb : (Rows.fnIsAncestorSpec.vars).all (fun n => n == "loop.example/g00652/impl.errNoCommit" || ((Tryz.prog.globalNamed n).bind fun g => (Tryz.prog.globals[g]?).map fun x => Tryz.prog.readableRec x.type && decide (x.type < Tryz.prog.types.size)).getD false) = true := by kernel_rfl
  have h := List.all_eq_true.1 hb n hn
  rw [Bool.or_eq_true] at h
  rcases h with h | h
  · exact .inl (by simpa using h)
  refine .inr fun g t h1 h2 => ?_
  rw [h1] at h
  obtain ⟨x, hx, rfl⟩ := Option.map_eq_some_iff.1 h2
  simp only [Option.bind_some, hx, Option.map_some, Option.getD_some, Bool.and_eq_true, decide_eq_true_eq] at h
  exact h
set_option maxRecDepth 100000 in
theorem contract (H : Type) (enc : TypeId × Value → H) (W : World) (base : Nat) (args : Array Value) (ds gs : List (DataW H)) (before : List MemPlace)
    (hval0 : ∀ (j : Nat) t v, Tryz.f7.params[j]? = some t → args[j]? = some v → Value.okWide Tryz.prog W .any base t v)
    (hW : DataW.Whole enc Tryz.prog Tryz.f7.params.toList Rows.fnIsAncestorSpec.vars false W args.toList ds gs before) (hL : laidMetH Tryz.prog Rows.fnIsAncestorRow.laid W) :
    Calls Tryz.prog 7 args W fun e W' => ∃ v, e = .returned v ∧ Rows.fnIsAncestorSpec.post enc Tryz.prog Tryz.f7 false true false false W args v W' := by
  have hval : ∀ (j : Nat) t v, Tryz.f7.params[j]? = some t → args[j]? = some v → Value.okWide Tryz.prog W .any base t v := hval0
  have hT : Tabs W := tabs_of (l := Rows.fnIsAncestorRow.laid) hL (List.mem_cons_self ..) (List.mem_cons_of_mem _ (List.mem_cons_self ..))
  obtain ⟨a, hE, hvar⟩ := errs_in (W := W) (laid_tail (laid_tail hL))
  have hW' := hW
  obtain ⟨p, q, hA0, hV, rfl, hfz, hnd⟩ := hW
  have hA : DataW.TrodAll enc Tryz.prog W 0 (fun _ => true) true Tryz.f7.params.toList args.toList ds p := hA0
  rw [Tryz.params7] at hA hval
  obtain ⟨v0, vs0, d0, ds0, p0, q0, hargs, rfl, rfl, h0, r0⟩ := trodAll_cons hA
  obtain ⟨rfl, rfl, rfl⟩ := trodAll_nil r0
  obtain rfl : args = #[v0] := by cases args; simp_all
  obtain ⟨x0, x1, x2, rfl⟩ := list3 (vars_len hV)
  obtain ⟨A0, n0, cap0, rfl⟩ := okWide_slice Tryz.underlying22 (hval 0 22 v0 rfl rfl)
  have lt0 : ∀ x ∈ p0, x.block < W.heap.size := by obtain ⟨m, hm⟩ := h0; exact DataW.trod_lt m _ _ _ hm
  obtain ⟨l0, rfl, hl0, hin0⟩ := open_code h0
  clear hA0 hval0
  refine (walk A0 n0 cap0 a W hl0 hin0 hT hE).mono fun e W' ⟨he, bel⟩ => ?_
  subst he
  exact ⟨_, rfl, _, _, _, [], _, q, hW', trodAll_mk1 (shut_bool Tryz.underlying4 _), (trodAll_cons_mk (Below.trod laidOut (by kernel_rfl) (of_decide_eq_true (by kernel_rfl)) h0 bel lt0) trodAll_mk0), vars_stayE laidOut bel hvar plainVars hV, bel.frame _, fun h => by cases h⟩

/-- a world for the witness: the tables hold what their initialisers lay -/
noncomputable def laidWorld (os : Os) : World := layAllE (World.holding Tryz.prog os ⟨#[], #[], []⟩)
theorem laid_met (os : Os) : laidMet Tryz.prog Rows.fnIsAncestorRow.laid ((laidWorld os).forCall (fun _ _ => 0) ⟨#[], #[.slice none 0 0], []⟩).memory :=
  laidMet_of_run' 8 (by kernel_rfl) (by kernel_rfl)
theorem reads (os : Os) {H : Type} (enc : TypeId × Value → H) : ∃ x, DataW.whole enc Tryz.prog ((laidWorld os).forCall (fun _ _ => 0) ⟨#[], #[.slice none 0 0], []⟩).memory Tryz.f7.params.toList Rows.fnIsAncestorSpec.vars false (#[.slice none 0 0] : Array Value).toList 8 = some x :=
  Option.isSome_iff_exists.1 (by kernel_rfl)
set_option maxRecDepth 100000 in
theorem lifted (os : Os) (started : os.Started) (H : Type) (enc : TypeId × Value → H) (F : Stop.Interp) :
    ReturnsInHanded {} Tryz.checked os 7 .any ((OpenSpec.ofChange Rows.fnIsAncestorSpec).preRow enc Tryz.prog Tryz.f7 Rows.fnIsAncestorRow.domain false Rows.fnIsAncestorRow.laid) (((OpenSpec.ofChange Rows.fnIsAncestorSpec).at F).post enc Tryz.prog Tryz.f7 false true false false) := by
  obtain ⟨x, hx⟩ := reads os enc
  refine returnsInHanded_of_row (C := Tryz.checked) (s := OpenSpec.ofChange Rows.fnIsAncestorSpec) own started (by kernel_rfl) Tryz.func7
    (witness_row_at (enc := enc) (C := Tryz.checked) false (laidWorld os) #[.slice none 0 0] rfl (by kernel_rfl) (by kernel_rfl) (by kernel_rfl)
      (OpenSpec.preRow_of_cond 8 hx rfl (fun k hk => by cases hk) (by kernel_rfl) (laid_met os))) ?_
  intro W base args ds gs before hval hW _ _ _ hL _ _
  exact contract H enc W base args ds gs before hval hW hL
theorem said : Rows.FnIsAncestorSaid :=
  OpenClaim.holds_of_cond 7 Tryz.f7 rfl rfl rfl rfl rfl rfl rfl ⟨rfl, rfl, rfl, rfl, rfl⟩ rfl rfl rfl rfl rfl (by kernel_rfl) Tryz.func7 (by kernel_rfl)
    (of_decide_eq_true (by kernel_rfl)) (by unfold Func.isWrapper; first | (rw [if_pos (by decide +kernel)]; kernel_rfl) | (rw [if_neg (by decide +kernel)]; exact ⟨rfl, rfl⟩))
    (fun os started H enc _ F => by rw [OpenClaim.pre_eq_preRow]; exact lifted os started H enc F)
theorem plain (f : FuncId) (fn : Func) (hf : Tryz.pinned.checked.prog.funcNamed "loop.example/g00652/laws.FnIsAncestor" = some f) (hfn : Tryz.pinned.checked.prog.funcs[f]? = some fn) :
    false = Tryz.pinned.checked.prog.looks [] ∧ ∀ (j : Nat) t, fn.params[j]? = some t → Tryz.pinned.checked.prog.wantsStandIn t = false := by
  obtain rfl : f = 7 := Option.some.inj ((show Tryz.prog.funcNamed "loop.example/g00652/laws.FnIsAncestor" = some 7 by kernel_rfl).symm.trans hf) |>.symm
  obtain rfl : fn = Tryz.f7 := (Option.some.inj (Tryz.func7.symm.trans hfn)).symm
  refine ⟨by kernel_rfl, fun j t ht => ?_⟩
  rw [Tryz.params7] at ht
  have hm := Array.mem_of_getElem? ht
  simp only [List.mem_toArray, List.mem_cons, List.not_mem_nil, or_false] at hm
  subst hm
  exact (show Tryz.prog.wantsStandIn 22 = false by kernel_rfl)
theorem card : Rows.FnIsAncestorCardSaid :=
  Claim7.holds_tied_plain_at .later [] _ _ _ _ said (fun _ h => by cases h) (by kernel_rfl) (fun _ h => by cases h) fnIsAncestor_row_tie rfl ⟨rfl, rfl⟩ (by kernel_rfl) rfl plain (by kernel_rfl)

end Go.Proofs.YtehblaigbcbleaaGreatDoor.LIsAncestor
namespace Go.Proofs.YtehblaigbcbleaaGreatDoor
theorem fnIsAncestor_proved : Rows.FnIsAncestorCardSaid := LIsAncestor.card
end Go.Proofs.YtehblaigbcbleaaGreatDoor
