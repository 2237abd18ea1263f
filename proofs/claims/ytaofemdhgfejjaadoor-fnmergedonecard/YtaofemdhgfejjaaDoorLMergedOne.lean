/-
  For every code, laws.FnMergedOne returns true: of drawn maps, when one side is as it was the merger is the other one; when both are alike it is that. No conditions but that the two variables (the sentinel of refusals, the type error's handle) hold what the program's text lays (the card ties them).
-/
import Derived.Test.YtaofemdhgfejjaaDoorMLaid
import Derived.Test.YtaofemdhgfejjaaDoorRdCode
import Derived.Test.YtaofemdhgfejjaaDoorMDraw
import Derived.Test.YtaofemdhgfejjaaDoorMAnsI
import Derived.Test.YtaofemdhgfejjaaDoorMLaw
import Derived.Test.YtaofemdhgfejjaaDoorPSame
namespace Go.Proofs.YtaofemdhgfejjaaDoor.LMergedOne
open Go.RowKit Go.ChangeShapes Go.WideShapes Go.ChangeAt
open Go.ChangeMaps (open_string shut_string)

set_option maxRecDepth 100000 in
set_option maxHeartbeats 2000000 in
theorem walk (A : Option Addr) (n : Nat) (cap : Nat) (a : Addr) (w : World) (hl : n ≤ maxLen) (hin : CIn w w.heap.size A n) (hE : Errs w a) :
    Calls Tryd.prog 3 #[.slice A n cap] w fun e w' => e = .returned (.bool true) ∧ Below w.heap.size w w' := by
  by_cases hbig : 1048576 < n
  · have d : decide (1048576 < n) = true := decide_eq_true hbig
    go_enter Tryd.func3, Tryd.ntmps3
    go_wp2_with (go_at_call 7; refine (big_any A n cap _ hl).mono ?_; rintro e w' ⟨rfl, rfl⟩)
    go_ret
    exact ⟨rfl, Below.refl _ _⟩
  have hn : n ≤ 1048576 := by omega
  have d : decide (1048576 < n) = false := decide_eq_false hbig
  have IN := hide hin
  have HE := hide hE
  have HZ := hide hE.2.2
  clear hin hE
  go_enter Tryd.func3, Tryd.ntmps3
  go_wp2_with fail
  refine (big_any A n cap w hl).mono ?_
  rintro e w' ⟨rfl, rfl⟩
  go_wp2_with fail
  refine (drawMerged_any A n cap w hn IN.out).mono ?_
  rintro e w1 ⟨A0, c0, l0, A1, c1, l1, A2, c2, l2, rfl, hc0, hc1, hc2, m0, m1, m2, o0, o1, o2, b1⟩
  have n0 := (mapB_iff.1 m0).1
  have n1 := (mapB_iff.1 m1).1
  have MX : (40 : Nat) ≤ maxLen := by unfold maxLen; omega
  obtain ⟨f1, f2, f3⟩ := mg_left m0 m1
  obtain ⟨f4, f5, f6⟩ := mg_right m0 m1
  obtain ⟨f7, f8, f9⟩ := mg_both m0 m1
  have O0 := hide o0
  have O1 := hide o1
  have B1 := hide b1
  have C1 := hide (fun W (x0 : PIn W W.heap.size A0 l0) (x1 : PIn W W.heap.size A1 l1) (e : Errs W a) => implMerged_any A0 A1 A0 l0 l1 l0 c0 c1 c0 a W (by omega) (by omega) (by omega) x0 x1 x0 e)
  have C2 := hide (fun W (x0 : PIn W W.heap.size A0 l0) (x1 : PIn W W.heap.size A1 l1) => specMerged_any A0 A1 A0 l0 l1 l0 c0 c1 c0 W (by omega) (by omega) (by omega) x0 x1 x0)
  have C3 := hide (fun W (x0 : PIn W W.heap.size A0 l0) (x1 : PIn W W.heap.size A1 l1) (e : Errs W a) => implMerged_any A0 A0 A1 l0 l0 l1 c0 c0 c1 a W (by omega) (by omega) (by omega) x0 x0 x1 e)
  have C4 := hide (fun W (x0 : PIn W W.heap.size A0 l0) (x1 : PIn W W.heap.size A1 l1) (e : Errs W a) => implMerged_any A0 A1 A1 l0 l1 l1 c0 c1 c1 a W (by omega) (by omega) (by omega) x0 x1 x1 e)
  rw [f1, f2, f3] at C1 C2
  rw [f4, f5, f6] at C3
  rw [f7, f8, f9] at C4
  have es := eqL_self l1
  have hlm : l1.length ≤ maxLen := by omega
  clear o0 o1 o2 b1 m0 m1 m2 f1 f2 f3 f4 f5 f6 f7 f8 f9 IN hc0 hc1 hc2
  go_wp2_with fail
  refine (C1.out w1 O0.out.pin O1.out.pin (HE.out.belowB B1.out HZ.out.1 HZ.out.2)).mono ?_
  rintro e w2 ⟨AM, cM, AK, cK, hcM, rfl, oM, zM, b2, _⟩
  have O0_2 := hide (O0.out.below b2)
  have O1_2 := hide (O1.out.below b2)
  have M_2 := hide oM
  have B2 := hide (B1.out.trans (b2.mono B1.out.size))
  clear oM zM b2 hcM C1 O0 O1 B1
  simp only [List.length_nil]
  go_wp2_with fail
  refine (C2.out w2 O0_2.out.pin O1_2.out.pin).mono ?_
  rintro e w3 ⟨AW, cW, AV, cV, hcW, rfl, oW, zW, b3, _⟩
  have O0_3 := hide (O0_2.out.below b3)
  have O1_3 := hide (O1_2.out.below b3)
  have M_3 := hide (M_2.out.below b3)
  have W_3 := hide oW
  have B3 := hide (B2.out.trans (b3.mono B2.out.size))
  clear oW zW b3 hcW C2 O0_2 O1_2 B2 M_2
  simp only [List.length_nil]
  go_wp2_with fail
  refine (sameMap_any AM AW l1 l1 cM cW w3 _ _ hlm hlm M_3.out.pin W_3.out.pin).mono ?_
  rintro e w4 ⟨rfl, q4⟩
  rw [es]
  have b4 := q4.below w3.heap.size
  have O0_4 := hide (O0_3.out.below b4)
  have O1_4 := hide (O1_3.out.below b4)
  have M_4 := hide (M_3.out.below b4)
  have B4 := hide (B3.out.trans (b4.mono B3.out.size))
  clear q4 b4 O0_3 O1_3 M_3 W_3 B3
  go_wp2_with fail
  refine (C3.out w4 O0_4.out.pin O1_4.out.pin (HE.out.belowB B4.out HZ.out.1 HZ.out.2)).mono ?_
  rintro e w5 ⟨AN, cN, AO, cO, hcN, rfl, oN, zN, b5, _⟩
  have O0_5 := hide (O0_4.out.below b5)
  have O1_5 := hide (O1_4.out.below b5)
  have M_5 := hide (M_4.out.below b5)
  have N_5 := hide oN
  have B5 := hide (B4.out.trans (b5.mono B4.out.size))
  clear oN zN b5 hcN C3 O0_4 O1_4 M_4 B4
  simp only [List.length_nil]
  go_wp2_with fail
  refine (C4.out w5 O0_5.out.pin O1_5.out.pin (HE.out.belowB B5.out HZ.out.1 HZ.out.2)).mono ?_
  rintro e w6 ⟨AP, cP, AR, cR, hcP, rfl, oP, zP, b6, _⟩
  have O1_6 := hide (O1_5.out.below b6)
  have M_6 := hide (M_5.out.below b6)
  have N_6 := hide (N_5.out.below b6)
  have P_6 := hide oP
  have B6 := hide (B5.out.trans (b6.mono B5.out.size))
  clear oP zP b6 hcP C4 O0_5 O1_5 M_5 N_5 B5
  simp only [List.length_nil]
  go_wp2_with fail
  refine (sameMap_any AM A1 l1 l1 cM c1 w6 _ _ hlm hlm M_6.out.pin O1_6.out.pin).mono ?_
  rintro e w7 ⟨rfl, q7⟩
  rw [es]
  have b7 := q7.below w6.heap.size
  have O1_7 := hide (O1_6.out.below b7)
  have N_7 := hide (N_6.out.below b7)
  have P_7 := hide (P_6.out.below b7)
  have B7 := hide (B6.out.trans (b7.mono B6.out.size))
  clear q7 b7 O1_6 M_6 N_6 P_6 B6
  go_wp2_with fail
  refine (sameMap_any AN A1 l1 l1 cN c1 w7 _ _ hlm hlm N_7.out.pin O1_7.out.pin).mono ?_
  rintro e w8 ⟨rfl, q8⟩
  rw [es]
  have b8 := q8.below w7.heap.size
  have O1_8 := hide (O1_7.out.below b8)
  have P_8 := hide (P_7.out.below b8)
  have B8 := hide (B7.out.trans (b8.mono B7.out.size))
  clear q8 b8 O1_7 N_7 P_7 B7
  go_wp2_with fail
  refine (sameMap_any AP A1 l1 l1 cP c1 w8 _ _ hlm hlm P_8.out.pin O1_8.out.pin).mono ?_
  rintro e w9 ⟨rfl, q9⟩
  rw [es]
  have B9 := hide (B8.out.trans ((q9.below w8.heap.size).mono B8.out.size))
  clear q9 O1_8 P_8 B8
  go_wp2
  go_ret
  exact ⟨rfl, B9.out⟩

set_option maxRecDepth 100000 in
theorem contract (H : Type) (enc : TypeId × Value → H) (W : World) (base : Nat) (args : Array Value) (ds gs : List (DataW H)) (before : List MemPlace)
    (hval0 : ∀ (j : Nat) t v, Tryd.f3.params[j]? = some t → args[j]? = some v → Value.okWide Tryd.prog W .any base t v)
    (hW : DataW.Whole enc Tryd.prog Tryd.f3.params.toList Rows.fnMergedOneSpec.vars false W args.toList ds gs before) (hL : laidMetH Tryd.prog Rows.fnMergedOneRow.laid W) :
    Calls Tryd.prog 3 args W fun e W' => ∃ v, e = .returned v ∧ Rows.fnMergedOneSpec.post enc Tryd.prog Tryd.f3 false true false false W args v W' := by
  have hval : ∀ (j : Nat) t v, Tryd.f3.params[j]? = some t → args[j]? = some v → Value.okWide Tryd.prog W .any base t v := hval0
  obtain ⟨a, hT, hvar⟩ := errs_of hL.1 hL.2
  have hW' := hW
  obtain ⟨p, q, hA0, hV0, rfl, hfz, hnd⟩ := hW
  have hA : DataW.TrodAll enc Tryd.prog W 0 (fun _ => true) true Tryd.f3.params.toList args.toList ds p := hA0
  have hV : DataW.TrodVars enc Tryd.prog W (fun _ => true) ["loop.example/g00652/impl.errNotRight"] gs q := hV0
  obtain ⟨rfl, rfl⟩ := hV.unique (vars_read1 enc gErr tErr Tryd.underlying50 hvar trivial _)
  rw [Tryd.params3] at hA hval
  obtain ⟨v0, vs0, d0, ds0, p0, q0, hargs, rfl, rfl, h0, r0⟩ := trodAll_cons hA
  obtain ⟨rfl, rfl, rfl⟩ := trodAll_nil r0
  obtain rfl : args = #[v0] := by cases args; simp_all
  obtain ⟨A0, n0, cap0, rfl⟩ := okWide_slice Tryd.underlying22 (hval 0 22 v0 rfl rfl)
  have lt0 : ∀ x ∈ p0, x.block < W.heap.size := by obtain ⟨m, hm⟩ := h0; exact DataW.trod_lt m _ _ _ hm
  obtain ⟨l0, rfl, hl0, hin0⟩ := open_code h0
  clear hA0 hval0
  refine (walk A0 n0 cap0 a W hl0 hin0 hT).mono fun e W' ⟨he, bel⟩ => ?_
  subst he
  exact ⟨_, rfl, _, _, _, [], _, _, hW', trodAll_mk1 (shut_bool Tryd.underlying4 _), (trodAll_cons_mk (Below.trod laidOut (by kernel_rfl) (of_decide_eq_true (by kernel_rfl)) h0 bel lt0) trodAll_mk0), vars_read1 enc gErr tErr Tryd.underlying50 (var?_below bel gErr (var_lt gErr hvar) hvar) trivial _, bel.frame _, fun h => by cases h⟩

/-- a world for the witness: the variables hold what their initialisers lay -/
noncomputable def laidWorld (os : Os) : World := layAll (World.holding Tryd.prog os ⟨#[], #[], []⟩)
theorem laid_met (os : Os) : laidMetH Tryd.prog Rows.fnMergedOneRow.laid ((laidWorld os).forCall (fun _ _ => 0) ⟨#[], #[.slice none 0 0], []⟩).memory :=
  laidMetH_of_parts (laidMet_of_run' 8 (by kernel_rfl) (by kernel_rfl)) (by kernel_rfl)
theorem reads (os : Os) {H : Type} (enc : TypeId × Value → H) : ∃ x, DataW.whole enc Tryd.prog ((laidWorld os).forCall (fun _ _ => 0) ⟨#[], #[.slice none 0 0], []⟩).memory Tryd.f3.params.toList Rows.fnMergedOneSpec.vars false (#[.slice none 0 0] : Array Value).toList 8 = some x :=
  Option.isSome_iff_exists.1 (by kernel_rfl)
set_option maxRecDepth 100000 in
theorem lifted (os : Os) (started : os.Started) (H : Type) (enc : TypeId × Value → H) (F : Stop.Interp) :
    ReturnsInHanded {} Tryd.checked os 3 .any ((OpenSpec.ofChange Rows.fnMergedOneSpec).preRow enc Tryd.prog Tryd.f3 Rows.fnMergedOneRow.domain false Rows.fnMergedOneRow.laid) (((OpenSpec.ofChange Rows.fnMergedOneSpec).at F).post enc Tryd.prog Tryd.f3 false true false false) := by
  obtain ⟨x, hx⟩ := reads os enc
  refine returnsInHanded_of_row (C := Tryd.checked) (s := OpenSpec.ofChange Rows.fnMergedOneSpec) own started (by kernel_rfl) Tryd.func3
    (witness_row_at (enc := enc) (C := Tryd.checked) false (laidWorld os) #[.slice none 0 0] rfl (by kernel_rfl) (by kernel_rfl) (by kernel_rfl)
      (OpenSpec.preRow_of_cond 8 hx rfl (fun k hk => by cases hk) (by kernel_rfl) (laid_met os))) ?_
  intro W base args ds gs before hval hW _ _ _ hL _ _
  exact contract H enc W base args ds gs before hval hW hL
theorem said : Rows.FnMergedOneSaid :=
  OpenClaim.holds_of_cond 3 Tryd.f3 rfl rfl rfl rfl rfl rfl rfl ⟨rfl, rfl, rfl, rfl, rfl⟩ rfl rfl rfl rfl rfl (by kernel_rfl) Tryd.func3 (by kernel_rfl)
    (of_decide_eq_true (by kernel_rfl)) (by unfold Func.isWrapper; first | (rw [if_pos (by decide +kernel)]; kernel_rfl) | (rw [if_neg (by decide +kernel)]; exact ⟨rfl, rfl⟩))
    (fun os started H enc _ F => by rw [OpenClaim.pre_eq_preRow]; exact lifted os started H enc F)
theorem plain (f : FuncId) (fn : Func) (hf : Tryd.pinned.checked.prog.funcNamed "loop.example/g00652/laws.FnMergedOne" = some f) (hfn : Tryd.pinned.checked.prog.funcs[f]? = some fn) :
    true = Tryd.pinned.checked.prog.looks [] ∧ ∀ (j : Nat) t, fn.params[j]? = some t → Tryd.pinned.checked.prog.wantsStandIn t = false := by
  obtain rfl : f = 3 := Option.some.inj ((show Tryd.prog.funcNamed "loop.example/g00652/laws.FnMergedOne" = some 3 by kernel_rfl).symm.trans hf) |>.symm
  obtain rfl : fn = Tryd.f3 := (Option.some.inj (Tryd.func3.symm.trans hfn)).symm
  refine ⟨by kernel_rfl, fun j t ht => ?_⟩
  rw [Tryd.params3] at ht
  have hm := Array.mem_of_getElem? ht
  simp only [List.mem_toArray, List.mem_cons, List.not_mem_nil, or_false] at hm
  subst hm
  exact (show Tryd.prog.wantsStandIn 22 = false by kernel_rfl)
theorem card : Rows.FnMergedOneCardSaid :=
  Claim7.holds_tied_plain_at .later [] _ _ _ _ said (fun _ h => by cases h) (by kernel_rfl) (fun _ h => by cases h) fnMergedOne_row_tie rfl ⟨rfl, rfl⟩ (by kernel_rfl) rfl plain (by kernel_rfl)

end Go.Proofs.YtaofemdhgfejjaaDoor.LMergedOne
namespace Go.Proofs.YtaofemdhgfejjaaDoor
theorem fnMergedOne_proved : Rows.FnMergedOneCardSaid := LMergedOne.card
end Go.Proofs.YtaofemdhgfejjaaDoor
