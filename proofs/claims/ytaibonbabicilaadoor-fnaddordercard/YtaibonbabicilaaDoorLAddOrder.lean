/-
  For every code, laws.FnAddOrder returns true: two texts may be added in either order. No conditions but that the two tables of the digest hold what the program's text lays (the card ties them).
-/
import Derived.Test.YtaibonbabicilaaDoorQLaid
import Derived.Test.YtaibonbabicilaaDoorRdCode
import Derived.Test.YtaibonbabicilaaDoorQDraw
import Derived.Test.YtaibonbabicilaaDoorQJoin
import Derived.Test.YtaibonbabicilaaDoorQLaws
import Derived.Test.YtaibonbabicilaaDoorPSame
namespace Go.Proofs.YtaibonbabicilaaDoor.LAddOrder
open Go.RowKit Go.ChangeShapes Go.WideShapes Go.ChangeAt
open Go.ChangeMaps (open_string shut_string)

set_option maxRecDepth 100000 in
set_option maxHeartbeats 2000000 in
theorem walk (A : Option Addr) (n : Nat) (cap : Nat) (w : World) (hl : n ≤ maxLen) (hin : CIn w w.heap.size A n) (hT : Tabs w) :
    Calls Tryd.prog 7 #[.slice A n cap] w fun e w' => e = .returned (.bool true) ∧ Below w.heap.size w w' := by
  by_cases hbig : 1048576 < n
  · have d : decide (1048576 < n) = true := decide_eq_true hbig
    go_enter Tryd.func7, Tryd.ntmps7
    go_wp2_with (go_at_call 20; refine (big_any A n cap _ hl).mono ?_; rintro e w' ⟨rfl, rfl⟩)
    go_ret
    exact ⟨rfl, Below.refl _ _⟩
  have hn : n ≤ 1048576 := by omega
  have d : decide (1048576 < n) = false := decide_eq_false hbig
  have IN := hide hin
  have HT := hide hT
  have HB := hide hT.1
  have B0 : Hid (Below w.heap.size w w) := hide (Below.refl _ _)
  clear hin hT
  go_enter Tryd.func7, Tryd.ntmps7
  go_wp2_with fail
  refine (big_any A n cap w hl).mono ?_
  rintro e w' ⟨rfl, rfl⟩
  go_wp2_with fail
  refine (drawAdd_any A n cap w hn IN.out).mono ?_
  rintro e w1 ⟨AM, capM, l, t, hcM, hl60, ht16, rfl, own1, b1⟩
  have B1 := hide (B0.out.trans (b1.mono B0.out.size))
  have M_1 := hide own1
  clear b1 own1 B0
  have hlm : l.length ≤ maxLen := by unfold maxLen; omega
  have htm : t.size ≤ maxLen := by unfold maxLen; omega
  have hom : (⟨#[111, 116, 104, 101, 114]⟩ : ByteArray).size ≤ maxLen := by decide
  have e1 : (addB l t != addB l t) = false := by simp
  have e2 : ((adI l t).toList == (adI l t).toList) = true := by simp
  have e3 := eqL_self (addL l t)
  have e4 : (addB l t == addB l t) = true := by simp
  have z1 := addL_objs l t
  have z1m : (addL l t).length ≤ maxLen := by unfold maxLen; omega
  go_wp2_with fail
  refine (implAdd_any AM l capM t w1 hlm M_1.out.pin htm (HT.out.below B1.out HB.out)).mono ?_
  rintro e w2 ⟨AN, capN, hcN, rfl, own2, b2⟩
  have B2 := hide (B1.out.trans (b2.mono B1.out.size))
  have M_2 := hide (M_1.out.below b2)
  have N_2 := hide own2
  clear b2 own2 B1 M_1
  go_wp2_with fail
  refine (specAdd_any AM l capM t w2 hlm hcM M_2.out.pin htm).mono ?_
  rintro e w3 ⟨AX, capX, hcX, rfl, own3, b3⟩
  have B3 := hide (B2.out.trans (b3.mono B2.out.size))
  have M_3 := hide (M_2.out.below b3)
  have N_3 := hide (N_2.out.below b3)
  have X_3 := hide own3
  clear b3 own3 B2 M_2 N_2
  go_wp2_with fail
  refine (sameMap_any AN AX _ _ capN capX w3 _ _ z1m z1m N_3.out.pin X_3.out.pin).mono ?_
  rintro e w4 ⟨rfl, q4⟩
  have b4 := q4.below w3.heap.size
  have B4 := hide (B3.out.trans (b4.mono B3.out.size))
  have M_4 := hide (M_3.out.below b4)
  have N_4 := hide (N_3.out.below b4)
  have X_4 := hide (X_3.out.below b4)
  clear b4 q4 B3 M_3 N_3 X_3
  cases hb : addB l t
  · go_wp2_with fail
    refine (sameMap_any AN AX _ _ capN capX w4 _ _ z1m z1m N_4.out.pin X_4.out.pin).mono ?_
    rintro e w5 ⟨rfl, q5⟩
    have b5 := q5.below w4.heap.size
    have B5 := hide (B4.out.trans (b5.mono B4.out.size))
    have M_5 := hide (M_4.out.below b5)
    have N_5 := hide (N_4.out.below b5)
    have X_5 := hide (X_4.out.below b5)
    clear b5 q5 B4 M_4 N_4 X_4
    go_wp2
    go_ret
    exact ⟨rfl, B5.out⟩
  · have OB := hide (order_bool (o := ⟨#[111, 116, 104, 101, 114]⟩) hb)
    have OL := hide (order_list (o := ⟨#[111, 116, 104, 101, 114]⟩) hb)
    have z2 := addL_objs (addL l t) ⟨#[111, 116, 104, 101, 114]⟩
    have z3 := addL_objs l ⟨#[111, 116, 104, 101, 114]⟩
    have z4 := addL_objs (addL l ⟨#[111, 116, 104, 101, 114]⟩) t
    have z2m : (addL (addL l t) ⟨#[111, 116, 104, 101, 114]⟩).length ≤ maxLen := by unfold maxLen; omega
    have z3m : (addL l ⟨#[111, 116, 104, 101, 114]⟩).length ≤ maxLen := by unfold maxLen; omega
    have z4m : (addL (addL l ⟨#[111, 116, 104, 101, 114]⟩) t).length ≤ maxLen := by unfold maxLen; omega
    go_wp2_with fail
    refine (implAdd_any AN (addL l t) capN ⟨#[111, 116, 104, 101, 114]⟩ w4 z1m N_4.out.pin hom (HT.out.below B4.out HB.out)).mono ?_
    rintro e w5 ⟨AA1, capA1, hcA1, rfl, own5, b5⟩
    have B5 := hide (B4.out.trans (b5.mono B4.out.size))
    have M_5 := hide (M_4.out.below b5)
    have N_5 := hide (N_4.out.below b5)
    have X_5 := hide (X_4.out.below b5)
    have A1_5 := hide own5
    clear b5 own5 B4 M_4 N_4 X_4
    go_wp2_with fail
    refine (implAdd_any AM l capM ⟨#[111, 116, 104, 101, 114]⟩ w5 hlm M_5.out.pin hom (HT.out.below B5.out HB.out)).mono ?_
    rintro e w6 ⟨AX1, capX1, hcX1, rfl, own6, b6⟩
    have B6 := hide (B5.out.trans (b6.mono B5.out.size))
    have M_6 := hide (M_5.out.below b6)
    have N_6 := hide (N_5.out.below b6)
    have X_6 := hide (X_5.out.below b6)
    have A1_6 := hide (A1_5.out.below b6)
    have X1_6 := hide own6
    clear b6 own6 B5 M_5 N_5 X_5 A1_5
    go_wp2_with fail
    refine (implAdd_any AX1 (addL l ⟨#[111, 116, 104, 101, 114]⟩) capX1 t w6 z3m X1_6.out.pin htm (HT.out.below B6.out HB.out)).mono ?_
    rintro e w7 ⟨AB1, capB1, hcB1, rfl, own7, b7⟩
    have B7 := hide (B6.out.trans (b7.mono B6.out.size))
    have M_7 := hide (M_6.out.below b7)
    have N_7 := hide (N_6.out.below b7)
    have X_7 := hide (X_6.out.below b7)
    have A1_7 := hide (A1_6.out.below b7)
    have X1_7 := hide (X1_6.out.below b7)
    have B1_7 := hide own7
    clear b7 own7 B6 M_6 N_6 X_6 A1_6 X1_6
    cases h1 : addB (addL l t) ⟨#[111, 116, 104, 101, 114]⟩
    · rw [h1] at OB
      cases h2 : addB l ⟨#[111, 116, 104, 101, 114]⟩
      · go_wp2
        go_ret
        exact ⟨rfl, B7.out⟩
      · cases h3 : addB (addL l ⟨#[111, 116, 104, 101, 114]⟩) t
        · go_wp2
          go_ret
          exact ⟨rfl, B7.out⟩
        · have := OB.out
          rw [h2, h3] at this
          cases this
    · rw [h1] at OB
      cases h2 : addB l ⟨#[111, 116, 104, 101, 114]⟩
      · have := OB.out
        rw [h2] at this
        cases this
      · cases h3 : addB (addL l ⟨#[111, 116, 104, 101, 114]⟩) t
        · have := OB.out
          rw [h2, h3] at this
          cases this
        · have e5 : eqL (addL (addL l t) ⟨#[111, 116, 104, 101, 114]⟩) (addL (addL l ⟨#[111, 116, 104, 101, 114]⟩) t) = true := eqL_yes (OL.out h1)
          go_wp2_with fail
          refine (sameMap_any AA1 AB1 _ _ capA1 capB1 w7 _ _ z2m z4m A1_7.out.pin B1_7.out.pin).mono ?_
          rintro e w8 ⟨rfl, q8⟩
          have b8 := q8.below w7.heap.size
          have B8 := hide (B7.out.trans (b8.mono B7.out.size))
          have M_8 := hide (M_7.out.below b8)
          have N_8 := hide (N_7.out.below b8)
          have X_8 := hide (X_7.out.below b8)
          have A1_8 := hide (A1_7.out.below b8)
          have X1_8 := hide (X1_7.out.below b8)
          have B1_8 := hide (B1_7.out.below b8)
          clear b8 q8 B7 M_7 N_7 X_7 A1_7 X1_7 B1_7
          go_wp2
          go_ret
          exact ⟨rfl, B8.out⟩

theorem plainVars : ∀ n ∈ Rows.fnAddOrderSpec.vars, ∀ g t, Tryd.prog.globalNamed n = some g → (Tryd.prog.globals[g]?).map (·.type) = some t → Tryd.prog.readableRec t = true ∧ t < Tryd.prog.types.size := by
  intro n hn g t h1 h2
  have hb : (Rows.fnAddOrderSpec.vars).all (fun n => ((Tryd.prog.globalNamed n).bind fun g => (Tryd.prog.globals[g]?).map fun x => Tryd.prog.readableRec x.type && decide (x.type < Tryd.prog.types.size)).getD false) = true := by kernel_rfl
  have h := List.all_eq_true.1 hb n hn
  rw [h1] at h
  obtain ⟨x, hx, rfl⟩ := Option.map_eq_some_iff.1 h2
  simp only [Option.bind_some, hx, Option.map_some, Option.getD_some, Bool.and_eq_true, decide_eq_true_eq] at h
  exact h
set_option maxRecDepth 100000 in
theorem contract (H : Type) (enc : TypeId × Value → H) (W : World) (base : Nat) (args : Array Value) (ds gs : List (DataW H)) (before : List MemPlace)
    (hval0 : ∀ (j : Nat) t v, Tryd.f7.params[j]? = some t → args[j]? = some v → Value.okWide Tryd.prog W .any base t v)
    (hW : DataW.Whole enc Tryd.prog Tryd.f7.params.toList Rows.fnAddOrderSpec.vars false W args.toList ds gs before) (hL : laidMetH Tryd.prog Rows.fnAddOrderRow.laid W) :
    Calls Tryd.prog 7 args W fun e W' => ∃ v, e = .returned v ∧ Rows.fnAddOrderSpec.post enc Tryd.prog Tryd.f7 false true false false W args v W' := by
  have hval : ∀ (j : Nat) t v, Tryd.f7.params[j]? = some t → args[j]? = some v → Value.okWide Tryd.prog W .any base t v := hval0
  have hT : Tabs W := tabs_of (l := Rows.fnAddOrderRow.laid) hL (List.mem_cons_self ..) (List.mem_cons_of_mem _ (List.mem_cons_self ..))
  have hW' := hW
  obtain ⟨p, q, hA0, hV, rfl, hfz, hnd⟩ := hW
  have hA : DataW.TrodAll enc Tryd.prog W 0 (fun _ => true) true Tryd.f7.params.toList args.toList ds p := hA0
  rw [Tryd.params7] at hA hval
  obtain ⟨v0, vs0, d0, ds0, p0, q0, hargs, rfl, rfl, h0, r0⟩ := trodAll_cons hA
  obtain ⟨rfl, rfl, rfl⟩ := trodAll_nil r0
  obtain rfl : args = #[v0] := by cases args; simp_all
  obtain ⟨x0, x1, rfl⟩ := list2 (vars_len hV)
  obtain ⟨A0, n0, cap0, rfl⟩ := okWide_slice Tryd.underlying34 (hval 0 34 v0 rfl rfl)
  have lt0 : ∀ x ∈ p0, x.block < W.heap.size := by obtain ⟨m, hm⟩ := h0; exact DataW.trod_lt m _ _ _ hm
  obtain ⟨l0, rfl, hl0, hin0⟩ := open_code h0
  clear hA0 hval0
  refine (walk A0 n0 cap0 W hl0 hin0 hT).mono fun e W' ⟨he, bel⟩ => ?_
  subst he
  exact ⟨_, rfl, _, _, _, [], _, q, hW', trodAll_mk1 (shut_bool Tryd.underlying4 _), (trodAll_cons_mk (Below.trod laidOut (by kernel_rfl) (of_decide_eq_true (by kernel_rfl)) h0 bel lt0) trodAll_mk0), vars_stay laidOut bel plainVars hV, bel.frame _, fun h => by cases h⟩

/-- a world for the witness: the tables hold what their initialisers lay -/
noncomputable def laidWorld (os : Os) : World := layAll (World.holding Tryd.prog os ⟨#[], #[], []⟩)
theorem laid_met (os : Os) : laidMet Tryd.prog Rows.fnAddOrderRow.laid ((laidWorld os).forCall (fun _ _ => 0) ⟨#[], #[.slice none 0 0], []⟩).memory :=
  laidMet_of_run' 8 (by kernel_rfl) (by kernel_rfl)
theorem reads (os : Os) {H : Type} (enc : TypeId × Value → H) : ∃ x, DataW.whole enc Tryd.prog ((laidWorld os).forCall (fun _ _ => 0) ⟨#[], #[.slice none 0 0], []⟩).memory Tryd.f7.params.toList Rows.fnAddOrderSpec.vars false (#[.slice none 0 0] : Array Value).toList 8 = some x :=
  Option.isSome_iff_exists.1 (by kernel_rfl)
set_option maxRecDepth 100000 in
theorem lifted (os : Os) (started : os.Started) (H : Type) (enc : TypeId × Value → H) (F : Stop.Interp) :
    ReturnsInHanded {} Tryd.checked os 7 .any ((OpenSpec.ofChange Rows.fnAddOrderSpec).preRow enc Tryd.prog Tryd.f7 Rows.fnAddOrderRow.domain false Rows.fnAddOrderRow.laid) (((OpenSpec.ofChange Rows.fnAddOrderSpec).at F).post enc Tryd.prog Tryd.f7 false true false false) := by
  obtain ⟨x, hx⟩ := reads os enc
  refine returnsInHanded_of_row (C := Tryd.checked) (s := OpenSpec.ofChange Rows.fnAddOrderSpec) own started (by kernel_rfl) Tryd.func7
    (witness_row_at (enc := enc) (C := Tryd.checked) false (laidWorld os) #[.slice none 0 0] rfl (by kernel_rfl) (by kernel_rfl) (by kernel_rfl)
      (OpenSpec.preRow_of_cond 8 hx rfl (fun k hk => by cases hk) (by kernel_rfl) (laid_met os))) ?_
  intro W base args ds gs before hval hW _ _ _ hL _ _
  exact contract H enc W base args ds gs before hval hW hL
theorem said : Rows.FnAddOrderSaid :=
  OpenClaim.holds_of_cond 7 Tryd.f7 rfl rfl rfl rfl rfl rfl rfl ⟨rfl, rfl, rfl, rfl, rfl⟩ rfl rfl rfl rfl rfl (by kernel_rfl) Tryd.func7 (by kernel_rfl)
    (of_decide_eq_true (by kernel_rfl)) (by unfold Func.isWrapper; first | (rw [if_pos (by decide +kernel)]; kernel_rfl) | (rw [if_neg (by decide +kernel)]; exact ⟨rfl, rfl⟩))
    (fun os started H enc _ F => by rw [OpenClaim.pre_eq_preRow]; exact lifted os started H enc F)
theorem plain (f : FuncId) (fn : Func) (hf : Tryd.pinned.checked.prog.funcNamed "loop.example/g00652/laws.FnAddOrder" = some f) (hfn : Tryd.pinned.checked.prog.funcs[f]? = some fn) :
    false = Tryd.pinned.checked.prog.looks [] ∧ ∀ (j : Nat) t, fn.params[j]? = some t → Tryd.pinned.checked.prog.wantsStandIn t = false := by
  obtain rfl : f = 7 := Option.some.inj ((show Tryd.prog.funcNamed "loop.example/g00652/laws.FnAddOrder" = some 7 by kernel_rfl).symm.trans hf) |>.symm
  obtain rfl : fn = Tryd.f7 := (Option.some.inj (Tryd.func7.symm.trans hfn)).symm
  refine ⟨by kernel_rfl, fun j t ht => ?_⟩
  rw [Tryd.params7] at ht
  have hm := Array.mem_of_getElem? ht
  simp only [List.mem_toArray, List.mem_cons, List.not_mem_nil, or_false] at hm
  subst hm
  exact (show Tryd.prog.wantsStandIn 34 = false by kernel_rfl)
theorem card : Rows.FnAddOrderCardSaid :=
  Claim7.holds_tied_plain_at .later [] _ _ _ _ said (fun _ h => by cases h) (by kernel_rfl) (fun _ h => by cases h) fnAddOrder_row_tie rfl ⟨rfl, rfl⟩ (by kernel_rfl) rfl plain (by kernel_rfl)

end Go.Proofs.YtaibonbabicilaaDoor.LAddOrder
namespace Go.Proofs.YtaibonbabicilaaDoor
theorem fnAddOrder_proved : Rows.FnAddOrderCardSaid := LAddOrder.card
end Go.Proofs.YtaibonbabicilaaDoor
