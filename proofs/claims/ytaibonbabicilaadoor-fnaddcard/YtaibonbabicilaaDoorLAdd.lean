/-
  For every code, laws.FnAdd returns true: what is added is found, with all that was; added twice it is there once. No conditions but that the two tables of the digest hold what the program's text lays (the card ties them).
-/
import Derived.Test.YtaibonbabicilaaDoorQLaid
import Derived.Test.YtaibonbabicilaaDoorRdCode
import Derived.Test.YtaibonbabicilaaDoorQDraw2
import Derived.Test.YtaibonbabicilaaDoorQJoin
import Derived.Test.YtaibonbabicilaaDoorQLaws
import Derived.Test.YtaibonbabicilaaDoorPSame
namespace Go.Proofs.YtaibonbabicilaaDoor.LAdd
open Go.RowKit Go.ChangeShapes Go.WideShapes Go.ChangeAt
open Go.ChangeMaps (open_string shut_string)

set_option maxRecDepth 100000 in
set_option maxHeartbeats 2000000 in
theorem walk (A : Option Addr) (n : Nat) (cap : Nat) (w : World) (hl : n ≤ maxLen) (hin : CIn w w.heap.size A n) (hT : Tabs w) :
    Calls Tryd.prog 5 #[.slice A n cap] w fun e w' => e = .returned (.bool true) ∧ Below w.heap.size w w' := by
  by_cases hbig : 1048576 < n
  · have d : decide (1048576 < n) = true := decide_eq_true hbig
    go_enter Tryd.func5, Tryd.ntmps5
    go_wp2_with (go_at_call 20; refine (big_any A n cap _ hl).mono ?_; rintro e w' ⟨rfl, rfl⟩)
    go_ret
    exact ⟨rfl, Below.refl _ _⟩
  have hn : n ≤ 1048576 := by omega
  have d : decide (1048576 < n) = false := decide_eq_false hbig
  have IN := hide hin
  have HT := hide hT
  have HB := hide hT.1
  have B0 : Hid (Below w.heap.size w w) := hide (Below.refl _ _)
  clear hin hT
  go_enter Tryd.func5, Tryd.ntmps5
  go_wp2_with fail
  refine (big_any A n cap w hl).mono ?_
  rintro e w' ⟨rfl, rfl⟩
  go_wp2_with fail
  refine (drawAdd_any A n cap w hn IN.out).mono ?_
  rintro e w1 ⟨AM, capM, l, t, hcM, hl60, ht16, rfl, own1, b1⟩
  have B1 := hide (B0.out.trans (b1.mono B0.out.size))
  have M_1 := hide own1
  clear b1 own1 B0
  have hlm : l.length ≤ maxLen := by unfold maxLen; omega
  have htm : t.size ≤ maxLen := by unfold maxLen; omega
  have e1 : (addB l t != addB l t) = false := by simp
  have e2 : ((adI l t).toList == (adI l t).toList) = true := by simp
  have e3 := eqL_self (addL l t)
  have e4 : (addB l t == addB l t) = true := by simp
  have z1 := addL_objs l t
  have z1m : (addL l t).length ≤ maxLen := by unfold maxLen; omega
  go_wp2_with fail
  refine (implAdd_any AM l capM t w1 hlm M_1.out.pin htm (HT.out.below B1.out HB.out)).mono ?_
  rintro e w2 ⟨AN, capN, hcN, rfl, own2, b2⟩
  have B2 := hide (B1.out.trans (b2.mono B1.out.size))
  have M_2 := hide (M_1.out.below b2)
  have N_2 := hide (own2.more B1.out.size)
  clear b2 own2 B1 M_1
  go_wp2_with fail
  refine (specAdd_any AM l capM t w2 hlm hcM M_2.out.pin htm).mono ?_
  rintro e w3 ⟨AX, capX, hcX, rfl, own3, b3⟩
  have B3 := hide (B2.out.trans (b3.mono B2.out.size))
  have M_3 := hide (M_2.out.below b3)
  have N_3 := hide (N_2.out.below b3)
  have X_3 := hide (own3.more B2.out.size)
  clear b3 own3 B2 M_2 N_2
  go_wp2_with fail
  refine (drawFind_any A n cap w3 hn ((IN.out.keep B3.out).more B3.out.size)).mono ?_
  rintro e w4 ⟨AY, capY, l2, key, hcY, hl2, hks, rfl, own4, b4⟩
  have B4 := hide (B3.out.trans (b4.mono B3.out.size))
  have M_4 := hide (M_3.out.below b4)
  have N_4 := hide (N_3.out.below b4)
  have X_4 := hide (X_3.out.below b4)
  have Y_4 := hide own4
  clear b4 own4 B3 M_3 N_3 X_3
  have hlm2 : l2.length ≤ maxLen := by unfold maxLen; omega
  have e5 : ((findV l2 key).toList == (findV l2 key).toList) = true := by simp
  have e6 : (findB l2 key != findB l2 key) = false := by simp
  have e6' : (findB l2 key == findB l2 key) = true := by simp
  go_wp2_with fail
  refine (implFind_any AY l2 capY key w4 hks hlm2 Y_4.out.pin (HT.out.below B4.out HB.out)).mono ?_
  rintro e w5 ⟨rfl, b5⟩
  have B5 := hide (B4.out.trans (b5.mono B4.out.size))
  have M_5 := hide (M_4.out.below b5)
  have N_5 := hide (N_4.out.below b5)
  have X_5 := hide (X_4.out.below b5)
  have Y_5 := hide (Y_4.out.below b5)
  clear b5 B4 M_4 N_4 X_4 Y_4
  go_wp2_with fail
  refine (specFind_any AY l2 capY key w5 hlm2 Y_5.out.pin).mono ?_
  rintro e w6 ⟨rfl, b6⟩
  have B6 := hide (B5.out.trans (b6.mono B5.out.size))
  have M_6 := hide (M_5.out.below b6)
  have N_6 := hide (N_5.out.below b6)
  have X_6 := hide (X_5.out.below b6)
  have Y_6 := hide (Y_5.out.below b6)
  clear b6 B5 M_5 N_5 X_5 Y_5
  go_wp2_with fail
  refine (drawObjsOk_any A n cap w6 hn ((IN.out.keep B6.out).more B6.out.size)).mono ?_
  rintro e w7 ⟨AZ, capZ, l3, hcZ, hl3, rfl, own7, b7⟩
  have B7 := hide (B6.out.trans (b7.mono B6.out.size))
  have M_7 := hide (M_6.out.below b7)
  have N_7 := hide (N_6.out.below b7)
  have X_7 := hide (X_6.out.below b7)
  have Z_7 := hide own7
  clear b7 own7 B6 M_6 N_6 X_6
  have hlm3 : l3.length ≤ maxLen := by unfold maxLen; omega
  have e7 : (objsB l3 != objsB l3) = false := by simp
  have e7' : (objsB l3 == objsB l3) = true := by simp
  generalize findV l2 key = v2 at *
  generalize findB l2 key = f2 at *
  go_wp2_with fail
  refine (sameMap_any AN AX _ _ capN capX w7 _ _ z1m z1m N_7.out.pin X_7.out.pin).mono ?_
  rintro e w8 ⟨rfl, q8⟩
  have b8 := q8.below w7.heap.size
  have B8 := hide (B7.out.trans (b8.mono B7.out.size))
  have M_8 := hide (M_7.out.below b8)
  have N_8 := hide (N_7.out.below b8)
  have X_8 := hide (X_7.out.below b8)
  have Z_8 := hide (Z_7.out.below b8)
  clear b8 q8 B7 M_7 N_7 X_7 Z_7
  go_wp2_with fail
  refine (implObjsOk_any AZ l3 capZ w8 hlm3 Z_8.out.pin (HT.out.below B8.out HB.out)).mono ?_
  rintro e w9 ⟨rfl, b9⟩
  have B9 := hide (B8.out.trans (b9.mono B8.out.size))
  have M_9 := hide (M_8.out.below b9)
  have N_9 := hide (N_8.out.below b9)
  have X_9 := hide (X_8.out.below b9)
  have Z_9 := hide (Z_8.out.below b9)
  clear b9 B8 M_8 N_8 X_8 Z_8
  go_wp2_with fail
  refine (specObjsOk_any AZ l3 capZ w9 hlm3 Z_9.out.pin).mono ?_
  rintro e w10 ⟨rfl, b10⟩
  have B10 := hide (B9.out.trans (b10.mono B9.out.size))
  have M_10 := hide (M_9.out.below b10)
  have N_10 := hide (N_9.out.below b10)
  have X_10 := hide (X_9.out.below b10)
  have Z_10 := hide (Z_9.out.below b10)
  clear b10 B9 M_9 N_9 X_9 Z_9
  generalize ho3 : objsB l3 = o3 at *
  have HO3 := hide ho3
  clear ho3
  cases hb : addB l t
  · have hb2 := hide hb
    clear hb
    go_wp2_with fail
    refine (sameMap_any AN AX _ _ capN capX w10 _ _ z1m z1m N_10.out.pin X_10.out.pin).mono ?_
    rintro e w11 ⟨rfl, q11⟩
    have b11 := q11.below w10.heap.size
    have B11 := hide (B10.out.trans (b11.mono B10.out.size))
    have M_11 := hide (M_10.out.below b11)
    have N_11 := hide (N_10.out.below b11)
    have X_11 := hide (X_10.out.below b11)
    have Z_11 := hide (Z_10.out.below b11)
    clear b11 q11 B10 M_10 N_10 X_10 Z_10
    go_wp2_with fail
    refine (implObjsOk_any AZ l3 capZ w11 hlm3 Z_11.out.pin (HT.out.below B11.out HB.out)).mono ?_
    rintro e w12 ⟨rfl, b12⟩
    have B12 := hide (B11.out.trans (b12.mono B11.out.size))
    have M_12 := hide (M_11.out.below b12)
    have N_12 := hide (N_11.out.below b12)
    have X_12 := hide (X_11.out.below b12)
    have Z_12 := hide (Z_11.out.below b12)
    clear b12 B11 M_11 N_11 X_11 Z_11
    go_wp2_with fail
    refine (specObjsOk_any AZ l3 capZ w12 hlm3 Z_12.out.pin).mono ?_
    rintro e w13 ⟨rfl, b13⟩
    have B13 := hide (B12.out.trans (b13.mono B12.out.size))
    have M_13 := hide (M_12.out.below b13)
    have N_13 := hide (N_12.out.below b13)
    have X_13 := hide (X_12.out.below b13)
    have Z_13 := hide (Z_12.out.below b13)
    clear b13 B12 M_12 N_12 X_12 Z_12
    rw [HO3.out]
    go_wp2
    go_ret
    exact ⟨rfl, B13.out⟩
  · have AA := hide (add_again hb)
    have AF := hide (add_found hb)
    have hid := adI_yes hb
    have hts := (addB_iff.1 hb).2.1
    have ho := AF.out.1
    clear hb e1 e4
    rw [hid] at e2 ⊢
    clear hid
    have hks' := idL_max t
    go_wp2_with fail
    refine (implAdd_any AN (addL l t) capN t w10 z1m N_10.out.pin htm (HT.out.below B10.out HB.out)).mono ?_
    rintro e w11 ⟨AG, capG, hcG, rfl, own11, b11⟩
    have B11 := hide (B10.out.trans (b11.mono B10.out.size))
    have M_11 := hide (M_10.out.below b11)
    have N_11 := hide (N_10.out.below b11)
    have G_11 := hide (own11.more B10.out.size)
    clear b11 own11 B10 M_10 N_10
    rw [AA.out.2.1] at hcG G_11 ⊢
    rw [AA.out.2.2, AA.out.1]
    have R1 := hide (implFind_any AN (addL l t) capN (idL t) w11 hks' z1m N_11.out.pin (HT.out.below B11.out HB.out))
    rw [AF.out.2.1, AF.out.2.2.1] at R1
    go_wp2_with fail
    refine (R1.out).mono ?_
    rintro e w12 ⟨rfl, b12⟩
    have B12 := hide (B11.out.trans (b12.mono B11.out.size))
    have M_12 := hide (M_11.out.below b12)
    have N_12 := hide (N_11.out.below b12)
    have G_12 := hide (G_11.out.below b12)
    clear b12 B11 M_11 N_11 G_11
    clear R1
    have et : (t.toList == t.toList) = true := by simp
    have FA := hide AF.out.2.2.2
    have I2 : Hid (∀ W, Tabs W → Calls Tryd.prog 29 #[.string t] W fun e w' => e = .returned (.string (idL t)) ∧ Below W.heap.size W w') := hide fun W hW => idI_any t W hts hW
    generalize idL t = k at e2 I2 ⊢
    generalize hnn : l.length = m at hl60 ⊢
    have HNN := hide hnn
    clear hnn AA AF
    go_wp2
    go_loopw [23] (fun i wr => ∃ j : Nat, j ≤ m ∧ i = .int .i64 j ∧ Hid (Own wr w.heap.size AM capM l) ∧ Hid (Own wr w.heap.size AN capN (addL l t)) ∧ Hid (Own wr w.heap.size AG capG (addL l t)) ∧ Hid (Below w.heap.size w wr)) (fun i _ => m - (intOf i).toNat)
    case atStart => exact ⟨0, Nat.zero_le _, rfl, M_12, N_12, G_12, B12⟩
    case round =>
      clear M_12 N_12 G_12 B12
      obtain ⟨j, hj, rfl, OM, ON, OG, Q⟩ := hrel
      by_cases hlt : j < m
      · have hjl : j < l.length := by rw [HNN.out]; omega
        have hin1 := OM.out.pin
        obtain ⟨b, off, rfl, hbB, hc⟩ := hin1.2 (by omega)
        obtain ⟨c1, c2⟩ := hc j hjl
        obtain ⟨s1, _⟩ := hin1.1 j hjl
        have R := hide (implFind_any AN (addL l t) capN (l[j]'hjl).1 wr s1 z1m ON.out.pin (HT.out.below Q.out HB.out))
        rw [(FA.out j hjl).1, (FA.out j hjl).2] at R
        generalize (l[j]'hjl).1 = x at *
        generalize (l[j]'hjl).2 = y at *
        have ey : (y.toList == y.toList) = true := by simp
        clear hin1 hc
        go_wp2_with fail
        refine R.out.mono ?_
        rintro e w9 ⟨rfl, b9⟩
        have c3 : w9.cell? ⟨b, off + j * 2 + 1, none⟩ = some (.string y) := cellB b9 hbB c2
        have M9 := hide (OM.out.below b9)
        have N9 := hide (ON.out.below b9)
        have G9 := hide (OG.out.below b9)
        have Q9 := hide (Q.out.trans (b9.mono Q.out.size))
        clear b9 c1 c2 OM ON OG Q R
        go_wp2
        exact ⟨⟨j + 1, by omega, by go_num, M9, N9, G9, Q9⟩, by simp [intOf]; omega⟩
      · have hgt : ¬ ((j : Int) < (m : Int)) := by omega
        clear hlt
        have OKI := hide (implObjsOk_any AN (addL l t) capN wr z1m ON.out.pin (HT.out.below Q.out HB.out))
        rw [ho] at OKI
        go_wp2_with fail
        refine OKI.out.mono ?_
        rintro e w9 ⟨rfl, b9⟩
        have N9 := hide (ON.out.below b9)
        have G9 := hide (OG.out.below b9)
        have Q9 := hide (Q.out.trans (b9.mono Q.out.size))
        clear b9 OM ON OG Q OKI
        go_wp2_with fail
        refine (I2.out w9 (HT.out.below Q9.out HB.out)).mono ?_
        rintro e w10 ⟨rfl, b10⟩
        have N10 := hide (N9.out.below b10)
        have G10 := hide (G9.out.below b10)
        have Q10 := hide (Q9.out.trans (b10.mono Q9.out.size))
        clear b10 N9 G9 Q9
        have SM := hide (sameMap_any AG AN _ _ capG capN w10 _ _ z1m z1m G10.out.pin N10.out.pin)
        rw [e3] at SM
        go_wp2_with fail
        refine SM.out.mono ?_
        rintro e w11 ⟨rfl, q11⟩
        have Q11 := hide (Q10.out.trans (q11.below _))
        clear q11 SM Q10 N10 G10
        go_wp2
        go_ret
        exact ⟨rfl, Q11.out⟩

theorem plainVars : ∀ n ∈ Rows.fnAddSpec.vars, ∀ g t, Tryd.prog.globalNamed n = some g → (Tryd.prog.globals[g]?).map (·.type) = some t → Tryd.prog.readableRec t = true ∧ t < Tryd.prog.types.size := by
  intro n hn g t h1 h2
  have hb : (Rows.fnAddSpec.vars).all (fun n => ((Tryd.prog.globalNamed n).bind fun g => (Tryd.prog.globals[g]?).map fun x => Tryd.prog.readableRec x.type && decide (x.type < Tryd.prog.types.size)).getD false) = true := by kernel_rfl
  have h := List.all_eq_true.1 hb n hn
  rw [h1] at h
  obtain ⟨x, hx, rfl⟩ := Option.map_eq_some_iff.1 h2
  simp only [Option.bind_some, hx, Option.map_some, Option.getD_some, Bool.and_eq_true, decide_eq_true_eq] at h
  exact h
set_option maxRecDepth 100000 in
theorem contract (H : Type) (enc : TypeId × Value → H) (W : World) (base : Nat) (args : Array Value) (ds gs : List (DataW H)) (before : List MemPlace)
    (hval0 : ∀ (j : Nat) t v, Tryd.f5.params[j]? = some t → args[j]? = some v → Value.okWide Tryd.prog W .any base t v)
    (hW : DataW.Whole enc Tryd.prog Tryd.f5.params.toList Rows.fnAddSpec.vars false W args.toList ds gs before) (hL : laidMetH Tryd.prog Rows.fnAddRow.laid W) :
    Calls Tryd.prog 5 args W fun e W' => ∃ v, e = .returned v ∧ Rows.fnAddSpec.post enc Tryd.prog Tryd.f5 false true false false W args v W' := by
  have hval : ∀ (j : Nat) t v, Tryd.f5.params[j]? = some t → args[j]? = some v → Value.okWide Tryd.prog W .any base t v := hval0
  have hT : Tabs W := tabs_of (l := Rows.fnAddRow.laid) hL (List.mem_cons_self ..) (List.mem_cons_of_mem _ (List.mem_cons_self ..))
  have hW' := hW
  obtain ⟨p, q, hA0, hV, rfl, hfz, hnd⟩ := hW
  have hA : DataW.TrodAll enc Tryd.prog W 0 (fun _ => true) true Tryd.f5.params.toList args.toList ds p := hA0
  rw [Tryd.params5] at hA hval
  obtain ⟨v0, vs0, d0, ds0, p0, q0, hargs, rfl, rfl, h0, r0⟩ := trodAll_cons hA
  obtain ⟨rfl, rfl, rfl⟩ := trodAll_nil r0
  obtain rfl : args = #[v0] := by cases args; simp_all
  obtain ⟨x0, x1, rfl⟩ := list2 (vars_len hV)
  obtain ⟨A0, n0, cap0, rfl⟩ := okWide_slice Tryd.underlying34 (hval 0 34 v0 rfl rfl)
  have lt0 : ∀ x ∈ p0, x.block < W.heap.size := by obtain ⟨m, hm⟩ := h0; exact DataW.trod_lt m _ _ _ hm
  obtain ⟨l0, rfl, hl0, hin0⟩ := open_code h0
  clear hA0 hval0
  refine (walk A0 n0 cap0 W hl0 hin0 hT).mono fun e W' ⟨he, bel⟩ => ?_
  subst he
  exact ⟨_, rfl, _, _, _, [], _, q, hW', trodAll_mk1 (shut_bool Tryd.underlying4 _), (trodAll_cons_mk (Below.trod laidOut (by kernel_rfl) (of_decide_eq_true (by kernel_rfl)) h0 bel lt0) trodAll_mk0), vars_stay laidOut bel plainVars hV, bel.frame _, fun h => by cases h⟩

/-- a world for the witness: the tables hold what their initialisers lay -/
noncomputable def laidWorld (os : Os) : World := layAll (World.holding Tryd.prog os ⟨#[], #[], []⟩)
theorem laid_met (os : Os) : laidMet Tryd.prog Rows.fnAddRow.laid ((laidWorld os).forCall (fun _ _ => 0) ⟨#[], #[.slice none 0 0], []⟩).memory :=
  laidMet_of_run' 8 (by kernel_rfl) (by kernel_rfl)
theorem reads (os : Os) {H : Type} (enc : TypeId × Value → H) : ∃ x, DataW.whole enc Tryd.prog ((laidWorld os).forCall (fun _ _ => 0) ⟨#[], #[.slice none 0 0], []⟩).memory Tryd.f5.params.toList Rows.fnAddSpec.vars false (#[.slice none 0 0] : Array Value).toList 8 = some x :=
  Option.isSome_iff_exists.1 (by kernel_rfl)
set_option maxRecDepth 100000 in
theorem lifted (os : Os) (started : os.Started) (H : Type) (enc : TypeId × Value → H) (F : Stop.Interp) :
    ReturnsInHanded {} Tryd.checked os 5 .any ((OpenSpec.ofChange Rows.fnAddSpec).preRow enc Tryd.prog Tryd.f5 Rows.fnAddRow.domain false Rows.fnAddRow.laid) (((OpenSpec.ofChange Rows.fnAddSpec).at F).post enc Tryd.prog Tryd.f5 false true false false) := by
  obtain ⟨x, hx⟩ := reads os enc
  refine returnsInHanded_of_row (C := Tryd.checked) (s := OpenSpec.ofChange Rows.fnAddSpec) own started (by kernel_rfl) Tryd.func5
    (witness_row_at (enc := enc) (C := Tryd.checked) false (laidWorld os) #[.slice none 0 0] rfl (by kernel_rfl) (by kernel_rfl) (by kernel_rfl)
      (OpenSpec.preRow_of_cond 8 hx rfl (fun k hk => by cases hk) (by kernel_rfl) (laid_met os))) ?_
  intro W base args ds gs before hval hW _ _ _ hL _ _
  exact contract H enc W base args ds gs before hval hW hL
theorem said : Rows.FnAddSaid :=
  OpenClaim.holds_of_cond 5 Tryd.f5 rfl rfl rfl rfl rfl rfl rfl ⟨rfl, rfl, rfl, rfl, rfl⟩ rfl rfl rfl rfl rfl (by kernel_rfl) Tryd.func5 (by kernel_rfl)
    (of_decide_eq_true (by kernel_rfl)) (by unfold Func.isWrapper; first | (rw [if_pos (by decide +kernel)]; kernel_rfl) | (rw [if_neg (by decide +kernel)]; exact ⟨rfl, rfl⟩))
    (fun os started H enc _ F => by rw [OpenClaim.pre_eq_preRow]; exact lifted os started H enc F)
theorem plain (f : FuncId) (fn : Func) (hf : Tryd.pinned.checked.prog.funcNamed "loop.example/g00652/laws.FnAdd" = some f) (hfn : Tryd.pinned.checked.prog.funcs[f]? = some fn) :
    false = Tryd.pinned.checked.prog.looks [] ∧ ∀ (j : Nat) t, fn.params[j]? = some t → Tryd.pinned.checked.prog.wantsStandIn t = false := by
  obtain rfl : f = 5 := Option.some.inj ((show Tryd.prog.funcNamed "loop.example/g00652/laws.FnAdd" = some 5 by kernel_rfl).symm.trans hf) |>.symm
  obtain rfl : fn = Tryd.f5 := (Option.some.inj (Tryd.func5.symm.trans hfn)).symm
  refine ⟨by kernel_rfl, fun j t ht => ?_⟩
  rw [Tryd.params5] at ht
  have hm := Array.mem_of_getElem? ht
  simp only [List.mem_toArray, List.mem_cons, List.not_mem_nil, or_false] at hm
  subst hm
  exact (show Tryd.prog.wantsStandIn 34 = false by kernel_rfl)
theorem card : Rows.FnAddCardSaid :=
  Claim7.holds_tied_plain_at .later [] _ _ _ _ said (fun _ h => by cases h) (by kernel_rfl) (fun _ h => by cases h) fnAdd_row_tie rfl ⟨rfl, rfl⟩ (by kernel_rfl) rfl plain (by kernel_rfl)

end Go.Proofs.YtaibonbabicilaaDoor.LAdd
namespace Go.Proofs.YtaibonbabicilaaDoor
theorem fnAdd_proved : Rows.FnAddCardSaid := LAdd.card
end Go.Proofs.YtaibonbabicilaaDoor
