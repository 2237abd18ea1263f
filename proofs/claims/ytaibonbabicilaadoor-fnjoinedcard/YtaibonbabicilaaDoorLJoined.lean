/-
  For every code, laws.FnJoined returns true: what both have is what each has, whichever is first; joined again it stays. No conditions but that the two tables of the digest hold what the program's text lays (the card ties them).
-/
import Derived.Test.YtaibonbabicilaaDoorQLaid
import Derived.Test.YtaibonbabicilaaDoorRdCode
import Derived.Test.YtaibonbabicilaaDoorQDraw
import Derived.Test.YtaibonbabicilaaDoorQJoin
import Derived.Test.YtaibonbabicilaaDoorQLaws
import Derived.Test.YtaibonbabicilaaDoorPSame
namespace Go.Proofs.YtaibonbabicilaaDoor.LJoined
open Go.RowKit Go.ChangeShapes Go.WideShapes Go.ChangeAt
open Go.ChangeMaps (open_string shut_string)

set_option maxRecDepth 100000 in
set_option maxHeartbeats 2000000 in
theorem walk (A : Option Addr) (n : Nat) (cap : Nat) (w : World) (hl : n ≤ maxLen) (hin : CIn w w.heap.size A n) (hT : Tabs w) :
    Calls Tryd.prog 6 #[.slice A n cap] w fun e w' => e = .returned (.bool true) ∧ Below w.heap.size w w' := by
  by_cases hbig : 1048576 < n
  · have d : decide (1048576 < n) = true := decide_eq_true hbig
    go_enter Tryd.func6, Tryd.ntmps6
    go_wp2_with (go_at_call 20; refine (big_any A n cap _ hl).mono ?_; rintro e w' ⟨rfl, rfl⟩)
    go_ret
    exact ⟨rfl, Below.refl _ _⟩
  have hn : n ≤ 1048576 := by omega
  have d : decide (1048576 < n) = false := decide_eq_false hbig
  have IN := hide hin
  have HT := hide hT
  have HB := hide hT.1
  have B0 : Hid (Below w.heap.size w w) := hide (Below.refl _ _)
  clear hin hT
  go_enter Tryd.func6, Tryd.ntmps6
  go_wp2_with fail
  refine (big_any A n cap w hl).mono ?_
  rintro e w' ⟨rfl, rfl⟩
  go_wp2_with fail
  refine (drawJoined_any A n cap w hn IN.out).mono ?_
  rintro e w1 ⟨AM, capM, l, AK, capK, l', hcM, hl60, hcK, hl60', rfl, own1, own1', b1⟩
  have B1 := hide (B0.out.trans (b1.mono B0.out.size))
  have M_1 := hide own1
  have K_1 := hide own1'
  clear b1 own1 own1' B0
  have hlm : l.length ≤ maxLen := by unfold maxLen; omega
  have hlm' : l'.length ≤ maxLen := by unfold maxLen; omega
  have e1 : (joinB l l' != joinB l l') = false := by simp
  have e3 := eqL_self (joinL l l')
  have e4 : (joinB l l' == joinB l l') = true := by simp
  have z1 := joinL_len l l'
  have z1m : (joinL l l').length ≤ maxLen := by unfold maxLen; omega
  go_wp2_with fail
  refine (implJoined_any AM l capM AK l' capK w1 hlm hlm' M_1.out.pin K_1.out.pin (HT.out.below B1.out HB.out)).mono ?_
  rintro e w2 ⟨AN, capN, hcN, rfl, own2, b2⟩
  have B2 := hide (B1.out.trans (b2.mono B1.out.size))
  have M_2 := hide (M_1.out.below b2)
  have K_2 := hide (K_1.out.below b2)
  have N_2 := hide (own2.more B1.out.size)
  clear b2 own2 B1 M_1 K_1
  go_wp2_with fail
  refine (specJoined_any AM l capM AK l' capK w2 hlm hlm' M_2.out.pin K_2.out.pin).mono ?_
  rintro e w3 ⟨AX, capX, hcX, rfl, own3, b3⟩
  have B3 := hide (B2.out.trans (b3.mono B2.out.size))
  have M_3 := hide (M_2.out.below b3)
  have K_3 := hide (K_2.out.below b3)
  have N_3 := hide (N_2.out.below b3)
  have X_3 := hide (own3.more B2.out.size)
  clear b3 own3 B2 M_2 K_2 N_2
  go_wp2_with fail
  refine (sameMap_any AN AX _ _ capN capX w3 _ _ z1m z1m N_3.out.pin X_3.out.pin).mono ?_
  rintro e w4 ⟨rfl, q4⟩
  have b4 := q4.below w3.heap.size
  have B4 := hide (B3.out.trans (b4.mono B3.out.size))
  have M_4 := hide (M_3.out.below b4)
  have K_4 := hide (K_3.out.below b4)
  have N_4 := hide (N_3.out.below b4)
  have X_4 := hide (X_3.out.below b4)
  clear b4 q4 B3 M_3 K_3 N_3 X_3
  cases hb : joinB l l'
  · go_wp2_with fail
    refine (sameMap_any AN AX _ _ capN capX w4 _ _ z1m z1m N_4.out.pin X_4.out.pin).mono ?_
    rintro e w5 ⟨rfl, q5⟩
    have b5 := q5.below w4.heap.size
    have B5 := hide (B4.out.trans (b5.mono B4.out.size))
    have M_5 := hide (M_4.out.below b5)
    have K_5 := hide (K_4.out.below b5)
    have N_5 := hide (N_4.out.below b5)
    have X_5 := hide (X_4.out.below b5)
    clear b5 q5 B4 M_4 K_4 N_4 X_4
    go_wp2
    go_ret
    exact ⟨rfl, B5.out⟩
  · have JC := hide (join_comm hb)
    have JA := hide (join_again hb)
    have JL := hide (join_len hb)
    have HJ := hide hb
    have ho : objsB (joinL l l') = true := by rw [joinL_yes hb]; exact join_objs hb
    have jc := JC.out.1
    have ja := JA.out.1
    clear hb
    go_wp2_with fail
    refine (implJoined_any AK l' capK AM l capM w4 hlm' hlm K_4.out.pin M_4.out.pin (HT.out.below B4.out HB.out)).mono ?_
    rintro e w5 ⟨AR, capR, hcR, rfl, own5, b5⟩
    have B5 := hide (B4.out.trans (b5.mono B4.out.size))
    have M_5 := hide (M_4.out.below b5)
    have K_5 := hide (K_4.out.below b5)
    have N_5 := hide (N_4.out.below b5)
    have X_5 := hide (X_4.out.below b5)
    have R_5 := hide (own5.more B4.out.size)
    clear b5 own5 B4 M_4 K_4 N_4 X_4
    go_wp2_with fail
    refine (implJoined_any AN (joinL l l') capN AK l' capK w5 z1m hlm' N_5.out.pin K_5.out.pin (HT.out.below B5.out HB.out)).mono ?_
    rintro e w6 ⟨AS, capS, hcS, rfl, own6, b6⟩
    have B6 := hide (B5.out.trans (b6.mono B5.out.size))
    have M_6 := hide (M_5.out.below b6)
    have K_6 := hide (K_5.out.below b6)
    have N_6 := hide (N_5.out.below b6)
    have X_6 := hide (X_5.out.below b6)
    have R_6 := hide (R_5.out.below b6)
    have S_6 := hide (own6.more B5.out.size)
    clear b6 own6 B5 M_5 K_5 N_5 X_5 R_5
    rw [JC.out.2] at hcR R_6 ⊢
    rw [JA.out.2] at hcS S_6 ⊢
    rw [ja]
    have g1 := JL.out.1
    have g2 := JL.out.2
    generalize hnn : (joinL l l').length = m at z1 g1 g2 ⊢
    have HNN := hide hnn
    clear hnn
    go_wp2
    go_loopw [13] (fun i wr => ∃ j : Nat, j ≤ m ∧ i = .int .i64 j ∧ Hid (Own wr w.heap.size AM capM l) ∧ Hid (Own wr w.heap.size AK capK l') ∧ Hid (Own wr w.heap.size AN capN (joinL l l')) ∧ Hid (Own wr w.heap.size AR capR (joinL l l')) ∧ Hid (Own wr w.heap.size AS capS (joinL l l')) ∧ Hid (Below w.heap.size w wr)) (fun i _ => m - (intOf i).toNat)
    case atStart => exact ⟨0, Nat.zero_le _, rfl, M_6, K_6, N_6, R_6, S_6, B6⟩
    case round =>
      clear M_6 K_6 N_6 X_6 R_6 S_6 B6
      obtain ⟨j, hj, rfl, OM, OK, ON, OR, OS, Q⟩ := hrel
      by_cases hlt : j < m
      · have hjl : j < (joinL l l').length := by rw [HNN.out]; omega
        have hin1 := ON.out.pin
        obtain ⟨b, off, rfl, hbB, hc⟩ := hin1.2 (by omega)
        obtain ⟨c1, _⟩ := hc j hjl
        obtain ⟨s1, _⟩ := hin1.1 j hjl
        have JI := hide (join_in HJ.out hjl)
        generalize ((joinL l l')[j]'hjl).1 = x at *
        clear hin1 hc
        go_wp2_with fail
        refine (implFind_any AM l capM x wr s1 hlm OM.out.pin (HT.out.below Q.out HB.out)).mono ?_
        rintro e w9 ⟨rfl, b9⟩
        have c3 : w9.cell? ⟨b, off + j * 2, none⟩ = some (.string x) := cellB b9 hbB c1
        have hb9 : b < w9.heap.size := by have := b9.size; omega
        have M9 := hide (OM.out.below b9)
        have K9 := hide (OK.out.below b9)
        have N9 := hide (ON.out.below b9)
        have R9 := hide (OR.out.below b9)
        have S9 := hide (OS.out.below b9)
        have Q9 := hide (Q.out.trans (b9.mono Q.out.size))
        clear b9 c1 OM OK ON OR OS Q
        go_wp2_with fail
        refine (implFind_any AK l' capK x w9 s1 hlm' K9.out.pin (HT.out.below Q9.out HB.out)).mono ?_
        rintro e w10 ⟨rfl, b10⟩
        have M10 := hide (M9.out.below b10)
        have K10 := hide (K9.out.below b10)
        have N10 := hide (N9.out.below b10)
        have R10 := hide (R9.out.below b10)
        have S10 := hide (S9.out.below b10)
        have Q10 := hide (Q9.out.trans (b10.mono Q9.out.size))
        clear b10 c3 M9 K9 N9 R9 S9 Q9
        generalize findV l x = v1 at *
        generalize findV l' x = v2 at *
        generalize findB l x = p1 at *
        generalize findB l' x = p2 at *
        cases p1
        · cases p2
          · rcases JI.out with h | h <;> cases h
          · clear JI
            go_wp2
            exact ⟨⟨j + 1, by omega, by go_num, M10, K10, N10, R10, S10, Q10⟩, by simp [intOf]; omega⟩
        · clear JI
          go_wp2
          exact ⟨⟨j + 1, by omega, by go_num, M10, K10, N10, R10, S10, Q10⟩, by simp [intOf]; omega⟩
      · have hgt : ¬ ((j : Int) < (m : Int)) := by omega
        clear hlt
        have OKI := hide (implObjsOk_any AN (joinL l l') capN wr z1m ON.out.pin (HT.out.below Q.out HB.out))
        rw [ho, HNN.out] at OKI
        have q1 : decide ((l.length : Int) ≤ (m : Int)) = true := decide_eq_true (by omega)
        have q2 : decide ((l'.length : Int) ≤ (m : Int)) = true := decide_eq_true (by omega)
        go_wp2_with fail
        refine OKI.out.mono ?_
        rintro e w9 ⟨rfl, b9⟩
        have N9 := hide (ON.out.below b9)
        have R9 := hide (OR.out.below b9)
        have S9 := hide (OS.out.below b9)
        have Q9 := hide (Q.out.trans (b9.mono Q.out.size))
        have SM1 := hide (sameMap_any AR AN _ _ capR capN w9 _ _ z1m z1m R9.out.pin N9.out.pin)
        rw [HNN.out, e3] at SM1
        clear b9 OM OK ON OR OS Q OKI
        go_wp2_with fail
        refine SM1.out.mono ?_
        rintro e w10 ⟨rfl, q10⟩
        have SM2 := hide (sameMap_any AS AN _ _ capS capN w10 _ _ z1m z1m (S9.out.pin.quiet q10) (N9.out.pin.quiet q10))
        rw [HNN.out, e3] at SM2
        have Q10 := hide (Q9.out.trans (q10.below _))
        clear q10 SM1 R9 S9 N9 Q9
        go_wp2_with fail
        refine SM2.out.mono ?_
        rintro e w11 ⟨rfl, q11⟩
        have Q11 := hide (Q10.out.trans (q11.below _))
        clear q11 SM2 Q10
        go_wp2
        go_ret
        exact ⟨rfl, Q11.out⟩

theorem plainVars : ∀ n ∈ Rows.fnJoinedSpec.vars, ∀ g t, Tryd.prog.globalNamed n = some g → (Tryd.prog.globals[g]?).map (·.type) = some t → Tryd.prog.readableRec t = true ∧ t < Tryd.prog.types.size := by
  intro n hn g t h1 h2
  have hb : (Rows.fnJoinedSpec.vars).all (fun n => ((Tryd.prog.globalNamed n).bind fun g => (Tryd.prog.globals[g]?).map fun x => Tryd.prog.readableRec x.type && decide (x.type < Tryd.prog.types.size)).getD false) = true := by kernel_rfl
  have h := List.all_eq_true.1 hb n hn
  rw [h1] at h
  obtain ⟨x, hx, rfl⟩ := Option.map_eq_some_iff.1 h2
  simp only [Option.bind_some, hx, Option.map_some, Option.getD_some, Bool.and_eq_true, decide_eq_true_eq] at h
  exact h
set_option maxRecDepth 100000 in
theorem contract (H : Type) (enc : TypeId × Value → H) (W : World) (base : Nat) (args : Array Value) (ds gs : List (DataW H)) (before : List MemPlace)
    (hval0 : ∀ (j : Nat) t v, Tryd.f6.params[j]? = some t → args[j]? = some v → Value.okWide Tryd.prog W .any base t v)
    (hW : DataW.Whole enc Tryd.prog Tryd.f6.params.toList Rows.fnJoinedSpec.vars false W args.toList ds gs before) (hL : laidMetH Tryd.prog Rows.fnJoinedRow.laid W) :
    Calls Tryd.prog 6 args W fun e W' => ∃ v, e = .returned v ∧ Rows.fnJoinedSpec.post enc Tryd.prog Tryd.f6 false true false false W args v W' := by
  have hval : ∀ (j : Nat) t v, Tryd.f6.params[j]? = some t → args[j]? = some v → Value.okWide Tryd.prog W .any base t v := hval0
  have hT : Tabs W := tabs_of (l := Rows.fnJoinedRow.laid) hL (List.mem_cons_self ..) (List.mem_cons_of_mem _ (List.mem_cons_self ..))
  have hW' := hW
  obtain ⟨p, q, hA0, hV, rfl, hfz, hnd⟩ := hW
  have hA : DataW.TrodAll enc Tryd.prog W 0 (fun _ => true) true Tryd.f6.params.toList args.toList ds p := hA0
  rw [Tryd.params6] at hA hval
  obtain ⟨v0, vs0, d0, ds0, p0, q0, hargs, rfl, rfl, h0, r0⟩ := trodAll_cons hA
  obtain ⟨rfl, rfl, rfl⟩ := trodAll_nil r0
  obtain rfl : args = #[v0] := by cases args; simp_all
  obtain ⟨x0, x1, rfl⟩ := list2 (vars_len hV)
  obtain ⟨A0, n0, cap0, rfl⟩ := okWide_slice Tryd.underlying34 (hval 0 34 v0 rfl rfl)
  have lt0 : ∀ x ∈ p0, x.block < W.heap.size := by obtain ⟨m, hm⟩ := h0; exact DataW.trod_lt m _ _ _ hm
  obtain ⟨l0, rfl, hl0, hin0⟩ := open_code h0
  clear hA0 hval0
  refine (walk A0 n0 cap0 W hl0 hin0 hT).mono fun e W' ⟨he, bel⟩ => ?_
  subst he
  exact ⟨_, rfl, _, _, _, [], _, q, hW', trodAll_mk1 (shut_bool Tryd.underlying4 _), (trodAll_cons_mk (Below.trod laidOut (by kernel_rfl) (of_decide_eq_true (by kernel_rfl)) h0 bel lt0) trodAll_mk0), vars_stay laidOut bel plainVars hV, bel.frame _, fun h => by cases h⟩

/-- a world for the witness: the tables hold what their initialisers lay -/
noncomputable def laidWorld (os : Os) : World := layAll (World.holding Tryd.prog os ⟨#[], #[], []⟩)
theorem laid_met (os : Os) : laidMet Tryd.prog Rows.fnJoinedRow.laid ((laidWorld os).forCall (fun _ _ => 0) ⟨#[], #[.slice none 0 0], []⟩).memory :=
  laidMet_of_run' 8 (by kernel_rfl) (by kernel_rfl)
theorem reads (os : Os) {H : Type} (enc : TypeId × Value → H) : ∃ x, DataW.whole enc Tryd.prog ((laidWorld os).forCall (fun _ _ => 0) ⟨#[], #[.slice none 0 0], []⟩).memory Tryd.f6.params.toList Rows.fnJoinedSpec.vars false (#[.slice none 0 0] : Array Value).toList 8 = some x :=
  Option.isSome_iff_exists.1 (by kernel_rfl)
set_option maxRecDepth 100000 in
theorem lifted (os : Os) (started : os.Started) (H : Type) (enc : TypeId × Value → H) (F : Stop.Interp) :
    ReturnsInHanded {} Tryd.checked os 6 .any ((OpenSpec.ofChange Rows.fnJoinedSpec).preRow enc Tryd.prog Tryd.f6 Rows.fnJoinedRow.domain false Rows.fnJoinedRow.laid) (((OpenSpec.ofChange Rows.fnJoinedSpec).at F).post enc Tryd.prog Tryd.f6 false true false false) := by
  obtain ⟨x, hx⟩ := reads os enc
  refine returnsInHanded_of_row (C := Tryd.checked) (s := OpenSpec.ofChange Rows.fnJoinedSpec) own started (by kernel_rfl) Tryd.func6
    (witness_row_at (enc := enc) (C := Tryd.checked) false (laidWorld os) #[.slice none 0 0] rfl (by kernel_rfl) (by kernel_rfl) (by kernel_rfl)
      (OpenSpec.preRow_of_cond 8 hx rfl (fun k hk => by cases hk) (by kernel_rfl) (laid_met os))) ?_
  intro W base args ds gs before hval hW _ _ _ hL _ _
  exact contract H enc W base args ds gs before hval hW hL
theorem said : Rows.FnJoinedSaid :=
  OpenClaim.holds_of_cond 6 Tryd.f6 rfl rfl rfl rfl rfl rfl rfl ⟨rfl, rfl, rfl, rfl, rfl⟩ rfl rfl rfl rfl rfl (by kernel_rfl) Tryd.func6 (by kernel_rfl)
    (of_decide_eq_true (by kernel_rfl)) (by unfold Func.isWrapper; first | (rw [if_pos (by decide +kernel)]; kernel_rfl) | (rw [if_neg (by decide +kernel)]; exact ⟨rfl, rfl⟩))
    (fun os started H enc _ F => by rw [OpenClaim.pre_eq_preRow]; exact lifted os started H enc F)
theorem plain (f : FuncId) (fn : Func) (hf : Tryd.pinned.checked.prog.funcNamed "loop.example/g00652/laws.FnJoined" = some f) (hfn : Tryd.pinned.checked.prog.funcs[f]? = some fn) :
    false = Tryd.pinned.checked.prog.looks [] ∧ ∀ (j : Nat) t, fn.params[j]? = some t → Tryd.pinned.checked.prog.wantsStandIn t = false := by
  obtain rfl : f = 6 := Option.some.inj ((show Tryd.prog.funcNamed "loop.example/g00652/laws.FnJoined" = some 6 by kernel_rfl).symm.trans hf) |>.symm
  obtain rfl : fn = Tryd.f6 := (Option.some.inj (Tryd.func6.symm.trans hfn)).symm
  refine ⟨by kernel_rfl, fun j t ht => ?_⟩
  rw [Tryd.params6] at ht
  have hm := Array.mem_of_getElem? ht
  simp only [List.mem_toArray, List.mem_cons, List.not_mem_nil, or_false] at hm
  subst hm
  exact (show Tryd.prog.wantsStandIn 34 = false by kernel_rfl)
theorem card : Rows.FnJoinedCardSaid :=
  Claim7.holds_tied_plain_at .later [] _ _ _ _ said (fun _ h => by cases h) (by kernel_rfl) (fun _ h => by cases h) fnJoined_row_tie rfl ⟨rfl, rfl⟩ (by kernel_rfl) rfl plain (by kernel_rfl)

end Go.Proofs.YtaibonbabicilaaDoor.LJoined
namespace Go.Proofs.YtaibonbabicilaaDoor
theorem fnJoined_proved : Rows.FnJoinedCardSaid := LJoined.card
end Go.Proofs.YtaibonbabicilaaDoor
