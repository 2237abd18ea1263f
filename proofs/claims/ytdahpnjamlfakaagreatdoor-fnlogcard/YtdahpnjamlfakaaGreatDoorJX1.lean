/-
  laws.FnLog returns true whatever the code: a log has all that is behind a commit once, none ahead of what it is behind. No conditions but that the two tables of the digest and the sentinel of the reader hold what the program's text lays (the card ties them).
-/
import Derived.Test.YtdahpnjamlfakaaGreatDoorJC
import Derived.Test.YtdahpnjamlfakaaGreatDoorJD
import Derived.Test.YtdahpnjamlfakaaGreatDoorJL
import Derived.Test.YtdahpnjamlfakaaGreatDoorJK
import Derived.Test.YtdahpnjamlfakaaGreatDoorJB
import Derived.Test.YtdahpnjamlfakaaGreatDoorJO
namespace Go.Proofs.YtdahpnjamlfakaaGreatDoor.LLog
open Go.RowKit Go.ChangeShapes Go.WideShapes Go.ChangeAt
open Go.ChangeMaps (open_string shut_string)

set_option maxRecDepth 100000 in
set_option maxHeartbeats 4000000 in
theorem walk (A : Option Addr) (n : Nat) (cap : Nat) (a : Addr) (w : World) (hl : n ≤ maxLen) (hin : CIn w w.heap.size A n) (hT : Tabs w) (hE : ErrC w a) :
    Calls Tryz.prog 4 #[.slice A n cap] w fun e w' => e = .returned (.bool true) ∧ Below w.heap.size w w' := by
  by_cases hbig : 1048576 < n
  · have d : decide (1048576 < n) = true := decide_eq_true hbig
    go_enter Tryz.func4, Tryz.ntmps4
    go_wp2_with (go_at_call 8; refine (big_any A n cap _ hl).mono ?_; rintro e w' ⟨rfl, rfl⟩)
    go_ret
    exact ⟨rfl, Below.refl _ _⟩
  have hn : n ≤ 1048576 := by omega
  have d : decide (1048576 < n) = false := decide_eq_false hbig
  have IN := hide hin
  have HT := hide hT
  have HB := hide hT.1
  have HE := hide hE
  have B0 : Hid (Below w.heap.size w w) := hide (Below.refl _ _)
  clear hin hT hE
  go_enter Tryz.func4, Tryz.ntmps4
  go_wp2_with fail
  refine (big_any A n cap w hl).mono ?_
  rintro e w' ⟨rfl, rfl⟩
  go_wp2_with fail
  refine (drawLogOf_any A n cap w hn IN.out).mono ?_
  rintro e w1 ⟨AL, capL, l, id, hcL, hl60, hid16, ⟨ids, htop⟩, rfl, oL, b1⟩
  have B1 := hide (B0.out.trans (b1.mono B0.out.size))
  have L_1 := hide oL
  have HTOP := hide htop
  clear b1 oL B0 htop
  have hlm : l.length ≤ maxLen := by unfold maxLen; omega
  have hidm : id.size ≤ maxLen := by unfold maxLen; omega
  have HO := hide (repoB_iff.1 HTOP.out.rep).1
  have HR := hide HTOP.out.rep
  have HA := hide HTOP.out.acy
  have HZ : (valOf l id).size ≤ 1048576 := Nat.le_trans (valOf_size HO.out id) (by decide)
  have hal := ancK_len l id
  have halm : (ancK l id).length ≤ maxLen := by unfold maxLen; omega
  have hol : (logK l id).length ≤ 60 := by rw [logK_len]; exact hal
  have holm : (logK l id).length ≤ maxLen := by unfold maxLen; omega
  go_wp2_with fail
  refine (implLogOf_any AL l capL id a w1 hlm L_1.out.pin hidm HA.out (HT.out.below B1.out HB.out) (HE.out.below B1.out)).mono ?_
  rintro e w2 ⟨AO, capO, rfl, own2, b2⟩
  have B2 := hide (B1.out.trans (b2.mono B1.out.size))
  have L_2 := hide (L_1.out.below b2)
  have O_2 := hide (own2.more B1.out.size)
  clear b2 own2 B1 L_1
  go_wp2_with fail
  refine (implAncestors_any AL l capL id a w2 hlm L_2.out.pin hidm (HT.out.below B2.out HB.out) (HE.out.below B2.out)).mono ?_
  rintro e w3 ⟨AN, capN, rfl, own3, b3⟩
  have B3 := hide (B2.out.trans (b3.mono B2.out.size))
  have L_3 := hide (L_2.out.below b3)
  have O_3 := hide (O_2.out.below b3)
  have N_3 := hide (own3.more B2.out.size)
  clear b3 own3 B2 L_2 O_2
  go_wp2_with fail
  refine (specLogOf_any AL l capL id w3 hlm L_3.out.pin HZ HA.out HR.out).mono ?_
  rintro e w4 ⟨AX, capX, rfl, own4, b4⟩
  have B4 := hide (B3.out.trans (b4.mono B3.out.size))
  have L_4 := hide (L_3.out.below b4)
  have O_4 := hide (O_3.out.below b4)
  have N_4 := hide (N_3.out.below b4)
  have X_4 := hide (own4.more B3.out.size)
  clear b4 own4 B3 L_3 O_3 N_3
  go_wp2_with fail
  refine (sameTexts_same AO AX (logK l id) capO capX w4 _ _ holm O_4.out.zin X_4.out.zin).mono ?_
  rintro e w5 ⟨rfl, q5⟩
  have b5 := q5.below w4.heap.size
  have B5 := hide (B4.out.trans (b5.mono B4.out.size))
  have L_5 := hide (L_4.out.below b5)
  have O_5 := hide (O_4.out.below b5)
  have N_5 := hide (N_4.out.below b5)
  have X_5 := hide (X_4.out.below b5)
  clear b5 q5 B4 L_4 O_4 N_4 X_4
  have e0 : (((logK l id).length : Int) != ((ancK l id).length : Int)) = false := by rw [logK_len]; simp
  go_wp2_with fail
  refine (within_yes AO AN (logK l id) (ancK l id) capO capN w5 _ _ holm halm O_5.out.zin N_5.out.zin (fun z hz => ((logK_all l id).2 z).1 hz)).mono ?_
  rintro e w6 ⟨rfl, q6⟩
  have b6 := q6.below w5.heap.size
  have B6 := hide (B5.out.trans (b6.mono B5.out.size))
  have L_6 := hide (L_5.out.below b6)
  have O_6 := hide (O_5.out.below b6)
  have N_6 := hide (N_5.out.below b6)
  have X_6 := hide (X_5.out.below b6)
  clear b6 q6 B5 L_5 O_5 N_5 X_5
  have OZ := hide O_6.out.zin
  have LO : Hid (∀ i k (hi : i < (logK l id).length) (hk : k < (logK l id).length), i < k → (logK l id)[i] ≠ (logK l id)[k] ∧ isAncV l (logK l id)[i] (logK l id)[k] = false) := hide (fun i k hi hk hik => log_order HA.out hi hk hik)
  have LF : Hid (∀ h0 : 0 < (logK l id).length, (logK l id)[0] = id) := hide (fun h0 => log_first HA.out h0)
  have IS : Hid (∀ s u, u ∈ logK l id → ∀ W, Below w6.heap.size w6 W → Calls Tryz.prog 19 #[.slice AL l.length capL, .string s, .string u] W fun e w' => e = .returned (.bool (isAncV l s u)) ∧ Below W.heap.size W w') := hide (fun s u hu W hb => implIsAncestor_any AL l capL s u a W hlm ((L_6.out.below hb).pin) (key_max HO.out (anc_rd (((logK_all l id).2 u).1 hu))) (HT.out.below (B6.out.trans (hb.mono B6.out.size)) HB.out) (HE.out.below (B6.out.trans (hb.mono B6.out.size))))
  have R0 : Hid (Below w6.heap.size w6 w6) := hide (Below.refl _ _)
  clear L_6 O_6 N_6 X_6 HTOP hlm hidm HO HR HA HZ HE HT hcL halm holm hid16 hl60
  generalize l.length = ln at *
  generalize (ancK l id).length = an at *
  generalize logK l id = o at *
  obtain ⟨on, hon⟩ : ∃ n, o.length = n := ⟨_, rfl⟩
  have ON := hide hon
  rw [hon] at hol e0 ⊢
  clear hon
  go_wp2
  clear e0
  go_loopw [7] (fun iv wr => ∃ i : Nat, i ≤ on ∧ iv = .int .i64 i ∧ Hid (Below w6.heap.size w6 wr)) (fun i _ => on - (intOf i).toNat)
  case atStart => exact ⟨0, Nat.zero_le _, rfl, R0⟩
  case round =>
    clear R0
    obtain ⟨i, hi, rfl, Q⟩ := hrel
    by_cases hlt : i < on
    · have hil : i < o.length := by rw [ON.out]; exact hlt
      obtain ⟨bo, offo, rfl, hbo, hco⟩ := OZ.out (by omega)
      have ci := hide (cellB Q.out hbo (hco i hil))
      have HCO := hide hco
      have HI := hide hlt
      have LI := hide (fun k (hk : k < o.length) (hik : i < k) => LO.out i k hil hk hik)
      clear hco
      generalize o[i]'hil = x at *
      clear hil hlt
      obtain ⟨w5, hw5⟩ : ∃ w5, w5 = wr := ⟨wr, rfl⟩
      subst hw5
      have sQ := Q.out.size
      go_wp2
      go_loopw [8] (fun kv wr => ∃ k : Nat, i < k ∧ k ≤ on ∧ kv = .int .i64 k ∧ Hid (Below w5.heap.size w5 wr)) (fun k _ => on - (intOf k).toNat)
      case atStart => have := HI.out; exact ⟨i + 1, by omega, by omega, by go_num, hide (Below.refl _ _)⟩
      case round =>
        obtain ⟨k, hik, hk, rfl, Q2⟩ := hrel
        have s2 := Q2.out.size
        by_cases hlt : k < on
        · have hkl : k < o.length := by rw [ON.out]; exact hlt
          obtain ⟨l1, l2⟩ := LI.out k hkl hik
          have c1 := cellB Q2.out (by omega) ci.out
          have c2 := cellB Q2.out (by omega) (cellB Q.out hbo (HCO.out k hkl))
          have HK := hide hlt
          have IK := hide (fun W hb => IS.out x _ (List.getElem_mem hkl) W hb)
          rw [l2] at IK
          have hio := HI.out
          clear LI l2
          generalize hy : o[k]'hkl = y at *
          clear hy hkl
          have dq : (x.toList == y.toList) = false := eqS_no l1
          clear l1
          go_wp2_with fail
          refine wp_region_cls (by kernel_rfl) (by kernel_rfl) wr.heap.size ?_
          have C1 := cls_cell (w := wr) (B := wr.heap.size) (p := ⟨bo, offo + i, none⟩) (by show bo < _; omega) c1
          have C2 := cls_cell (w := wr) (B := wr.heap.size) (p := ⟨bo, offo + k, none⟩) (by show bo < _; omega) c2
          repeat (go_big_quiet_step ((go_at_call 19; with_reducible exact cls_call (Nat.le_refl _) (IK.out _ (Q.out.trans ((Q2.out.trans ((Cls.below _).mono s2)).mono sQ))))))
          refine wpQuiet_nil ?_
          intro _ hw'
          obtain ⟨u, hw2⟩ := hw'
          subst hw2
          have Q9 := hide (Q2.out.trans (u.below.mono s2))
          clear C1 C2 c1 c2 IK
          go_wp2
          go_roundw
          case rel => exact ⟨k + 1, by omega, HK.out, by have := HK.out; go_num, Q9⟩
          case measure => have := HK.out; simp [intOf]; omega
        · have hgt : ¬ ((k : Int) < (on : Int)) := by omega
          have hio := HI.out
          clear hlt
          go_wp2
          go_roundw
          case rel => exact ⟨i + 1, HI.out, by have := HI.out; go_num, hide (Q.out.trans (Q2.out.mono sQ))⟩
          case measure => have := HI.out; simp [intOf]; omega
    · have hgt : ¬ ((i : Int) < (on : Int)) := by omega
      have F := hide (B6.out.trans (Q.out.mono B6.out.size))
      clear hlt
      by_cases h0 : 0 < on
      · have h0l : 0 < o.length := by rw [ON.out]; exact h0
        obtain ⟨bo, offo, rfl, hbo, hco⟩ := OZ.out h0l
        have c0 := cellB Q.out hbo (hco 0 h0l)
        have e0 := eqS_yes (LF.out h0l)
        have d0 : ((on : Int) == 0) = false := by rw [beq_eq_false_iff_ne]; omega
        have d00 : (on == 0) = false := by rw [beq_eq_false_iff_ne]; omega
        have c00 : wr.cell? ⟨bo, offo, none⟩ = some (.string (o[0]'h0l)) := by simpa using c0
        generalize o[0]'h0l = z at *
        clear hco
        go_wp2
        go_ret
        exact ⟨rfl, F.out⟩
      · obtain rfl : on = 0 := by omega
        go_wp2
        go_ret
        exact ⟨rfl, F.out⟩

theorem plainVars : ∀ n ∈ Rows.fnLogSpec.vars, n = "loop.example/g00652/impl.errNoCommit" ∨ ∀ g t, Tryz.prog.globalNamed n = some g → (Tryz.prog.globals[g]?).map (·.type) = some t → Tryz.prog.readableRec t = true ∧ t < Tryz.prog.types.size := by
  intro n hn
  have hb : (Rows.fnLogSpec.vars).all (fun n => n == "loop.example/g00652/impl.errNoCommit" || ((Tryz.prog.globalNamed n).bind fun g => (Tryz.prog.globals[g]?).map fun x => Tryz.prog.readableRec x.type && decide (x.type < Tryz.prog.types.size)).getD false) = true := by kernel_rfl
  have h := List.all_eq_true.1 hb n hn
  rw [Bool.or_eq_true] at h
  rcases h with h | h
  · exact .inl (by simpa using h)
  refine .inr fun g t h1 h2 => ?_
  rw [h1] at h
  obtain ⟨x, hx, rfl⟩ := Option.map_eq_some_iff.1 h2
  simp only [Option.bind_some, hx, Option.map_some, Option.getD_some, Bool.and_eq_true, decide_eq_true_eq] at h
  exact h
set_option maxRecDepth 100000 in
theorem contract (H : Type) (enc : TypeId × Value → H) (W : World) (base : Nat) (args : Array Value) (ds gs : List (DataW H)) (before : List MemPlace)
    (hval0 : ∀ (j : Nat) t v, Tryz.f4.params[j]? = some t → args[j]? = some v → Value.okWide Tryz.prog W .any base t v)
    (hW : DataW.Whole enc Tryz.prog Tryz.f4.params.toList Rows.fnLogSpec.vars false W args.toList ds gs before) (hL : laidMetH Tryz.prog Rows.fnLogRow.laid W) :
    Calls Tryz.prog 4 args W fun e W' => ∃ v, e = .returned v ∧ Rows.fnLogSpec.post enc Tryz.prog Tryz.f4 false true false false W args v W' := by
  have hval : ∀ (j : Nat) t v, Tryz.f4.params[j]? = some t → args[j]? = some v → Value.okWide Tryz.prog W .any base t v := hval0
  have hT : Tabs W := tabs_of (l := Rows.fnLogRow.laid) hL (List.mem_cons_self ..) (List.mem_cons_of_mem _ (List.mem_cons_self ..))
  obtain ⟨a, hE, hvar⟩ := errs_in (W := W) (laid_tail (laid_tail hL))
  have hW' := hW
  obtain ⟨p, q, hA0, hV, rfl, hfz, hnd⟩ := hW
  have hA : DataW.TrodAll enc Tryz.prog W 0 (fun _ => true) true Tryz.f4.params.toList args.toList ds p := hA0
  rw [Tryz.params4] at hA hval
  obtain ⟨v0, vs0, d0, ds0, p0, q0, hargs, rfl, rfl, h0, r0⟩ := trodAll_cons hA
  obtain ⟨rfl, rfl, rfl⟩ := trodAll_nil r0
  obtain rfl : args = #[v0] := by cases args; simp_all
  obtain ⟨x0, x1, x2, rfl⟩ := list3 (vars_len hV)
  obtain ⟨A0, n0, cap0, rfl⟩ := okWide_slice Tryz.underlying22 (hval 0 22 v0 rfl rfl)
  have lt0 : ∀ x ∈ p0, x.block < W.heap.size := by obtain ⟨m, hm⟩ := h0; exact DataW.trod_lt m _ _ _ hm
  obtain ⟨l0, rfl, hl0, hin0⟩ := open_code h0
  clear hA0 hval0
  refine (walk A0 n0 cap0 a W hl0 hin0 hT hE).mono fun e W' ⟨he, bel⟩ => ?_
  subst he
  exact ⟨_, rfl, _, _, _, [], _, q, hW', trodAll_mk1 (shut_bool Tryz.underlying4 _), (trodAll_cons_mk (Below.trod laidOut (by kernel_rfl) (of_decide_eq_true (by kernel_rfl)) h0 bel lt0) trodAll_mk0), vars_stayE laidOut bel hvar plainVars hV, bel.frame _, fun h => by cases h⟩

/-- a world for the witness: the tables hold what their initialisers lay -/
noncomputable def laidWorld (os : Os) : World := layAllE (World.holding Tryz.prog os ⟨#[], #[], []⟩)
theorem laid_met (os : Os) : laidMet Tryz.prog Rows.fnLogRow.laid ((laidWorld os).forCall (fun _ _ => 0) ⟨#[], #[.slice none 0 0], []⟩).memory :=
  laidMet_of_run' 8 (by kernel_rfl) (by kernel_rfl)
theorem reads (os : Os) {H : Type} (enc : TypeId × Value → H) : ∃ x, DataW.whole enc Tryz.prog ((laidWorld os).forCall (fun _ _ => 0) ⟨#[], #[.slice none 0 0], []⟩).memory Tryz.f4.params.toList Rows.fnLogSpec.vars false (#[.slice none 0 0] : Array Value).toList 8 = some x :=
  Option.isSome_iff_exists.1 (by kernel_rfl)
set_option maxRecDepth 100000 in
theorem lifted (os : Os) (started : os.Started) (H : Type) (enc : TypeId × Value → H) (F : Stop.Interp) :
    ReturnsInHanded {} Tryz.checked os 4 .any ((OpenSpec.ofChange Rows.fnLogSpec).preRow enc Tryz.prog Tryz.f4 Rows.fnLogRow.domain false Rows.fnLogRow.laid) (((OpenSpec.ofChange Rows.fnLogSpec).at F).post enc Tryz.prog Tryz.f4 false true false false) := by
  obtain ⟨x, hx⟩ := reads os enc
  refine returnsInHanded_of_row (C := Tryz.checked) (s := OpenSpec.ofChange Rows.fnLogSpec) own started (by kernel_rfl) Tryz.func4
    (witness_row_at (enc := enc) (C := Tryz.checked) false (laidWorld os) #[.slice none 0 0] rfl (by kernel_rfl) (by kernel_rfl) (by kernel_rfl)
      (OpenSpec.preRow_of_cond 8 hx rfl (fun k hk => by cases hk) (by kernel_rfl) (laid_met os))) ?_
  intro W base args ds gs before hval hW _ _ _ hL _ _
  exact contract H enc W base args ds gs before hval hW hL
theorem said : Rows.FnLogSaid :=
  OpenClaim.holds_of_cond 4 Tryz.f4 rfl rfl rfl rfl rfl rfl rfl ⟨rfl, rfl, rfl, rfl, rfl⟩ rfl rfl rfl rfl rfl (by kernel_rfl) Tryz.func4 (by kernel_rfl)
    (of_decide_eq_true (by kernel_rfl)) (by unfold Func.isWrapper; first | (rw [if_pos (by decide +kernel)]; kernel_rfl) | (rw [if_neg (by decide +kernel)]; exact ⟨rfl, rfl⟩))
    (fun os started H enc _ F => by rw [OpenClaim.pre_eq_preRow]; exact lifted os started H enc F)
theorem plain (f : FuncId) (fn : Func) (hf : Tryz.pinned.checked.prog.funcNamed "loop.example/g00652/laws.FnLog" = some f) (hfn : Tryz.pinned.checked.prog.funcs[f]? = some fn) :
    false = Tryz.pinned.checked.prog.looks [] ∧ ∀ (j : Nat) t, fn.params[j]? = some t → Tryz.pinned.checked.prog.wantsStandIn t = false := by
  obtain rfl : f = 4 := Option.some.inj ((show Tryz.prog.funcNamed "loop.example/g00652/laws.FnLog" = some 4 by kernel_rfl).symm.trans hf) |>.symm
  obtain rfl : fn = Tryz.f4 := (Option.some.inj (Tryz.func4.symm.trans hfn)).symm
  refine ⟨by kernel_rfl, fun j t ht => ?_⟩
  rw [Tryz.params4] at ht
  have hm := Array.mem_of_getElem? ht
  simp only [List.mem_toArray, List.mem_cons, List.not_mem_nil, or_false] at hm
  subst hm
  exact (show Tryz.prog.wantsStandIn 22 = false by kernel_rfl)
theorem card : Rows.FnLogCardSaid :=
  Claim7.holds_tied_plain_at .later [] _ _ _ _ said (fun _ h => by cases h) (by kernel_rfl) (fun _ h => by cases h) fnLog_row_tie rfl ⟨rfl, rfl⟩ (by kernel_rfl) rfl plain (by kernel_rfl)

end Go.Proofs.YtdahpnjamlfakaaGreatDoor.LLog
namespace Go.Proofs.YtdahpnjamlfakaaGreatDoor
theorem fnLog_proved : Rows.FnLogCardSaid := LLog.card
end Go.Proofs.YtdahpnjamlfakaaGreatDoor
