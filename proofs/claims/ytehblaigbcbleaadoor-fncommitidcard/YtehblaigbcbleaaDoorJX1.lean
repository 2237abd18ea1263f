/-
  laws.FnCommitId returns true whatever the code: a commit's id is that of its text. No conditions but that the two tables of the digest and the sentinel of the reader hold what the program's text lays (the card ties them).
-/
import Derived.Test.YtehblaigbcbleaaDoorJC
import Derived.Test.YtehblaigbcbleaaDoorJD
import Derived.Test.YtehblaigbcbleaaDoorJW
namespace Go.Proofs.YtehblaigbcbleaaDoor.LCommitId
open Go.RowKit Go.ChangeShapes Go.WideShapes Go.ChangeAt
open Go.ChangeMaps (open_string shut_string)

set_option maxRecDepth 100000 in
set_option maxHeartbeats 4000000 in
theorem walk (A : Option Addr) (n : Nat) (cap : Nat) (a : Addr) (w : World) (hl : n ≤ maxLen) (hin : CIn w w.heap.size A n) (hT : Tabs w) (hE : ErrC w a) :
    Calls Tryd.prog 3 #[.slice A n cap] w fun e w' => e = .returned (.bool true) ∧ Below w.heap.size w w' := by
  by_cases hbig : 1048576 < n
  · have d : decide (1048576 < n) = true := decide_eq_true hbig
    go_enter Tryd.func3, Tryd.ntmps3
    go_wp2_with (go_at_call 4; refine (big_any A n cap _ hl).mono ?_; rintro e w' ⟨rfl, rfl⟩)
    go_ret
    exact ⟨rfl, Below.refl _ _⟩
  have hn : n ≤ 1048576 := by omega
  have d : decide (1048576 < n) = false := decide_eq_false hbig
  have IN := hide hin
  have HT := hide hT
  have HB := hide hT.1
  have HE := hide hE
  have B0 : Hid (Below w.heap.size w w) := hide (Below.refl _ _)
  clear hin hT hE
  go_enter Tryd.func3, Tryd.ntmps3
  go_wp2_with fail
  refine (big_any A n cap w hl).mono ?_
  rintro e w' ⟨rfl, rfl⟩
  go_wp2_with fail
  refine (drawCommitAt_any A n cap w hn IN.out).mono ?_
  rintro e w1 ⟨AL, capL, l, id, hcL, hl60, hid16, ⟨ids, htop⟩, rfl, oL, b1⟩
  have B1 := hide (B0.out.trans (b1.mono B0.out.size))
  have L_1 := hide oL
  have HTOP := hide htop
  clear b1 oL B0 htop
  have hlm : l.length ≤ maxLen := by unfold maxLen; omega
  have hidm : id.size ≤ maxLen := by unfold maxLen; omega
  have ID : Hid (rdOk (findV l id) = true → comB (rdC (findV l id)).1 (rdC (findV l id)).2.1 (rdC (findV l id)).2.2 = true ∧ textC (rdC (findV l id)).1 (rdC (findV l id)).2.1 (rdC (findV l id)).2.2 = findV l id ∧ idL (findV l id) = id ∧ (findV l id).size ≤ 2000) := hide (fun h => by
    have ho := (repoB_iff.1 HTOP.out.rep).1
    obtain ⟨r1, r2⟩ := rd_back h
    refine ⟨r1, r2, ?_, ?_⟩
    · rw [findV_yes ho] at h ⊢
      exact valOf_id ho (has_rd h)
    · rw [findV_yes ho]; exact valOf_size ho id)
  have VS : Hid ((findV l id).size ≤ 2000) := hide (by rw [findV_yes (repoB_iff.1 HTOP.out.rep).1]; exact valOf_size (repoB_iff.1 HTOP.out.rep).1 id)
  have RZ := hide (rd_sizes (findV l id))
  obtain ⟨s, hs⟩ : ∃ s, s = findV l id := ⟨_, rfl⟩
  rw [← hs] at ID VS RZ
  have HS := hide hs
  clear hs
  have e1 : (rdOk s != rdOk s) = false := by simp
  have e2 : (rdOk s == rdOk s) = true := by simp
  obtain ⟨z0, z1, z2, z3⟩ := RZ.out
  go_wp2_with fail
  have CX := implCommitAt_any AL l capL id a w1 hidm hlm L_1.out.pin (HT.out.below B1.out HB.out) (HE.out.below B1.out)
  rw [← HS.out] at CX
  refine CX.mono ?_
  rintro e w2 ⟨AC, capC, rfl, own2, b2⟩
  clear CX
  have bx := boxC_below w2 (.string (rdC s).1) (.slice AC (rdC s).2.1.length capC) (.string (rdC s).2.2)
  have bo : BoxC _ w2.heap.size (rdC s).1 (rdC s).2.2 AC (rdC s).2.1.length capC := boxC w2 (rdC s).1 (rdC s).2.2 AC (rdC s).2.1.length capC
  obtain ⟨w3, hw3⟩ : ∃ W, W = w2.alloc (.cells #[.string (rdC s).1, .slice AC (rdC s).2.1.length capC, .string (rdC s).2.2] 29) := ⟨_, rfl⟩
  rw [← hw3] at bx bo
  have ow := own2.below bx
  have bb := b2.trans (bx.mono b2.size)
  clear own2
  have B3 := hide (B1.out.trans (bb.mono B1.out.size))
  have L_3 := hide (L_1.out.below bb)
  have C_3 := hide (ow.more B1.out.size)
  have Cb_3 := hide bo
  clear b2 bx bo bb ow B1 L_1
  go_wp2_with fail
  rw [← hw3]
  clear hw3
  have CX := specCommitAt_any AL l capL id w3 hlm L_3.out.pin
  rw [← HS.out] at CX
  refine CX.mono ?_
  rintro e w4 ⟨AD, capD, rfl, own4, b4⟩
  clear CX
  have bx := boxC_below w4 (.string (rdC s).1) (.slice AD (rdC s).2.1.length capD) (.string (rdC s).2.2)
  have bo : BoxC _ w4.heap.size (rdC s).1 (rdC s).2.2 AD (rdC s).2.1.length capD := boxC w4 (rdC s).1 (rdC s).2.2 AD (rdC s).2.1.length capD
  obtain ⟨w5, hw5⟩ : ∃ W, W = w4.alloc (.cells #[.string (rdC s).1, .slice AD (rdC s).2.1.length capD, .string (rdC s).2.2] 29) := ⟨_, rfl⟩
  rw [← hw5] at bx bo
  have ow := own4.below bx
  have bb := b4.trans (bx.mono b4.size)
  clear own4
  have B5 := hide (B3.out.trans (bb.mono B3.out.size))
  have L_5 := hide (L_3.out.below bb)
  have C_5 := hide (C_3.out.below bb)
  have Cb_5 := hide (Cb_3.out.below bb)
  have D_5 := hide (ow.more B3.out.size)
  have Db_5 := hide bo
  clear b4 bx bo bb ow B3 L_3 C_3 Cb_3
  have q10 := Cb_5.out.c0
  rw [hw5] at q10
  have q11 := Cb_5.out.c1
  rw [hw5] at q11
  have q12 := Cb_5.out.c2
  rw [hw5] at q12
  have q20 := Db_5.out.c0
  rw [hw5] at q20
  have q21 := Db_5.out.c1
  rw [hw5] at q21
  have q22 := Db_5.out.c2
  rw [hw5] at q22
  clear HS HTOP
  go_wp2_with fail
  rw [← hw5]
  clear hw5
  refine (sameCommit_same (rdC s).1 (rdC s).2.2 AC AD (rdC s).2.1 capC capD w5 z1 C_5.out.zin D_5.out.zin).mono ?_
  rintro e w6 ⟨rfl, b6⟩
  have B6 := hide (B5.out.trans (b6.mono B5.out.size))
  have L_6 := hide (L_5.out.below b6)
  have C_6 := hide (C_5.out.below b6)
  have Cb_6 := hide (Cb_5.out.below b6)
  have D_6 := hide (D_5.out.below b6)
  have Db_6 := hide (Db_5.out.below b6)
  clear b6 B5 L_5 C_5 Cb_5 D_5 Db_5
  cases hb : rdOk s
  · rw [hb] at e1 e2
    have q30 := Cb_6.out.c0
    have q31 := Cb_6.out.c1
    have q32 := Cb_6.out.c2
    have q40 := Db_6.out.c0
    have q41 := Db_6.out.c1
    have q42 := Db_6.out.c2
    go_wp2_with fail
    refine (sameCommit_same (rdC s).1 (rdC s).2.2 AC AD (rdC s).2.1 capC capD w6 z1 C_6.out.zin D_6.out.zin).mono ?_
    rintro e w7 ⟨rfl, b7⟩
    have B7 := hide (B6.out.trans (b7.mono B6.out.size))
    have L_7 := hide (L_6.out.below b7)
    have C_7 := hide (C_6.out.below b7)
    have Cb_7 := hide (Cb_6.out.below b7)
    have D_7 := hide (D_6.out.below b7)
    have Db_7 := hide (Db_6.out.below b7)
    clear b7 B6 L_6 C_6 Cb_6 D_6 Db_6
    go_wp2_with fail
    go_ret
    exact ⟨rfl, B7.out⟩
  · rw [hb] at e1 e2
    obtain ⟨i1, i2, i3, i4⟩ := ID.out hb
    have CE := hide (comText_yes i1)
    rw [i2] at CE
    have IE : Hid (idT s = id) := hide ((idT_in i4).trans i3)
    have e3 := eqS_yes (rfl : id = id)
    clear hb i1 i2 i3 ID
    have q30 := Cb_6.out.c0
    have q31 := Cb_6.out.c1
    have q32 := Cb_6.out.c2
    go_wp2_with fail
    have CT := implCommitText_any (rdC s).1 (rdC s).2.2 AC (rdC s).2.1 capC w6 z0 z2 z1 (sin_of z3 C_6.out.zin)
    rw [CE.out] at CT
    refine CT.mono ?_
    rintro e w7 ⟨rfl, b7⟩
    have B7 := hide (B6.out.trans (b7.mono B6.out.size))
    have L_7 := hide (L_6.out.below b7)
    have C_7 := hide (C_6.out.below b7)
    have Cb_7 := hide (Cb_6.out.below b7)
    have D_7 := hide (D_6.out.below b7)
    have Db_7 := hide (Db_6.out.below b7)
    clear b7 CT B6 L_6 C_6 Cb_6 D_6 Db_6
    go_wp2_with fail
    have IT := implId s w7 (by unfold maxLen; omega) (HT.out.below B7.out HB.out)
    rw [IE.out] at IT
    refine IT.mono ?_
    rintro e w8 ⟨rfl, b8⟩
    have B8 := hide (B7.out.trans (b8.mono B7.out.size))
    have L_8 := hide (L_7.out.below b8)
    have C_8 := hide (C_7.out.below b8)
    have Cb_8 := hide (Cb_7.out.below b8)
    have D_8 := hide (D_7.out.below b8)
    have Db_8 := hide (Db_7.out.below b8)
    clear b8 IT B7 L_7 C_7 Cb_7 D_7 Db_7
    go_wp2_with fail
    go_ret
    exact ⟨rfl, B8.out⟩

theorem plainVars : ∀ n ∈ Rows.fnCommitIdSpec.vars, n = "loop.example/g00652/impl.errNoCommit" ∨ ∀ g t, Tryd.prog.globalNamed n = some g → (Tryd.prog.globals[g]?).map (·.type) = some t → Tryd.prog.readableRec t = true ∧ t < Tryd.prog.types.size := by
  intro n hn
  have hb : (Rows.fnCommitIdSpec.vars).all (fun n => n == "loop.example/g00652/impl.errNoCommit" || ((Tryd.prog.globalNamed n).bind fun g => (Tryd.prog.globals[g]?).map fun x => Tryd.prog.readableRec x.type && decide (x.type < Tryd.prog.types.size)).getD false) = true := by kernel_rfl
  have h := List.all_eq_true.1 hb n hn
  rw [Bool.or_eq_true] at h
  rcases h with h | h
  · exact .inl (by simpa using h)
  refine .inr fun g t h1 h2 => ?_
  rw [h1] at h
  obtain ⟨x, hx, rfl⟩ := Option.map_eq_some_iff.1 h2
  simp only [Option.bind_some, hx, Option.map_some, Option.getD_some, Bool.and_eq_true, decide_eq_true_eq] at h
  exact h
set_option maxRecDepth 100000 in
theorem contract (H : Type) (enc : TypeId × Value → H) (W : World) (base : Nat) (args : Array Value) (ds gs : List (DataW H)) (before : List MemPlace)
    (hval0 : ∀ (j : Nat) t v, Tryd.f3.params[j]? = some t → args[j]? = some v → Value.okWide Tryd.prog W .any base t v)
    (hW : DataW.Whole enc Tryd.prog Tryd.f3.params.toList Rows.fnCommitIdSpec.vars false W args.toList ds gs before) (hL : laidMetH Tryd.prog Rows.fnCommitIdRow.laid W) :
    Calls Tryd.prog 3 args W fun e W' => ∃ v, e = .returned v ∧ Rows.fnCommitIdSpec.post enc Tryd.prog Tryd.f3 false true false false W args v W' := by
  have hval : ∀ (j : Nat) t v, Tryd.f3.params[j]? = some t → args[j]? = some v → Value.okWide Tryd.prog W .any base t v := hval0
  have hT : Tabs W := tabs_of (l := Rows.fnCommitIdRow.laid) hL (List.mem_cons_self ..) (List.mem_cons_of_mem _ (List.mem_cons_self ..))
  obtain ⟨a, hE, hvar⟩ := errs_in (W := W) (laid_tail (laid_tail hL))
  have hW' := hW
  obtain ⟨p, q, hA0, hV, rfl, hfz, hnd⟩ := hW
  have hA : DataW.TrodAll enc Tryd.prog W 0 (fun _ => true) true Tryd.f3.params.toList args.toList ds p := hA0
  rw [Tryd.params3] at hA hval
  obtain ⟨v0, vs0, d0, ds0, p0, q0, hargs, rfl, rfl, h0, r0⟩ := trodAll_cons hA
  obtain ⟨rfl, rfl, rfl⟩ := trodAll_nil r0
  obtain rfl : args = #[v0] := by cases args; simp_all
  obtain ⟨x0, x1, x2, rfl⟩ := list3 (vars_len hV)
  obtain ⟨A0, n0, cap0, rfl⟩ := okWide_slice Tryd.underlying22 (hval 0 22 v0 rfl rfl)
  have lt0 : ∀ x ∈ p0, x.block < W.heap.size := by obtain ⟨m, hm⟩ := h0; exact DataW.trod_lt m _ _ _ hm
  obtain ⟨l0, rfl, hl0, hin0⟩ := open_code h0
  clear hA0 hval0
  refine (walk A0 n0 cap0 a W hl0 hin0 hT hE).mono fun e W' ⟨he, bel⟩ => ?_
  subst he
  exact ⟨_, rfl, _, _, _, [], _, q, hW', trodAll_mk1 (shut_bool Tryd.underlying4 _), (trodAll_cons_mk (Below.trod laidOut (by kernel_rfl) (of_decide_eq_true (by kernel_rfl)) h0 bel lt0) trodAll_mk0), vars_stayE laidOut bel hvar plainVars hV, bel.frame _, fun h => by cases h⟩

/-- a world for the witness: the tables hold what their initialisers lay -/
noncomputable def laidWorld (os : Os) : World := layAllE (World.holding Tryd.prog os ⟨#[], #[], []⟩)
theorem laid_met (os : Os) : laidMet Tryd.prog Rows.fnCommitIdRow.laid ((laidWorld os).forCall (fun _ _ => 0) ⟨#[], #[.slice none 0 0], []⟩).memory :=
  laidMet_of_run' 8 (by kernel_rfl) (by kernel_rfl)
theorem reads (os : Os) {H : Type} (enc : TypeId × Value → H) : ∃ x, DataW.whole enc Tryd.prog ((laidWorld os).forCall (fun _ _ => 0) ⟨#[], #[.slice none 0 0], []⟩).memory Tryd.f3.params.toList Rows.fnCommitIdSpec.vars false (#[.slice none 0 0] : Array Value).toList 8 = some x :=
  Option.isSome_iff_exists.1 (by kernel_rfl)
set_option maxRecDepth 100000 in
theorem lifted (os : Os) (started : os.Started) (H : Type) (enc : TypeId × Value → H) (F : Stop.Interp) :
    ReturnsInHanded {} Tryd.checked os 3 .any ((OpenSpec.ofChange Rows.fnCommitIdSpec).preRow enc Tryd.prog Tryd.f3 Rows.fnCommitIdRow.domain false Rows.fnCommitIdRow.laid) (((OpenSpec.ofChange Rows.fnCommitIdSpec).at F).post enc Tryd.prog Tryd.f3 false true false false) := by
  obtain ⟨x, hx⟩ := reads os enc
  refine returnsInHanded_of_row (C := Tryd.checked) (s := OpenSpec.ofChange Rows.fnCommitIdSpec) own started (by kernel_rfl) Tryd.func3
    (witness_row_at (enc := enc) (C := Tryd.checked) false (laidWorld os) #[.slice none 0 0] rfl (by kernel_rfl) (by kernel_rfl) (by kernel_rfl)
      (OpenSpec.preRow_of_cond 8 hx rfl (fun k hk => by cases hk) (by kernel_rfl) (laid_met os))) ?_
  intro W base args ds gs before hval hW _ _ _ hL _ _
  exact contract H enc W base args ds gs before hval hW hL
theorem said : Rows.FnCommitIdSaid :=
  OpenClaim.holds_of_cond 3 Tryd.f3 rfl rfl rfl rfl rfl rfl rfl ⟨rfl, rfl, rfl, rfl, rfl⟩ rfl rfl rfl rfl rfl (by kernel_rfl) Tryd.func3 (by kernel_rfl)
    (of_decide_eq_true (by kernel_rfl)) (by unfold Func.isWrapper; first | (rw [if_pos (by decide +kernel)]; kernel_rfl) | (rw [if_neg (by decide +kernel)]; exact ⟨rfl, rfl⟩))
    (fun os started H enc _ F => by rw [OpenClaim.pre_eq_preRow]; exact lifted os started H enc F)
theorem plain (f : FuncId) (fn : Func) (hf : Tryd.pinned.checked.prog.funcNamed "loop.example/g00652/laws.FnCommitId" = some f) (hfn : Tryd.pinned.checked.prog.funcs[f]? = some fn) :
    false = Tryd.pinned.checked.prog.looks [] ∧ ∀ (j : Nat) t, fn.params[j]? = some t → Tryd.pinned.checked.prog.wantsStandIn t = false := by
  obtain rfl : f = 3 := Option.some.inj ((show Tryd.prog.funcNamed "loop.example/g00652/laws.FnCommitId" = some 3 by kernel_rfl).symm.trans hf) |>.symm
  obtain rfl : fn = Tryd.f3 := (Option.some.inj (Tryd.func3.symm.trans hfn)).symm
  refine ⟨by kernel_rfl, fun j t ht => ?_⟩
  rw [Tryd.params3] at ht
  have hm := Array.mem_of_getElem? ht
  simp only [List.mem_toArray, List.mem_cons, List.not_mem_nil, or_false] at hm
  subst hm
  exact (show Tryd.prog.wantsStandIn 22 = false by kernel_rfl)
theorem card : Rows.FnCommitIdCardSaid :=
  Claim7.holds_tied_plain_at .later [] _ _ _ _ said (fun _ h => by cases h) (by kernel_rfl) (fun _ h => by cases h) fnCommitId_row_tie rfl ⟨rfl, rfl⟩ (by kernel_rfl) rfl plain (by kernel_rfl)

end Go.Proofs.YtehblaigbcbleaaDoor.LCommitId
namespace Go.Proofs.YtehblaigbcbleaaDoor
theorem fnCommitId_proved : Rows.FnCommitIdCardSaid := LCommitId.card
end Go.Proofs.YtehblaigbcbleaaDoor
