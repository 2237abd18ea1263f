/-
  For every code, laws.FnPackPieces returns true: the pack of two pieces of drawn objects is the pack of all. No conditions but that the two tables of the digest and the table of strconv.Itoa hold what the program's text lays (the card ties them).
-/
import Derived.Test.YtlipefnaeblhfaaDoorKLaid
import Derived.Test.YtlipefnaeblhfaaDoorRdCode
import Derived.Test.YtlipefnaeblhfaaDoorQDraw
namespace Go.Proofs.YtlipefnaeblhfaaDoor.LPackPieces
open Go.RowKit Go.ChangeShapes Go.WideShapes Go.ChangeAt
open Go.ChangeMaps (open_string shut_string)

theorem drawPackText_any (A : Option Addr) (n cap : Nat) (w : World) (hn : n ≤ 1048576) (hin : CIn w w.heap.size A n) :
    Calls Tryd.prog 17 #[.slice A n cap] w (DrawnO w) := by
  have D := hide (drawObjsOk_any A n cap w hn hin)
  clear hin
  go_enter Tryd.func17, Tryd.ntmps17
  go_wp2_with fail
  refine D.out.mono ?_
  rintro e w1 ⟨A1, cap1, l, h1, h2, rfl, own1, b1⟩
  have O := hide own1
  have B := hide b1
  clear own1 b1
  go_wp2
  go_ret
  exact ⟨A1, cap1, l, h1, h2, rfl, O.out, B.out⟩
theorem objs_take {l : List Pr} (h : objsB l = true) (k : Nat) : objsB (l.take k) = true := by
  obtain ⟨h1, h2, h3⟩ := objsB_iff.1 h
  have hl : (l.take k).length ≤ l.length := by rw [List.length_take]; omega
  refine objsB_yes (by omega) (fun i hi hi' => ?_) (fun i hi hi' => ?_)
  · have := h2 i (by omega) (by omega)
    simpa [List.getElem_take] using this
  · have := h3 i (by omega) (by omega)
    simpa [List.getElem_take] using this
theorem objs_drop {l : List Pr} (h : objsB l = true) (k : Nat) : objsB (l.drop k) = true := by
  obtain ⟨h1, h2, h3⟩ := objsB_iff.1 h
  have hl : (l.drop k).length = l.length - k := List.length_drop
  refine objsB_yes (by omega) (fun i hi hi' => ?_) (fun i hi hi' => ?_)
  · rw [hl] at hi
    have := h2 (k + i) (by omega) (by omega)
    simpa [List.getElem_drop] using this
  · rw [hl] at hi
    have := h3 (k + i) (by omega) (by omega)
    simpa [List.getElem_drop, Nat.add_assoc] using this
set_option maxRecDepth 100000 in
set_option maxHeartbeats 2000000 in
theorem walk (A : Option Addr) (n : Nat) (cap : Nat) (w : World) (hl : n ≤ maxLen) (hin : CIn w w.heap.size A n) (hT : Tabs w) (hP : Pow w) :
    Calls Tryd.prog 5 #[.slice A n cap] w fun e w' => e = .returned (.bool true) ∧ Below w.heap.size w w' := by
  by_cases hbig : 1048576 < n
  · have d : decide (1048576 < n) = true := decide_eq_true hbig
    go_enter Tryd.func5, Tryd.ntmps5
    go_wp2_with (go_at_call 16; refine (big_any A n cap _ hl).mono ?_; rintro e w' ⟨rfl, rfl⟩)
    go_ret
    exact ⟨rfl, Below.refl _ _⟩
  have hn : n ≤ 1048576 := by omega
  have d : decide (1048576 < n) = false := decide_eq_false hbig
  have IN := hide hin
  have HT := hide hT
  have HB := hide hT.1
  have HP := hide hP
  have HPB := hide (pow_lt hP)
  clear hin hT hP
  go_enter Tryd.func5, Tryd.ntmps5
  go_wp2_with fail
  refine (big_any A n cap w hl).mono ?_
  rintro e w' ⟨rfl, rfl⟩
  go_wp2_with fail
  refine (drawPackText_any A n cap w hn IN.out).mono ?_
  rintro e w1 ⟨AM, capM, l, hcM, hl61, rfl, own1, b1⟩
  have B1 := hide b1
  have O1 := hide own1
  clear b1 own1
  have hlm : l.length ≤ maxLen := by unfold maxLen; omega
  have PT := hide (fun W h h1 h2 => implPackText_any AM l capM W hlm h h1 h2)
  have PS := hide (fun W h => specPackText_any AM l capM W hlm h)
  have OS := hide (fun W h => specObjsOk_any AM l capM W hlm h)
  have e1 : ((packT l).toList != (packT l).toList) = false := by simp
  have e2 : ((packT l).toList == (packT l).toList) = true := by simp
  have PL := hide (rfl : packT l = packT l)
  go_wp2_with fail
  refine (PT.out w1 O1.out.pin (HT.out.below B1.out HB.out) (HP.out.below B1.out HPB.out)).mono ?_
  rintro e w2 ⟨rfl, b2⟩
  have B2 := hide (B1.out.trans (b2.mono B1.out.size))
  have O2 := hide (O1.out.below b2)
  clear b2 B1 O1 PT
  go_wp2_with fail
  refine (PS.out w2 O2.out.pin).mono ?_
  rintro e w3 ⟨rfl, b3⟩
  have B3 := hide (B2.out.trans (b3.mono B2.out.size))
  have O3 := hide (O2.out.below b3)
  clear b3 B2 O2
  cases hb : objsB l
  · rw [hb] at OS
    generalize packT l = p at *
    go_wp2_with fail
    refine (OS.out w3 O3.out.pin).mono ?_
    rintro e w4 ⟨rfl, b4⟩
    have B4 := hide (B3.out.trans (b4.mono B3.out.size))
    have O4 := hide (O3.out.below b4)
    clear b4 B3 O3 OS
    go_wp2_with fail
    refine (PS.out w4 O4.out.pin).mono ?_
    rintro e w5 ⟨rfl, b5⟩
    have B5 := hide (B4.out.trans (b5.mono B4.out.size))
    clear b5 B4 O4 PS
    go_wp2
    go_ret
    exact ⟨rfl, B5.out⟩
  · rw [hb] at OS
    have h60 := (objsB_iff.1 hb).1
    generalize hkk : n % (l.length + 1) = kk
    have kk1 : kk ≤ l.length := by have := Nat.mod_lt n (show 0 < l.length + 1 by omega); omega
    have kk2 : (n : Int) % ((l.length : Int) + 1) = (kk : Int) := by rw [← hkk, Int.natCast_emod, Int.natCast_add]; rfl
    have JOIN : Hid (packT (l.take kk) ++ packT (l.drop kk) = packT l) := hide (by
      rw [packT_yes hb, packT_yes (objs_take hb kk), packT_yes (objs_drop hb kk), ← packL_app, List.take_append_drop])
    have zt : (l.take kk).length = kk := by rw [List.length_take]; omega
    have zd : (l.drop kk).length = l.length - kk := List.length_drop
    have P1 : Hid (∀ W : World, PIn W W.heap.size (cutA AM capM 0) (l.take kk) → Tabs W → Pow W → Calls Tryd.prog 10 #[.slice (cutA AM capM 0) kk capM] W fun e w' => e = .returned (.string (packT (l.take kk))) ∧ Below W.heap.size W w') := hide (fun W h h1 h2 => by
      have := implPackText_any (cutA AM capM 0) (l.take kk) capM W (by rw [zt]; unfold maxLen; omega) h h1 h2
      rw [zt] at this
      exact this)
    have P2 : Hid (∀ W : World, PIn W W.heap.size (cutA AM capM kk) (l.drop kk) → Tabs W → Pow W → Calls Tryd.prog 10 #[.slice (cutA AM capM kk) (l.length - kk) (capM - kk)] W fun e w' => e = .returned (.string (packT (l.drop kk))) ∧ Below W.heap.size W w') := hide (fun W h h1 h2 => by
      have := implPackText_any (cutA AM capM kk) (l.drop kk) (capM - kk) W (by rw [zd]; unfold maxLen; omega) h h1 h2
      rw [zd] at this
      exact this)
    have r1 := fun W => run_cut_h 25 Tryd.underlying25 AM l.length capM kk (by omega) W
    have r2 := fun W => run_cut_l 25 Tryd.underlying25 AM l.length capM kk kk1 W
    have s1 := packL_size (l.take kk) (objs_texts (objs_take hb kk))
    have s2 := packL_size (l.drop kk) (objs_texts (objs_drop hb kk))
    rw [← packT_yes (objs_take hb kk), zt] at s1
    rw [← packT_yes (objs_drop hb kk), zd] at s2
    clear zt zd PS
    go_wp2_with fail
    refine (OS.out w3 O3.out.pin).mono ?_
    rintro e w4 ⟨rfl, b4⟩
    have B4 := hide (B3.out.trans (b4.mono B3.out.size))
    have O4 := hide (O3.out.below b4)
    clear b4 B3 O3 OS hb
    have T4 := hide (HT.out.below B4.out HB.out)
    have W4 := hide (HP.out.below B4.out HPB.out)
    have hb4 : 2 < w4.heap.size := by have := HPB.out; have := B4.out.size; omega
    have P3 : Hid (∀ u : Cls w4.heap.size w4, Calls Tryd.prog 10 #[.slice (cutA AM capM 0) kk capM] u.wo fun e w' => e = .returned (.string (packT (l.take kk))) ∧ Below u.wo.heap.size u.wo w') := hide (fun u => P1.out u.wo (((O4.out.pin.below u.below).more u.below.size).take capM kk) (T4.out.below u.below T4.out.1) (W4.out.below u.below hb4))
    have P4 : Hid (∀ u : Cls w4.heap.size w4, Calls Tryd.prog 10 #[.slice (cutA AM capM kk) (l.length - kk) (capM - kk)] u.wo fun e w' => e = .returned (.string (packT (l.drop kk))) ∧ Below u.wo.heap.size u.wo w') := hide (fun u => P2.out u.wo (((O4.out.pin.below u.below).more u.below.size).drop hcM kk) (T4.out.below u.below T4.out.1) (W4.out.below u.below hb4))
    clear P1 P2
    generalize packT (l.take kk) = x at *
    generalize packT (l.drop kk) = y at *
    have zz : x.size + y.size ≤ 1000000 := by omega
    have zz2 : x.size + y.size ≤ maxLen := by unfold maxLen; omega
    have e3 : ((x ++ y).toList == (packT l).toList) = true := eqS_yes JOIN.out
    generalize packT l = p at *
    clear s1 s2 JOIN
    generalize cutA AM capM 0 = a1 at *
    generalize cutA AM capM kk = a2 at *
    generalize l.length - kk = m2 at *
    generalize capM - kk = c2 at *
    go_wp2
    refine wp_region_cls (by kernel_rfl) (by kernel_rfl) w4.heap.size ?_
    repeat (go_big_quiet_step ((first | (go_at_call 10; with_reducible exact cls_call (Nat.le_refl _) (P3.out _)) | (go_at_call 10; with_reducible exact cls_call (Nat.le_refl _) (P4.out _)))))
    refine wpQuiet_nil ?_
    intro _ hw'
    obtain ⟨u, hw''⟩ := hw'
    subst hw''
    have Q := hide (B4.out.trans (u.below.mono B4.out.size))
    go_wp2
    go_ret
    exact ⟨rfl, Q.out⟩

theorem plainVars : ∀ n ∈ Rows.fnPackPiecesSpec.vars, ∀ g t, Tryd.prog.globalNamed n = some g → (Tryd.prog.globals[g]?).map (·.type) = some t → Tryd.prog.readableRec t = true ∧ t < Tryd.prog.types.size := by
  intro n hn g t h1 h2
  have hb : (Rows.fnPackPiecesSpec.vars).all (fun n => ((Tryd.prog.globalNamed n).bind fun g => (Tryd.prog.globals[g]?).map fun x => Tryd.prog.readableRec x.type && decide (x.type < Tryd.prog.types.size)).getD false) = true := by kernel_rfl
  have h := List.all_eq_true.1 hb n hn
  rw [h1] at h
  obtain ⟨x, hx, rfl⟩ := Option.map_eq_some_iff.1 h2
  simp only [Option.bind_some, hx, Option.map_some, Option.getD_some, Bool.and_eq_true, decide_eq_true_eq] at h
  exact h
set_option maxRecDepth 100000 in
theorem contract (H : Type) (enc : TypeId × Value → H) (W : World) (base : Nat) (args : Array Value) (ds gs : List (DataW H)) (before : List MemPlace)
    (hval0 : ∀ (j : Nat) t v, Tryd.f5.params[j]? = some t → args[j]? = some v → Value.okWide Tryd.prog W .any base t v)
    (hW : DataW.Whole enc Tryd.prog Tryd.f5.params.toList Rows.fnPackPiecesSpec.vars false W args.toList ds gs before) (hL : laidMetH Tryd.prog Rows.fnPackPiecesRow.laid W) :
    Calls Tryd.prog 5 args W fun e W' => ∃ v, e = .returned v ∧ Rows.fnPackPiecesSpec.post enc Tryd.prog Tryd.f5 false true false false W args v W' := by
  have hval : ∀ (j : Nat) t v, Tryd.f5.params[j]? = some t → args[j]? = some v → Value.okWide Tryd.prog W .any base t v := hval0
  have hT : Tabs W := tabs_of (l := Rows.fnPackPiecesRow.laid) hL (List.mem_cons_of_mem _ (List.mem_cons_of_mem _ (List.mem_cons_of_mem _ (List.mem_cons_self ..)))) (List.mem_cons_of_mem _ (List.mem_cons_of_mem _ (List.mem_cons_of_mem _ (List.mem_cons_of_mem _ (List.mem_cons_self ..)))))
  have hP : Pow W := pow_of (l := Rows.fnPackPiecesRow.laid) hL (List.mem_cons_of_mem _ (List.mem_cons_of_mem _ (List.mem_cons_self ..)))
  have hW' := hW
  obtain ⟨p, q, hA0, hV, rfl, hfz, hnd⟩ := hW
  have hA : DataW.TrodAll enc Tryd.prog W 0 (fun _ => true) true Tryd.f5.params.toList args.toList ds p := hA0
  rw [Tryd.params5] at hA hval
  obtain ⟨v0, vs0, d0, ds0, p0, q0, hargs, rfl, rfl, h0, r0⟩ := trodAll_cons hA
  obtain ⟨rfl, rfl, rfl⟩ := trodAll_nil r0
  obtain rfl : args = #[v0] := by cases args; simp_all
  obtain ⟨x0, x1, rfl⟩ := list2 (vars_len hV)
  obtain ⟨A0, n0, cap0, rfl⟩ := okWide_slice Tryd.underlying33 (hval 0 33 v0 rfl rfl)
  have lt0 : ∀ x ∈ p0, x.block < W.heap.size := by obtain ⟨m, hm⟩ := h0; exact DataW.trod_lt m _ _ _ hm
  obtain ⟨l0, rfl, hl0, hin0⟩ := open_code h0
  clear hA0 hval0
  refine (walk A0 n0 cap0 W hl0 hin0 hT hP).mono fun e W' ⟨he, bel⟩ => ?_
  subst he
  exact ⟨_, rfl, _, _, _, [], _, q, hW', trodAll_mk1 (shut_bool Tryd.underlying4 _), (trodAll_cons_mk (Below.trod laidOut (by kernel_rfl) (of_decide_eq_true (by kernel_rfl)) h0 bel lt0) trodAll_mk0), vars_stay laidOut bel plainVars hV, bel.frame _, fun h => by cases h⟩

/-- a world for the witness: the tables hold what their initialisers lay -/
noncomputable def laidWorld (os : Os) : World := layAllP (World.holding Tryd.prog os ⟨#[], #[], []⟩)
theorem laid_met (os : Os) : laidMet Tryd.prog Rows.fnPackPiecesRow.laid ((laidWorld os).forCall (fun _ _ => 0) ⟨#[], #[.slice none 0 0], []⟩).memory :=
  laidMet_of_run' 8 (by kernel_rfl) (by kernel_rfl)
theorem reads (os : Os) {H : Type} (enc : TypeId × Value → H) : ∃ x, DataW.whole enc Tryd.prog ((laidWorld os).forCall (fun _ _ => 0) ⟨#[], #[.slice none 0 0], []⟩).memory Tryd.f5.params.toList Rows.fnPackPiecesSpec.vars false (#[.slice none 0 0] : Array Value).toList 8 = some x :=
  Option.isSome_iff_exists.1 (by kernel_rfl)
set_option maxRecDepth 100000 in
theorem lifted (os : Os) (started : os.Started) (H : Type) (enc : TypeId × Value → H) (F : Stop.Interp) :
    ReturnsInHanded {} Tryd.checked os 5 .any ((OpenSpec.ofChange Rows.fnPackPiecesSpec).preRow enc Tryd.prog Tryd.f5 Rows.fnPackPiecesRow.domain false Rows.fnPackPiecesRow.laid) (((OpenSpec.ofChange Rows.fnPackPiecesSpec).at F).post enc Tryd.prog Tryd.f5 false true false false) := by
  obtain ⟨x, hx⟩ := reads os enc
  refine returnsInHanded_of_row (C := Tryd.checked) (s := OpenSpec.ofChange Rows.fnPackPiecesSpec) own started (by kernel_rfl) Tryd.func5
    (witness_row_at (enc := enc) (C := Tryd.checked) false (laidWorld os) #[.slice none 0 0] rfl (by kernel_rfl) (by kernel_rfl) (by kernel_rfl)
      (OpenSpec.preRow_of_cond 8 hx rfl (fun k hk => by cases hk) (by kernel_rfl) (laid_met os))) ?_
  intro W base args ds gs before hval hW _ _ _ hL _ _
  exact contract H enc W base args ds gs before hval hW hL
theorem said : Rows.FnPackPiecesSaid :=
  OpenClaim.holds_of_cond 5 Tryd.f5 rfl rfl rfl rfl rfl rfl rfl ⟨rfl, rfl, rfl, rfl, rfl⟩ rfl rfl rfl rfl rfl (by kernel_rfl) Tryd.func5 (by kernel_rfl)
    (of_decide_eq_true (by kernel_rfl)) (by unfold Func.isWrapper; first | (rw [if_pos (by decide +kernel)]; kernel_rfl) | (rw [if_neg (by decide +kernel)]; exact ⟨rfl, rfl⟩))
    (fun os started H enc _ F => by rw [OpenClaim.pre_eq_preRow]; exact lifted os started H enc F)
theorem plain (f : FuncId) (fn : Func) (hf : Tryd.pinned.checked.prog.funcNamed "loop.example/g00652/laws.FnPackPieces" = some f) (hfn : Tryd.pinned.checked.prog.funcs[f]? = some fn) :
    false = Tryd.pinned.checked.prog.looks [] ∧ ∀ (j : Nat) t, fn.params[j]? = some t → Tryd.pinned.checked.prog.wantsStandIn t = false := by
  obtain rfl : f = 5 := Option.some.inj ((show Tryd.prog.funcNamed "loop.example/g00652/laws.FnPackPieces" = some 5 by kernel_rfl).symm.trans hf) |>.symm
  obtain rfl : fn = Tryd.f5 := (Option.some.inj (Tryd.func5.symm.trans hfn)).symm
  refine ⟨by kernel_rfl, fun j t ht => ?_⟩
  rw [Tryd.params5] at ht
  have hm := Array.mem_of_getElem? ht
  simp only [List.mem_toArray, List.mem_cons, List.not_mem_nil, or_false] at hm
  subst hm
  exact (show Tryd.prog.wantsStandIn 33 = false by kernel_rfl)
theorem card : Rows.FnPackPiecesCardSaid :=
  Claim7.holds_tied_plain_at .later [] _ _ _ _ said (fun _ h => by cases h) (by kernel_rfl) (fun _ h => by cases h) fnPackPieces_row_tie rfl ⟨rfl, rfl⟩ (by kernel_rfl) rfl plain (by kernel_rfl)

end Go.Proofs.YtlipefnaeblhfaaDoor.LPackPieces
namespace Go.Proofs.YtlipefnaeblhfaaDoor
theorem fnPackPieces_proved : Rows.FnPackPiecesCardSaid := LPackPieces.card
end Go.Proofs.YtlipefnaeblhfaaDoor
