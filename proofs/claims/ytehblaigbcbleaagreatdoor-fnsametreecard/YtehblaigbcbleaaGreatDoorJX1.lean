/-
  laws.FnSameTree returns true whatever the code: a commit of a map that is there already is one object more at most. No conditions but that the two tables of the digest and the sentinel of the reader hold what the program's text lays (the card ties them).
-/
import Derived.Test.YtehblaigbcbleaaGreatDoorJC
import Derived.Test.YtehblaigbcbleaaGreatDoorJD
import Derived.Test.YtehblaigbcbleaaGreatDoorJW
import Derived.Test.YtehblaigbcbleaaGreatDoorJJ
namespace Go.Proofs.YtehblaigbcbleaaGreatDoor.LSameTree
open Go.RowKit Go.ChangeShapes Go.WideShapes Go.ChangeAt
open Go.ChangeMaps (open_string shut_string)
/-- the note: once more -/
def onceMore : ByteArray := ⟨#[111, 110, 99, 101, 32, 109, 111, 114, 101]⟩
theorem cmI_max (l m : List Pr) (ps : List ByteArray) (note : ByteArray) : (cmI l m ps note).size ≤ maxLen := by
  unfold cmI
  split
  · exact idL_max _
  · simp
theorem same_tree {l : List Pr} (ho : objsB l = true) {id note : ByteArray} (h1 : matB l id = true) (h2 : cmB l (matL l id) [id] note = true) :
    (cmL l (matL l id) [id] note).length ≤ l.length + 1 ∧ (rdC (findV (cmL l (matL l id) [id] note) (cmI l (matL l id) [id] note))).1 = (rdC (findV l id)).1 := by
  have hp := cmB_iff.1 h2
  obtain ⟨_, eL, eI⟩ := cmB_yes hp
  have h1' := h1
  unfold matB at h1'
  rw [Bool.and_eq_true] at h1'
  obtain ⟨eM, _⟩ := matB_yes h1'.1
  have tb := tree_back h1'.2
  have ht : treeT (matL l id) = findV l (rdC (findV l id)).1 := by rw [eM]; exact tb.2
  obtain ⟨K, hK⟩ : ∃ K, K = (rdC (findV l id)).1 := ⟨_, rfl⟩
  rw [← hK] at ht h1' ⊢
  rw [findV_yes (k := K) ho] at ht h1'
  have hh := has_of_tree h1'.2
  have hid : idL (treeT (matL l id)) = K := by rw [ht]; exact valOf_id ho hh
  have hsame := (there_again ho (t := treeT (matL l id)) (by rw [hid]; exact hh) (by rw [hid, ← ht]) (addB_iff.1 hp.2.2.2.2.1).2.1).2
  obtain ⟨v1, v2, v3, v4⟩ := cm_vals hp
  have hrep := repo_cm hp
  constructor
  · rw [eL, hsame]
    exact addL_one l (comT (matL l id) [id] note)
  · rw [eL, eI, findV_yes (repoB_iff.1 hrep).1, v2, (comT_text hp.2.2.2.1).2]
    exact hid

set_option maxRecDepth 100000 in
set_option maxHeartbeats 4000000 in
theorem walk (A : Option Addr) (n : Nat) (cap : Nat) (a : Addr) (w : World) (hl : n ≤ maxLen) (hin : CIn w w.heap.size A n) (hT : Tabs w) (hE : ErrC w a) :
    Calls Tryz.prog 4 #[.slice A n cap] w fun e w' => e = .returned (.bool true) ∧ Below w.heap.size w w' := by
  by_cases hbig : 1048576 < n
  · have d : decide (1048576 < n) = true := decide_eq_true hbig
    go_enter Tryz.func4, Tryz.ntmps4
    go_wp2_with (go_at_call 10; refine (big_any A n cap _ hl).mono ?_; rintro e w' ⟨rfl, rfl⟩)
    go_ret
    exact ⟨rfl, Below.refl _ _⟩
  have hn : n ≤ 1048576 := by omega
  have d : decide (1048576 < n) = false := decide_eq_false hbig
  have IN := hide hin
  have HT := hide hT
  have HB := hide hT.1
  have HE := hide hE
  have B0 : Hid (Below w.heap.size w w) := hide (Below.refl _ _)
  clear hin hT hE
  go_enter Tryz.func4, Tryz.ntmps4
  go_wp2_with fail
  refine (big_any A n cap w hl).mono ?_
  rintro e w' ⟨rfl, rfl⟩
  go_wp2_with fail
  refine (drawMapAt_any A n cap w hn IN.out).mono ?_
  rintro e w1 ⟨AL, capL, l, id, hcL, hl60, hid16, ⟨ids, htop⟩, rfl, oL, b1⟩
  have B1 := hide (B0.out.trans (b1.mono B0.out.size))
  have L_1 := hide oL
  have HTOP := hide htop
  clear b1 oL B0 htop
  have hlm : l.length ≤ maxLen := by unfold maxLen; omega
  have hidm : id.size ≤ maxLen := by unfold maxLen; omega
  have e1 : (matB l id != matB l id) = false := by simp
  have e2 : (matB l id == matB l id) = true := by simp
  have hml := matL_len l id
  have hmm : (matL l id).length ≤ maxLen := by unfold maxLen; omega
  have ST : Hid (matB l id = true → cmB l (matL l id) [id] onceMore = true → (cmL l (matL l id) [id] onceMore).length ≤ l.length + 1 ∧ (rdC (findV (cmL l (matL l id) [id] onceMore) (cmI l (matL l id) [id] onceMore))).1 = (rdC (findV l id)).1) := hide (fun h1 h2 => same_tree (repoB_iff.1 HTOP.out.rep).1 h1 h2)
  go_wp2_with fail
  refine (implMapAt_any AL l capL id a w1 hidm hlm L_1.out.pin (HT.out.below B1.out HB.out) (HE.out.below B1.out)).mono ?_
  rintro e w2 ⟨AN, capN, hcN, rfl, own2, b2⟩
  have B2 := hide (B1.out.trans (b2.mono B1.out.size))
  have L_2 := hide (L_1.out.below b2)
  have N_2 := hide (own2.more B1.out.size)
  clear b2 own2 B1 L_1
  go_wp2_with fail
  refine (specMapAt_any AL l capL id w2 hlm L_2.out.pin).mono ?_
  rintro e w3 ⟨AX, capX, hcX, rfl, own3, b3⟩
  have B3 := hide (B2.out.trans (b3.mono B2.out.size))
  have L_3 := hide (L_2.out.below b3)
  have N_3 := hide (N_2.out.below b3)
  have X_3 := hide (own3.more B2.out.size)
  clear b3 own3 B2 L_2 N_2
  have e5 := eqL_self (matL l id)
  go_wp2_with fail
  refine (M.sameMap_any AN AX _ _ capN capX w3 _ _ hmm hmm N_3.out.pin X_3.out.pin).mono ?_
  rintro e w4 ⟨rfl, q4⟩
  have b4 := q4.below w3.heap.size
  have B4 := hide (B3.out.trans (b4.mono B3.out.size))
  have L_4 := hide (L_3.out.below b4)
  have N_4 := hide (N_3.out.below b4)
  have X_4 := hide (X_3.out.below b4)
  clear b4 q4 B3 L_3 N_3 X_3
  cases hb : matB l id
  · rw [hb] at e1 e2
    go_wp2_with fail
    refine (M.sameMap_any AN AX _ _ capN capX w4 _ _ hmm hmm N_4.out.pin X_4.out.pin).mono ?_
    rintro e w5 ⟨rfl, q5⟩
    have b5 := q5.below w4.heap.size
    have B5 := hide (B4.out.trans (b5.mono B4.out.size))
    have L_5 := hide (L_4.out.below b5)
    have N_5 := hide (N_4.out.below b5)
    have X_5 := hide (X_4.out.below b5)
    clear b5 q5 B4 L_4 N_4 X_4
    go_wp2_with fail
    go_ret
    exact ⟨rfl, B5.out⟩
  · have ST1 := hide (ST.out hb)
    rw [hb] at e1 e2
    clear hb ST
    have zo := ZIn.one (w := w4) id 9 rfl
    have ba := (Below.refl w4.heap.size w4).alloc (Nat.le_refl _) (.cells #[.string id] 9)
    obtain ⟨w5, hw5⟩ : ∃ W, W = w4.alloc (.cells #[.string id] 9) := ⟨_, rfl⟩
    have hz5 : w5.heap.size = w4.heap.size + 1 := by rw [hw5]; simp
    rw [← hw5] at zo ba
    have B5 := hide (B4.out.trans (ba.mono B4.out.size))
    have L_5 := hide (L_4.out.below ba)
    have N_5 := hide (N_4.out.below ba)
    have X_5 := hide (X_4.out.below ba)
    have SI : Hid (SIn w5 w5.heap.size (some ⟨w4.heap.size, 0, none⟩) [id]) := hide (sin_of (fun i hi => by simp at hi; subst hi; simpa using hidm) (by rw [hz5]; exact zo))
    clear ba zo B4 L_4 N_4 X_4
    go_wp2_with fail
    rw [← hw5]
    clear hw5
    refine (implCommitted_any AL l capL AN (matL l id) capN (some ⟨w4.heap.size, 0, none⟩) [id] 1 onceMore a w5 hlm L_5.out.pin hmm N_5.out.pin (by simp [maxLen]) SI.out (by decide) (HT.out.below B5.out HB.out) (HE.out.below B5.out)).mono ?_
    rintro e w6 ⟨AR, capR, hcR, rfl, own6, b6⟩
    have B6 := hide (B5.out.trans (b6.mono B5.out.size))
    have L_6 := hide (L_5.out.below b6)
    have N_6 := hide (N_5.out.below b6)
    have X_6 := hide (X_5.out.below b6)
    have R_6 := hide (own6.more B5.out.size)
    clear b6 own6 SI B5 L_5 N_5 X_5
    have z1 := cmL_len l (matL l id) [id] onceMore
    have z1m : (cmL l (matL l id) [id] onceMore).length ≤ maxLen := by unfold maxLen; omega
    have z2m : (cmI l (matL l id) [id] onceMore).size ≤ maxLen := cmI_max _ _ _ _
    generalize cmL l (matL l id) [id] onceMore = nl at *
    generalize cmI l (matL l id) [id] onceMore = ni at *
    generalize cmB l (matL l id) [id] onceMore = nb at *
    go_wp2_with fail
    refine (implCommitAt_any AL l capL id a w6 hidm hlm L_6.out.pin (HT.out.below B6.out HB.out) (HE.out.below B6.out)).mono ?_
    rintro e w7 ⟨AC, capC, rfl, own7, b7⟩
    have bx := boxC_below w7 (.string (rdC (findV l id)).1) (.slice AC (rdC (findV l id)).2.1.length capC) (.string (rdC (findV l id)).2.2)
    have bo : BoxC _ w7.heap.size (rdC (findV l id)).1 (rdC (findV l id)).2.2 AC (rdC (findV l id)).2.1.length capC := boxC w7 (rdC (findV l id)).1 (rdC (findV l id)).2.2 AC (rdC (findV l id)).2.1.length capC
    obtain ⟨w8, hw8⟩ : ∃ W, W = w7.alloc (.cells #[.string (rdC (findV l id)).1, .slice AC (rdC (findV l id)).2.1.length capC, .string (rdC (findV l id)).2.2] 38) := ⟨_, rfl⟩
    rw [← hw8] at bx bo
    have ow := own7.below bx
    have bb := b7.trans (bx.mono b7.size)
    clear own7
    have B8 := hide (B6.out.trans (bb.mono B6.out.size))
    have L_8 := hide (L_6.out.below bb)
    have N_8 := hide (N_6.out.below bb)
    have X_8 := hide (X_6.out.below bb)
    have R_8 := hide (R_6.out.below bb)
    have C_8 := hide (ow.more B6.out.size)
    have Cb_8 := hide bo
    clear b7 bx bo bb ow B6 L_6 N_6 X_6 R_6
    go_wp2_with fail
    rw [← hw8]
    clear hw8
    refine (implCommitAt_any AR nl capR ni a w8 z2m z1m R_8.out.pin (HT.out.below B8.out HB.out) (HE.out.below B8.out)).mono ?_
    rintro e w9 ⟨AD, capD, rfl, own9, b9⟩
    have bx := boxC_below w9 (.string (rdC (findV nl ni)).1) (.slice AD (rdC (findV nl ni)).2.1.length capD) (.string (rdC (findV nl ni)).2.2)
    have bo : BoxC _ w9.heap.size (rdC (findV nl ni)).1 (rdC (findV nl ni)).2.2 AD (rdC (findV nl ni)).2.1.length capD := boxC w9 (rdC (findV nl ni)).1 (rdC (findV nl ni)).2.2 AD (rdC (findV nl ni)).2.1.length capD
    obtain ⟨w10, hw10⟩ : ∃ W, W = w9.alloc (.cells #[.string (rdC (findV nl ni)).1, .slice AD (rdC (findV nl ni)).2.1.length capD, .string (rdC (findV nl ni)).2.2] 38) := ⟨_, rfl⟩
    rw [← hw10] at bx bo
    have ow := own9.below bx
    have bb := b9.trans (bx.mono b9.size)
    clear own9
    have B10 := hide (B8.out.trans (bb.mono B8.out.size))
    have L_10 := hide (L_8.out.below bb)
    have N_10 := hide (N_8.out.below bb)
    have X_10 := hide (X_8.out.below bb)
    have R_10 := hide (R_8.out.below bb)
    have C_10 := hide (C_8.out.below bb)
    have Cb_10 := hide (Cb_8.out.below bb)
    have D_10 := hide (ow.more B8.out.size)
    have Db_10 := hide bo
    clear b9 bx bo bb ow B8 L_8 N_8 X_8 R_8 C_8 Cb_8
    have q10 := Cb_10.out.c0
    rw [hw10] at q10
    have q20 := Db_10.out.c0
    rw [hw10] at q20
    cases nb
    · go_wp2_with fail
      rw [← hw10]
      clear hw10
      go_ret
      exact ⟨rfl, B10.out⟩
    · obtain ⟨g1, g2⟩ := ST1.out rfl
      have e3 := eqS_yes (g2.symm)
      have e4 : (nl.length : Int) ≤ (l.length : Int) + 1 := by omega
      clear g1 g2
      go_wp2_with fail
      rw [← hw10]
      clear hw10
      go_ret
      exact ⟨rfl, B10.out⟩

theorem plainVars : ∀ n ∈ Rows.fnSameTreeSpec.vars, n = "loop.example/g00652/impl.errNoCommit" ∨ ∀ g t, Tryz.prog.globalNamed n = some g → (Tryz.prog.globals[g]?).map (·.type) = some t → Tryz.prog.readableRec t = true ∧ t < Tryz.prog.types.size := by
  intro n hn
  have hb : (Rows.fnSameTreeSpec.vars).all (fun n => n == "loop.example/g00652/impl.errNoCommit" || ((Tryz.prog.globalNamed n).bind fun g => (Tryz.prog.globals[g]?).map fun x => Tryz.prog.readableRec x.type && decide (x.type < Tryz.prog.types.size)).getD false) = true := by kernel_rfl
  have h := List.all_eq_true.1 hb n hn
  rw [Bool.or_eq_true] at h
  rcases h with h | h
  · exact .inl (by simpa using h)
  refine .inr fun g t h1 h2 => ?_
  rw [h1] at h
  obtain ⟨x, hx, rfl⟩ := Option.map_eq_some_iff.1 h2
  simp only [Option.bind_some, hx, Option.map_some, Option.getD_some, Bool.and_eq_true, decide_eq_true_eq] at h
  exact h
set_option maxRecDepth 100000 in
theorem contract (H : Type) (enc : TypeId × Value → H) (W : World) (base : Nat) (args : Array Value) (ds gs : List (DataW H)) (before : List MemPlace)
    (hval0 : ∀ (j : Nat) t v, Tryz.f4.params[j]? = some t → args[j]? = some v → Value.okWide Tryz.prog W .any base t v)
    (hW : DataW.Whole enc Tryz.prog Tryz.f4.params.toList Rows.fnSameTreeSpec.vars false W args.toList ds gs before) (hL : laidMetH Tryz.prog Rows.fnSameTreeRow.laid W) :
    Calls Tryz.prog 4 args W fun e W' => ∃ v, e = .returned v ∧ Rows.fnSameTreeSpec.post enc Tryz.prog Tryz.f4 false true false false W args v W' := by
  have hval : ∀ (j : Nat) t v, Tryz.f4.params[j]? = some t → args[j]? = some v → Value.okWide Tryz.prog W .any base t v := hval0
  have hT : Tabs W := tabs_of (l := Rows.fnSameTreeRow.laid) hL (List.mem_cons_self ..) (List.mem_cons_of_mem _ (List.mem_cons_self ..))
  obtain ⟨a, hE, hvar⟩ := errs_in (W := W) (laid_tail (laid_tail hL))
  have hW' := hW
  obtain ⟨p, q, hA0, hV, rfl, hfz, hnd⟩ := hW
  have hA : DataW.TrodAll enc Tryz.prog W 0 (fun _ => true) true Tryz.f4.params.toList args.toList ds p := hA0
  rw [Tryz.params4] at hA hval
  obtain ⟨v0, vs0, d0, ds0, p0, q0, hargs, rfl, rfl, h0, r0⟩ := trodAll_cons hA
  obtain ⟨rfl, rfl, rfl⟩ := trodAll_nil r0
  obtain rfl : args = #[v0] := by cases args; simp_all
  obtain ⟨x0, x1, x2, rfl⟩ := list3 (vars_len hV)
  obtain ⟨A0, n0, cap0, rfl⟩ := okWide_slice Tryz.underlying22 (hval 0 22 v0 rfl rfl)
  have lt0 : ∀ x ∈ p0, x.block < W.heap.size := by obtain ⟨m, hm⟩ := h0; exact DataW.trod_lt m _ _ _ hm
  obtain ⟨l0, rfl, hl0, hin0⟩ := open_code h0
  clear hA0 hval0
  refine (walk A0 n0 cap0 a W hl0 hin0 hT hE).mono fun e W' ⟨he, bel⟩ => ?_
  subst he
  exact ⟨_, rfl, _, _, _, [], _, q, hW', trodAll_mk1 (shut_bool Tryz.underlying4 _), (trodAll_cons_mk (Below.trod laidOut (by kernel_rfl) (of_decide_eq_true (by kernel_rfl)) h0 bel lt0) trodAll_mk0), vars_stayE laidOut bel hvar plainVars hV, bel.frame _, fun h => by cases h⟩

/-- a world for the witness: the tables hold what their initialisers lay -/
noncomputable def laidWorld (os : Os) : World := layAllE (World.holding Tryz.prog os ⟨#[], #[], []⟩)
theorem laid_met (os : Os) : laidMet Tryz.prog Rows.fnSameTreeRow.laid ((laidWorld os).forCall (fun _ _ => 0) ⟨#[], #[.slice none 0 0], []⟩).memory :=
  laidMet_of_run' 8 (by kernel_rfl) (by kernel_rfl)
theorem reads (os : Os) {H : Type} (enc : TypeId × Value → H) : ∃ x, DataW.whole enc Tryz.prog ((laidWorld os).forCall (fun _ _ => 0) ⟨#[], #[.slice none 0 0], []⟩).memory Tryz.f4.params.toList Rows.fnSameTreeSpec.vars false (#[.slice none 0 0] : Array Value).toList 8 = some x :=
  Option.isSome_iff_exists.1 (by kernel_rfl)
set_option maxRecDepth 100000 in
theorem lifted (os : Os) (started : os.Started) (H : Type) (enc : TypeId × Value → H) (F : Stop.Interp) :
    ReturnsInHanded {} Tryz.checked os 4 .any ((OpenSpec.ofChange Rows.fnSameTreeSpec).preRow enc Tryz.prog Tryz.f4 Rows.fnSameTreeRow.domain false Rows.fnSameTreeRow.laid) (((OpenSpec.ofChange Rows.fnSameTreeSpec).at F).post enc Tryz.prog Tryz.f4 false true false false) := by
  obtain ⟨x, hx⟩ := reads os enc
  refine returnsInHanded_of_row (C := Tryz.checked) (s := OpenSpec.ofChange Rows.fnSameTreeSpec) own started (by kernel_rfl) Tryz.func4
    (witness_row_at (enc := enc) (C := Tryz.checked) false (laidWorld os) #[.slice none 0 0] rfl (by kernel_rfl) (by kernel_rfl) (by kernel_rfl)
      (OpenSpec.preRow_of_cond 8 hx rfl (fun k hk => by cases hk) (by kernel_rfl) (laid_met os))) ?_
  intro W base args ds gs before hval hW _ _ _ hL _ _
  exact contract H enc W base args ds gs before hval hW hL
theorem said : Rows.FnSameTreeSaid :=
  OpenClaim.holds_of_cond 4 Tryz.f4 rfl rfl rfl rfl rfl rfl rfl ⟨rfl, rfl, rfl, rfl, rfl⟩ rfl rfl rfl rfl rfl (by kernel_rfl) Tryz.func4 (by kernel_rfl)
    (of_decide_eq_true (by kernel_rfl)) (by unfold Func.isWrapper; first | (rw [if_pos (by decide +kernel)]; kernel_rfl) | (rw [if_neg (by decide +kernel)]; exact ⟨rfl, rfl⟩))
    (fun os started H enc _ F => by rw [OpenClaim.pre_eq_preRow]; exact lifted os started H enc F)
theorem plain (f : FuncId) (fn : Func) (hf : Tryz.pinned.checked.prog.funcNamed "loop.example/g00652/laws.FnSameTree" = some f) (hfn : Tryz.pinned.checked.prog.funcs[f]? = some fn) :
    false = Tryz.pinned.checked.prog.looks [] ∧ ∀ (j : Nat) t, fn.params[j]? = some t → Tryz.pinned.checked.prog.wantsStandIn t = false := by
  obtain rfl : f = 4 := Option.some.inj ((show Tryz.prog.funcNamed "loop.example/g00652/laws.FnSameTree" = some 4 by kernel_rfl).symm.trans hf) |>.symm
  obtain rfl : fn = Tryz.f4 := (Option.some.inj (Tryz.func4.symm.trans hfn)).symm
  refine ⟨by kernel_rfl, fun j t ht => ?_⟩
  rw [Tryz.params4] at ht
  have hm := Array.mem_of_getElem? ht
  simp only [List.mem_toArray, List.mem_cons, List.not_mem_nil, or_false] at hm
  subst hm
  exact (show Tryz.prog.wantsStandIn 22 = false by kernel_rfl)
theorem card : Rows.FnSameTreeCardSaid :=
  Claim7.holds_tied_plain_at .later [] _ _ _ _ said (fun _ h => by cases h) (by kernel_rfl) (fun _ h => by cases h) fnSameTree_row_tie rfl ⟨rfl, rfl⟩ (by kernel_rfl) rfl plain (by kernel_rfl)

end Go.Proofs.YtehblaigbcbleaaGreatDoor.LSameTree
namespace Go.Proofs.YtehblaigbcbleaaGreatDoor
theorem fnSameTree_proved : Rows.FnSameTreeCardSaid := LSameTree.card
end Go.Proofs.YtehblaigbcbleaaGreatDoor
