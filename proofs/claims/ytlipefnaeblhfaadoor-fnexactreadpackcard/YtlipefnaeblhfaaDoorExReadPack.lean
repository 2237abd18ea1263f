/-
  For every string, laws.FnExactReadPack returns true: impl.ReadPack answers as the reference does, and its answer is memory of its own. No conditions but that the two tables of the digest hold what the program's text lays (the card ties them).
-/
import Derived.Test.YtlipefnaeblhfaaDoorLPairS
import Derived.Test.YtlipefnaeblhfaaDoorLMark
import Derived.Test.YtlipefnaeblhfaaDoorQLaid
import Derived.Test.YtlipefnaeblhfaaDoorKRdS
namespace Go.Proofs.YtlipefnaeblhfaaDoor.ExReadPack
open Go.ChangeShapes Go.WideShapes Go.ChangeAt Go.RowKit
open Go.ChangeMaps (open_string shut_string)

theorem rpL_len (s : ByteArray) : (rpL s).length ≤ 60 := by
  by_cases h : rpP s
  · obtain ⟨ts, h1, h2⟩ := h
    rw [(rp_yes h1 h2).2]
    exact (objsB_iff.1 h2).1
  · rw [(rp_no h).2]; simp
set_option maxRecDepth 100000 in
set_option maxHeartbeats 2000000 in
theorem walk (s : ByteArray) (w : World) (hs : s.size ≤ maxLen) (hT : Tabs w) :
    Calls Tryd.prog 4 #[.string s] w fun e w' => e = .returned (.bool true) ∧ Below w.heap.size w w' := by
  have hm := hs
  unfold maxLen at hm
  have HT := hide hT
  have HB := hide hT.1
  clear hT hs
  by_cases hbig : 1048576 < s.size
  · go_enter Tryd.func4, Tryd.ntmps4
    go_wp2
    go_ret
    exact ⟨rfl, Below.refl _ _⟩
  · have hs1 : s.size ≤ 1048576 := by omega
    have hl := rpL_len s
    have SP := hide (fun W => specReadPack_any s W hs1)
    have IM := hide (fun W h => implReadPack_any s W hs1 h)
    unfold RetPk at SP IM
    generalize rpL s = l at *
    generalize rpB s = b at *
    have es := eqL_self l
    have hne : (b != b) = false := by simp
    go_enter Tryd.func4, Tryd.ntmps4
    go_wp2_with fail
    refine (SP.out _).mono ?_
    rintro e w1 ⟨AW, capW, rfl, ownW, b1⟩
    have B1 := hide b1
    have rW := ownW.row
    have hw1 := b1.size
    clear b1
    go_wp2_with fail
    refine (IM.out w1 (HT.out.below B1.out HB.out)).mono ?_
    rintro e w2 ⟨AX, capX, rfl, ownX, b2⟩
    have rX := ownX.row
    have hw2 := b2.size
    have B2 := hide (B1.out.trans (b2.mono B1.out.size))
    have OW2 := hide (ownW.below b2)
    have OX2 := hide ownX
    clear ownW ownX b2 B1
    go_wp2_with fail
    refine (eqPairS_any AX AW l l capX capW w2 (by unfold maxLen; omega) (by unfold maxLen; omega) OX2.out.pin OW2.out.pin).mono ?_
    rintro e w3 ⟨rfl, b3⟩
    have hw3 := b3.size
    have B3 := hide (B2.out.trans (b3.mono B2.out.size))
    have OW3 := hide (OW2.out.below b3)
    have OX3 := hide (OX2.out.below b3)
    clear b3 OW2 OX2 B2
    rw [es]
    go_wp2_with fail
    refine (markPairS_any AX l capX 1 w3 w1.heap.size (Nat.le_refl _) (by omega) OX3.out).mono ?_
    rintro e w4 ⟨rfl, own4, g4⟩
    have hw4 := g4.size
    have O4 := hide own4
    have B4 := hide (B3.out.grown g4 B3.out.size (fun k hk => by have := (rX k hk).1; omega))
    have OW4 := hide (Own.apart OW3.out g4 (fun g hg e => by have h1 := (rX g e).1; have h2 := (rW g hg).2; omega))
    clear own4 g4 OW3 OX3 B3
    have H := hide (fun W h => heldPairS_any AX l.length capX 1 W (Nat.le_refl _) (by omega) h)
    generalize hkn : 1 + 2 * l.length = kn at *
    have kn0 : ¬ ((kn : Int) < 0) := by omega
    go_wp2_with fail
    refine (H.out w4 O4.out.pin).mono ?_
    rintro e w5 ⟨rfl, b5⟩
    have hw5 := b5.size
    have B5 := hide (B4.out.trans (b5.mono B4.out.size))
    have OW5 := hide (OW4.out.below b5)
    have O5 := hide (O4.out.below b5)
    clear b5 OW4 O4 B4
    go_wp2_with fail
    refine (IM.out w5 (HT.out.below B5.out HB.out)).mono ?_
    rintro e w6 ⟨AY, capY, rfl, ownY, b6⟩
    have B6 := hide (B5.out.trans (b6.mono B5.out.size))
    have OW6 := hide (OW5.out.below b6)
    have O6 := hide (O5.out.below b6)
    have OY6 := hide ownY
    clear ownY b6 OW5 O5 B5
    go_wp2_with fail
    refine (eqPairS_any AY AW l l capY capW w6 (by unfold maxLen; omega) (by unfold maxLen; omega) OY6.out.pin OW6.out.pin).mono ?_
    rintro e w7 ⟨rfl, b7⟩
    have B7 := hide (B6.out.trans (b7.mono B6.out.size))
    have O7 := hide (O6.out.below b7)
    clear b7 OW6 O6 OY6 B6
    rw [es]
    go_wp2_with fail
    refine (H.out w7 O7.out.pin).mono ?_
    rintro e w8 ⟨rfl, b8⟩
    have B8 := hide (B7.out.trans (b8.mono B7.out.size))
    clear b8 O7 B7 H
    go_wp2
    go_ret
    exact ⟨rfl, B8.out⟩

theorem plainVars : ∀ n ∈ Rows.fnExactReadPackSpec.vars, ∀ g t, Tryd.prog.globalNamed n = some g → (Tryd.prog.globals[g]?).map (·.type) = some t → Tryd.prog.readableRec t = true ∧ t < Tryd.prog.types.size := by
  intro n hn g t h1 h2
  have hb : (Rows.fnExactReadPackSpec.vars).all (fun n => ((Tryd.prog.globalNamed n).bind fun g => (Tryd.prog.globals[g]?).map fun x => Tryd.prog.readableRec x.type && decide (x.type < Tryd.prog.types.size)).getD false) = true := by kernel_rfl
  have h := List.all_eq_true.1 hb n hn
  rw [h1] at h
  obtain ⟨x, hx, rfl⟩ := Option.map_eq_some_iff.1 h2
  simp only [Option.bind_some, hx, Option.map_some, Option.getD_some, Bool.and_eq_true, decide_eq_true_eq] at h
  exact h
set_option maxRecDepth 100000 in
theorem contract (H : Type) (enc : TypeId × Value → H) (W : World) (base : Nat) (args : Array Value) (ds gs : List (DataW H)) (before : List MemPlace)
    (hval0 : ∀ (j : Nat) t v, Tryd.f4.params[j]? = some t → args[j]? = some v → Value.okWide Tryd.prog W .any base t v)
    (hW : DataW.Whole enc Tryd.prog Tryd.f4.params.toList Rows.fnExactReadPackSpec.vars false W args.toList ds gs before) (hL : laidMetH Tryd.prog Rows.fnExactReadPackRow.laid W) :
    Calls Tryd.prog 4 args W fun e W' => ∃ v, e = .returned v ∧ Rows.fnExactReadPackSpec.post enc Tryd.prog Tryd.f4 false true false false W args v W' := by
  have hval : ∀ (j : Nat) t v, Tryd.f4.params[j]? = some t → args[j]? = some v → Value.okWide Tryd.prog W .any base t v := hval0
  have hT : Tabs W := tabs_of (l := Rows.fnExactReadPackRow.laid) hL (List.mem_cons_self ..) (List.mem_cons_of_mem _ (List.mem_cons_self ..))
  have hW' := hW
  obtain ⟨p, q, hA0, hV, rfl, hfz, hnd⟩ := hW
  have hA : DataW.TrodAll enc Tryd.prog W 0 (fun _ => true) true Tryd.f4.params.toList args.toList ds p := hA0
  rw [Tryd.params4] at hA hval
  obtain ⟨v0, vs0, d0, ds0, p0, q0, hargs, rfl, rfl, h0, r0⟩ := trodAll_cons hA
  obtain ⟨rfl, rfl, rfl⟩ := trodAll_nil r0
  obtain rfl : args = #[v0] := by cases args; simp_all
  obtain ⟨x0, x1, rfl⟩ := list2 (vars_len hV)
  obtain ⟨s0, rfl, rfl, rfl, hs0⟩ := open_string Tryd.underlying9 (hval 0 9 v0 rfl rfl) h0
  clear hA0 hval0
  refine (walk s0 W hs0 hT).mono fun e W' ⟨he, bel⟩ => ?_
  subst he
  exact ⟨_, rfl, _, _, _, [], _, q, hW', trodAll_mk1 (shut_bool Tryd.underlying4 _), (trodAll_cons_mk (shut_string Tryd.underlying9 hs0) trodAll_mk0), vars_stay laidOut bel plainVars hV, bel.frame _, fun h => by cases h⟩

/-- a world for the witness: the tables hold what their initialisers lay -/
noncomputable def laidWorld (os : Os) : World := layAll (World.holding Tryd.prog os ⟨#[], #[], []⟩)
theorem laid_met (os : Os) : laidMet Tryd.prog Rows.fnExactReadPackRow.laid ((laidWorld os).forCall (fun _ _ => 0) ⟨#[], #[.string ByteArray.empty], []⟩).memory :=
  laidMet_of_run' 8 (by kernel_rfl) (by kernel_rfl)
theorem reads (os : Os) {H : Type} (enc : TypeId × Value → H) : ∃ x, DataW.whole enc Tryd.prog ((laidWorld os).forCall (fun _ _ => 0) ⟨#[], #[.string ByteArray.empty], []⟩).memory Tryd.f4.params.toList Rows.fnExactReadPackSpec.vars false (#[.string ByteArray.empty] : Array Value).toList 8 = some x :=
  Option.isSome_iff_exists.1 (by kernel_rfl)
set_option maxRecDepth 100000 in
theorem lifted (os : Os) (started : os.Started) (H : Type) (enc : TypeId × Value → H) (F : Stop.Interp) :
    ReturnsInHanded {} Tryd.checked os 4 .any ((OpenSpec.ofChange Rows.fnExactReadPackSpec).preRow enc Tryd.prog Tryd.f4 Rows.fnExactReadPackRow.domain false Rows.fnExactReadPackRow.laid) (((OpenSpec.ofChange Rows.fnExactReadPackSpec).at F).post enc Tryd.prog Tryd.f4 false true false false) := by
  obtain ⟨x, hx⟩ := reads os enc
  refine returnsInHanded_of_row (C := Tryd.checked) (s := OpenSpec.ofChange Rows.fnExactReadPackSpec) own started (by kernel_rfl) Tryd.func4
    (witness_row_at (enc := enc) (C := Tryd.checked) false (laidWorld os) #[.string ByteArray.empty] rfl (by kernel_rfl) (by kernel_rfl) (by kernel_rfl)
      (OpenSpec.preRow_of_cond 8 hx rfl (fun k hk => by cases hk) (by kernel_rfl) (laid_met os))) ?_
  intro W base args ds gs before hval hW _ _ _ hL _ _
  exact contract H enc W base args ds gs before hval hW hL
theorem said : Rows.FnExactReadPackSaid :=
  OpenClaim.holds_of_cond 4 Tryd.f4 rfl rfl rfl rfl rfl rfl rfl ⟨rfl, rfl, rfl, rfl, rfl⟩ rfl rfl rfl rfl rfl (by kernel_rfl) Tryd.func4 (by kernel_rfl)
    (of_decide_eq_true (by kernel_rfl)) (by unfold Func.isWrapper; first | (rw [if_pos (by decide +kernel)]; kernel_rfl) | (rw [if_neg (by decide +kernel)]; exact ⟨rfl, rfl⟩))
    (fun os started H enc _ F => by rw [OpenClaim.pre_eq_preRow]; exact lifted os started H enc F)
theorem plain (f : FuncId) (fn : Func) (hf : Tryd.pinned.checked.prog.funcNamed "loop.example/g00652/laws.FnExactReadPack" = some f) (hfn : Tryd.pinned.checked.prog.funcs[f]? = some fn) :
    false = Tryd.pinned.checked.prog.looks [] ∧ ∀ (j : Nat) t, fn.params[j]? = some t → Tryd.pinned.checked.prog.wantsStandIn t = false := by
  obtain rfl : f = 4 := Option.some.inj ((show Tryd.prog.funcNamed "loop.example/g00652/laws.FnExactReadPack" = some 4 by kernel_rfl).symm.trans hf) |>.symm
  obtain rfl : fn = Tryd.f4 := (Option.some.inj (Tryd.func4.symm.trans hfn)).symm
  refine ⟨by kernel_rfl, fun j t ht => ?_⟩
  rw [Tryd.params4] at ht
  have hm := Array.mem_of_getElem? ht
  simp only [List.mem_toArray, List.mem_cons, List.not_mem_nil, or_false] at hm
  subst hm
  exact (show Tryd.prog.wantsStandIn 9 = false by kernel_rfl)
theorem card : Rows.FnExactReadPackCardSaid :=
  Claim7.holds_tied_plain_at .later [] _ _ _ _ said (fun _ h => by cases h) (by kernel_rfl) (fun _ h => by cases h) fnExactReadPack_row_tie rfl ⟨rfl, rfl⟩ (by kernel_rfl) rfl plain (by kernel_rfl)

end Go.Proofs.YtlipefnaeblhfaaDoor.ExReadPack
namespace Go.Proofs.YtlipefnaeblhfaaDoor
theorem fnExactReadPack_proved : Rows.FnExactReadPackCardSaid := ExReadPack.card
end Go.Proofs.YtlipefnaeblhfaaDoor
