/-
  For every code, laws.FnIds returns true: an id is sixteen digits of the digest of a text. No conditions but that the two tables hold what the program's text lays (the card ties them).
-/
import Derived.Test.YtklcjeelccblaaaDoorQLaid
import Derived.Test.YtklcjeelccblaaaDoorRdSha
import Derived.Test.YtklcjeelccblaaaDoorRdCode
import Derived.Test.YtklcjeelccblaaaDoorQIdOk
namespace Go.Proofs.YtklcjeelccblaaaDoor.LIds
open Go.RowKit Go.ChangeShapes Go.WideShapes Go.ChangeAt
open Go.ChangeMaps (open_string shut_string)

/-- the digits of an id, one by one -/
theorem hexTo_byte (d : ByteArray) : ∀ z ∈ hexTo d 8, 0 ≤ z ∧ z < 256 := by
  intro z hz
  simp only [hexTo, List.mem_flatMap, List.mem_range, List.mem_cons, List.not_mem_nil, or_false] at hz
  obtain ⟨j, _, e⟩ := hz
  have := sB_byte d j
  rcases e with e | e <;> subst e <;> exact hexD_byte (by omega) (by omega)
theorem hex_at (d : ByteArray) (k r : Nat) (hk : k < 8) (hr : r < 2) (h : 2 * k + r < (hexB d).size) : ((hexB d)[2 * k + r].toNat : Int) = [hexD (sB d k / 16), hexD (sB d k % 16)].getD r 0 := by
  rw [← sB_in h]
  unfold hexB
  rw [sB_nums _ (hexTo_byte d), hexTo_get d 8 k r hk hr]
theorem hexI_digit {n : Int} (h : 0 ≤ n) (h' : n < 16) : QI.hexI (hexD n) = true := by
  unfold hexD
  split
  · exact QI.hexI_yes (.inr ⟨by omega, by omega⟩)
  · exact QI.hexI_yes (.inl ⟨by omega, by omega⟩)
theorem hexB_ok (d : ByteArray) : QI.idB (hexB d) = true := by
  refine QI.idB_yes (hexB_size d) fun j hj _ => ?_
  have hz := hexB_size d
  have hd := sB_byte d (j / 2)
  rcases Nat.mod_two_eq_zero_or_one j with e | e
  · have h := hex_at d (j / 2) 0 (by omega) (by omega) (by omega)
    simp only [show 2 * (j / 2) + 0 = j by omega] at h
    rw [h]
    exact hexI_digit (by omega) (by omega)
  · have h := hex_at d (j / 2) 1 (by omega) (by omega) (by omega)
    simp only [show 2 * (j / 2) + 1 = j by omega] at h
    rw [h]
    exact hexI_digit (by omega) (by omega)

set_option maxRecDepth 100000 in
set_option maxHeartbeats 4000000 in
theorem walk (A : Option Addr) (n : Nat) (cap : Nat) (w : World) (hl : n ≤ maxLen) (hin : CIn w w.heap.size A n) (hT : Tabs w) :
    Calls Tryd.prog 3 #[.slice A n cap] w fun e w' => e = .returned (.bool true) ∧ Below w.heap.size w w' := by
  by_cases hbig : 1048576 < n
  · have d : decide (1048576 < n) = true := decide_eq_true hbig
    go_enter Tryd.func3, Tryd.ntmps3
    go_wp2_with (go_at_call 7; refine (big_any A n cap _ hl).mono ?_; rintro e w' ⟨rfl, rfl⟩)
    go_ret
    exact ⟨rfl, Below.refl _ _⟩
  have hn : n ≤ 1048576 := by omega
  have d : decide (1048576 < n) = false := decide_eq_false hbig
  have IN := hide hin
  have HT := hide hT
  have HL := hide hl
  have HB := hide hT.1
  clear hin hT hl
  go_enter Tryd.func3, Tryd.ntmps3
  go_wp2_with fail
  refine (big_any A n cap w HL.out).mono ?_
  rintro e w' ⟨rfl, rfl⟩
  go_wp2_with fail
  refine (drawSha_any A n cap w hn IN.out).mono ?_
  rintro e w1 ⟨s, hs, rfl, b1⟩
  have B1 := hide b1
  have m1 : Hid (s.size ≤ maxLen) := hide (by unfold maxLen; omega)
  clear b1
  go_wp2_with fail
  refine (implSha s w1 m1.out (HT.out.below B1.out HB.out)).mono ?_
  rintro e w2 ⟨rfl, b2⟩
  have B2 := hide (B1.out.trans (b2.mono B1.out.size))
  have I2 := hide ((IN.out.keep B2.out).more B2.out.size)
  clear b2 B1
  go_wp2_with fail
  refine (drawIdOf_any A n cap w2 hn I2.out).mono ?_
  rintro e w3 ⟨t, ht, rfl, b3⟩
  have B3 := hide (B2.out.trans (b3.mono B2.out.size))
  have m2 : Hid (t.size ≤ maxLen) := hide (by unfold maxLen; omega)
  clear b3 B2 I2
  go_wp2_with fail
  refine (implId t w3 m2.out (HT.out.below B3.out HB.out)).mono ?_
  rintro e w4 ⟨rfl, b4⟩
  have B4 := hide (B3.out.trans (b4.mono B3.out.size))
  have I4 := hide ((IN.out.keep B4.out).more B4.out.size)
  clear b4 B3
  go_wp2_with fail
  refine (drawIdOk_any A n cap w4 hn I4.out).mono ?_
  rintro e w5 ⟨x, hx, rfl, b5⟩
  have B5 := hide (B4.out.trans (b5.mono B4.out.size))
  have m3 : Hid (x.size ≤ maxLen) := hide (by unfold maxLen; omega)
  clear b5 B4 I4
  go_wp2_with fail
  refine (specSha s w5 m1.out).mono ?_
  rintro e w6 ⟨rfl, b6⟩
  have B6 := hide (B5.out.trans (b6.mono B5.out.size))
  clear b6 B5
  have e1 : ((shaB s).toList != (shaB s).toList) = false := by simp
  generalize shaB s = d1 at e1 ⊢
  go_wp2_with fail
  refine (specId t w6 m2.out).mono ?_
  rintro e w7 ⟨rfl, b7⟩
  have B7 := hide (B6.out.trans (b7.mono B6.out.size))
  clear b7 B6
  have ei : Hid (idT t = hexB (shaL t)) := hide (idT_in (by omega))
  have e2 : ((idT t).toList != (idT t).toList) = false := by simp
  have z2 : (idT t).size = 16 := by rw [idT_in (by omega)]; exact idL_size t
  have hne : (idT t).toList.isEmpty = false := by
    have hl : (idT t).toList.length = 16 := by rw [Go.ByteArray.toList_eq]; simpa using z2
    cases h : (idT t).toList with
    | nil => rw [h] at hl; simp at hl
    | cons _ _ => rfl
  have Z2 := hide z2
  clear z2
  go_wp2_with fail
  refine (QI.implIdOk_any x w7 m3.out).mono ?_
  rintro e w' ⟨rfl, rfl⟩
  go_wp2_with fail
  refine (QI.specIdOk_any x w7 m3.out).mono ?_
  rintro e w' ⟨rfl, rfl⟩
  have e3 : (QI.idB x != QI.idB x) = false := by simp
  generalize QI.idB x = bx at e3 ⊢
  go_wp2_with fail
  refine (implSha t w7 m2.out (HT.out.below B7.out HB.out)).mono ?_
  rintro e w8 ⟨rfl, b8⟩
  have B8 := hide (B7.out.trans (b8.mono B7.out.size))
  have es : Hid (shaB t = shaL t) := hide (shaB_in (by omega))
  have zs : (shaB t).size = 32 := by rw [shaB_in (by omega)]; exact shaL_size t
  clear b8 B7
  have HI : Hid (idT t = hexB (shaB t)) := hide (by rw [ei.out, es.out])
  have m4 : Hid ((idT t).size ≤ maxLen) := hide (by rw [Z2.out]; unfold maxLen; omega)
  have z1 : (idT t).size ≤ 16 := by rw [Z2.out]; omega
  have z2 : 16 ≤ (idT t).size := by rw [Z2.out]; omega
  have z3 : (shaB t).size ≤ 32 := by omega
  have z4 : 32 ≤ (shaB t).size := by omega
  clear ei es zs Z2 e1 e2 e3
  generalize idT t = iv at *
  generalize shaB t = ev at *
  go_wp2_with fail
  go_loopw [10] (fun iv' wr => ∃ k : Nat, k ≤ 8 ∧ iv' = .int .i64 (k : Int) ∧ Hid (Below w.heap.size w wr)) (fun i _ => 8 - (intOf i).toNat)
  case atStart => exact ⟨0, by omega, rfl, B8⟩
  case round =>
    obtain ⟨k, hk, rfl, Q⟩ := hrel
    by_cases hlt : k < 8
    · have a0 : sB iv (2 * k) = hexD (sB ev k / 16) := by rw [HI.out]; unfold hexB; rw [sB_nums _ (hexTo_byte ev)]; exact hexTo_get ev 8 k 0 hlt (by omega)
      have a1 : sB iv (2 * k + 1) = hexD (sB ev k % 16) := by rw [HI.out]; unfold hexB; rw [sB_nums _ (hexTo_byte ev)]; exact hexTo_get ev 8 k 1 hlt (by omega)
      have hb := ev[k].toNat_lt
      have hb2 : (ev[k].toNat : Int) < 256 := by omega
      have q0 := hex_tab (ev[k].toNat / 16) (by omega)
      have q1 := hex_tab (ev[k].toNat % 16) (by omega)
      rw [sB_in (by omega), sB_in (by omega)] at a0 a1
      have t0 : ((iv[2 * k].toNat : Int) != (((⟨#[48, 49, 50, 51, 52, 53, 54, 55, 56, 57, 97, 98, 99, 100, 101, 102]⟩ : ByteArray)[ev[k].toNat / 16]'(by show ev[k].toNat / 16 < 16; omega)).toNat : Int)) = false := by
        rw [bne_eq_false_iff_eq, a0]
        exact q0.symm
      have t1 : ((iv[2 * k + 1].toNat : Int) != (((⟨#[48, 49, 50, 51, 52, 53, 54, 55, 56, 57, 97, 98, 99, 100, 101, 102]⟩ : ByteArray)[ev[k].toNat % 16]'(by show ev[k].toNat % 16 < 16; omega)).toNat : Int)) = false := by
        rw [bne_eq_false_iff_eq, a1]
        exact q1.symm
      clear a0 a1 q0 q1
      have p0 : (0 : Int) ≤ (k : Int) := by omega
      have p1 : (k : Int) < (ev.size : Int) := by omega
      have p2 : (0 : Int) ≤ 2 * (k : Int) := by omega
      have p3 : 2 * (k : Int) < (iv.size : Int) := by omega
      have p4 : (0 : Int) ≤ 2 * (k : Int) + 1 := by omega
      have p5 : 2 * (k : Int) + 1 < (iv.size : Int) := by omega
      have p6 : (2 * (k : Int)).toNat = 2 * k := by omega
      have p7 : (2 * (k : Int) + 1).toNat = 2 * k + 1 := by omega
      have w1' : IntKind.i64.wrap (2 * (k : Int)) = 2 * (k : Int) := by rw [IntKind.wrap_i64]; omega
      have w2' : IntKind.i64.wrap (2 * (k : Int) + 1) = 2 * (k : Int) + 1 := by rw [IntKind.wrap_i64]; omega
      have r0 : (0 : Int) ≤ (ev[k].toNat : Int) / 16 := by omega
      have r1 : (ev[k].toNat : Int) / 16 < 16 := by omega
      have r2 : (0 : Int) ≤ (ev[k].toNat : Int) % 16 := by omega
      have r3 : (ev[k].toNat : Int) % 16 < 16 := by omega
      have r4 : ((ev[k].toNat : Int) / 16).toNat = ev[k].toNat / 16 := by omega
      have r5 : ((ev[k].toNat : Int) % 16).toNat = ev[k].toNat % 16 := by omega
      go_wp2
      go_quiet (fail)
      go_wp2
      exact ⟨⟨k + 1, by omega, by go_num, hide ⟨Q.out.os, Q.out.tape, Q.out.output, Q.out.size, Q.out.block⟩⟩, by simp [intOf]; omega⟩
    · have hgt : ¬ ((k : Int) < 8) := by omega
      clear hlt
      go_wp2_with fail
      refine (QI.implIdOk_any iv _ m4.out).mono ?_
      rintro e w' ⟨rfl, rfl⟩
      have ok : QI.idB iv = true := by rw [HI.out]; exact hexB_ok ev
      have l1 : ((iv.size : Int) == 16) = true := by simp; omega
      have l2 : ((ev.size : Int) == 32) = true := by simp; omega
      go_wp2
      go_ret
      exact ⟨rfl, Q.out⟩

theorem plainVars : ∀ n ∈ Rows.fnIdsSpec.vars, ∀ g t, Tryd.prog.globalNamed n = some g → (Tryd.prog.globals[g]?).map (·.type) = some t → Tryd.prog.readableRec t = true ∧ t < Tryd.prog.types.size := by
  intro n hn g t h1 h2
  have hb : (Rows.fnIdsSpec.vars).all (fun n => ((Tryd.prog.globalNamed n).bind fun g => (Tryd.prog.globals[g]?).map fun x => Tryd.prog.readableRec x.type && decide (x.type < Tryd.prog.types.size)).getD false) = true := by kernel_rfl
  have h := List.all_eq_true.1 hb n hn
  rw [h1] at h
  obtain ⟨x, hx, rfl⟩ := Option.map_eq_some_iff.1 h2
  simp only [Option.bind_some, hx, Option.map_some, Option.getD_some, Bool.and_eq_true, decide_eq_true_eq] at h
  exact h
theorem contract (H : Type) (enc : TypeId × Value → H) (W : World) (base : Nat) (args : Array Value) (ds gs : List (DataW H)) (before : List MemPlace)
    (hval0 : ∀ (j : Nat) t v, Tryd.f3.params[j]? = some t → args[j]? = some v → Value.okWide Tryd.prog W .any base t v)
    (hW : DataW.Whole enc Tryd.prog Tryd.f3.params.toList Rows.fnIdsSpec.vars false W args.toList ds gs before) (hL : laidMetH Tryd.prog Rows.fnIdsRow.laid W) :
    Calls Tryd.prog 3 args W fun e W' => ∃ v, e = .returned v ∧ Rows.fnIdsSpec.post enc Tryd.prog Tryd.f3 false true false false W args v W' := by
  have hval : ∀ (j : Nat) t v, Tryd.f3.params[j]? = some t → args[j]? = some v → Value.okWide Tryd.prog W .any base t v := hval0
  have hT : Tabs W := tabs_of (l := Rows.fnIdsRow.laid) hL (List.mem_cons_self ..) (List.mem_cons_of_mem _ (List.mem_cons_self ..))
  have hW' := hW
  obtain ⟨p, q, hA0, hV, rfl, hfz, hnd⟩ := hW
  have hA : DataW.TrodAll enc Tryd.prog W 0 (fun _ => true) true Tryd.f3.params.toList args.toList ds p := hA0
  rw [Tryd.params3] at hA hval
  obtain ⟨v0, vs0, d0, ds0, p0, q0, hargs, rfl, rfl, h0, r0⟩ := trodAll_cons hA
  obtain ⟨rfl, rfl, rfl⟩ := trodAll_nil r0
  obtain rfl : args = #[v0] := by cases args; simp_all
  obtain ⟨x0, x1, rfl⟩ := list2 (vars_len hV)
  obtain ⟨A0, n0, cap0, rfl⟩ := okWide_slice Tryd.underlying22 (hval 0 22 v0 rfl rfl)
  have lt0 : ∀ x ∈ p0, x.block < W.heap.size := by obtain ⟨m, hm⟩ := h0; exact DataW.trod_lt m _ _ _ hm
  obtain ⟨l0, rfl, hl0, hin0⟩ := open_code h0
  clear hA0 hval0
  refine (walk A0 n0 cap0 W hl0 hin0 hT).mono fun e W' ⟨he, bel⟩ => ?_
  subst he
  exact ⟨_, rfl, _, _, _, [], _, q, hW', trodAll_mk1 (shut_bool Tryd.underlying4 _), (trodAll_cons_mk (Below.trod laidOut (by kernel_rfl) (of_decide_eq_true (by kernel_rfl)) h0 bel lt0) trodAll_mk0), vars_stay laidOut bel plainVars hV, bel.frame _, fun h => by cases h⟩

/-- a world for the witness: the tables hold what their initialisers lay -/
noncomputable def laidWorld (os : Os) : World := layAll (World.holding Tryd.prog os ⟨#[], #[], []⟩)
theorem laid_met (os : Os) : laidMet Tryd.prog Rows.fnIdsRow.laid ((laidWorld os).forCall (fun _ _ => 0) ⟨#[], #[.slice none 0 0], []⟩).memory :=
  laidMet_of_run' 8 (by kernel_rfl) (by kernel_rfl)
theorem reads (os : Os) {H : Type} (enc : TypeId × Value → H) : ∃ x, DataW.whole enc Tryd.prog ((laidWorld os).forCall (fun _ _ => 0) ⟨#[], #[.slice none 0 0], []⟩).memory Tryd.f3.params.toList Rows.fnIdsSpec.vars false (#[.slice none 0 0] : Array Value).toList 8 = some x :=
  Option.isSome_iff_exists.1 (by kernel_rfl)
set_option maxRecDepth 100000 in
theorem lifted (os : Os) (started : os.Started) (H : Type) (enc : TypeId × Value → H) (F : Stop.Interp) :
    ReturnsInHanded {} Tryd.checked os 3 .any ((OpenSpec.ofChange Rows.fnIdsSpec).preRow enc Tryd.prog Tryd.f3 Rows.fnIdsRow.domain false Rows.fnIdsRow.laid) (((OpenSpec.ofChange Rows.fnIdsSpec).at F).post enc Tryd.prog Tryd.f3 false true false false) := by
  obtain ⟨x, hx⟩ := reads os enc
  refine returnsInHanded_of_row (C := Tryd.checked) (s := OpenSpec.ofChange Rows.fnIdsSpec) own started (by kernel_rfl) Tryd.func3
    (witness_row_at (enc := enc) (C := Tryd.checked) false (laidWorld os) #[.slice none 0 0] rfl (by kernel_rfl) (by kernel_rfl) (by kernel_rfl)
      (OpenSpec.preRow_of_cond 8 hx rfl (fun k hk => by cases hk) (by kernel_rfl) (laid_met os))) ?_
  intro W base args ds gs before hval hW _ _ _ hL _ _
  exact contract H enc W base args ds gs before hval hW hL
theorem said : Rows.FnIdsSaid :=
  OpenClaim.holds_of_cond 3 Tryd.f3 rfl rfl rfl rfl rfl rfl rfl ⟨rfl, rfl, rfl, rfl, rfl⟩ rfl rfl rfl rfl rfl (by kernel_rfl) Tryd.func3 (by kernel_rfl)
    (of_decide_eq_true (by kernel_rfl)) (by unfold Func.isWrapper; first | (rw [if_pos (by decide +kernel)]; kernel_rfl) | (rw [if_neg (by decide +kernel)]; exact ⟨rfl, rfl⟩))
    (fun os started H enc _ F => by rw [OpenClaim.pre_eq_preRow]; exact lifted os started H enc F)
theorem plain (f : FuncId) (fn : Func) (hf : Tryd.pinned.checked.prog.funcNamed "loop.example/g00652/laws.FnIds" = some f) (hfn : Tryd.pinned.checked.prog.funcs[f]? = some fn) :
    false = Tryd.pinned.checked.prog.looks [] ∧ ∀ (j : Nat) t, fn.params[j]? = some t → Tryd.pinned.checked.prog.wantsStandIn t = false := by
  obtain rfl : f = 3 := Option.some.inj ((show Tryd.prog.funcNamed "loop.example/g00652/laws.FnIds" = some 3 by kernel_rfl).symm.trans hf) |>.symm
  obtain rfl : fn = Tryd.f3 := (Option.some.inj (Tryd.func3.symm.trans hfn)).symm
  refine ⟨by kernel_rfl, fun j t ht => ?_⟩
  rw [Tryd.params3] at ht
  have hm := Array.mem_of_getElem? ht
  simp only [List.mem_toArray, List.mem_cons, List.not_mem_nil, or_false] at hm
  subst hm
  exact (show Tryd.prog.wantsStandIn 22 = false by kernel_rfl)
theorem card : Rows.FnIdsCardSaid :=
  Claim7.holds_tied_plain_at .later [] _ _ _ _ said (fun _ h => by cases h) (by kernel_rfl) (fun _ h => by cases h) fnIds_row_tie rfl ⟨rfl, rfl⟩ (by kernel_rfl) rfl plain (by kernel_rfl)

end Go.Proofs.YtklcjeelccblaaaDoor.LIds
namespace Go.Proofs.YtklcjeelccblaaaDoor
theorem fnIds_proved : Rows.FnIdsCardSaid := LIds.card
end Go.Proofs.YtklcjeelccblaaaDoor
