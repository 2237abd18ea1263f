/-
  For every list of objects and every two ids, laws.FnExactBasesOf returns true and leaves its arguments as they were: impl.BasesOf answers as the reference does, and its answer is memory of its own. No conditions but that the two tables of the digest and the sentinel of the reader hold what the program's text lays (the card ties them).
-/
import Derived.Test.YtmiknjccdcploaaGreatDoorJO
import Derived.Test.YtmiknjccdcploaaGreatDoorJC
import Derived.Test.YtmiknjccdcploaaGreatDoorJB
import Derived.Test.YtmiknjccdcploaaGreatDoorJW
import Derived.Test.YtmiknjccdcploaaGreatDoorCfBasesOf
namespace Go.Proofs.YtmiknjccdcploaaGreatDoor.ExBasesOf
open Go.RowKit Go.ChangeShapes Go.WideShapes Go.ChangeAt
open Go.ChangeMaps (open_string shut_string)

set_option maxRecDepth 100000 in
set_option maxHeartbeats 4000000 in
theorem walk (A0 : Option Addr) (l0 : List Pr) (cap0 : Nat) (x : ByteArray) (y : ByteArray) (a : Addr) (w : World) (hl0 : l0.length ≤ maxLen) (hin0 : PIn w w.heap.size A0 l0) (hs1 : x.size ≤ maxLen) (hs2 : y.size ≤ maxLen) (hT : Tabs w) (hE : ErrC w a) :
    Calls Tryz.prog 3 #[.slice A0 l0.length cap0, .string x, .string y] w fun e w' => e = .returned (.bool true) ∧ Below w.heap.size w w' := by
  have hs12 := hs1
  unfold maxLen at hs12
  by_cases hbig1 : 1048576 < x.size
  · go_enter Tryz.func3, Tryz.ntmps3
    go_wp2
    go_ret
    exact ⟨rfl, Below.refl _ _⟩
  have hs22 := hs2
  unfold maxLen at hs22
  by_cases hbig2 : 1048576 < y.size
  · go_enter Tryz.func3, Tryz.ntmps3
    go_wp2
    go_ret
    exact ⟨rfl, Below.refl _ _⟩
  have es0 := eqL_self l0
  have e2 : (true != true) = false := by simp
  have HT := hide hT
  have HB := hide hT.1
  have HE := hide hE
  have IN0 := hide hin0
  have B0 : Hid (Below w.heap.size w w) := hide (Below.refl _ _)
  clear hin0 hT hE
  go_enter Tryz.func3, Tryz.ntmps3
  go_wp2_with fail
  refine (szPairS_each A0 l0 cap0 1048576 _ hl0 ((IN0.out.below B0.out).more B0.out.size) (by omega) (by omega)).mono ?_
  rintro e w1 ⟨hr1, b1⟩
  have B1 := hide (B0.out.trans (b1.mono B0.out.size))
  clear b1 B0
  rcases hr1 with rfl | ⟨r1, hr10, hr11, hse, rfl⟩
  · go_wp2
    go_ret
    exact ⟨rfl, B1.out⟩
  have hm0 : l0.length ≤ 1048576 := by omega
  have HZ := hide (fun k => valOf_each hse k)
  clear hse
  have zw := B1.out.size
  have hp0 : (bestK l0 x y).length ≤ 60 := bestK_len l0 x y
  have hpm0 : (bestK l0 x y).length ≤ maxLen := by unfold maxLen; omega
  go_wp2_with fail
  refine (toPairS_any A0 l0 cap0 _ hm0 ((IN0.out.below B1.out).more B1.out.size)).mono ?_
  rintro e w2 ⟨rfl, own2, b2⟩
  have B2 := hide (B1.out.trans (b2.mono B1.out.size))
  have z2 := b2.size
  clear b2 B1 
  have rS0 := own2.row
  have S0_2 := hide own2
  clear own2
  go_wp2_with fail
  refine (specBases_any _ l0 l0.length x y _ hl0 (S0_2.out.pin) HZ.out).mono ?_
  rintro e w3 ⟨AW0, capW0, rfl, own3_0, b3⟩
  have B3 := hide (B2.out.trans (b3.mono B2.out.size))
  have z3 := b3.size
  have S0_3 := hide (S0_2.out.below b3)
  clear b3 B2 S0_2
  have rW0 := own3_0.row
  have W0_3 := hide own3_0
  clear own3_0
  clear S0_3
  go_wp2_with fail
  refine (toPairS_any A0 l0 cap0 _ hm0 ((IN0.out.below B3.out).more B3.out.size)).mono ?_
  rintro e w4 ⟨rfl, own4, b4⟩
  have B4 := hide (B3.out.trans (b4.mono B3.out.size))
  have z4 := b4.size
  have W0_4 := hide (W0_3.out.below b4)
  clear b4 B3 W0_3
  have rX0 := own4.row
  have X0_4 := hide own4
  clear own4
  go_wp2_with fail
  refine (implBases_any _ l0 l0.length x y a _ hl0 (X0_4.out.pin) hs1 hs2 (HT.out.below B4.out HB.out) (HE.out.below B4.out)).mono ?_
  rintro e w5 ⟨AG0, capG0, rfl, own5_0, b5⟩
  have B5 := hide (B4.out.trans (b5.mono B4.out.size))
  have z5 := b5.size
  have W0_5 := hide (W0_4.out.below b5)
  have X0_5 := hide (X0_4.out.below b5)
  clear b5 B4 W0_4 X0_4
  have rG0 := own5_0.row
  have G0_5 := hide own5_0
  clear own5_0
  have apX0W0 : Hid (∀ g, rowOf (AW0 : Option Addr) = some g → rowOf ((some ⟨w3.heap.size, 0, none⟩) : Option Addr) ≠ some g) := hide (fun g hg x => by have h1 := rW0 g hg; have h2 := rX0 g x; omega)
  have apX0G0 : Hid (∀ g, rowOf (AG0 : Option Addr) = some g → rowOf ((some ⟨w3.heap.size, 0, none⟩) : Option Addr) ≠ some g) := hide (fun g hg x => by have h1 := rG0 g hg; have h2 := rX0 g x; omega)
  have hzX0 : Hid (∀ g, rowOf ((some ⟨w3.heap.size, 0, none⟩) : Option Addr) = some g → w.heap.size ≤ g) := hide (fun g hg => by have h1 := rX0 g hg; have h2 := B5.out.size; omega)
  have apG0W0 : Hid (∀ g, rowOf AW0 = some g → rowOf AG0 ≠ some g) := hide (fun g hg x => by have h1 := rW0 g hg; have h2 := rG0 g x; omega)
  have hzG0 : Hid (∀ g, rowOf AG0 = some g → w.heap.size ≤ g) := hide (fun g hg => by have h1 := rG0 g hg; omega)
  clear rW0 rG0 rX0 rS0
  go_wp2_with fail
  refine (eqStringZ_same _ _ (bestK l0 x y) (capG0) (capW0) _ _ _ hpm0 G0_5.out.zin W0_5.out.zin).mono ?_
  rintro e w6 ⟨rfl, b6⟩
  replace b6 := b6.below w5.heap.size
  have B6 := hide (B5.out.trans (b6.mono B5.out.size))
  have z6 := b6.size
  have W0_6 := hide (W0_5.out.below b6)
  have X0_6 := hide (X0_5.out.below b6)
  have G0_6 := hide (G0_5.out.below b6)
  clear b6 B5 W0_5 X0_5 G0_5
  go_wp2_with fail
  refine (toPairS_any A0 l0 cap0 _ hm0 ((IN0.out.below B6.out).more B6.out.size)).mono ?_
  rintro e w7 ⟨rfl, own7, b7⟩
  have B7 := hide (B6.out.trans (b7.mono B6.out.size))
  have z7 := b7.size
  have W0_7 := hide (W0_6.out.below b7)
  have X0_7 := hide (X0_6.out.below b7)
  have G0_7 := hide (G0_6.out.below b7)
  clear b7 B6 W0_6 X0_6 G0_6
  have rY := own7.row
  have Y_7 := hide own7
  clear own7
  go_wp2_with fail
  refine (eqPairS_any _ _ (l0) (l0) (l0.length) (l0.length) _ hl0 hl0 X0_7.out.pin Y_7.out.pin).mono ?_
  rintro e w8 ⟨rfl, b8⟩
  have B8 := hide (B7.out.trans (b8.mono B7.out.size))
  have z8 := b8.size
  have W0_8 := hide (W0_7.out.below b8)
  have X0_8 := hide (X0_7.out.below b8)
  have G0_8 := hide (G0_7.out.below b8)
  have Y_8 := hide (Y_7.out.below b8)
  clear b8 B7 W0_7 X0_7 G0_7 Y_7
  clear Y_8
  clear rY
  go_wp2_with fail
  refine (markPairS_int _ (l0) (l0.length) (_) (1) _ _ (by omega) (by omega) (by omega) X0_8.out).mono ?_
  rintro e w9 ⟨rfl, ow9, g9⟩
  have B9 := hide (B8.out.grown g9 B8.out.size hzX0.out)
  have W0_9 := hide (W0_8.out.apart g9 apX0W0.out)
  have G0_9 := hide (G0_8.out.apart g9 apX0G0.out)
  clear B8 W0_8 G0_8
  clear X0_8 ow9 g9
  have hk1 : ¬ ((1 + 2 * l0.length : Nat) : Int) < 0 := by omega
  have hk2 : ¬ (1 + 2 * (l0.length : Int)) < 0 := by omega
  have hk3 : decide (((1 + 2 * l0.length : Nat) : Int) < 0) = false := decide_eq_false hk1
  have hk4 : decide ((1 + 2 * (l0.length : Int)) < 0) = false := decide_eq_false hk2
  go_wp2_with fail
  refine (eqStringZ_same _ _ (bestK l0 x y) (capG0) (capW0) _ _ _ hpm0 G0_9.out.zin W0_9.out.zin).mono ?_
  rintro e w10 ⟨rfl, b10⟩
  replace b10 := b10.below w9.heap.size
  have B10 := hide (B9.out.trans (b10.mono B9.out.size))
  have z10 := b10.size
  have W0_10 := hide (W0_9.out.below b10)
  have G0_10 := hide (G0_9.out.below b10)
  clear b10 B9 W0_9 G0_9
  clear hk1 hk2 hk3 hk4
  go_wp2_with fail
  refine (markStringS_int _ (bestK l0 x y) (capG0) (_) (1) _ _ (by omega) (by omega) (by omega) G0_10.out).mono ?_
  rintro e w11 ⟨rfl, ow11, g11⟩
  have B11 := hide (B10.out.grown g11 B10.out.size hzG0.out)
  have W0_11 := hide (W0_10.out.apart g11 apG0W0.out)
  clear B10 W0_10
  have G0_11 := hide ow11
  clear G0_10 ow11 g11
  go_wp2_with fail
  refine (heldStringS_any AG0 (bestK l0 x y).length capG0 _ (1) _ (by omega) (by omega) (by omega) G0_11.out.zin).mono ?_
  rintro e w12 ⟨rfl, b12⟩
  have B12 := hide (B11.out.trans (b12.mono B11.out.size))
  have z12 := b12.size
  have W0_12 := hide (W0_11.out.below b12)
  have G0_12 := hide (G0_11.out.below b12)
  clear b12 B11 W0_11 G0_11
  have hq0 : ¬ ((1 + (bestK l0 x y).length : Nat) : Int) < 0 := by omega
  have hqd0 : decide (((1 + (bestK l0 x y).length : Nat) : Int) < 0) = false := decide_eq_false hq0
  have hqe0 : (((1 + (bestK l0 x y).length : Nat) : Int) != ((1 + (bestK l0 x y).length : Nat) : Int)) = false := by simp
  go_wp2_with fail
  refine (toPairS_any A0 l0 cap0 _ hm0 ((IN0.out.below B12.out).more B12.out.size)).mono ?_
  rintro e w13 ⟨rfl, own13, b13⟩
  have B13 := hide (B12.out.trans (b13.mono B12.out.size))
  have z13 := b13.size
  have W0_13 := hide (W0_12.out.below b13)
  have G0_13 := hide (G0_12.out.below b13)
  clear b13 B12 W0_12 G0_12
  have rT0 := own13.row
  have T0_13 := hide own13
  clear own13
  go_wp2_with fail
  refine (implBases_any _ l0 l0.length x y a _ hl0 (T0_13.out.pin) hs1 hs2 (HT.out.below B13.out HB.out) (HE.out.below B13.out)).mono ?_
  rintro e w14 ⟨AH0, capH0, rfl, own14_0, b14⟩
  have B14 := hide (B13.out.trans (b14.mono B13.out.size))
  have z14 := b14.size
  have W0_14 := hide (W0_13.out.below b14)
  have G0_14 := hide (G0_13.out.below b14)
  have T0_14 := hide (T0_13.out.below b14)
  clear b14 B13 W0_13 G0_13 T0_13
  have rH0 := own14_0.row
  have H0_14 := hide own14_0
  clear own14_0
  clear T0_14
  go_wp2_with fail
  refine (eqStringZ_same _ _ (bestK l0 x y) (capH0) (capW0) _ _ _ hpm0 H0_14.out.zin W0_14.out.zin).mono ?_
  rintro e w15 ⟨rfl, b15⟩
  replace b15 := b15.below w14.heap.size
  have B15 := hide (B14.out.trans (b15.mono B14.out.size))
  have z15 := b15.size
  have W0_15 := hide (W0_14.out.below b15)
  have G0_15 := hide (G0_14.out.below b15)
  have H0_15 := hide (H0_14.out.below b15)
  clear b15 B14 W0_14 G0_14 H0_14
  clear H0_15
  clear W0_15
  go_wp2_with fail
  refine (heldStringS_any AG0 (bestK l0 x y).length capG0 _ (1) _ (by omega) (by omega) (by omega) G0_15.out.zin).mono ?_
  rintro e w16 ⟨rfl, b16⟩
  have B16 := hide (B15.out.trans (b16.mono B15.out.size))
  have z16 := b16.size
  have G0_16 := hide (G0_15.out.below b16)
  clear b16 B15 G0_15
  go_wp2
  go_ret
  exact ⟨rfl, B16.out⟩

theorem plainVars : ∀ n ∈ Rows.fnExactBasesOfSpec.vars, n = "loop.example/g00652/impl.errNoCommit" ∨ ∀ g t, Tryz.prog.globalNamed n = some g → (Tryz.prog.globals[g]?).map (·.type) = some t → Tryz.prog.readableRec t = true ∧ t < Tryz.prog.types.size := by
  intro n hn
  have hb : (Rows.fnExactBasesOfSpec.vars).all (fun n => n == "loop.example/g00652/impl.errNoCommit" || ((Tryz.prog.globalNamed n).bind fun g => (Tryz.prog.globals[g]?).map fun x => Tryz.prog.readableRec x.type && decide (x.type < Tryz.prog.types.size)).getD false) = true := by kernel_rfl
  have h := List.all_eq_true.1 hb n hn
  rw [Bool.or_eq_true] at h
  rcases h with h | h
  · exact .inl (by simpa using h)
  refine .inr fun g t h1 h2 => ?_
  rw [h1] at h
  obtain ⟨x, hx, rfl⟩ := Option.map_eq_some_iff.1 h2
  simp only [Option.bind_some, hx, Option.map_some, Option.getD_some, Bool.and_eq_true, decide_eq_true_eq] at h
  exact h
set_option maxRecDepth 100000 in
theorem contract (H : Type) (enc : TypeId × Value → H) (W : World) (base : Nat) (args : Array Value) (ds gs : List (DataW H)) (before : List MemPlace)
    (hval0 : ∀ (j : Nat) t v, Tryz.f3.params[j]? = some t → args[j]? = some v → Value.okWide Tryz.prog W .any base t v)
    (hW : DataW.Whole enc Tryz.prog Tryz.f3.params.toList Rows.fnExactBasesOfSpec.vars false W args.toList ds gs before) (hL : laidMetH Tryz.prog Rows.fnExactBasesOfRow.laid W) :
    Calls Tryz.prog 3 args W fun e W' => ∃ v, e = .returned v ∧ Rows.fnExactBasesOfSpec.post enc Tryz.prog Tryz.f3 false true false false W args v W' := by
  have hval : ∀ (j : Nat) t v, Tryz.f3.params[j]? = some t → args[j]? = some v → Value.okWide Tryz.prog W .any base t v := hval0
  have hT : Tabs W := tabs_of (l := Rows.fnExactBasesOfRow.laid) hL (List.mem_cons_self ..) (List.mem_cons_of_mem _ (List.mem_cons_self ..))
  obtain ⟨a, hE, hvar⟩ := errs_in (W := W) (laid_tail (laid_tail hL))
  have hW' := hW
  obtain ⟨p, q, hA0, hV, rfl, hfz, hnd⟩ := hW
  have hA : DataW.TrodAll enc Tryz.prog W 0 (fun _ => true) true Tryz.f3.params.toList args.toList ds p := hA0
  rw [Tryz.params3] at hA hval
  obtain ⟨v0, vs0, d0, ds0, p0, q0, hargs, rfl, rfl, h0, r0⟩ := trodAll_cons hA
  obtain ⟨v1, vs1, d1, ds1, p1, q1, rfl, rfl, rfl, h1, r1⟩ := trodAll_cons r0
  obtain ⟨v2, vs2, d2, ds2, p2, q2, rfl, rfl, rfl, h2, r2⟩ := trodAll_cons r1
  obtain ⟨rfl, rfl, rfl⟩ := trodAll_nil r2
  obtain rfl : args = #[v0, v1, v2] := by cases args; simp_all
  obtain ⟨x0, x1, x2, rfl⟩ := list3 (vars_len hV)
  obtain ⟨A0, n0, cap0, rfl⟩ := okWide_slice Tryz.underlying22 (hval 0 22 v0 rfl rfl)
  have lt0 : ∀ x ∈ p0, x.block < W.heap.size := by obtain ⟨m, hm⟩ := h0; exact DataW.trod_lt m _ _ _ hm
  obtain ⟨l0, rfl, hl0, hin0⟩ := open_pairs h0
  obtain ⟨s1, rfl, rfl, rfl, hs1⟩ := open_string Tryz.underlying9 (hval 1 9 v1 rfl rfl) h1
  obtain ⟨s2, rfl, rfl, rfl, hs2⟩ := open_string Tryz.underlying9 (hval 2 9 v2 rfl rfl) h2
  clear hA0 hval0
  refine (walk A0 l0 cap0 s1 s2 a W hl0 hin0 hs1 hs2 hT hE).mono fun e W' ⟨he, bel⟩ => ?_
  subst he
  exact ⟨_, rfl, _, _, _, [], _, q, hW', trodAll_mk1 (shut_bool Tryz.underlying4 _), (trodAll_cons_mk (Below.trod laidOut (by kernel_rfl) (of_decide_eq_true (by kernel_rfl)) h0 bel lt0) (trodAll_cons_mk (shut_string Tryz.underlying9 hs1) (trodAll_cons_mk (shut_string Tryz.underlying9 hs2) trodAll_mk0))), vars_stayE laidOut bel hvar plainVars hV, bel.frame _, fun h => by cases h⟩

/-- a world for the witness: the tables hold what their initialisers lay -/
noncomputable def laidWorld (os : Os) : World := layAllE (World.holding Tryz.prog os ⟨#[], #[], []⟩)
theorem laid_met (os : Os) : laidMet Tryz.prog Rows.fnExactBasesOfRow.laid ((laidWorld os).forCall (fun _ _ => 0) ⟨#[], #[.slice none 0 0, .string ByteArray.empty, .string ByteArray.empty], []⟩).memory :=
  laidMet_of_run' 8 (by kernel_rfl) (by kernel_rfl)
theorem reads (os : Os) {H : Type} (enc : TypeId × Value → H) : ∃ x, DataW.whole enc Tryz.prog ((laidWorld os).forCall (fun _ _ => 0) ⟨#[], #[.slice none 0 0, .string ByteArray.empty, .string ByteArray.empty], []⟩).memory Tryz.f3.params.toList Rows.fnExactBasesOfSpec.vars false (#[.slice none 0 0, .string ByteArray.empty, .string ByteArray.empty] : Array Value).toList 8 = some x :=
  Option.isSome_iff_exists.1 (by kernel_rfl)
set_option maxRecDepth 100000 in
theorem lifted (os : Os) (started : os.Started) (H : Type) (enc : TypeId × Value → H) (F : Stop.Interp) :
    ReturnsInHanded {} Tryz.checked os 3 .any ((OpenSpec.ofChange Rows.fnExactBasesOfSpec).preRow enc Tryz.prog Tryz.f3 Rows.fnExactBasesOfRow.domain false Rows.fnExactBasesOfRow.laid) (((OpenSpec.ofChange Rows.fnExactBasesOfSpec).at F).post enc Tryz.prog Tryz.f3 false true false false) := by
  obtain ⟨x, hx⟩ := reads os enc
  refine returnsInHanded_of_row (C := Tryz.checked) (s := OpenSpec.ofChange Rows.fnExactBasesOfSpec) own started (by kernel_rfl) Tryz.func3
    (witness_row_at (enc := enc) (C := Tryz.checked) false (laidWorld os) #[.slice none 0 0, .string ByteArray.empty, .string ByteArray.empty] rfl (by kernel_rfl) (by kernel_rfl) (by kernel_rfl)
      (OpenSpec.preRow_of_cond 8 hx rfl (fun k hk => by cases hk) (by kernel_rfl) (laid_met os))) ?_
  intro W base args ds gs before hval hW _ _ _ hL _ _
  exact contract H enc W base args ds gs before hval hW hL
set_option maxRecDepth 100000 in
theorem closed : joinedFacts Tryz.pinned.checked.prog 3 Tryz.f3 Rows.fnExactBasesOfSpec Rows.fnExactBasesOfRow = true := by
  unfold joinedFacts
  rw [cf1, cf2, cf3, cf4, cfa, cfb, cfd, cfe, show (Rows.fnExactBasesOfRow.lifted == Tryz.pinned.checked.prog.liftsFinal) = true from cff]
  kernel_rfl
theorem said : Rows.FnExactBasesOfSaid :=
  OpenClaim.holds_of_wide_leaving 3 Tryz.f3 rfl rfl rfl rfl rfl rfl rfl ⟨rfl, rfl, rfl, rfl, rfl⟩ rfl rfl rfl rfl rfl (by kernel_rfl) Tryz.func3 closed
    (of_decide_eq_true (by kernel_rfl)) (by unfold Func.isWrapper; first | (rw [if_pos (by decide +kernel)]; kernel_rfl) | (rw [if_neg (by decide +kernel)]; exact ⟨rfl, rfl⟩))
    (fun os started H enc _ => by rw [OpenClaim.pre_eq_preRow]; exact leaving_of_handed (lifted os started H enc (fun _ _ _ => 0)))
theorem plain (f : FuncId) (fn : Func) (hf : Tryz.pinned.checked.prog.funcNamed "loop.example/g00652/laws.FnExactBasesOf" = some f) (hfn : Tryz.pinned.checked.prog.funcs[f]? = some fn) :
    true = Tryz.pinned.checked.prog.looks [] ∧ ∀ (j : Nat) t, fn.params[j]? = some t → Tryz.pinned.checked.prog.wantsStandIn t = false := by
  obtain rfl : f = 3 := Option.some.inj ((show Tryz.prog.funcNamed "loop.example/g00652/laws.FnExactBasesOf" = some 3 by kernel_rfl).symm.trans hf) |>.symm
  obtain rfl : fn = Tryz.f3 := (Option.some.inj (Tryz.func3.symm.trans hfn)).symm
  refine ⟨by kernel_rfl, fun j t ht => ?_⟩
  rw [Tryz.params3] at ht
  have hm := Array.mem_of_getElem? ht
  simp only [List.mem_toArray, List.mem_cons, List.not_mem_nil, or_false] at hm
  rcases hm with e | e | e <;> subst e
  · exact (show Tryz.prog.wantsStandIn 22 = false by kernel_rfl)
  · exact (show Tryz.prog.wantsStandIn 9 = false by kernel_rfl)
  · exact (show Tryz.prog.wantsStandIn 9 = false by kernel_rfl)
theorem card : Rows.FnExactBasesOfCardSaid :=
  card_goes said cwf fnExactBasesOf_row_tie rfl ⟨rfl, rfl⟩ (by kernel_rfl) rfl plain cgo

end Go.Proofs.YtmiknjccdcploaaGreatDoor.ExBasesOf
namespace Go.Proofs.YtmiknjccdcploaaGreatDoor
theorem fnExactBasesOf_proved : Rows.FnExactBasesOfCardSaid := ExBasesOf.card
end Go.Proofs.YtmiknjccdcploaaGreatDoor
