/-
  For every two lists of objects, laws.FnExactJoined returns true and leaves its arguments as they were: impl.Joined answers as the reference does, keeps its arguments, and its answer is memory of its own. No conditions but that the two tables of the digest hold what the program's text lays (the card ties them).
-/
import Derived.Test.YtaibonbabicilaaDoorLPairS
import Derived.Test.YtaibonbabicilaaDoorLMark
import Derived.Test.YtaibonbabicilaaDoorQJoin
import Derived.Test.YtaibonbabicilaaDoorLOpen
import Derived.Test.YtaibonbabicilaaDoorQLaid
namespace Go.Proofs.YtaibonbabicilaaDoor.ExJoined
open Go.RowKit Go.ChangeShapes Go.WideShapes Go.ChangeAt
open Go.ChangeMaps (open_string shut_string)

set_option maxRecDepth 100000 in
set_option maxHeartbeats 2000000 in
theorem walk (A : Option Addr) (l : List Pr) (cap : Nat) (A' : Option Addr) (l' : List Pr) (cap' : Nat) (w : World) (hl : l.length ≤ maxLen) (hin : PIn w w.heap.size A l) (hl' : l'.length ≤ maxLen) (hin' : PIn w w.heap.size A' l') (hT : Tabs w) :
    Calls Tryd.prog 4 #[.slice A l.length cap, .slice A' l'.length cap'] w fun e w' => e = .returned (.bool true) ∧ Below w.heap.size w w' := by
  have HT := hide hT
  have HB := hide hT.1
  clear hT
  have es := eqL_self l
  have es' := eqL_self l'
  have es2 := eqL_self (joinL l l')
  have e2 : (joinB l l' != joinB l l') = false := by simp
  go_enter Tryd.func4, Tryd.ntmps4
  go_wp2_with fail
  refine (szPairS_any A l cap 1048576 _ hl hin (by omega) (by omega)).mono ?_
  rintro e w0 ⟨hr, b0⟩
  rcases hr with rfl | ⟨r0, hr0, hr1, rfl⟩
  · go_wp2
    go_ret
    exact ⟨rfl, b0⟩
  have hl2 : l.length ≤ 1048576 := by omega
  have hr0n : ¬ r0 < 0 := by omega
  have IN := hide hin
  have IN' := hide hin'
  have B0 := hide b0
  clear b0 hin hin'
  go_wp2_with fail
  refine (szPairS_any A' l' cap' r0 _ hl' ((IN'.out.below B0.out).more B0.out.size) (by omega) (by omega)).mono ?_
  rintro e w1 ⟨hr', b1⟩
  rcases hr' with rfl | ⟨r1, hr2, hr3, rfl⟩
  · have B1 := hide (B0.out.trans (b1.mono B0.out.size))
    clear b1
    go_wp2
    go_ret
    exact ⟨rfl, B1.out⟩
  have hl2' : l'.length ≤ 1048576 := by omega
  have hr1n : ¬ r1 < 0 := by omega
  have B1 := hide (B0.out.trans (b1.mono B0.out.size))
  have hp := joinL_len l l'
  have hpm : (joinL l l').length ≤ maxLen := by unfold maxLen; omega
  clear b1 B0
  go_wp2_with fail
  refine (toPairS_any A l cap _ hl2 ((IN.out.below B1.out).more B1.out.size)).mono ?_
  rintro e w2a ⟨rfl, own2, b2⟩
  have B2a := hide (B1.out.trans (b2.mono B1.out.size))
  have S2 := hide own2
  clear b2 B1 own2
  go_wp2_with fail
  refine (toPairS_any A' l' cap' _ hl2' ((IN'.out.below B2a.out).more B2a.out.size)).mono ?_
  rintro e w2 ⟨rfl, own2', b2⟩
  have B2 := hide (B2a.out.trans (b2.mono B2a.out.size))
  have S2b := hide (S2.out.below b2)
  have S2' := hide own2'
  clear b2 B2a S2 own2'
  go_wp2_with fail
  refine (specJoined_any _ l l.length _ l' l'.length _ hl hl' S2b.out.pin S2'.out.pin).mono ?_
  rintro e w3 ⟨Aw, capw, hcw, rfl, oww, b3⟩
  have B3 := hide (B2.out.trans (b3.mono B2.out.size))
  have rw3 := oww.row
  have W3 := hide oww
  clear b3 B2 S2b S2' oww
  go_wp2_with fail
  refine (toPairS_any A l cap _ hl2 ((IN.out.below B3.out).more B3.out.size)).mono ?_
  rintro e w4 ⟨rfl, own4, b4⟩
  have B4 := hide (B3.out.trans (b4.mono B3.out.size))
  have W4 := hide (W3.out.below b4)
  have X4 := hide own4
  have hX : w.heap.size ≤ w3.heap.size := B3.out.size
  have z4 : w3.heap.size < w4.heap.size := by
    rcases own4.form with ⟨h, _⟩ | ⟨g, h, _, h2⟩
    · cases h
    · injection h with h; injection h with h; omega
  clear b4 B3 W3 own4
  go_wp2_with fail
  refine (toPairS_any A' l' cap' _ hl2' ((IN'.out.below B4.out).more B4.out.size)).mono ?_
  rintro e w4y ⟨rfl, own4y, b4y⟩
  have B4y := hide (B4.out.trans (b4y.mono B4.out.size))
  have W4y := hide (W4.out.below b4y)
  have X4y := hide (X4.out.below b4y)
  have Y4y := hide own4y
  have z4y : w4.heap.size < w4y.heap.size := by
    rcases own4y.form with ⟨h, _⟩ | ⟨g, h, _, h2⟩
    · cases h
    · injection h with h; injection h with h; omega
  clear b4y B4 W4 X4 own4y
  go_wp2_with fail
  refine (implJoined_any _ l l.length _ l' l'.length _ hl hl' X4y.out.pin Y4y.out.pin (HT.out.below B4y.out HB.out)).mono ?_
  rintro e w5 ⟨Ag, capg, hcg, rfl, owg, b5⟩
  have B5 := hide (B4y.out.trans (b5.mono B4y.out.size))
  have W5 := hide (W4y.out.below b5)
  have X5 := hide (X4y.out.below b5)
  have Y5 := hide (Y4y.out.below b5)
  have rg5 := owg.row
  have G5 := hide owg
  clear b5 B4y W4y X4y Y4y owg
  -- the rows lie apart
  have apXW : Hid (∀ g, rowOf Aw = some g → rowOf (some (⟨w3.heap.size, 0, none⟩ : Addr)) ≠ some g) := hide (fun g hg x => by
    have := (rw3 g hg).2
    have : w3.heap.size = g := by injection x
    omega)
  have apXG : Hid (∀ g, rowOf Ag = some g → rowOf (some (⟨w3.heap.size, 0, none⟩ : Addr)) ≠ some g) := hide (fun g hg x => by
    have := (rg5 g hg).1
    have : w3.heap.size = g := by injection x
    omega)
  have apYW : Hid (∀ g, rowOf Aw = some g → rowOf (some (⟨w4.heap.size, 0, none⟩ : Addr)) ≠ some g) := hide (fun g hg x => by
    have := (rw3 g hg).2
    have : w4.heap.size = g := by injection x
    omega)
  have apYG : Hid (∀ g, rowOf Ag = some g → rowOf (some (⟨w4.heap.size, 0, none⟩ : Addr)) ≠ some g) := hide (fun g hg x => by
    have := (rg5 g hg).1
    have : w4.heap.size = g := by injection x
    omega)
  have apXY : Hid (∀ g, rowOf (some (⟨w4.heap.size, 0, none⟩ : Addr)) = some g → rowOf (some (⟨w3.heap.size, 0, none⟩ : Addr)) ≠ some g) := hide (fun g hg x => by
    have h1 : w3.heap.size = g := by injection x
    have h2 : w4.heap.size = g := by injection hg
    omega)
  have apGW : Hid (∀ g, rowOf Aw = some g → rowOf Ag ≠ some g) := hide (fun g hg x => by
    have := (rw3 g hg).2
    have := (rg5 g x).1
    omega)
  have hg0 : ∀ g, rowOf Ag = some g → w.heap.size ≤ g := fun g hg => by have := (rg5 g hg).1; omega
  have HG0 := hide hg0
  clear rw3 rg5 hg0
  go_wp2_with fail
  refine (eqPairS_any Ag Aw _ _ capg capw _ hpm hpm G5.out.pin W5.out.pin).mono ?_
  rintro e w6 ⟨rfl, b6⟩
  have B6 := hide (B5.out.trans (b6.mono B5.out.size))
  have W6 := hide (W5.out.below b6)
  have X6 := hide (X5.out.below b6)
  have Y6 := hide (Y5.out.below b6)
  have G6 := hide (G5.out.below b6)
  clear b6 B5 W5 X5 Y5 G5
  go_wp2_with fail
  refine (toPairS_any A l cap _ hl2 ((IN.out.below B6.out).more B6.out.size)).mono ?_
  rintro e w7 ⟨rfl, own7, b7⟩
  have B7 := hide (B6.out.trans (b7.mono B6.out.size))
  have W7 := hide (W6.out.below b7)
  have X7 := hide (X6.out.below b7)
  have Y7 := hide (Y6.out.below b7)
  have G7 := hide (G6.out.below b7)
  clear b7 B6 W6 X6 Y6 G6
  go_wp2_with fail
  refine (eqPairS_any _ _ l l l.length l.length _ hl hl X7.out.pin own7.pin).mono ?_
  rintro e w8 ⟨rfl, b8⟩
  have B8 := hide (B7.out.trans (b8.mono B7.out.size))
  have W8 := hide (W7.out.below b8)
  have X8 := hide (X7.out.below b8)
  have Y8 := hide (Y7.out.below b8)
  have G8 := hide (G7.out.below b8)
  clear b8 B7 W7 X7 Y7 G7 own7
  go_wp2_with fail
  refine (toPairS_any A' l' cap' _ hl2' ((IN'.out.below B8.out).more B8.out.size)).mono ?_
  rintro e w7y ⟨rfl, own7, b7⟩
  have B7 := hide (B8.out.trans (b7.mono B8.out.size))
  have W7 := hide (W8.out.below b7)
  have X7 := hide (X8.out.below b7)
  have Y7 := hide (Y8.out.below b7)
  have G7 := hide (G8.out.below b7)
  clear b7 B8 W8 X8 Y8 G8
  go_wp2_with fail
  refine (eqPairS_any _ _ l' l' l'.length l'.length _ hl' hl' Y7.out.pin own7.pin).mono ?_
  rintro e w8y ⟨rfl, b8⟩
  have B8 := hide (B7.out.trans (b8.mono B7.out.size))
  have W8 := hide (W7.out.below b8)
  have X8 := hide (X7.out.below b8)
  have Y8 := hide (Y7.out.below b8)
  have G8 := hide (G7.out.below b8)
  clear b8 B7 W7 X7 Y7 G7 own7
  go_wp2_with fail
  refine (markPairS_any _ l l.length 1 _ _ (by omega) (by omega) X8.out).mono ?_
  rintro e w9 ⟨rfl, _, g9⟩
  have B9 := hide (B8.out.grown g9 B8.out.size (fun g hg => by have h9 := rowOf_some hg; omega))
  have W9 := hide (W8.out.apart g9 apXW.out)
  have Y9 := hide (Y8.out.apart g9 apXY.out)
  have G9 := hide (G8.out.apart g9 apXG.out)
  clear g9 B8 W8 X8 Y8 G8 apXW apXG apXY
  go_wp2_with fail
  refine (markPairS_any _ l' l'.length (1 + 2 * l.length) _ _ (by omega) (by omega) Y9.out).mono ?_
  rintro e w9y ⟨rfl, _, g9⟩
  have B9y := hide (B9.out.grown g9 B9.out.size (fun g hg => by have h9 := rowOf_some hg; omega))
  have W9y := hide (W9.out.apart g9 apYW.out)
  have G9y := hide (G9.out.apart g9 apYG.out)
  clear g9 B9 W9 Y9 G9 apYW apYG
  have hk9 : ¬ ((1 + 2 * l.length + 2 * l'.length : Nat) : Int) < 0 := by omega
  have dk9 : decide (((1 + 2 * l.length + 2 * l'.length : Nat) : Int) < 0) = false := decide_eq_false hk9
  go_wp2_with fail
  refine (eqPairS_any Ag Aw _ _ capg capw _ hpm hpm G9y.out.pin W9y.out.pin).mono ?_
  rintro e w10 ⟨rfl, b10⟩
  have B10 := hide (B9y.out.trans (b10.mono B9y.out.size))
  have W10 := hide (W9y.out.below b10)
  have G10 := hide (G9y.out.below b10)
  clear b10 B9y W9y G9y hk9 dk9
  go_wp2_with fail
  refine (markPairS_any Ag _ capg 1 _ _ (by omega) (by omega) G10.out).mono ?_
  rintro e w11 ⟨rfl, ow11, g11⟩
  have B11 := hide (B10.out.grown g11 B10.out.size HG0.out)
  have W11 := hide (W10.out.apart g11 apGW.out)
  have G11 := hide ow11
  clear g11 B10 W10 G10 ow11
  go_wp2_with fail
  refine (heldPairS_any Ag (joinL l l').length capg 1 _ (by omega) (by omega) G11.out.pin).mono ?_
  rintro e w12 ⟨rfl, b12⟩
  have B12 := hide (B11.out.trans (b12.mono B11.out.size))
  have W12 := hide (W11.out.below b12)
  have G12 := hide (G11.out.below b12)
  clear b12 B11 W11 G11
  have hq : ¬ (1 + 2 * ((joinL l l').length : Int)) < 0 := by omega
  have hq2 : ((1 + 2 * ((joinL l l').length : Int)) != (1 + 2 * ((joinL l l').length : Int))) = false := by simp
  go_wp2_with fail
  refine (toPairS_any A l cap _ hl2 ((IN.out.below B12.out).more B12.out.size)).mono ?_
  rintro e w13a ⟨rfl, own13, b13⟩
  have B13a := hide (B12.out.trans (b13.mono B12.out.size))
  have W13a := hide (W12.out.below b13)
  have G13a := hide (G12.out.below b13)
  have S13 := hide own13
  clear b13 B12 W12 G12 own13
  go_wp2_with fail
  refine (toPairS_any A' l' cap' _ hl2' ((IN'.out.below B13a.out).more B13a.out.size)).mono ?_
  rintro e w13 ⟨rfl, own13', b13⟩
  have B13 := hide (B13a.out.trans (b13.mono B13a.out.size))
  have W13 := hide (W13a.out.below b13)
  have G13 := hide (G13a.out.below b13)
  have S13b := hide (S13.out.below b13)
  have S13' := hide own13'
  clear b13 B13a W13a G13a S13 own13'
  go_wp2_with fail
  refine (implJoined_any _ l l.length _ l' l'.length _ hl hl' S13b.out.pin S13'.out.pin (HT.out.below B13.out HB.out)).mono ?_
  rintro e w14 ⟨Ah, caph, hch, rfl, owh, b14⟩
  have B14 := hide (B13.out.trans (b14.mono B13.out.size))
  have W14 := hide (W13.out.below b14)
  have G14 := hide (G13.out.below b14)
  clear b14 B13 W13 G13 S13b S13'
  go_wp2_with fail
  refine (eqPairS_any Ah Aw _ _ caph capw _ hpm hpm owh.pin W14.out.pin).mono ?_
  rintro e w15 ⟨rfl, b15⟩
  have B15 := hide (B14.out.trans (b15.mono B14.out.size))
  have G15 := hide (G14.out.below b15)
  clear b15 B14 W14 G14 owh
  go_wp2_with fail
  refine (heldPairS_any Ag (joinL l l').length capg 1 _ (by omega) (by omega) G15.out.pin).mono ?_
  rintro e w16 ⟨rfl, b16⟩
  have B16 := hide (B15.out.trans (b16.mono B15.out.size))
  clear b16 B15 G15
  go_wp2
  go_ret
  exact ⟨rfl, B16.out⟩

theorem plainVars : ∀ n ∈ Rows.fnExactJoinedSpec.vars, ∀ g t, Tryd.prog.globalNamed n = some g → (Tryd.prog.globals[g]?).map (·.type) = some t → Tryd.prog.readableRec t = true ∧ t < Tryd.prog.types.size := by
  intro n hn g t h1 h2
  have hb : (Rows.fnExactJoinedSpec.vars).all (fun n => ((Tryd.prog.globalNamed n).bind fun g => (Tryd.prog.globals[g]?).map fun x => Tryd.prog.readableRec x.type && decide (x.type < Tryd.prog.types.size)).getD false) = true := by kernel_rfl
  have h := List.all_eq_true.1 hb n hn
  rw [h1] at h
  obtain ⟨x, hx, rfl⟩ := Option.map_eq_some_iff.1 h2
  simp only [Option.bind_some, hx, Option.map_some, Option.getD_some, Bool.and_eq_true, decide_eq_true_eq] at h
  exact h
set_option maxRecDepth 100000 in
theorem contract (H : Type) (enc : TypeId × Value → H) (W : World) (base : Nat) (args : Array Value) (ds gs : List (DataW H)) (before : List MemPlace)
    (hval0 : ∀ (j : Nat) t v, Tryd.f4.params[j]? = some t → args[j]? = some v → Value.okWide Tryd.prog W .any base t v)
    (hW : DataW.Whole enc Tryd.prog Tryd.f4.params.toList Rows.fnExactJoinedSpec.vars false W args.toList ds gs before) (hL : laidMetH Tryd.prog Rows.fnExactJoinedRow.laid W) :
    Calls Tryd.prog 4 args W fun e W' => ∃ v, e = .returned v ∧ Rows.fnExactJoinedSpec.post enc Tryd.prog Tryd.f4 false true false false W args v W' := by
  have hval : ∀ (j : Nat) t v, Tryd.f4.params[j]? = some t → args[j]? = some v → Value.okWide Tryd.prog W .any base t v := hval0
  have hT : Tabs W := tabs_of (l := Rows.fnExactJoinedRow.laid) hL (List.mem_cons_self ..) (List.mem_cons_of_mem _ (List.mem_cons_self ..))
  have hW' := hW
  obtain ⟨p, q, hA0, hV, rfl, hfz, hnd⟩ := hW
  have hA : DataW.TrodAll enc Tryd.prog W 0 (fun _ => true) true Tryd.f4.params.toList args.toList ds p := hA0
  rw [Tryd.params4] at hA hval
  obtain ⟨v0, vs0, d0, ds0, p0, q0, hargs, rfl, rfl, h0, r0⟩ := trodAll_cons hA
  obtain ⟨v1, vs1, d1, ds1, p1, q1, rfl, rfl, rfl, h1, r1⟩ := trodAll_cons r0
  obtain ⟨rfl, rfl, rfl⟩ := trodAll_nil r1
  obtain rfl : args = #[v0, v1] := by cases args; simp_all
  obtain ⟨x0, x1, rfl⟩ := list2 (vars_len hV)
  obtain ⟨A0, n0, cap0, rfl⟩ := okWide_slice Tryd.underlying22 (hval 0 22 v0 rfl rfl)
  have lt0 : ∀ x ∈ p0, x.block < W.heap.size := by obtain ⟨m, hm⟩ := h0; exact DataW.trod_lt m _ _ _ hm
  obtain ⟨l0, rfl, hl0, hin0⟩ := open_pairs h0
  obtain ⟨A1, n1, cap1, rfl⟩ := okWide_slice Tryd.underlying22 (hval 1 22 v1 rfl rfl)
  have lt1 : ∀ x ∈ p1, x.block < W.heap.size := by obtain ⟨m, hm⟩ := h1; exact DataW.trod_lt m _ _ _ hm
  obtain ⟨l1, rfl, hl1, hin1⟩ := open_pairs h1
  clear hA0 hval0
  refine (walk A0 l0 cap0 A1 l1 cap1 W hl0 hin0 hl1 hin1 hT).mono fun e W' ⟨he, bel⟩ => ?_
  subst he
  exact ⟨_, rfl, _, _, _, [], _, q, hW', trodAll_mk1 (shut_bool Tryd.underlying4 _), (trodAll_cons_mk (Below.trod laidOut (by kernel_rfl) (of_decide_eq_true (by kernel_rfl)) h0 bel lt0) (trodAll_cons_mk (Below.trod laidOut (by kernel_rfl) (of_decide_eq_true (by kernel_rfl)) h1 bel lt1) trodAll_mk0)), vars_stay laidOut bel plainVars hV, bel.frame _, fun h => by cases h⟩

/-- a world for the witness: the tables hold what their initialisers lay -/
noncomputable def laidWorld (os : Os) : World := layAll (World.holding Tryd.prog os ⟨#[], #[], []⟩)
theorem laid_met (os : Os) : laidMet Tryd.prog Rows.fnExactJoinedRow.laid ((laidWorld os).forCall (fun _ _ => 0) ⟨#[], #[.slice none 0 0, .slice none 0 0], []⟩).memory :=
  laidMet_of_run' 8 (by kernel_rfl) (by kernel_rfl)
theorem reads (os : Os) {H : Type} (enc : TypeId × Value → H) : ∃ x, DataW.whole enc Tryd.prog ((laidWorld os).forCall (fun _ _ => 0) ⟨#[], #[.slice none 0 0, .slice none 0 0], []⟩).memory Tryd.f4.params.toList Rows.fnExactJoinedSpec.vars false (#[.slice none 0 0, .slice none 0 0] : Array Value).toList 8 = some x :=
  Option.isSome_iff_exists.1 (by kernel_rfl)
set_option maxRecDepth 100000 in
theorem lifted (os : Os) (started : os.Started) (H : Type) (enc : TypeId × Value → H) (F : Stop.Interp) :
    ReturnsInHanded {} Tryd.checked os 4 .any ((OpenSpec.ofChange Rows.fnExactJoinedSpec).preRow enc Tryd.prog Tryd.f4 Rows.fnExactJoinedRow.domain false Rows.fnExactJoinedRow.laid) (((OpenSpec.ofChange Rows.fnExactJoinedSpec).at F).post enc Tryd.prog Tryd.f4 false true false false) := by
  obtain ⟨x, hx⟩ := reads os enc
  refine returnsInHanded_of_row (C := Tryd.checked) (s := OpenSpec.ofChange Rows.fnExactJoinedSpec) own started (by kernel_rfl) Tryd.func4
    (witness_row_at (enc := enc) (C := Tryd.checked) false (laidWorld os) #[.slice none 0 0, .slice none 0 0] rfl (by kernel_rfl) (by kernel_rfl) (by kernel_rfl)
      (OpenSpec.preRow_of_cond 8 hx rfl (fun k hk => by cases hk) (by kernel_rfl) (laid_met os))) ?_
  intro W base args ds gs before hval hW _ _ _ hL _ _
  exact contract H enc W base args ds gs before hval hW hL
theorem said : Rows.FnExactJoinedSaid :=
  OpenClaim.holds_of_cond 4 Tryd.f4 rfl rfl rfl rfl rfl rfl rfl ⟨rfl, rfl, rfl, rfl, rfl⟩ rfl rfl rfl rfl rfl (by kernel_rfl) Tryd.func4 (by kernel_rfl)
    (of_decide_eq_true (by kernel_rfl)) (by unfold Func.isWrapper; first | (rw [if_pos (by decide +kernel)]; kernel_rfl) | (rw [if_neg (by decide +kernel)]; exact ⟨rfl, rfl⟩))
    (fun os started H enc _ F => by rw [OpenClaim.pre_eq_preRow]; exact lifted os started H enc F)
theorem plain (f : FuncId) (fn : Func) (hf : Tryd.pinned.checked.prog.funcNamed "loop.example/g00652/laws.FnExactJoined" = some f) (hfn : Tryd.pinned.checked.prog.funcs[f]? = some fn) :
    false = Tryd.pinned.checked.prog.looks [] ∧ ∀ (j : Nat) t, fn.params[j]? = some t → Tryd.pinned.checked.prog.wantsStandIn t = false := by
  obtain rfl : f = 4 := Option.some.inj ((show Tryd.prog.funcNamed "loop.example/g00652/laws.FnExactJoined" = some 4 by kernel_rfl).symm.trans hf) |>.symm
  obtain rfl : fn = Tryd.f4 := (Option.some.inj (Tryd.func4.symm.trans hfn)).symm
  refine ⟨by kernel_rfl, fun j t ht => ?_⟩
  rw [Tryd.params4] at ht
  have hm := Array.mem_of_getElem? ht
  simp only [List.mem_toArray, List.mem_cons, List.not_mem_nil, or_false] at hm
  rcases hm with e | e <;> subst e
  · exact (show Tryd.prog.wantsStandIn 22 = false by kernel_rfl)
  · exact (show Tryd.prog.wantsStandIn 22 = false by kernel_rfl)
theorem card : Rows.FnExactJoinedCardSaid :=
  Claim7.holds_tied_plain_at .later [] _ _ _ _ said (fun _ h => by cases h) (by kernel_rfl) (fun _ h => by cases h) fnExactJoined_row_tie rfl ⟨rfl, rfl⟩ (by kernel_rfl) rfl plain (by kernel_rfl)

end Go.Proofs.YtaibonbabicilaaDoor.ExJoined
namespace Go.Proofs.YtaibonbabicilaaDoor
theorem fnExactJoined_proved : Rows.FnExactJoinedCardSaid := ExJoined.card
end Go.Proofs.YtaibonbabicilaaDoor
