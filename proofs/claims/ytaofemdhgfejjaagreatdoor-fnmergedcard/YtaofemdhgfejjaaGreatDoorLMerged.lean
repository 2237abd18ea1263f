/-
  For every code, laws.FnMerged returns true: of drawn maps that are merged the answer is as the reference's, each key that is told is as it was, and both the other way round it is the same. No conditions but that the two variables (the sentinel of refusals, the type error's handle) hold what the program's text lays (the card ties them).
-/
import Derived.Test.YtaofemdhgfejjaaGreatDoorMLaid
import Derived.Test.YtaofemdhgfejjaaGreatDoorRdCode
import Derived.Test.YtaofemdhgfejjaaGreatDoorMDraw
import Derived.Test.YtaofemdhgfejjaaGreatDoorMAnsI
import Derived.Test.YtaofemdhgfejjaaGreatDoorMLaw
import Derived.Test.YtaofemdhgfejjaaGreatDoorPSame
import Derived.Test.YtaofemdhgfejjaaGreatDoorCSame
import Derived.Test.YtaofemdhgfejjaaGreatDoorPGet
namespace Go.Proofs.YtaofemdhgfejjaaGreatDoor.LMerged
open Go.RowKit Go.ChangeShapes Go.WideShapes Go.ChangeAt
open Go.ChangeMaps (open_string shut_string)

set_option maxRecDepth 100000 in
set_option maxHeartbeats 4000000 in
theorem walk (A : Option Addr) (n : Nat) (cap : Nat) (a : Addr) (w : World) (hl : n ≤ maxLen) (hin : CIn w w.heap.size A n) (hE : Errs w a) :
    Calls Tryz.prog 3 #[.slice A n cap] w fun e w' => e = .returned (.bool true) ∧ Below w.heap.size w w' := by
  by_cases hbig : 1048576 < n
  · have d : decide (1048576 < n) = true := decide_eq_true hbig
    go_enter Tryz.func3, Tryz.ntmps3
    go_wp2_with (go_at_call 7; refine (big_any A n cap _ hl).mono ?_; rintro e w' ⟨rfl, rfl⟩)
    go_ret
    exact ⟨rfl, Below.refl _ _⟩
  have hn : n ≤ 1048576 := by omega
  have d : decide (1048576 < n) = false := decide_eq_false hbig
  have IN := hide hin
  have HE := hide hE
  have HZ := hide hE.2.2
  have B0 := hide (Below.refl w.heap.size w)
  clear hin hE
  go_enter Tryz.func3, Tryz.ntmps3
  go_wp2_with fail
  refine (big_any A n cap w hl).mono ?_
  rintro e w' ⟨rfl, rfl⟩
  go_wp2_with fail
  refine (drawMerged_any A n cap w hn IN.out).mono ?_
  rintro e w1 ⟨A0, c0, l0, A1, c1, l1, A2, c2, l2, rfl, hc0, hc1, hc2, m0, m1, m2, o0, o1, o2, b1⟩
  have B1 := hide (B0.out.trans (b1.mono B0.out.size))
  have O_1 := hide (o0.more B0.out.size)
  have P_1 := hide (o1.more B0.out.size)
  have R_1 := hide (o2.more B0.out.size)
  clear b1 B0 o0 o1 o2
  have n0 := (mapB_iff.1 m0).1
  have n1 := (mapB_iff.1 m1).1
  have n2 := (mapB_iff.1 m2).1
  have M0 := hide m0
  have M1 := hide m1
  have M2 := hide m2
  have MX : (40 : Nat) ≤ maxLen := by unfold maxLen; omega
  clear m0 m1 m2 IN
  have hk1 := mgL_len l0 l1 l2
  have hk2 := mgK_len l0 l1 l2
  have es := eqL_self (mgL l0 l1 l2)
  have KM : (120 : Nat) ≤ maxLen := by unfold maxLen; omega
  go_wp2_with fail
  refine (implMerged_any A0 A1 A2 l0 l1 l2 c0 c1 c2 a _ (by omega) (by omega) (by omega) O_1.out.pin P_1.out.pin R_1.out.pin (HE.out.belowB B1.out HZ.out.1 HZ.out.2)).mono ?_
  rintro e w2 ⟨AM, cM, AK, cK, hcM, rfl, oM, zM, b2, _⟩
  have B2 := hide (B1.out.trans (b2.mono B1.out.size))
  have O_2 := hide (O_1.out.below b2)
  have P_2 := hide (P_1.out.below b2)
  have R_2 := hide (R_1.out.below b2)
  have M_2 := hide (oM.more B1.out.size)
  have K_2 := hide (zM.more B1.out.size)
  clear b2 B1 O_1 P_1 R_1 oM zM
  go_wp2_with fail
  refine (specMerged_any A0 A1 A2 l0 l1 l2 c0 c1 c2 _ (by omega) (by omega) (by omega) O_2.out.pin P_2.out.pin R_2.out.pin).mono ?_
  rintro e w3 ⟨AV, cV, AT, cT, hcV, rfl, oV, zV, b3, _⟩
  have B3 := hide (B2.out.trans (b3.mono B2.out.size))
  have O_3 := hide (O_2.out.below b3)
  have P_3 := hide (P_2.out.below b3)
  have R_3 := hide (R_2.out.below b3)
  have M_3 := hide (M_2.out.below b3)
  have K_3 := hide (K_2.out.below b3)
  have V_3 := hide (oV.more B2.out.size)
  have T_3 := hide (zV.more B2.out.size)
  clear b3 B2 O_2 P_2 R_2 M_2 K_2 oV zV
  have ne : (mgB l0 l1 l2 != mgB l0 l1 l2) = false := by simp
  have eqq : (mgB l0 l1 l2 == mgB l0 l1 l2) = true := by simp
  go_wp2_with fail
  refine (sameMap_any AM AV (mgL l0 l1 l2) (mgL l0 l1 l2) cM cV _ _ _ (by omega) (by omega) M_3.out.pin V_3.out.pin).mono ?_
  rintro e w4 ⟨rfl, b4⟩
  replace b4 := b4.below w3.heap.size
  have B4 := hide (B3.out.trans (b4.mono B3.out.size))
  have O_4 := hide (O_3.out.below b4)
  have P_4 := hide (P_3.out.below b4)
  have R_4 := hide (R_3.out.below b4)
  have M_4 := hide (M_3.out.below b4)
  have K_4 := hide (K_3.out.below b4)
  have V_4 := hide (V_3.out.below b4)
  have T_4 := hide (T_3.out.below b4)
  clear b4 B3 O_3 P_3 R_3 M_3 K_3 V_3 T_3
  rw [es]
  go_wp2_with fail
  refine (sameTexts_same AK AT (mgK l0 l1 l2) cK cT _ _ _ (by omega) K_4.out.zin T_4.out.zin).mono ?_
  rintro e w5 ⟨rfl, b5⟩
  replace b5 := b5.below w4.heap.size
  have B5 := hide (B4.out.trans (b5.mono B4.out.size))
  have O_5 := hide (O_4.out.below b5)
  have P_5 := hide (P_4.out.below b5)
  have R_5 := hide (R_4.out.below b5)
  have M_5 := hide (M_4.out.below b5)
  have K_5 := hide (K_4.out.below b5)
  have V_5 := hide (V_4.out.below b5)
  have T_5 := hide (T_4.out.below b5)
  clear b5 B4 O_4 P_4 R_4 M_4 K_4 V_4 T_4
  cases hg : mgB l0 l1 l2
  · skip
    go_wp2_with fail
    refine (sameMap_any AM AV (mgL l0 l1 l2) (mgL l0 l1 l2) cM cV _ _ _ (by omega) (by omega) M_5.out.pin V_5.out.pin).mono ?_
    rintro e w6 ⟨rfl, b6⟩
    replace b6 := b6.below w5.heap.size
    have B6 := hide (B5.out.trans (b6.mono B5.out.size))
    have O_6 := hide (O_5.out.below b6)
    have P_6 := hide (P_5.out.below b6)
    have R_6 := hide (R_5.out.below b6)
    have M_6 := hide (M_5.out.below b6)
    have K_6 := hide (K_5.out.below b6)
    have V_6 := hide (V_5.out.below b6)
    have T_6 := hide (T_5.out.below b6)
    clear b6 B5 O_5 P_5 R_5 M_5 K_5 V_5 T_5
    rw [es]
    go_wp2_with fail
    refine (sameTexts_same AK AT (mgK l0 l1 l2) cK cT _ _ _ (by omega) K_6.out.zin T_6.out.zin).mono ?_
    rintro e w7 ⟨rfl, b7⟩
    replace b7 := b7.below w6.heap.size
    have B7 := hide (B6.out.trans (b7.mono B6.out.size))
    have O_7 := hide (O_6.out.below b7)
    have P_7 := hide (P_6.out.below b7)
    have R_7 := hide (R_6.out.below b7)
    have M_7 := hide (M_6.out.below b7)
    have K_7 := hide (K_6.out.below b7)
    have V_7 := hide (V_6.out.below b7)
    have T_7 := hide (T_6.out.below b7)
    clear b7 B6 O_6 P_6 R_6 M_6 K_6 V_6 T_6
    go_wp2
    go_ret
    exact ⟨rfl, B7.out⟩
  have HG := hide hg
  clear hg ne eqq
  clear V_5
  clear T_5
  obtain ⟨sw1, sw2, sw3⟩ := mg_swap HG.out
  have SW := hide (fun W x0 x1 x2 e => implMerged_any A0 A2 A1 l0 l2 l1 c0 c2 c1 a W (by omega) (by omega) (by omega) x0 x1 x2 e)
  rw [sw1, sw2, sw3] at SW
  clear sw1 sw2 sw3
  go_wp2_with fail
  refine (SW.out _ O_5.out.pin R_5.out.pin P_5.out.pin (HE.out.belowB B5.out HZ.out.1 HZ.out.2)).mono ?_
  rintro e w6 ⟨AN, cN, AL, cL, hcN, rfl, oN, zN, b6, _⟩
  have B6 := hide (B5.out.trans (b6.mono B5.out.size))
  have O_6 := hide (O_5.out.below b6)
  have P_6 := hide (P_5.out.below b6)
  have R_6 := hide (R_5.out.below b6)
  have M_6 := hide (M_5.out.below b6)
  have K_6 := hide (K_5.out.below b6)
  have N_6 := hide (oN.more B5.out.size)
  have L_6 := hide (zN.more B5.out.size)
  clear b6 B5 O_5 P_5 R_5 M_5 K_5 oN zN
  clear SW
  clear P_6
  clear R_6
  go_wp2
  go_loopw [15] (fun i wr => ∃ j : Nat, j ≤ (mgK l0 l1 l2).length ∧ i = .int .i64 j ∧ Hid (Own wr w.heap.size A0 c0 l0) ∧ Hid (Own wr w.heap.size AM cM (mgL l0 l1 l2)) ∧ Hid (ZOwn wr w.heap.size AK cK (mgK l0 l1 l2)) ∧ Hid (Own wr w.heap.size AN cN (mgL l0 l1 l2)) ∧ Hid (ZOwn wr w.heap.size AL cL (mgK l0 l1 l2)) ∧ Hid (Below w.heap.size w wr)) (fun i _ => (mgK l0 l1 l2).length - (intOf i).toNat)
  case atStart => exact ⟨0, Nat.zero_le _, rfl, O_6, M_6, K_6, N_6, L_6, B6⟩
  case round =>
    clear B6 O_6 M_6 K_6 N_6 L_6
    obtain ⟨j, hj, rfl, O_, M_, K_, N_, L_, Q⟩ := hrel
    have B106 := Q
    have O_106 := O_
    have M_106 := M_
    have K_106 := K_
    have N_106 := N_
    have L_106 := L_
    clear Q O_ M_ K_ N_ L_
    by_cases hlt : j < (mgK l0 l1 l2).length
    · skip
      have hin1 := K_106.out.zin
      obtain ⟨bb, off, rfl, hbB, hc⟩ := hin1 (by omega)
      have x1 := hc j hlt
      have FR := hide (mg_bad HG.out (List.getElem_mem hlt))
      generalize ((mgK l0 l1 l2)[j]'hlt) = key at *
      clear hc hin1
      go_wp2_with fail
      refine (implGet_any A0 (l0) c0 key _ (by omega) O_106.out.pin).mono ?_
      rintro e w107 ⟨rfl, b107⟩
      rw [getV_yes (k := key) M0.out, getB_yes (k := key) M0.out]
      have B107 := hide (B106.out.trans (b107.mono B106.out.size))
      replace x1 := cellB b107 hbB x1
      replace hbB := Nat.lt_of_lt_of_le hbB b107.size
      have O_107 := hide (O_106.out.below b107)
      have M_107 := hide (M_106.out.below b107)
      have K_107 := hide (K_106.out.below b107)
      have N_107 := hide (N_106.out.below b107)
      have L_107 := hide (L_106.out.below b107)
      clear b107 B106 O_106 M_106 K_106 N_106 L_106
      go_wp2_with fail
      refine (implGet_any AM (mgL l0 l1 l2) cM key _ (by omega) M_107.out.pin).mono ?_
      rintro e w108 ⟨rfl, b108⟩
      rw [getV_yes (k := key) (mg_map HG.out), getB_yes (k := key) (mg_map HG.out), ← FR.out.1, ← FR.out.2]
      have B108 := hide (B107.out.trans (b108.mono B107.out.size))
      replace x1 := cellB b108 hbB x1
      replace hbB := Nat.lt_of_lt_of_le hbB b108.size
      have O_108 := hide (O_107.out.below b108)
      have M_108 := hide (M_107.out.below b108)
      have K_108 := hide (K_107.out.below b108)
      have N_108 := hide (N_107.out.below b108)
      have L_108 := hide (L_107.out.below b108)
      clear b108 B107 O_107 M_107 K_107 N_107 L_107
      generalize valOf l0 key = v0 at *
      generalize hasB l0 key = g0 at *
      have d1 : (v0.toList == v0.toList) = true := by simp
      have d2 : (g0 != g0) = false := by simp
      have d3 : (g0 == g0) = true := by simp
      clear FR
      go_wp2
      go_roundw
      case rel => exact ⟨j + 1, by omega, by go_num, O_108, M_108, K_108, N_108, L_108, B108⟩
      case measure => simp [intOf]; omega
    · skip
      have hge : ¬ ((j : Int) < ((mgK l0 l1 l2).length : Int)) := by omega
      have MM := mg_map HG.out
      go_wp2_with fail
      refine (implMapOk_any AM (mgL l0 l1 l2) cM _ (by omega) M_106.out.pin).mono ?_
      rintro e w107 ⟨rfl, b107⟩
      have B107 := hide (B106.out.trans (b107.mono B106.out.size))
      have O_107 := hide (O_106.out.below b107)
      have M_107 := hide (M_106.out.below b107)
      have K_107 := hide (K_106.out.below b107)
      have N_107 := hide (N_106.out.below b107)
      have L_107 := hide (L_106.out.below b107)
      clear b107 B106 O_106 M_106 K_106 N_106 L_106
      rw [MM]
      clear MM
      go_wp2_with fail
      refine (lawsRises_yes AK (mgK l0 l1 l2) cK _ _ (by omega) (by rw [mgK_yes HG.out]; exact badM_ris l0 l1 l2) K_107.out.zin).mono ?_
      rintro e w108 ⟨rfl, b108⟩
      replace b108 := b108.below w107.heap.size
      have B108 := hide (B107.out.trans (b108.mono B107.out.size))
      have O_108 := hide (O_107.out.below b108)
      have M_108 := hide (M_107.out.below b108)
      have K_108 := hide (K_107.out.below b108)
      have N_108 := hide (N_107.out.below b108)
      have L_108 := hide (L_107.out.below b108)
      clear b108 B107 O_107 M_107 K_107 N_107 L_107
      go_wp2_with fail
      refine (sameMap_any AN AM (mgL l0 l1 l2) (mgL l0 l1 l2) cN cM _ _ _ (by omega) (by omega) N_108.out.pin M_108.out.pin).mono ?_
      rintro e w109 ⟨rfl, b109⟩
      replace b109 := b109.below w108.heap.size
      have B109 := hide (B108.out.trans (b109.mono B108.out.size))
      have O_109 := hide (O_108.out.below b109)
      have M_109 := hide (M_108.out.below b109)
      have K_109 := hide (K_108.out.below b109)
      have N_109 := hide (N_108.out.below b109)
      have L_109 := hide (L_108.out.below b109)
      clear b109 B108 O_108 M_108 K_108 N_108 L_108
      rw [es]
      go_wp2_with fail
      refine (sameTexts_same AL AK (mgK l0 l1 l2) cL cK _ _ _ (by omega) L_109.out.zin K_109.out.zin).mono ?_
      rintro e w110 ⟨rfl, b110⟩
      replace b110 := b110.below w109.heap.size
      have B110 := hide (B109.out.trans (b110.mono B109.out.size))
      have O_110 := hide (O_109.out.below b110)
      have M_110 := hide (M_109.out.below b110)
      have K_110 := hide (K_109.out.below b110)
      have N_110 := hide (N_109.out.below b110)
      have L_110 := hide (L_109.out.below b110)
      clear b110 B109 O_109 M_109 K_109 N_109 L_109
      go_wp2
      go_ret
      exact ⟨rfl, B110.out⟩

set_option maxRecDepth 100000 in
theorem contract (H : Type) (enc : TypeId × Value → H) (W : World) (base : Nat) (args : Array Value) (ds gs : List (DataW H)) (before : List MemPlace)
    (hval0 : ∀ (j : Nat) t v, Tryz.f3.params[j]? = some t → args[j]? = some v → Value.okWide Tryz.prog W .any base t v)
    (hW : DataW.Whole enc Tryz.prog Tryz.f3.params.toList Rows.fnMergedSpec.vars false W args.toList ds gs before) (hL : laidMetH Tryz.prog Rows.fnMergedRow.laid W) :
    Calls Tryz.prog 3 args W fun e W' => ∃ v, e = .returned v ∧ Rows.fnMergedSpec.post enc Tryz.prog Tryz.f3 false true false false W args v W' := by
  have hval : ∀ (j : Nat) t v, Tryz.f3.params[j]? = some t → args[j]? = some v → Value.okWide Tryz.prog W .any base t v := hval0
  obtain ⟨a, hT, hvar⟩ := errs_of hL.1 hL.2
  have hW' := hW
  obtain ⟨p, q, hA0, hV0, rfl, hfz, hnd⟩ := hW
  have hA : DataW.TrodAll enc Tryz.prog W 0 (fun _ => true) true Tryz.f3.params.toList args.toList ds p := hA0
  have hV : DataW.TrodVars enc Tryz.prog W (fun _ => true) ["loop.example/g00652/impl.errNotRight"] gs q := hV0
  obtain ⟨rfl, rfl⟩ := hV.unique (vars_read1 enc gErr tErr Tryz.underlying52 hvar trivial _)
  rw [Tryz.params3] at hA hval
  obtain ⟨v0, vs0, d0, ds0, p0, q0, hargs, rfl, rfl, h0, r0⟩ := trodAll_cons hA
  obtain ⟨rfl, rfl, rfl⟩ := trodAll_nil r0
  obtain rfl : args = #[v0] := by cases args; simp_all
  obtain ⟨A0, n0, cap0, rfl⟩ := okWide_slice Tryz.underlying22 (hval 0 22 v0 rfl rfl)
  have lt0 : ∀ x ∈ p0, x.block < W.heap.size := by obtain ⟨m, hm⟩ := h0; exact DataW.trod_lt m _ _ _ hm
  obtain ⟨l0, rfl, hl0, hin0⟩ := open_code h0
  clear hA0 hval0
  refine (walk A0 n0 cap0 a W hl0 hin0 hT).mono fun e W' ⟨he, bel⟩ => ?_
  subst he
  exact ⟨_, rfl, _, _, _, [], _, _, hW', trodAll_mk1 (shut_bool Tryz.underlying4 _), (trodAll_cons_mk (Below.trod laidOut (by kernel_rfl) (of_decide_eq_true (by kernel_rfl)) h0 bel lt0) trodAll_mk0), vars_read1 enc gErr tErr Tryz.underlying52 (var?_below bel gErr (var_lt gErr hvar) hvar) trivial _, bel.frame _, fun h => by cases h⟩

/-- a world for the witness: the variables hold what their initialisers lay -/
noncomputable def laidWorld (os : Os) : World := layAll (World.holding Tryz.prog os ⟨#[], #[], []⟩)
theorem laid_met (os : Os) : laidMetH Tryz.prog Rows.fnMergedRow.laid ((laidWorld os).forCall (fun _ _ => 0) ⟨#[], #[.slice none 0 0], []⟩).memory :=
  laidMetH_of_parts (laidMet_of_run' 8 (by kernel_rfl) (by kernel_rfl)) (by kernel_rfl)
theorem reads (os : Os) {H : Type} (enc : TypeId × Value → H) : ∃ x, DataW.whole enc Tryz.prog ((laidWorld os).forCall (fun _ _ => 0) ⟨#[], #[.slice none 0 0], []⟩).memory Tryz.f3.params.toList Rows.fnMergedSpec.vars false (#[.slice none 0 0] : Array Value).toList 8 = some x :=
  Option.isSome_iff_exists.1 (by kernel_rfl)
set_option maxRecDepth 100000 in
theorem lifted (os : Os) (started : os.Started) (H : Type) (enc : TypeId × Value → H) (F : Stop.Interp) :
    ReturnsInHanded {} Tryz.checked os 3 .any ((OpenSpec.ofChange Rows.fnMergedSpec).preRow enc Tryz.prog Tryz.f3 Rows.fnMergedRow.domain false Rows.fnMergedRow.laid) (((OpenSpec.ofChange Rows.fnMergedSpec).at F).post enc Tryz.prog Tryz.f3 false true false false) := by
  obtain ⟨x, hx⟩ := reads os enc
  refine returnsInHanded_of_row (C := Tryz.checked) (s := OpenSpec.ofChange Rows.fnMergedSpec) own started (by kernel_rfl) Tryz.func3
    (witness_row_at (enc := enc) (C := Tryz.checked) false (laidWorld os) #[.slice none 0 0] rfl (by kernel_rfl) (by kernel_rfl) (by kernel_rfl)
      (OpenSpec.preRow_of_cond 8 hx rfl (fun k hk => by cases hk) (by kernel_rfl) (laid_met os))) ?_
  intro W base args ds gs before hval hW _ _ _ hL _ _
  exact contract H enc W base args ds gs before hval hW hL
theorem said : Rows.FnMergedSaid :=
  OpenClaim.holds_of_cond 3 Tryz.f3 rfl rfl rfl rfl rfl rfl rfl ⟨rfl, rfl, rfl, rfl, rfl⟩ rfl rfl rfl rfl rfl (by kernel_rfl) Tryz.func3 (by kernel_rfl)
    (of_decide_eq_true (by kernel_rfl)) (by unfold Func.isWrapper; first | (rw [if_pos (by decide +kernel)]; kernel_rfl) | (rw [if_neg (by decide +kernel)]; exact ⟨rfl, rfl⟩))
    (fun os started H enc _ F => by rw [OpenClaim.pre_eq_preRow]; exact lifted os started H enc F)
theorem plain (f : FuncId) (fn : Func) (hf : Tryz.pinned.checked.prog.funcNamed "loop.example/g00652/laws.FnMerged" = some f) (hfn : Tryz.pinned.checked.prog.funcs[f]? = some fn) :
    true = Tryz.pinned.checked.prog.looks [] ∧ ∀ (j : Nat) t, fn.params[j]? = some t → Tryz.pinned.checked.prog.wantsStandIn t = false := by
  obtain rfl : f = 3 := Option.some.inj ((show Tryz.prog.funcNamed "loop.example/g00652/laws.FnMerged" = some 3 by kernel_rfl).symm.trans hf) |>.symm
  obtain rfl : fn = Tryz.f3 := (Option.some.inj (Tryz.func3.symm.trans hfn)).symm
  refine ⟨by kernel_rfl, fun j t ht => ?_⟩
  rw [Tryz.params3] at ht
  have hm := Array.mem_of_getElem? ht
  simp only [List.mem_toArray, List.mem_cons, List.not_mem_nil, or_false] at hm
  subst hm
  exact (show Tryz.prog.wantsStandIn 22 = false by kernel_rfl)
theorem card : Rows.FnMergedCardSaid :=
  Claim7.holds_tied_plain_at .later [] _ _ _ _ said (fun _ h => by cases h) (by kernel_rfl) (fun _ h => by cases h) fnMerged_row_tie rfl ⟨rfl, rfl⟩ (by kernel_rfl) rfl plain (by kernel_rfl)

end Go.Proofs.YtaofemdhgfejjaaGreatDoor.LMerged
namespace Go.Proofs.YtaofemdhgfejjaaGreatDoor
theorem fnMerged_proved : Rows.FnMergedCardSaid := LMerged.card
end Go.Proofs.YtaofemdhgfejjaaGreatDoor
