/-
  For every code, laws.FnFrames returns true: what is read as frames are texts whose frames these are, up to the place that is told; with one more behind them they come back with it; of frames that are cut the first few come back. No conditions but that the table of the sum holds what the program's text lays (the card ties it).
-/
import Derived.Test.YtpnbolekhgcacaaDoorFLaid
import Derived.Test.YtpnbolekhgcacaaDoorRdCode
import Derived.Test.YtpnbolekhgcacaaDoorFDraw
import Derived.Test.YtpnbolekhgcacaaDoorFTkS
import Derived.Test.YtpnbolekhgcacaaDoorCSame
namespace Go.Proofs.YtpnbolekhgcacaaDoor.LFrames
open Go.RowKit Go.ChangeShapes Go.WideShapes Go.ChangeAt
open Go.ChangeMaps (open_string shut_string)

theorem catF_le : ∀ (l : List ByteArray) (i : Nat), (catF (l.take i)).size ≤ (catF l).size
  | [], i => by simp
  | x :: r, 0 => by simp [catF]
  | x :: r, i + 1 => by
    have := catF_le r i
    simp only [List.take_succ_cons, catF, ByteArray.size_append]
    omega
theorem catF_next {l : List ByteArray} {i : Nat} (h : i < l.length) : catF (l.take (i + 1)) = catF (l.take i) ++ frameL l[i] := by
  rw [List.take_succ_eq_append_getElem h, catF_app]
theorem frameT_L {x : ByteArray} (h : x.size ≤ 100000) : frameT x = frameL x := by unfold frameT; rw [if_pos h]
theorem pre_take {a l : List ByteArray} (h : a <+: l) : a.length ≤ l.length ∧ a = l.take a.length := by
  obtain ⟨r, rfl⟩ := h
  exact ⟨by simp, by simp⟩

set_option maxRecDepth 100000 in
set_option maxHeartbeats 4000000 in
theorem walk (A : Option Addr) (n : Nat) (cap : Nat) (w : World) (hl : n ≤ maxLen) (hin : CIn w w.heap.size A n) (hR : Rows16 w) :
    Calls Tryd.prog 5 #[.slice A n cap] w fun e w' => e = .returned (.bool true) ∧ Below w.heap.size w w' := by
  by_cases hbig : 1048576 < n
  · have d : decide (1048576 < n) = true := decide_eq_true hbig
    go_enter Tryd.func5, Tryd.ntmps5
    go_wp2_with (go_at_call 13; refine (big_any A n cap _ hl).mono ?_; rintro e w' ⟨rfl, rfl⟩)
    go_ret
    exact ⟨rfl, Below.refl _ _⟩
  have hn : n ≤ 1048576 := by omega
  have d : decide (1048576 < n) = false := decide_eq_false hbig
  have IN := hide hin
  have HT := hide hR
  have HB := hide hR.1
  clear hin hR
  go_enter Tryd.func5, Tryd.ntmps5
  go_wp2_with fail
  refine (big_any A n cap w hl).mono ?_
  rintro e w' ⟨rfl, rfl⟩
  go_wp2_with fail
  refine (drawTakeFrames_any A n cap w hn IN.out).mono ?_
  rintro e w1 ⟨s, hs, rfl, b1⟩
  have B1 := hide b1
  clear b1
  go_wp2_with fail
  refine (implTakeFrames_any s w1 (by omega) (HT.out.below B1.out HB.out)).mono ?_
  rintro e w2 ⟨A1, cap1, rfl, own2, b2⟩
  have B2 := hide (B1.out.trans (b2.mono B1.out.size))
  have O2 := hide own2
  clear b2 own2 B1
  go_wp2_with fail
  refine (specTakeFrames_any s w2 (by omega)).mono ?_
  rintro e w3 ⟨A2, cap2, rfl, own3, b3⟩
  have B3 := hide (B2.out.trans (b3.mono B2.out.size))
  have O3 := hide (O2.out.below b3)
  have OW3 := hide own3
  clear b3 own3 B2 O2
  obtain ⟨f1, f2, f3, f4⟩ := frL_spec s
  have F1 := hide f1
  have F3 := hide f3
  have CUT := hide (fun k h => frL_cut (s := catF (frL s).1) (k := k) h)
  have BK := hide (frL_back (frL s).1 f3)
  clear f1 f3
  generalize hL : (frL s).1 = l at *
  generalize hN : (frL s).2 = m at *
  clear hL hN
  have za : (catF l).size = m := by rw [F1.out, ByteArray.size_extract]; omega
  have hl1 : l.length ≤ 1001 := by omega
  have hne : ((m : Int) != (m : Int)) = false := by simp
  have hgt : decide ((s.size : Int) < (m : Int)) = false := decide_eq_false (by omega)
  have hgt2 : decide (s.size < m) = false := decide_eq_false (by omega)
  go_wp2_with fail
  refine (sameTexts_same A1 A2 l cap1 cap2 w3 _ _ (by unfold maxLen; omega) O3.out.zin OW3.out.zin).mono ?_
  rintro e w4 ⟨rfl, q4⟩
  have b4 := q4.below w3.heap.size
  have B4 := hide (B3.out.trans (b4.mono B3.out.size))
  have O4 := hide (O3.out.below b4)
  clear q4 b4 B3 O3 OW3
  have T0 : Hid (catF (l.take 0) = ByteArray.empty) := hide rfl
  generalize hln : l.length = ln at *
  have HLN := hide hln
  clear hln
  go_wp2_with fail
  go_loopw [8, 9] (fun av iv wr => ∃ i : Nat, i ≤ ln ∧ av = .string (catF (l.take i)) ∧ iv = .int .i64 i ∧ Hid (ZOwn wr w1.heap.size A1 cap1 l) ∧ Hid (Below w.heap.size w wr)) (fun _ i _ => ln - (intOf i).toNat)
  case atStart => exact ⟨0, Nat.zero_le _, rfl, rfl, O4, B4⟩
  case round =>
    clear O4 B4 T0
    obtain ⟨i, hi, rfl, rfl, O, Q⟩ := hrel
    by_cases hlt : i < ln
    · have hil : i < l.length := by rw [HLN.out]; exact hlt
      have hqs := Q.out.size
      obtain ⟨b, off, rfl, hbB, hc⟩ := O.out.zin (by omega)
      have c1 := hc i hil
      have hx := F3.out _ (List.getElem_mem hil)
      have ST := hide (catF_next hil)
      have z1 := catF_le l (i + 1)
      have z2 := catF_le l i
      have FR := hide (frameT_L hx)
      have IM := hide (implFrameOf_any (l[i]'hil) wr (by unfold maxLen; omega) (HT.out.below Q.out HB.out))
      rw [FR.out] at IM
      have z3 := frameL_size (l[i]'hil)
      generalize l[i]'hil = x at *
      generalize hA : catF (l.take i) = a at *
      generalize frameL x = f at *
      have z4 : (a ++ f).size ≤ 1001 := by rw [← ST.out]; omega
      clear hc z1
      go_wp2_with fail
      refine IM.out.mono ?_
      rintro e w5 ⟨rfl, b5⟩
      have Q5 := hide (Q.out.trans (b5.mono hqs))
      have O5 := hide (O.out.below b5)
      clear b5 O Q IM
      go_wp2
      go_roundw
      case rel => exact ⟨i + 1, by omega, by rw [ST.out], by go_num, O5, Q5⟩
      case measure => simp [intOf]; omega
    · have E : Hid (catF (l.take i) = catF l) := hide (by rw [List.take_of_length_le (by rw [HLN.out]; omega)])
      have hgi : ¬ ((i : Int) < (ln : Int)) := by omega
      have hqs := Q.out.size
      rw [E.out]
      clear hlt E
      go_wp2_with fail
      refine (drawFrameOf_any A n cap wr hn ((IN.out.keep Q.out).more hqs)).mono ?_
      rintro e w5 ⟨t, ht, rfl, b5⟩
      have Q5 := hide (Q.out.trans (b5.mono hqs))
      have O5 := hide (O.out.below b5)
      have hq5 := Q5.out.size
      clear b5 O Q
      have FT := hide (fun W h => implFrameOf_any t W (by unfold maxLen; omega) h)
      rw [frameT_L (by omega)] at FT
      have zt := frameL_size t
      have CE := hide (catF_app l t)
      have BK2 := hide (frL_back (l ++ [t]) (fun x hx => by
        rcases List.mem_append.1 hx with h | h
        · exact F3.out x h
        · rw [List.mem_singleton.1 h]; omega))
      rw [CE.out] at BK2
      have zc : (catF l ++ frameL t).size = m + (8 + t.size) := by rw [ByteArray.size_append, za, zt]
      have T2 := hide (fun W h => implTakeFrames_any (catF l ++ frameL t) W (by omega) h)
      unfold RetFr at T2
      rw [BK2.out] at T2
      have ZC := hide zc
      have zc2 : (catF l ++ frameL t).size ≤ 1048576 := by omega
      clear zc BK2 CE
      go_wp2_with fail
      refine (FT.out w5 (HT.out.below Q5.out HB.out)).mono ?_
      rintro e w6 ⟨rfl, b6⟩
      have Q6 := hide (Q5.out.trans (b6.mono hq5))
      have O6 := hide (O5.out.below b6)
      have hq6 := Q6.out.size
      clear b6 O5 Q5
      go_wp2_with fail
      refine (T2.out w6 (HT.out.below Q6.out HB.out)).mono ?_
      rintro e w7 ⟨A3, cap3, rfl, own7, b7⟩
      have Q7 := hide (Q6.out.trans (b7.mono hq6))
      have O7 := hide (O6.out.below b7)
      have P7 := hide own7
      have hq7 := Q7.out.size
      clear b7 own7 O6 Q6 T2
      have hl2 : (l ++ [t]).length = ln + 1 := by rw [List.length_append, HLN.out]; rfl
      have c0 : w7.cell? ⟨0, 0, none⟩ = w7.cell? ⟨0, 0, none⟩ := rfl
      clear c0
      generalize hkk : n % (m + 1) = kk at *
      have kk1 : kk ≤ m := by have := Nat.mod_lt n (show 0 < m + 1 by omega); omega
      have kk2 : (n : Int) % ((m : Int) + 1) = (kk : Int) := by rw [← hkk, Int.natCast_emod, Int.natCast_add]; rfl
      have PRE := CUT.out kk (by omega)
      rw [BK.out] at PRE
      obtain ⟨p1, p2⟩ := pre_take PRE
      have P2 := hide p2
      rw [HLN.out] at p1
      have zk : ((catF l).extract 0 kk).size = kk := by rw [ByteArray.size_extract]; omega
      have T3 := hide (fun W h => implTakeFrames_any ((catF l).extract 0 kk) W (by omega) h)
      unfold RetFr at T3
      have za2 : ((catF l).size : Int) = (m : Int) := by omega
      have capl := O7.out.cap_le
      rw [HLN.out] at capl
      generalize hfw : (frL ((catF l).extract 0 kk)).1 = fw at *
      generalize hfe : (frL ((catF l).extract 0 kk)).2 = fe at *
      generalize hfl : fw.length = fl at *
      have HFL := hide hfl
      clear hfw hfe hfl PRE p2
      have hcut := fun W => run_cutZ_h 24 Tryd.underlying24 A1 ln cap1 fl (by omega) W
      have E1 : ((catF l).toList == (s.extract 0 m).toList) = true := eqS_yes F1.out
      have E2 : (t.toList == t.toList) = true := by simp
      have zf : ((frameL t).size : Int) = 8 + (t.size : Int) := by omega
      go_wp2_with fail
      refine (T3.out w7 (HT.out.below Q7.out HB.out)).mono ?_
      rintro e w8 ⟨A4, cap4, rfl, own8, b8⟩
      have Q8 := hide (Q7.out.trans (b8.mono hq7))
      have O8 := hide (O7.out.below b8)
      have P8 := hide (P7.out.below b8)
      have W8 := hide own8
      have hq8 := Q8.out.size
      clear b8 own8 O7 Q7 P7 T3
      obtain ⟨b3, off3, rfl, _, hc3⟩ := P8.out.zin (by rw [hl2]; omega)
      have c3 := hc3 ln (by rw [hl2]; omega)
      have g3 : (l ++ [t])[ln]'(by rw [hl2]; omega) = t := by
        rw [List.getElem_append_right (by rw [HLN.out]; exact Nat.le_refl _)]
        simp
      rw [g3] at c3
      clear hc3 g3 P8
      go_wp2_with fail
      refine (FT.out w8 (HT.out.below Q8.out HB.out)).mono ?_
      rintro e w9 ⟨rfl, b9⟩
      have Q9 := hide (Q8.out.trans (b9.mono hq8))
      have O9 := hide (O8.out.below b9)
      have W9 := hide (W8.out.below b9)
      clear b9 O8 W8 Q8 c3
      have Z9 := hide (O9.out.zin.take cap1 fl)
      have PE : Hid (l.take fl = fw) := hide P2.out.symm
      rw [PE.out] at Z9
      have SM := hide (sameTexts_same A4 (cutZ A1 cap1 0) fw cap4 cap1 w9 _ _ (by unfold maxLen; rw [HFL.out]; omega) W9.out.zin Z9.out)
      rw [HFL.out] at SM
      go_wp2_with fail
      refine SM.out.mono ?_
      rintro e w10 ⟨rfl, q10⟩
      have Q10 := hide (Q9.out.trans (q10.below w.heap.size))
      clear q10 SM Q9
      go_wp2
      go_ret
      exact ⟨rfl, Q10.out⟩

theorem plainVars : ∀ n ∈ Rows.fnFramesSpec.vars, ∀ g t, Tryd.prog.globalNamed n = some g → (Tryd.prog.globals[g]?).map (·.type) = some t → Tryd.prog.readableRec t = true ∧ t < Tryd.prog.types.size := by
  intro n hn g t h1 h2
  have hb : (Rows.fnFramesSpec.vars).all (fun n => ((Tryd.prog.globalNamed n).bind fun g => (Tryd.prog.globals[g]?).map fun x => Tryd.prog.readableRec x.type && decide (x.type < Tryd.prog.types.size)).getD false) = true := by kernel_rfl
  have h := List.all_eq_true.1 hb n hn
  rw [h1] at h
  obtain ⟨x, hx, rfl⟩ := Option.map_eq_some_iff.1 h2
  simp only [Option.bind_some, hx, Option.map_some, Option.getD_some, Bool.and_eq_true, decide_eq_true_eq] at h
  exact h
set_option maxRecDepth 100000 in
theorem contract (H : Type) (enc : TypeId × Value → H) (W : World) (base : Nat) (args : Array Value) (ds gs : List (DataW H)) (before : List MemPlace)
    (hval0 : ∀ (j : Nat) t v, Tryd.f5.params[j]? = some t → args[j]? = some v → Value.okWide Tryd.prog W .any base t v)
    (hW : DataW.Whole enc Tryd.prog Tryd.f5.params.toList Rows.fnFramesSpec.vars false W args.toList ds gs before) (hL : laidMetH Tryd.prog Rows.fnFramesRow.laid W) :
    Calls Tryd.prog 5 args W fun e W' => ∃ v, e = .returned v ∧ Rows.fnFramesSpec.post enc Tryd.prog Tryd.f5 false true false false W args v W' := by
  have hval : ∀ (j : Nat) t v, Tryd.f5.params[j]? = some t → args[j]? = some v → Value.okWide Tryd.prog W .any base t v := hval0
  have hR : Rows16 W := rows_of (l := Rows.fnFramesRow.laid) hL (List.mem_cons_self ..)
  have hW' := hW
  obtain ⟨p, q, hA0, hV, rfl, hfz, hnd⟩ := hW
  have hA : DataW.TrodAll enc Tryd.prog W 0 (fun _ => true) true Tryd.f5.params.toList args.toList ds p := hA0
  rw [Tryd.params5] at hA hval
  obtain ⟨v0, vs0, d0, ds0, p0, q0, hargs, rfl, rfl, h0, r0⟩ := trodAll_cons hA
  obtain ⟨rfl, rfl, rfl⟩ := trodAll_nil r0
  obtain rfl : args = #[v0] := by cases args; simp_all
  obtain ⟨x0, rfl⟩ := list1 (vars_len hV)
  obtain ⟨A0, n0, cap0, rfl⟩ := okWide_slice Tryd.underlying29 (hval 0 29 v0 rfl rfl)
  have lt0 : ∀ x ∈ p0, x.block < W.heap.size := by obtain ⟨m, hm⟩ := h0; exact DataW.trod_lt m _ _ _ hm
  obtain ⟨l0, rfl, hl0, hin0⟩ := open_code h0
  clear hA0 hval0
  refine (walk A0 n0 cap0 W hl0 hin0 hR).mono fun e W' ⟨he, bel⟩ => ?_
  subst he
  exact ⟨_, rfl, _, _, _, [], _, q, hW', trodAll_mk1 (shut_bool Tryd.underlying4 _), (trodAll_cons_mk (Below.trod laidOut (by kernel_rfl) (of_decide_eq_true (by kernel_rfl)) h0 bel lt0) trodAll_mk0), vars_stay laidOut bel plainVars hV, bel.frame _, fun h => by cases h⟩

/-- a world for the witness: the tables hold what their initialisers lay -/
noncomputable def laidWorld (os : Os) : World := layAll (World.holding Tryd.prog os ⟨#[], #[], []⟩)
theorem laid_met (os : Os) : laidMet Tryd.prog Rows.fnFramesRow.laid ((laidWorld os).forCall (fun _ _ => 0) ⟨#[], #[.slice none 0 0], []⟩).memory :=
  laidMet_of_run' 8 (by kernel_rfl) (by kernel_rfl)
theorem reads (os : Os) {H : Type} (enc : TypeId × Value → H) : ∃ x, DataW.whole enc Tryd.prog ((laidWorld os).forCall (fun _ _ => 0) ⟨#[], #[.slice none 0 0], []⟩).memory Tryd.f5.params.toList Rows.fnFramesSpec.vars false (#[.slice none 0 0] : Array Value).toList 8 = some x :=
  Option.isSome_iff_exists.1 (by kernel_rfl)
set_option maxRecDepth 100000 in
theorem lifted (os : Os) (started : os.Started) (H : Type) (enc : TypeId × Value → H) (F : Stop.Interp) :
    ReturnsInHanded {} Tryd.checked os 5 .any ((OpenSpec.ofChange Rows.fnFramesSpec).preRow enc Tryd.prog Tryd.f5 Rows.fnFramesRow.domain false Rows.fnFramesRow.laid) (((OpenSpec.ofChange Rows.fnFramesSpec).at F).post enc Tryd.prog Tryd.f5 false true false false) := by
  obtain ⟨x, hx⟩ := reads os enc
  refine returnsInHanded_of_row (C := Tryd.checked) (s := OpenSpec.ofChange Rows.fnFramesSpec) own started (by kernel_rfl) Tryd.func5
    (witness_row_at (enc := enc) (C := Tryd.checked) false (laidWorld os) #[.slice none 0 0] rfl (by kernel_rfl) (by kernel_rfl) (by kernel_rfl)
      (OpenSpec.preRow_of_cond 8 hx rfl (fun k hk => by cases hk) (by kernel_rfl) (laid_met os))) ?_
  intro W base args ds gs before hval hW _ _ _ hL _ _
  exact contract H enc W base args ds gs before hval hW hL
theorem said : Rows.FnFramesSaid :=
  OpenClaim.holds_of_cond 5 Tryd.f5 rfl rfl rfl rfl rfl rfl rfl ⟨rfl, rfl, rfl, rfl, rfl⟩ rfl rfl rfl rfl rfl (by kernel_rfl) Tryd.func5 (by kernel_rfl)
    (of_decide_eq_true (by kernel_rfl)) (by unfold Func.isWrapper; first | (rw [if_pos (by decide +kernel)]; kernel_rfl) | (rw [if_neg (by decide +kernel)]; exact ⟨rfl, rfl⟩))
    (fun os started H enc _ F => by rw [OpenClaim.pre_eq_preRow]; exact lifted os started H enc F)
theorem plain (f : FuncId) (fn : Func) (hf : Tryd.pinned.checked.prog.funcNamed "loop.example/g00652/laws.FnFrames" = some f) (hfn : Tryd.pinned.checked.prog.funcs[f]? = some fn) :
    false = Tryd.pinned.checked.prog.looks [] ∧ ∀ (j : Nat) t, fn.params[j]? = some t → Tryd.pinned.checked.prog.wantsStandIn t = false := by
  obtain rfl : f = 5 := Option.some.inj ((show Tryd.prog.funcNamed "loop.example/g00652/laws.FnFrames" = some 5 by kernel_rfl).symm.trans hf) |>.symm
  obtain rfl : fn = Tryd.f5 := (Option.some.inj (Tryd.func5.symm.trans hfn)).symm
  refine ⟨by kernel_rfl, fun j t ht => ?_⟩
  rw [Tryd.params5] at ht
  have hm := Array.mem_of_getElem? ht
  simp only [List.mem_toArray, List.mem_cons, List.not_mem_nil, or_false] at hm
  subst hm
  exact (show Tryd.prog.wantsStandIn 29 = false by kernel_rfl)
theorem card : Rows.FnFramesCardSaid :=
  Claim7.holds_tied_plain_at .later [] _ _ _ _ said (fun _ h => by cases h) (by kernel_rfl) (fun _ h => by cases h) fnFrames_row_tie rfl ⟨rfl, rfl⟩ (by kernel_rfl) rfl plain (by kernel_rfl)

end Go.Proofs.YtpnbolekhgcacaaDoor.LFrames
namespace Go.Proofs.YtpnbolekhgcacaaDoor
theorem fnFrames_proved : Rows.FnFramesCardSaid := LFrames.card
end Go.Proofs.YtpnbolekhgcacaaDoor
