/-
  For every code, laws.FnFoundAll returns true: each object of a drawn list of right ones is found by its id, which is that of its text. No conditions but that the two tables of the digest hold what the program's text lays (the card ties them).
-/
import Derived.Test.YtaibonbabicilaaDoorQLaid
import Derived.Test.YtaibonbabicilaaDoorRdCode
import Derived.Test.YtaibonbabicilaaDoorQDraw
import Derived.Test.YtaibonbabicilaaDoorQJoin
import Derived.Test.YtaibonbabicilaaDoorQLaws
import Derived.Test.YtaibonbabicilaaDoorPCls
namespace Go.Proofs.YtaibonbabicilaaDoor.LFoundAll
open Go.RowKit Go.ChangeShapes Go.WideShapes Go.ChangeAt
open Go.ChangeMaps (open_string shut_string)

set_option maxRecDepth 100000 in
set_option maxHeartbeats 2000000 in
theorem walk (A : Option Addr) (n : Nat) (cap : Nat) (w : World) (hl : n ≤ maxLen) (hin : CIn w w.heap.size A n) (hT : Tabs w) :
    Calls Tryd.prog 9 #[.slice A n cap] w fun e w' => e = .returned (.bool true) ∧ Below w.heap.size w w' := by
  by_cases hbig : 1048576 < n
  · have d : decide (1048576 < n) = true := decide_eq_true hbig
    go_enter Tryd.func9, Tryd.ntmps9
    go_wp2_with (go_at_call 20; refine (big_any A n cap _ hl).mono ?_; rintro e w' ⟨rfl, rfl⟩)
    go_ret
    exact ⟨rfl, Below.refl _ _⟩
  have hn : n ≤ 1048576 := by omega
  have d : decide (1048576 < n) = false := decide_eq_false hbig
  have IN := hide hin
  have HT := hide hT
  have HB := hide hT.1
  have B0 : Hid (Below w.heap.size w w) := hide (Below.refl _ _)
  clear hin hT
  go_enter Tryd.func9, Tryd.ntmps9
  go_wp2_with fail
  refine (big_any A n cap w hl).mono ?_
  rintro e w' ⟨rfl, rfl⟩
  go_wp2_with fail
  refine (drawObjsOk_any A n cap w hn IN.out).mono ?_
  rintro e w1 ⟨AM, capM, l, hcM, hl61, rfl, own1, b1⟩
  have B1 := hide (B0.out.trans (b1.mono B0.out.size))
  have M_1 := hide own1
  clear b1 own1 B0
  have hlm : l.length ≤ maxLen := by unfold maxLen; omega
  have hne : (objsB l != objsB l) = false := by simp
  have heq : (objsB l == objsB l) = true := by simp
  go_wp2_with fail
  refine (implObjsOk_any AM l capM w1 hlm M_1.out.pin (HT.out.below B1.out HB.out)).mono ?_
  rintro e w2 ⟨rfl, b2⟩
  have B2 := hide (B1.out.trans (b2.mono B1.out.size))
  have M_2 := hide (M_1.out.below b2)
  clear b2 B1 M_1
  go_wp2_with fail
  refine (specObjsOk_any AM l capM w2 hlm M_2.out.pin).mono ?_
  rintro e w3 ⟨rfl, b3⟩
  have B3 := hide (B2.out.trans (b3.mono B2.out.size))
  have M_3 := hide (M_2.out.below b3)
  clear b3 B2 M_2
  go_wp2_with fail
  refine (specObjsOk_any AM l capM w3 hlm M_3.out.pin).mono ?_
  rintro e w4 ⟨rfl, b4⟩
  have B4 := hide (B3.out.trans (b4.mono B3.out.size))
  have M_4 := hide (M_3.out.below b4)
  clear b4 B3 M_3
  cases hm : objsB l
  · go_wp2_with fail
    refine (implObjsOk_any AM l capM w4 hlm M_4.out.pin (HT.out.below B4.out HB.out)).mono ?_
    rintro e w5 ⟨rfl, b5⟩
    have B5 := hide (B4.out.trans (b5.mono B4.out.size))
    have M_5 := hide (M_4.out.below b5)
    clear b5 B4 M_4
    go_wp2_with fail
    refine (specObjsOk_any AM l capM w5 hlm M_5.out.pin).mono ?_
    rintro e w6 ⟨rfl, b6⟩
    have B6 := hide (B5.out.trans (b6.mono B5.out.size))
    have M_6 := hide (M_5.out.below b6)
    clear b6 B5 M_5
    go_wp2
    go_ret
    exact ⟨rfl, B6.out⟩
  · have HM := hide hm
    clear hm
    generalize hnn : l.length = m at hl61 ⊢
    have HNN := hide hnn
    clear hnn
    go_wp2
    go_loopw [4] (fun i wr => ∃ j : Nat, j ≤ m ∧ i = .int .i64 j ∧ Hid (Own wr w.heap.size AM capM l) ∧ Hid (Below w.heap.size w wr)) (fun i _ => m - (intOf i).toNat)
    case atStart => exact ⟨0, Nat.zero_le _, rfl, M_4, B4⟩
    case round =>
      clear M_4 B4
      obtain ⟨j, hj, rfl, O, Q⟩ := hrel
      by_cases hlt : j < m
      · have hjl : j < l.length := by rw [HNN.out]; omega
        have hin1 := O.out.pin
        obtain ⟨b, off, rfl, hbB, hc⟩ := hin1.2 (by omega)
        obtain ⟨c1, c2⟩ := hc j hjl
        obtain ⟨s1, s2⟩ := hin1.1 j hjl
        obtain ⟨f1, f2, f3, f4⟩ := find_all HM.out hjl
        have R := hide (implFind_any (some ⟨b, off, none⟩) l capM (l[j]'hjl).1 wr s1 hlm O.out.pin (HT.out.below Q.out HB.out))
        rw [f1, f2, HNN.out] at R
        have L2 : Hid (∀ W, Tabs W → Calls Tryd.prog 29 #[.string (l[j]'hjl).2] W fun e w' => e = .returned (.string (idL (l[j]'hjl).2)) ∧ Below W.heap.size W w') := hide fun W hW => idI_any _ W f4 hW
        rw [f3] at L2
        generalize (l[j]'hjl).1 = x at *
        generalize (l[j]'hjl).2 = y at *
        have ey : (y.toList == y.toList) = true := by simp
        have ex : (x.toList == x.toList) = true := by simp
        clear hin1 hc f1 f2 f3 f4
        go_wp2_with fail
        refine R.out.mono ?_
        rintro e w9 ⟨rfl, b9⟩
        have y1 := cls_cell (B := w9.heap.size) (p := ⟨b, off + j * 2, none⟩) (show b < w9.heap.size by have := b9.size; omega) (cellB b9 hbB c1)
        have y2 := cls_cell (B := w9.heap.size) (p := ⟨b, off + j * 2 + 1, none⟩) (show b < w9.heap.size by have := b9.size; omega) (cellB b9 hbB c2)
        have O9 := hide (O.out.below b9)
        have Q9 := hide (Q.out.trans (b9.mono Q.out.size))
        have T9 := hide (HT.out.below Q9.out HB.out)
        clear b9 R c1 c2 O Q
        go_wp2
        refine wp_region_cls (by kernel_rfl) (by kernel_rfl) w9.heap.size ?_
        repeat (go_big_quiet_step ((go_at_call 29; exact cls_call (Nat.le_refl _) (L2.out _ (T9.out.below (Cls.below _) T9.out.1)))))
        refine wpQuiet_nil ?_
        intro _ hw'
        obtain ⟨u, hw''⟩ := hw'
        subst hw''
        have O10 := hide (O9.out.below u.below)
        have Q10 := hide (Q9.out.trans (u.below.mono Q9.out.size))
        clear y1 y2 O9 Q9
        go_wp2
        exact ⟨⟨j + 1, by omega, by go_num, O10, Q10⟩, by simp [intOf]; omega⟩
      · go_wp2
        go_ret
        exact ⟨rfl, Q.out⟩

theorem plainVars : ∀ n ∈ Rows.fnFoundAllSpec.vars, ∀ g t, Tryd.prog.globalNamed n = some g → (Tryd.prog.globals[g]?).map (·.type) = some t → Tryd.prog.readableRec t = true ∧ t < Tryd.prog.types.size := by
  intro n hn g t h1 h2
  have hb : (Rows.fnFoundAllSpec.vars).all (fun n => ((Tryd.prog.globalNamed n).bind fun g => (Tryd.prog.globals[g]?).map fun x => Tryd.prog.readableRec x.type && decide (x.type < Tryd.prog.types.size)).getD false) = true := by kernel_rfl
  have h := List.all_eq_true.1 hb n hn
  rw [h1] at h
  obtain ⟨x, hx, rfl⟩ := Option.map_eq_some_iff.1 h2
  simp only [Option.bind_some, hx, Option.map_some, Option.getD_some, Bool.and_eq_true, decide_eq_true_eq] at h
  exact h
set_option maxRecDepth 100000 in
theorem contract (H : Type) (enc : TypeId × Value → H) (W : World) (base : Nat) (args : Array Value) (ds gs : List (DataW H)) (before : List MemPlace)
    (hval0 : ∀ (j : Nat) t v, Tryd.f9.params[j]? = some t → args[j]? = some v → Value.okWide Tryd.prog W .any base t v)
    (hW : DataW.Whole enc Tryd.prog Tryd.f9.params.toList Rows.fnFoundAllSpec.vars false W args.toList ds gs before) (hL : laidMetH Tryd.prog Rows.fnFoundAllRow.laid W) :
    Calls Tryd.prog 9 args W fun e W' => ∃ v, e = .returned v ∧ Rows.fnFoundAllSpec.post enc Tryd.prog Tryd.f9 false true false false W args v W' := by
  have hval : ∀ (j : Nat) t v, Tryd.f9.params[j]? = some t → args[j]? = some v → Value.okWide Tryd.prog W .any base t v := hval0
  have hT : Tabs W := tabs_of (l := Rows.fnFoundAllRow.laid) hL (List.mem_cons_self ..) (List.mem_cons_of_mem _ (List.mem_cons_self ..))
  have hW' := hW
  obtain ⟨p, q, hA0, hV, rfl, hfz, hnd⟩ := hW
  have hA : DataW.TrodAll enc Tryd.prog W 0 (fun _ => true) true Tryd.f9.params.toList args.toList ds p := hA0
  rw [Tryd.params9] at hA hval
  obtain ⟨v0, vs0, d0, ds0, p0, q0, hargs, rfl, rfl, h0, r0⟩ := trodAll_cons hA
  obtain ⟨rfl, rfl, rfl⟩ := trodAll_nil r0
  obtain rfl : args = #[v0] := by cases args; simp_all
  obtain ⟨x0, x1, rfl⟩ := list2 (vars_len hV)
  obtain ⟨A0, n0, cap0, rfl⟩ := okWide_slice Tryd.underlying34 (hval 0 34 v0 rfl rfl)
  have lt0 : ∀ x ∈ p0, x.block < W.heap.size := by obtain ⟨m, hm⟩ := h0; exact DataW.trod_lt m _ _ _ hm
  obtain ⟨l0, rfl, hl0, hin0⟩ := open_code h0
  clear hA0 hval0
  refine (walk A0 n0 cap0 W hl0 hin0 hT).mono fun e W' ⟨he, bel⟩ => ?_
  subst he
  exact ⟨_, rfl, _, _, _, [], _, q, hW', trodAll_mk1 (shut_bool Tryd.underlying4 _), (trodAll_cons_mk (Below.trod laidOut (by kernel_rfl) (of_decide_eq_true (by kernel_rfl)) h0 bel lt0) trodAll_mk0), vars_stay laidOut bel plainVars hV, bel.frame _, fun h => by cases h⟩

/-- a world for the witness: the tables hold what their initialisers lay -/
noncomputable def laidWorld (os : Os) : World := layAll (World.holding Tryd.prog os ⟨#[], #[], []⟩)
theorem laid_met (os : Os) : laidMet Tryd.prog Rows.fnFoundAllRow.laid ((laidWorld os).forCall (fun _ _ => 0) ⟨#[], #[.slice none 0 0], []⟩).memory :=
  laidMet_of_run' 8 (by kernel_rfl) (by kernel_rfl)
theorem reads (os : Os) {H : Type} (enc : TypeId × Value → H) : ∃ x, DataW.whole enc Tryd.prog ((laidWorld os).forCall (fun _ _ => 0) ⟨#[], #[.slice none 0 0], []⟩).memory Tryd.f9.params.toList Rows.fnFoundAllSpec.vars false (#[.slice none 0 0] : Array Value).toList 8 = some x :=
  Option.isSome_iff_exists.1 (by kernel_rfl)
set_option maxRecDepth 100000 in
theorem lifted (os : Os) (started : os.Started) (H : Type) (enc : TypeId × Value → H) (F : Stop.Interp) :
    ReturnsInHanded {} Tryd.checked os 9 .any ((OpenSpec.ofChange Rows.fnFoundAllSpec).preRow enc Tryd.prog Tryd.f9 Rows.fnFoundAllRow.domain false Rows.fnFoundAllRow.laid) (((OpenSpec.ofChange Rows.fnFoundAllSpec).at F).post enc Tryd.prog Tryd.f9 false true false false) := by
  obtain ⟨x, hx⟩ := reads os enc
  refine returnsInHanded_of_row (C := Tryd.checked) (s := OpenSpec.ofChange Rows.fnFoundAllSpec) own started (by kernel_rfl) Tryd.func9
    (witness_row_at (enc := enc) (C := Tryd.checked) false (laidWorld os) #[.slice none 0 0] rfl (by kernel_rfl) (by kernel_rfl) (by kernel_rfl)
      (OpenSpec.preRow_of_cond 8 hx rfl (fun k hk => by cases hk) (by kernel_rfl) (laid_met os))) ?_
  intro W base args ds gs before hval hW _ _ _ hL _ _
  exact contract H enc W base args ds gs before hval hW hL
theorem said : Rows.FnFoundAllSaid :=
  OpenClaim.holds_of_cond 9 Tryd.f9 rfl rfl rfl rfl rfl rfl rfl ⟨rfl, rfl, rfl, rfl, rfl⟩ rfl rfl rfl rfl rfl (by kernel_rfl) Tryd.func9 (by kernel_rfl)
    (of_decide_eq_true (by kernel_rfl)) (by unfold Func.isWrapper; first | (rw [if_pos (by decide +kernel)]; kernel_rfl) | (rw [if_neg (by decide +kernel)]; exact ⟨rfl, rfl⟩))
    (fun os started H enc _ F => by rw [OpenClaim.pre_eq_preRow]; exact lifted os started H enc F)
theorem plain (f : FuncId) (fn : Func) (hf : Tryd.pinned.checked.prog.funcNamed "loop.example/g00652/laws.FnFoundAll" = some f) (hfn : Tryd.pinned.checked.prog.funcs[f]? = some fn) :
    false = Tryd.pinned.checked.prog.looks [] ∧ ∀ (j : Nat) t, fn.params[j]? = some t → Tryd.pinned.checked.prog.wantsStandIn t = false := by
  obtain rfl : f = 9 := Option.some.inj ((show Tryd.prog.funcNamed "loop.example/g00652/laws.FnFoundAll" = some 9 by kernel_rfl).symm.trans hf) |>.symm
  obtain rfl : fn = Tryd.f9 := (Option.some.inj (Tryd.func9.symm.trans hfn)).symm
  refine ⟨by kernel_rfl, fun j t ht => ?_⟩
  rw [Tryd.params9] at ht
  have hm := Array.mem_of_getElem? ht
  simp only [List.mem_toArray, List.mem_cons, List.not_mem_nil, or_false] at hm
  subst hm
  exact (show Tryd.prog.wantsStandIn 34 = false by kernel_rfl)
theorem card : Rows.FnFoundAllCardSaid :=
  Claim7.holds_tied_plain_at .later [] _ _ _ _ said (fun _ h => by cases h) (by kernel_rfl) (fun _ h => by cases h) fnFoundAll_row_tie rfl ⟨rfl, rfl⟩ (by kernel_rfl) rfl plain (by kernel_rfl)

end Go.Proofs.YtaibonbabicilaaDoor.LFoundAll
namespace Go.Proofs.YtaibonbabicilaaDoor
theorem fnFoundAll_proved : Rows.FnFoundAllCardSaid := LFoundAll.card
end Go.Proofs.YtaibonbabicilaaDoor
