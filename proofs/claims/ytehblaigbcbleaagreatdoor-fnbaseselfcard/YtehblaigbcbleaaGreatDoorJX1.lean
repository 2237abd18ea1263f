/-
  laws.FnBaseSelf returns true whatever the code: of a commit and what is behind it the best in common is that. No conditions but that the two tables of the digest and the sentinel of the reader hold what the program's text lays (the card ties them).
-/
import Derived.Test.YtehblaigbcbleaaGreatDoorJC
import Derived.Test.YtehblaigbcbleaaGreatDoorJD
import Derived.Test.YtehblaigbcbleaaGreatDoorJB
namespace Go.Proofs.YtehblaigbcbleaaGreatDoor.LBaseSelf
open Go.RowKit Go.ChangeShapes Go.WideShapes Go.ChangeAt
open Go.ChangeMaps (open_string shut_string)

set_option maxRecDepth 100000 in
set_option maxHeartbeats 4000000 in
theorem walk (A : Option Addr) (n : Nat) (cap : Nat) (a : Addr) (w : World) (hl : n ≤ maxLen) (hin : CIn w w.heap.size A n) (hT : Tabs w) (hE : ErrC w a) :
    Calls Tryz.prog 9 #[.slice A n cap] w fun e w' => e = .returned (.bool true) ∧ Below w.heap.size w w' := by
  by_cases hbig : 1048576 < n
  · have d : decide (1048576 < n) = true := decide_eq_true hbig
    go_enter Tryz.func9, Tryz.ntmps9
    go_wp2_with (go_at_call 10; refine (big_any A n cap _ hl).mono ?_; rintro e w' ⟨rfl, rfl⟩)
    go_ret
    exact ⟨rfl, Below.refl _ _⟩
  have hn : n ≤ 1048576 := by omega
  have d : decide (1048576 < n) = false := decide_eq_false hbig
  have IN := hide hin
  have HT := hide hT
  have HB := hide hT.1
  have HE := hide hE
  have B0 : Hid (Below w.heap.size w w) := hide (Below.refl _ _)
  clear hin hT hE
  go_enter Tryz.func9, Tryz.ntmps9
  go_wp2_with fail
  refine (big_any A n cap w hl).mono ?_
  rintro e w' ⟨rfl, rfl⟩
  go_wp2_with fail
  refine (drawAncestors_any A n cap w hn IN.out).mono ?_
  rintro e w1 ⟨AL, capL, l, id, hcL, hl60, hid16, ⟨ids, htop⟩, rfl, oL, b1⟩
  have B1 := hide (B0.out.trans (b1.mono B0.out.size))
  have L_1 := hide oL
  have HTOP := hide htop
  clear b1 oL B0 htop
  have hlm : l.length ≤ maxLen := by unfold maxLen; omega
  have hidm : id.size ≤ maxLen := by unfold maxLen; omega
  have SELF : Hid (∀ x ∈ ancK l id, bestK l x id = [x]) := hide (fun x hx => base_self HTOP.out.acy hx)
  have HZ : (valOf l id).size ≤ 1048576 := Nat.le_trans (valOf_size (repoB_iff.1 HTOP.out.rep).1 id) (by decide)
  have hal := ancK_len l id
  have halm : (ancK l id).length ≤ maxLen := by unfold maxLen; omega
  have X16 : Hid (∀ x ∈ ancK l id, x.size ≤ maxLen) := hide (fun x hx => key_max (repoB_iff.1 HTOP.out.rep).1 (anc_rd hx))
  go_wp2_with fail
  refine (implAncestors_any AL l capL id a w1 hlm L_1.out.pin hidm (HT.out.below B1.out HB.out) (HE.out.below B1.out)).mono ?_
  rintro e w2 ⟨AN, capN, rfl, own2, b2⟩
  have B2 := hide (B1.out.trans (b2.mono B1.out.size))
  have L_2 := hide (L_1.out.below b2)
  have N_2 := hide (own2.more B1.out.size)
  clear b2 own2 B1 L_1
  go_wp2_with fail
  refine (specAncestors_any AL l capL id w2 hlm L_2.out.pin HZ).mono ?_
  rintro e w3 ⟨AX, capX, rfl, own3, b3⟩
  have B3 := hide (B2.out.trans (b3.mono B2.out.size))
  have L_3 := hide (L_2.out.below b3)
  have N_3 := hide (N_2.out.below b3)
  have X_3 := hide (own3.more B2.out.size)
  clear b3 own3 B2 L_2 N_2
  go_wp2_with fail
  refine (sameTexts_same AN AX (ancK l id) capN capX w3 _ _ halm N_3.out.zin X_3.out.zin).mono ?_
  rintro e w4 ⟨rfl, q4⟩
  have b4 := q4.below w3.heap.size
  have B4 := hide (B3.out.trans (b4.mono B3.out.size))
  have L_4 := hide (L_3.out.below b4)
  have N_4 := hide (N_3.out.below b4)
  have X_4 := hide (X_3.out.below b4)
  clear b4 q4 B3 L_3 N_3 X_3
  have BS : Hid (∀ x ∈ ancK l id, ∀ W, Below w4.heap.size w4 W → Calls Tryz.prog 38 #[.slice AL l.length capL, .string x, .string id] W fun e w' => ∃ A cap, e = .returned (.slice A 1 cap) ∧ Hid (ZIn w' w'.heap.size A [x]) ∧ Hid (Below W.heap.size W w')) := hide (fun x hx W hb => by
    have h := implBases_any AL l capL x id a W hlm ((L_4.out.below hb).pin) (X16.out x hx) hidm (HT.out.below (B4.out.trans (hb.mono B4.out.size)) HB.out) (HE.out.below (B4.out.trans (hb.mono B4.out.size)))
    rw [SELF.out x hx] at h
    refine h.mono ?_
    rintro e w' ⟨A', cap', rfl, o', b'⟩
    exact ⟨A', cap', rfl, hide o'.zin, hide b'⟩)
  have NZ := hide N_4.out.zin
  clear L_4 N_4 X_4 HTOP SELF X16 hlm halm HZ hcL
  generalize l.length = ln at *
  generalize hanl : (ancK l id).length = an at *
  have AN' := hide hanl
  clear hanl
  go_wp2_with fail
  go_loopw [6] (fun iv wr => ∃ k : Nat, k ≤ an ∧ iv = .int .i64 k ∧ Hid (Below w4.heap.size w4 wr)) (fun i _ => an - (intOf i).toNat)
  case atStart => exact ⟨0, Nat.zero_le _, rfl, hide (Below.refl _ _)⟩
  case round =>
    obtain ⟨k, hk, rfl, Q⟩ := hrel
    have sj := Q.out.size
    by_cases hlt : k < an
    · have hkl : k < (ancK l id).length := by rw [AN'.out]; exact hlt
      obtain ⟨b, off, rfl, hb, hc⟩ := NZ.out (by omega)
      have c1 := cellB Q.out hb (hc k hkl)
      have CB := hide (BS.out _ (List.getElem_mem hkl))
      have hbr : b < wr.heap.size := by omega
      clear hc BS
      generalize (ancK l id)[k]'hkl = x at *
      have LB : Hid (Below w4.heap.size w4 wr.drew) := hide (Q.out.drew)
      have LA : Hid (Below w4.heap.size w4 (wr.alloc (.cells #[.string x] 9)).drew) := hide ((Q.out.alloc sj _).drew)
      have ZA : Hid (ZIn (wr.alloc (.cells #[.string x] 9)).drew (wr.heap.size + 1) (some ⟨wr.heap.size, 0, none⟩) [x]) := hide (ZIn.one (w := wr) x 9 rfl)
      have cD : Hid (wr.drew.cell? ⟨b, off + k, none⟩ = some (.string x)) := hide c1
      have cA : Hid ((wr.alloc (.cells #[.string x] 9)).drew.cell? ⟨b, off + k, none⟩ = some (.string x)) := hide (cellB (((Below.refl wr.heap.size wr).alloc (Nat.le_refl _) _).drew) hbr c1)
      have sA : Hid ((wr.alloc (.cells #[.string x] 9)).drew.heap.size = wr.heap.size + 1) := hide (by simp)
      go_wp2_with fail
      go_region_with (first
        | (go_at_call 38; refine (CB.out _ (by first | exact LB.out | exact LA.out)).mono ?_; rintro e w9 ⟨A9, cap9, rfl, z9, b9⟩; first
            | (have d9 := cellB b9.out hbr cD.out; have Q9 := hide (LB.out.trans (b9.out.mono sj)); have Y9 : Hid (ZIn (w9.alloc (.cells #[.string x] 9)) (w9.heap.size + 1) (some ⟨w9.heap.size, 0, none⟩) [x]) := hide (ZIn.one (w := w9) x 9 rfl); have X9 : Hid (ZIn (w9.alloc (.cells #[.string x] 9)) w9.heap.size A9 [x]) := hide (z9.out.below ((Below.refl _ _).alloc (Nat.le_refl _) _)); have V9 := hide (Q9.out.alloc Q9.out.size (.cells #[.string x] 9)))
            | (have d9 := cellB b9.out (by rw [sA.out]; omega) cA.out; have Q9 := hide (LA.out.trans (b9.out.mono LA.out.size)); have Y9 : Hid (ZIn w9 (wr.heap.size + 1) (some ⟨wr.heap.size, 0, none⟩) [x]) := hide (ZA.out.below (b9.out.mono (by rw [sA.out]; exact Nat.le_refl _))); have X9 := hide z9.out; have V9 := hide Q9.out))
        | (go_at_call 25; refine (sameTexts_same _ _ [x] _ _ _ _ _ (by simp [maxLen]) X9.out Y9.out).mono ?_; rintro e w10 ⟨rfl, q10⟩; have Q10 := hide (V9.out.trans (q10.below _))))
      all_goals
        go_wp2_with fail
        go_roundw
        case rel => exact ⟨k + 1, by omega, by go_num, Q10⟩
        case measure => simp [intOf]; omega
    · have hgt : ¬ ((k : Int) < (an : Int)) := by omega
      clear hlt
      go_wp2_with fail
      go_ret
      exact ⟨rfl, B4.out.trans (Q.out.mono B4.out.size)⟩

theorem plainVars : ∀ n ∈ Rows.fnBaseSelfSpec.vars, n = "loop.example/g00652/impl.errNoCommit" ∨ ∀ g t, Tryz.prog.globalNamed n = some g → (Tryz.prog.globals[g]?).map (·.type) = some t → Tryz.prog.readableRec t = true ∧ t < Tryz.prog.types.size := by
  intro n hn
  have hb : (Rows.fnBaseSelfSpec.vars).all (fun n => n == "loop.example/g00652/impl.errNoCommit" || ((Tryz.prog.globalNamed n).bind fun g => (Tryz.prog.globals[g]?).map fun x => Tryz.prog.readableRec x.type && decide (x.type < Tryz.prog.types.size)).getD false) = true := by kernel_rfl
  have h := List.all_eq_true.1 hb n hn
  rw [Bool.or_eq_true] at h
  rcases h with h | h
  · exact .inl (by simpa using h)
  refine .inr fun g t h1 h2 => ?_
  rw [h1] at h
  obtain ⟨x, hx, rfl⟩ := Option.map_eq_some_iff.1 h2
  simp only [Option.bind_some, hx, Option.map_some, Option.getD_some, Bool.and_eq_true, decide_eq_true_eq] at h
  exact h
set_option maxRecDepth 100000 in
theorem contract (H : Type) (enc : TypeId × Value → H) (W : World) (base : Nat) (args : Array Value) (ds gs : List (DataW H)) (before : List MemPlace)
    (hval0 : ∀ (j : Nat) t v, Tryz.f9.params[j]? = some t → args[j]? = some v → Value.okWide Tryz.prog W .any base t v)
    (hW : DataW.Whole enc Tryz.prog Tryz.f9.params.toList Rows.fnBaseSelfSpec.vars false W args.toList ds gs before) (hL : laidMetH Tryz.prog Rows.fnBaseSelfRow.laid W) :
    Calls Tryz.prog 9 args W fun e W' => ∃ v, e = .returned v ∧ Rows.fnBaseSelfSpec.post enc Tryz.prog Tryz.f9 false true false false W args v W' := by
  have hval : ∀ (j : Nat) t v, Tryz.f9.params[j]? = some t → args[j]? = some v → Value.okWide Tryz.prog W .any base t v := hval0
  have hT : Tabs W := tabs_of (l := Rows.fnBaseSelfRow.laid) hL (List.mem_cons_self ..) (List.mem_cons_of_mem _ (List.mem_cons_self ..))
  obtain ⟨a, hE, hvar⟩ := errs_in (W := W) (laid_tail (laid_tail hL))
  have hW' := hW
  obtain ⟨p, q, hA0, hV, rfl, hfz, hnd⟩ := hW
  have hA : DataW.TrodAll enc Tryz.prog W 0 (fun _ => true) true Tryz.f9.params.toList args.toList ds p := hA0
  rw [Tryz.params9] at hA hval
  obtain ⟨v0, vs0, d0, ds0, p0, q0, hargs, rfl, rfl, h0, r0⟩ := trodAll_cons hA
  obtain ⟨rfl, rfl, rfl⟩ := trodAll_nil r0
  obtain rfl : args = #[v0] := by cases args; simp_all
  obtain ⟨x0, x1, x2, rfl⟩ := list3 (vars_len hV)
  obtain ⟨A0, n0, cap0, rfl⟩ := okWide_slice Tryz.underlying22 (hval 0 22 v0 rfl rfl)
  have lt0 : ∀ x ∈ p0, x.block < W.heap.size := by obtain ⟨m, hm⟩ := h0; exact DataW.trod_lt m _ _ _ hm
  obtain ⟨l0, rfl, hl0, hin0⟩ := open_code h0
  clear hA0 hval0
  refine (walk A0 n0 cap0 a W hl0 hin0 hT hE).mono fun e W' ⟨he, bel⟩ => ?_
  subst he
  exact ⟨_, rfl, _, _, _, [], _, q, hW', trodAll_mk1 (shut_bool Tryz.underlying4 _), (trodAll_cons_mk (Below.trod laidOut (by kernel_rfl) (of_decide_eq_true (by kernel_rfl)) h0 bel lt0) trodAll_mk0), vars_stayE laidOut bel hvar plainVars hV, bel.frame _, fun h => by cases h⟩

/-- a world for the witness: the tables hold what their initialisers lay -/
noncomputable def laidWorld (os : Os) : World := layAllE (World.holding Tryz.prog os ⟨#[], #[], []⟩)
theorem laid_met (os : Os) : laidMet Tryz.prog Rows.fnBaseSelfRow.laid ((laidWorld os).forCall (fun _ _ => 0) ⟨#[], #[.slice none 0 0], []⟩).memory :=
  laidMet_of_run' 8 (by kernel_rfl) (by kernel_rfl)
theorem reads (os : Os) {H : Type} (enc : TypeId × Value → H) : ∃ x, DataW.whole enc Tryz.prog ((laidWorld os).forCall (fun _ _ => 0) ⟨#[], #[.slice none 0 0], []⟩).memory Tryz.f9.params.toList Rows.fnBaseSelfSpec.vars false (#[.slice none 0 0] : Array Value).toList 8 = some x :=
  Option.isSome_iff_exists.1 (by kernel_rfl)
set_option maxRecDepth 100000 in
theorem lifted (os : Os) (started : os.Started) (H : Type) (enc : TypeId × Value → H) (F : Stop.Interp) :
    ReturnsInHanded {} Tryz.checked os 9 .any ((OpenSpec.ofChange Rows.fnBaseSelfSpec).preRow enc Tryz.prog Tryz.f9 Rows.fnBaseSelfRow.domain false Rows.fnBaseSelfRow.laid) (((OpenSpec.ofChange Rows.fnBaseSelfSpec).at F).post enc Tryz.prog Tryz.f9 false true false false) := by
  obtain ⟨x, hx⟩ := reads os enc
  refine returnsInHanded_of_row (C := Tryz.checked) (s := OpenSpec.ofChange Rows.fnBaseSelfSpec) own started (by kernel_rfl) Tryz.func9
    (witness_row_at (enc := enc) (C := Tryz.checked) false (laidWorld os) #[.slice none 0 0] rfl (by kernel_rfl) (by kernel_rfl) (by kernel_rfl)
      (OpenSpec.preRow_of_cond 8 hx rfl (fun k hk => by cases hk) (by kernel_rfl) (laid_met os))) ?_
  intro W base args ds gs before hval hW _ _ _ hL _ _
  exact contract H enc W base args ds gs before hval hW hL
theorem said : Rows.FnBaseSelfSaid :=
  OpenClaim.holds_of_cond 9 Tryz.f9 rfl rfl rfl rfl rfl rfl rfl ⟨rfl, rfl, rfl, rfl, rfl⟩ rfl rfl rfl rfl rfl (by kernel_rfl) Tryz.func9 (by kernel_rfl)
    (of_decide_eq_true (by kernel_rfl)) (by unfold Func.isWrapper; first | (rw [if_pos (by decide +kernel)]; kernel_rfl) | (rw [if_neg (by decide +kernel)]; exact ⟨rfl, rfl⟩))
    (fun os started H enc _ F => by rw [OpenClaim.pre_eq_preRow]; exact lifted os started H enc F)
theorem plain (f : FuncId) (fn : Func) (hf : Tryz.pinned.checked.prog.funcNamed "loop.example/g00652/laws.FnBaseSelf" = some f) (hfn : Tryz.pinned.checked.prog.funcs[f]? = some fn) :
    false = Tryz.pinned.checked.prog.looks [] ∧ ∀ (j : Nat) t, fn.params[j]? = some t → Tryz.pinned.checked.prog.wantsStandIn t = false := by
  obtain rfl : f = 9 := Option.some.inj ((show Tryz.prog.funcNamed "loop.example/g00652/laws.FnBaseSelf" = some 9 by kernel_rfl).symm.trans hf) |>.symm
  obtain rfl : fn = Tryz.f9 := (Option.some.inj (Tryz.func9.symm.trans hfn)).symm
  refine ⟨by kernel_rfl, fun j t ht => ?_⟩
  rw [Tryz.params9] at ht
  have hm := Array.mem_of_getElem? ht
  simp only [List.mem_toArray, List.mem_cons, List.not_mem_nil, or_false] at hm
  subst hm
  exact (show Tryz.prog.wantsStandIn 22 = false by kernel_rfl)
theorem card : Rows.FnBaseSelfCardSaid :=
  Claim7.holds_tied_plain_at .later [] _ _ _ _ said (fun _ h => by cases h) (by kernel_rfl) (fun _ h => by cases h) fnBaseSelf_row_tie rfl ⟨rfl, rfl⟩ (by kernel_rfl) rfl plain (by kernel_rfl)

end Go.Proofs.YtehblaigbcbleaaGreatDoor.LBaseSelf
namespace Go.Proofs.YtehblaigbcbleaaGreatDoor
theorem fnBaseSelf_proved : Rows.FnBaseSelfCardSaid := LBaseSelf.card
end Go.Proofs.YtehblaigbcbleaaGreatDoor
