/-
  For every text, laws.FnExactReadCommit returns true: impl.ReadCommit answers as the reference does, and its answer is memory of its own. No conditions but that the sentinel of the reader holds what the program's text lays (the card ties it).
-/
import Derived.Test.YtnchghfddhjonaaDoorCRdS
import Derived.Test.YtnchghfddhjonaaDoorCMark
import Derived.Test.YtnchghfddhjonaaDoorCSame
import Derived.Test.YtnchghfddhjonaaDoorCLaid
namespace Go.Proofs.YtnchghfddhjonaaDoor.ExReadCommit
open Go.RowKit Go.ChangeShapes Go.WideShapes Go.ChangeAt
open Go.ChangeMaps (open_string shut_string)

theorem markCommit_any (t m : ByteArray) (A : Option Addr) (l : List ByteArray) (cap k : Nat) (w : World) (B : Nat) (hk : 1 ≤ k) (hl : k + l.length ≤ 10000000) (hown : ZOwn w B A cap l) :
    Calls Tryd.prog 7 #[.agg #[.string t, .slice A l.length cap, .string m], .int .i64 k] w (MarkRetZ k w B A cap l.length) := by
  have x1 := (box3 w (.string t) (.slice A l.length cap) (.string m) 24).2.1
  have M := hide (markStringS_any A l cap k _ B hk hl (hown.alloc (.cells #[.string t, .slice A l.length cap, .string m] 24)))
  generalize hn : l.length = n at *
  clear hn hl hown
  go_enter Tryd.func7, Tryd.ntmps7
  go_wp2_with fail
  refine M.out.mono ?_
  rintro e w1 ⟨rfl, o1, g1⟩
  have R : Hid (MarkRetZ k w B A cap n (.returned (.int .i64 (k + n : Nat))) w1) := hide ⟨rfl, o1, ⟨g1.os, g1.tape, g1.output, Nat.le_trans (by simp) g1.size, fun i hi hne => (g1.block i (Nat.lt_of_lt_of_le hi (by simp)) hne).trans (Below.heap_alloc _ _ _ hi)⟩⟩
  clear o1 g1
  go_wp2
  go_ret
  exact R.out
theorem heldCommit_any (t m : ByteArray) (A : Option Addr) (n cap k : Nat) (w : World) (hk : 1 ≤ k) (hl : k + n ≤ 10000000) (hin : ZIn w w.heap.size A (marksZ k n)) :
    Calls Tryd.prog 8 #[.agg #[.string t, .slice A n cap, .string m], .int .i64 k] w fun e w' => e = .returned (.int .i64 (k + n : Nat)) ∧ Below w.heap.size w w' := by
  have x1 := (box3 w (.string t) (.slice A n cap) (.string m) 24).2.1
  have B1 := hide ((Below.refl w.heap.size w).alloc (Nat.le_refl _) (.cells #[.string t, .slice A n cap, .string m] 24))
  have M := hide (heldStringS_any A n cap (k : Int) k (w.alloc (.cells #[.string t, .slice A n cap, .string m] 24)) rfl hk hl ((hin.below B1.out).more B1.out.size))
  clear hin
  go_enter Tryd.func8, Tryd.ntmps8
  go_wp2_with fail
  refine M.out.mono ?_
  rintro e w1 ⟨rfl, b1⟩
  have R := hide (B1.out.trans (b1.mono B1.out.size))
  have h0 : ¬ (((k + n : Nat) : Int) < 0) := by omega
  clear b1 M B1 x1
  generalize hkn : k + n = kn at *
  go_wp2
  go_ret
  exact ⟨by rw [hkn]; rfl, R.out⟩
theorem ZOwn.keptO {w w' : World} {B : Nat} {A : Option Addr} {cap : Nat} {l : List ByteArray} {r : Option Nat} (h : ZOwn w B A cap l) (hg : w.grownBy w' r) (hne : ∀ g, rowOf A = some g → some g ≠ r) : ZOwn w' B A cap l := by
  cases r with
  | none => exact ZOwn.kept h (r := w.heap.size) ⟨hg.os, hg.tape, hg.output, hg.size, fun k hk _ => hg.block k hk (by simp)⟩ (row_top h)
  | some r => exact ZOwn.kept h hg (fun e => hne r e rfl)
theorem rd_parts (s : ByteArray) : (rdC s).2.1.length ≤ 2 ∧ ∀ p ∈ (rdC s).2.1, p.size = 16 := by
  by_cases h : ∃ c, isCom s c
  · obtain ⟨c, hc⟩ := h
    rw [(rd_yes hc).2]
    exact (com_parts hc.1).2
  · rw [(rd_no h).2]
    simp
set_option maxRecDepth 100000 in
set_option maxHeartbeats 4000000 in
theorem walk (s : ByteArray) (a : Addr) (w : World) (hs : s.size ≤ maxLen) (hE : ErrC w a) :
    Calls Tryd.prog 3 #[.string s] w fun e w' => e = .returned (.bool true) ∧ Below w.heap.size w w' := by
  by_cases hbig : (s.size : Int) > 1048576
  · go_enter Tryd.func3, Tryd.ntmps3
    go_wp2
    go_ret
    exact ⟨rfl, Below.refl _ _⟩
  have hss : s.size ≤ 1048576 := by omega
  have EE := hide hE
  obtain ⟨hp, h16⟩ := rd_parts s
  have P := hide h16
  have hok : (rdOk s != rdOk s) = false := by simp
  go_enter Tryd.func3, Tryd.ntmps3
  go_wp2_with fail
  refine (specReadCommit_any s w hss).mono ?_
  rintro e w1 ⟨AW, capW, rfl, ownW, b1⟩
  have B1 := hide (b1.alloc b1.size (.cells #[.string (rdC s).1, .slice AW (rdC s).2.1.length capW, .string (rdC s).2.2] 24))
  have OW := hide (ownW.alloc (.cells #[.string (rdC s).1, .slice AW (rdC s).2.1.length capW, .string (rdC s).2.2] 24))
  have XW : Hid ((w1.alloc (.cells #[.string (rdC s).1, .slice AW (rdC s).2.1.length capW, .string (rdC s).2.2] 24)).heap[w1.heap.size]? = some (C3 (rdC s).1 AW (rdC s).2.1.length capW (rdC s).2.2)) := hide (heap_alloc_new w1 _)
  have SW : w1.heap.size < (w1.alloc (.cells #[.string (rdC s).1, .slice AW (rdC s).2.1.length capW, .string (rdC s).2.2] 24)).heap.size := by simp
  have rW := ownW.row
  clear ownW b1
  go_wp2_with fail
  generalize hW1 : w1.alloc (.cells #[.string (rdC s).1, .slice AW (rdC s).2.1.length capW, .string (rdC s).2.2] 24) = W1 at *
  generalize hg3 : w1.heap.size = g3 at *
  have hw1 := B1.out.size
  refine (implReadCommit_any s a W1 hs (EE.out.below B1.out)).mono ?_
  rintro e w2 ⟨AX, capX, rfl, ownX, b2⟩
  have hw2 := b2.size
  have B2 := hide ((B1.out.trans (b2.mono B1.out.size)).alloc (Nat.le_trans hw1 hw2) (.cells #[.string (rdC s).1, .slice AX (rdC s).2.1.length capX, .string (rdC s).2.2] 24))
  have OW2 := hide ((OW.out.below b2).alloc (.cells #[.string (rdC s).1, .slice AX (rdC s).2.1.length capX, .string (rdC s).2.2] 24))
  have rX := ownX.row
  have OX2 := hide (ownX.alloc (.cells #[.string (rdC s).1, .slice AX (rdC s).2.1.length capX, .string (rdC s).2.2] 24))
  have XW2 := hide ((Below.heap_alloc w2 (.cells #[.string (rdC s).1, .slice AX (rdC s).2.1.length capX, .string (rdC s).2.2] 24) g3 (Nat.lt_of_lt_of_le SW hw2)).trans ((b2.block g3 SW).trans XW.out))
  have XX2 : Hid ((w2.alloc (.cells #[.string (rdC s).1, .slice AX (rdC s).2.1.length capX, .string (rdC s).2.2] 24)).heap[w2.heap.size]? = some (C3 (rdC s).1 AX (rdC s).2.1.length capX (rdC s).2.2)) := hide (heap_alloc_new w2 _)
  have SX : w2.heap.size < (w2.alloc (.cells #[.string (rdC s).1, .slice AX (rdC s).2.1.length capX, .string (rdC s).2.2] 24)).heap.size := by simp
  clear ownX b2 OW XW B1
  have p0 := cell_of_row _ _ 0 _ _ _ XX2.out
  have p1 := cell_of_row _ _ 1 _ _ _ XX2.out
  have p2 := cell_of_row _ _ 2 _ _ _ XX2.out
  have q0 := cell_of_row _ _ 0 _ _ _ XW2.out
  have q1 := cell_of_row _ _ 1 _ _ _ XW2.out
  have q2 := cell_of_row _ _ 2 _ _ _ XW2.out
  go_wp2_with fail
  generalize hW2 : w2.alloc (.cells #[.string (rdC s).1, .slice AX (rdC s).2.1.length capX, .string (rdC s).2.2] 24) = W2 at *
  generalize hg5 : w2.heap.size = g5 at *
  refine (eqCommit_same (rdC s).1 (rdC s).2.2 AX AW (rdC s).2.1 capX capW W2 (by unfold maxLen; omega) (OX2.out.sin16 P.out) (OW2.out.sin16 P.out)).mono ?_
  rintro e w3 ⟨rfl, b3⟩
  have hw3 := b3.size
  have B3 := hide (B2.out.trans (b3.mono B2.out.size))
  have OW3 := hide (OW2.out.below b3)
  have OX3 := hide (OX2.out.below b3)
  have XW3 := hide ((b3.block g3 (by omega)).trans XW2.out)
  have XX3 := hide ((b3.block g5 (by omega)).trans XX2.out)
  clear b3 OW2 OX2 XW2 XX2 p0 p1 p2 q0 q1 q2 B2
  have p0 := cell_of_row _ _ 0 _ _ _ XX3.out
  have p1 := cell_of_row _ _ 1 _ _ _ XX3.out
  have p2 := cell_of_row _ _ 2 _ _ _ XX3.out
  go_wp2_with fail
  refine (markCommit_any (rdC s).1 (rdC s).2.2 AX (rdC s).2.1 capX 1 w3 W1.heap.size (Nat.le_refl _) (by omega) OX3.out).mono ?_
  rintro e w4 ⟨rfl, own4, g4⟩
  have hw4 := g4.size
  have O4 := hide own4
  have B4 := hide (B3.out.grown g4 B3.out.size (fun k hk => by have := (rX k hk).1; omega))
  have OW4 := hide (ZOwn.keptO OW3.out g4 (fun g hg e => by have h1 := (rX g e.symm).1; have h2 := (rW g hg).2; omega))
  have XW4 := hide ((g4.block g3 (by omega) (fun e => by have := (rX g3 e.symm).1; omega)).trans XW3.out)
  have XX4 := hide ((g4.block g5 (by omega) (fun e => by have := (rX g5 e.symm).2; omega)).trans XX3.out)
  clear own4 g4 OW3 OX3 XW3 XX3 p0 p1 p2 B3
  generalize hkn : 1 + (rdC s).2.1.length = kn at *
  have kn0 : ¬ ((kn : Int) < 0) := by omega
  have H := hide (fun W h => heldCommit_any (rdC s).1 (rdC s).2.2 AX (rdC s).2.1.length capX 1 W (Nat.le_refl _) (by omega) h)
  rw [hkn] at H
  have p0 := cell_of_row _ _ 0 _ _ _ XX4.out
  have p1 := cell_of_row _ _ 1 _ _ _ XX4.out
  have p2 := cell_of_row _ _ 2 _ _ _ XX4.out
  go_wp2_with fail
  refine (H.out w4 O4.out.zin).mono ?_
  rintro e w5 ⟨rfl, b5⟩
  have hw5 := b5.size
  have B5 := hide (B4.out.trans (b5.mono B4.out.size))
  have OW5 := hide (OW4.out.below b5)
  have O5 := hide (O4.out.below b5)
  have XW5 := hide ((b5.block g3 (by omega)).trans XW4.out)
  have XX5 := hide ((b5.block g5 (by omega)).trans XX4.out)
  clear b5 OW4 O4 XW4 XX4 p0 p1 p2 B4
  go_wp2_with fail
  refine (implReadCommit_any s a w5 hs (EE.out.below B5.out)).mono ?_
  rintro e w6 ⟨AY, capY, rfl, ownY, b6⟩
  have hw6 := b6.size
  have B6 := hide ((B5.out.trans (b6.mono B5.out.size)).alloc (Nat.le_trans B5.out.size hw6) (.cells #[.string (rdC s).1, .slice AY (rdC s).2.1.length capY, .string (rdC s).2.2] 24))
  have OW6 := hide ((OW5.out.below b6).alloc (.cells #[.string (rdC s).1, .slice AY (rdC s).2.1.length capY, .string (rdC s).2.2] 24))
  have O6 := hide ((O5.out.below b6).alloc (.cells #[.string (rdC s).1, .slice AY (rdC s).2.1.length capY, .string (rdC s).2.2] 24))
  have OY6 := hide (ownY.alloc (.cells #[.string (rdC s).1, .slice AY (rdC s).2.1.length capY, .string (rdC s).2.2] 24))
  have XW6 := hide ((Below.heap_alloc w6 (.cells #[.string (rdC s).1, .slice AY (rdC s).2.1.length capY, .string (rdC s).2.2] 24) g3 (by omega)).trans ((b6.block g3 (by omega)).trans XW5.out))
  have XX6 := hide ((Below.heap_alloc w6 (.cells #[.string (rdC s).1, .slice AY (rdC s).2.1.length capY, .string (rdC s).2.2] 24) g5 (by omega)).trans ((b6.block g5 (by omega)).trans XX5.out))
  have XY6 : Hid ((w6.alloc (.cells #[.string (rdC s).1, .slice AY (rdC s).2.1.length capY, .string (rdC s).2.2] 24)).heap[w6.heap.size]? = some (C3 (rdC s).1 AY (rdC s).2.1.length capY (rdC s).2.2)) := hide (heap_alloc_new w6 _)
  have SY : w6.heap.size < (w6.alloc (.cells #[.string (rdC s).1, .slice AY (rdC s).2.1.length capY, .string (rdC s).2.2] 24)).heap.size := by simp
  clear ownY b6 OW5 O5 XW5 XX5 B5
  have p0 := cell_of_row _ _ 0 _ _ _ XY6.out
  have p1 := cell_of_row _ _ 1 _ _ _ XY6.out
  have p2 := cell_of_row _ _ 2 _ _ _ XY6.out
  have q0 := cell_of_row _ _ 0 _ _ _ XW6.out
  have q1 := cell_of_row _ _ 1 _ _ _ XW6.out
  have q2 := cell_of_row _ _ 2 _ _ _ XW6.out
  go_wp2_with fail
  generalize hW6 : w6.alloc (.cells #[.string (rdC s).1, .slice AY (rdC s).2.1.length capY, .string (rdC s).2.2] 24) = W6 at *
  generalize hg9 : w6.heap.size = g9 at *
  refine (eqCommit_same (rdC s).1 (rdC s).2.2 AY AW (rdC s).2.1 capY capW W6 (by unfold maxLen; omega) (OY6.out.sin16 P.out) (OW6.out.sin16 P.out)).mono ?_
  rintro e w7 ⟨rfl, b7⟩
  have B7 := hide (B6.out.trans (b7.mono B6.out.size))
  have O7 := hide (O6.out.below b7)
  have XX7 := hide ((b7.block g5 (by omega)).trans XX6.out)
  clear b7 OW6 O6 OY6 XW6 XX6 XY6 p0 p1 p2 q0 q1 q2 B6
  have p0 := cell_of_row _ _ 0 _ _ _ XX7.out
  have p1 := cell_of_row _ _ 1 _ _ _ XX7.out
  have p2 := cell_of_row _ _ 2 _ _ _ XX7.out
  go_wp2_with fail
  refine (H.out w7 O7.out.zin).mono ?_
  rintro e w8 ⟨rfl, b8⟩
  have B8 := hide (B7.out.trans (b8.mono B7.out.size))
  clear b8 O7 XX7 p0 p1 p2 B7 H
  go_wp2
  go_ret
  exact ⟨rfl, B8.out⟩

set_option maxRecDepth 100000 in
theorem contract (H : Type) (enc : TypeId × Value → H) (W : World) (base : Nat) (args : Array Value) (ds gs : List (DataW H)) (before : List MemPlace)
    (hval0 : ∀ (j : Nat) t v, Tryd.f3.params[j]? = some t → args[j]? = some v → Value.okWide Tryd.prog W .any base t v)
    (hW : DataW.Whole enc Tryd.prog Tryd.f3.params.toList Rows.fnExactReadCommitSpec.vars false W args.toList ds gs before) (hL : laidMetH Tryd.prog Rows.fnExactReadCommitRow.laid W) :
    Calls Tryd.prog 3 args W fun e W' => ∃ v, e = .returned v ∧ Rows.fnExactReadCommitSpec.post enc Tryd.prog Tryd.f3 false true false false W args v W' := by
  have hval : ∀ (j : Nat) t v, Tryd.f3.params[j]? = some t → args[j]? = some v → Value.okWide Tryd.prog W .any base t v := hval0
  obtain ⟨a, hT, hvar⟩ := errs_of hL
  have hW' := hW
  obtain ⟨p, q, hA0, hV0, rfl, hfz, hnd⟩ := hW
  have hA : DataW.TrodAll enc Tryd.prog W 0 (fun _ => true) true Tryd.f3.params.toList args.toList ds p := hA0
  have hV : DataW.TrodVars enc Tryd.prog W (fun _ => true) ["loop.example/g00652/impl.errNoCommit"] gs q := hV0
  obtain ⟨rfl, rfl⟩ := hV.unique (vars_read1 enc gErr tErr Tryd.underlying45 hvar trivial _)
  rw [Tryd.params3] at hA hval
  obtain ⟨v0, vs0, d0, ds0, p0, q0, hargs, rfl, rfl, h0, r0⟩ := trodAll_cons hA
  obtain ⟨rfl, rfl, rfl⟩ := trodAll_nil r0
  obtain rfl : args = #[v0] := by cases args; simp_all
  obtain ⟨s0, rfl, rfl, rfl, hs0⟩ := open_string Tryd.underlying9 (hval 0 9 v0 rfl rfl) h0
  clear hA0 hval0
  refine (walk s0 a W hs0 hT).mono fun e W' ⟨he, bel⟩ => ?_
  subst he
  exact ⟨_, rfl, _, _, _, [], _, _, hW', trodAll_mk1 (shut_bool Tryd.underlying4 _), (trodAll_cons_mk (shut_string Tryd.underlying9 hs0) trodAll_mk0), vars_read1 enc gErr tErr Tryd.underlying45 (var?_below bel gErr (var_lt gErr hvar) hvar) trivial _, bel.frame _, fun h => by cases h⟩

/-- a world for the witness: the variables hold what their initialisers lay -/
noncomputable def laidWorld (os : Os) : World := layAll (World.holding Tryd.prog os ⟨#[], #[], []⟩)
theorem laid_met (os : Os) : laidMetH Tryd.prog Rows.fnExactReadCommitRow.laid ((laidWorld os).forCall (fun _ _ => 0) ⟨#[], #[.string ByteArray.empty], []⟩).memory :=
  laidMetH_of_parts (laidMet_of_run' 8 (by kernel_rfl) (by kernel_rfl)) (by kernel_rfl)
theorem reads (os : Os) {H : Type} (enc : TypeId × Value → H) : ∃ x, DataW.whole enc Tryd.prog ((laidWorld os).forCall (fun _ _ => 0) ⟨#[], #[.string ByteArray.empty], []⟩).memory Tryd.f3.params.toList Rows.fnExactReadCommitSpec.vars false (#[.string ByteArray.empty] : Array Value).toList 8 = some x :=
  Option.isSome_iff_exists.1 (by kernel_rfl)
set_option maxRecDepth 100000 in
theorem lifted (os : Os) (started : os.Started) (H : Type) (enc : TypeId × Value → H) (F : Stop.Interp) :
    ReturnsInHanded {} Tryd.checked os 3 .any ((OpenSpec.ofChange Rows.fnExactReadCommitSpec).preRow enc Tryd.prog Tryd.f3 Rows.fnExactReadCommitRow.domain false Rows.fnExactReadCommitRow.laid) (((OpenSpec.ofChange Rows.fnExactReadCommitSpec).at F).post enc Tryd.prog Tryd.f3 false true false false) := by
  obtain ⟨x, hx⟩ := reads os enc
  refine returnsInHanded_of_row (C := Tryd.checked) (s := OpenSpec.ofChange Rows.fnExactReadCommitSpec) own started (by kernel_rfl) Tryd.func3
    (witness_row_at (enc := enc) (C := Tryd.checked) false (laidWorld os) #[.string ByteArray.empty] rfl (by kernel_rfl) (by kernel_rfl) (by kernel_rfl)
      (OpenSpec.preRow_of_cond 8 hx rfl (fun k hk => by cases hk) (by kernel_rfl) (laid_met os))) ?_
  intro W base args ds gs before hval hW _ _ _ hL _ _
  exact contract H enc W base args ds gs before hval hW hL
theorem said : Rows.FnExactReadCommitSaid :=
  OpenClaim.holds_of_cond 3 Tryd.f3 rfl rfl rfl rfl rfl rfl rfl ⟨rfl, rfl, rfl, rfl, rfl⟩ rfl rfl rfl rfl rfl (by kernel_rfl) Tryd.func3 (by kernel_rfl)
    (of_decide_eq_true (by kernel_rfl)) (by unfold Func.isWrapper; first | (rw [if_pos (by decide +kernel)]; kernel_rfl) | (rw [if_neg (by decide +kernel)]; exact ⟨rfl, rfl⟩))
    (fun os started H enc _ F => by rw [OpenClaim.pre_eq_preRow]; exact lifted os started H enc F)
theorem plain (f : FuncId) (fn : Func) (hf : Tryd.pinned.checked.prog.funcNamed "loop.example/g00652/laws.FnExactReadCommit" = some f) (hfn : Tryd.pinned.checked.prog.funcs[f]? = some fn) :
    false = Tryd.pinned.checked.prog.looks [] ∧ ∀ (j : Nat) t, fn.params[j]? = some t → Tryd.pinned.checked.prog.wantsStandIn t = false := by
  obtain rfl : f = 3 := Option.some.inj ((show Tryd.prog.funcNamed "loop.example/g00652/laws.FnExactReadCommit" = some 3 by kernel_rfl).symm.trans hf) |>.symm
  obtain rfl : fn = Tryd.f3 := (Option.some.inj (Tryd.func3.symm.trans hfn)).symm
  refine ⟨by kernel_rfl, fun j t ht => ?_⟩
  rw [Tryd.params3] at ht
  have hm := Array.mem_of_getElem? ht
  simp only [List.mem_toArray, List.mem_cons, List.not_mem_nil, or_false] at hm
  subst hm
  exact (show Tryd.prog.wantsStandIn 9 = false by kernel_rfl)
theorem card : Rows.FnExactReadCommitCardSaid :=
  Claim7.holds_tied_plain_at .later [] _ _ _ _ said (fun _ h => by cases h) (by kernel_rfl) (fun _ h => by cases h) fnExactReadCommit_row_tie rfl ⟨rfl, rfl⟩ (by kernel_rfl) rfl plain (by kernel_rfl)
end Go.Proofs.YtnchghfddhjonaaDoor.ExReadCommit
namespace Go.Proofs.YtnchghfddhjonaaDoor
theorem fnExactReadCommit_proved : Rows.FnExactReadCommitCardSaid := ExReadCommit.card
end Go.Proofs.YtnchghfddhjonaaDoor
