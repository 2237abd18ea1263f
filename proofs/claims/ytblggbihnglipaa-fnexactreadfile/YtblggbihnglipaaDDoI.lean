/-
  What impl.files' do makes of a map of files.
-/
import Derived.Test.YtblggbihnglipaaDOpI
namespace Go.Proofs.Ytblggbihnglipaa
open Go.RowKit Go.Maps

set_option maxRecDepth 100000 in
theorem file_any (nm : ByteArray) (w : World) : Calls Try.prog 139 #[.agg #[.string nm]] w fun e w' => e = .returned (.string nm) ∧ Below w.heap.size w w' := by
  have B0 := hide ((Below.refl w.heap.size w).alloc (Nat.le_refl _) (.cells #[.string nm] 111))
  go_enter Try.func139, Try.ntmps139
  go_wp2
  go_ret
  exact ⟨rfl, B0.out⟩
theorem method_app (x y : Value) (w : World) : (method 275 113 (.agg #[x, y]) "loop.example/g00652/impl.file").run Try.prog w = .ok (139, .agg #[x]) w := by kernel_rfl
theorem method_ren (x y : Value) (w : World) : (method 275 115 (.agg #[x, y]) "loop.example/g00652/impl.file").run Try.prog w = .ok (139, .agg #[x]) w := by kernel_rfl
theorem method_rem (x : Value) (w : World) : (method 275 117 (.agg #[x]) "loop.example/g00652/impl.file").run Try.prog w = .ok (139, .agg #[x]) w := by kernel_rfl
theorem ta_aa (v : Value) (W : World) : (Instr.typeAssert (.iface 113 v) 78 113 true).run Try.prog W = .ok (.tuple #[v, .bool true]) W := by kernel_rfl
theorem ta_na (v : Value) (W : World) : (Instr.typeAssert (.iface 115 v) 78 113 true).run Try.prog W = .ok (.tuple #[.agg #[.string ⟨#[]⟩, .string ⟨#[]⟩], .bool false]) W := by kernel_rfl
theorem ta_nn (v : Value) (W : World) : (Instr.typeAssert (.iface 115 v) 78 115 true).run Try.prog W = .ok (.tuple #[v, .bool true]) W := by kernel_rfl
theorem ta_ra (v : Value) (W : World) : (Instr.typeAssert (.iface 117 v) 78 113 true).run Try.prog W = .ok (.tuple #[.agg #[.string ⟨#[]⟩, .string ⟨#[]⟩], .bool false]) W := by kernel_rfl
theorem ta_rn (v : Value) (W : World) : (Instr.typeAssert (.iface 117 v) 78 115 true).run Try.prog W = .ok (.tuple #[.agg #[.string ⟨#[]⟩, .string ⟨#[]⟩], .bool false]) W := by kernel_rfl
theorem ta_rr (v : Value) (W : World) : (Instr.typeAssert (.iface 117 v) 78 117 true).run Try.prog W = .ok (.tuple #[v, .bool true]) W := by kernel_rfl
/-- the op is done: the map tells what comes of it -/
def RetM (w : World) (B gm n : Nat) (l : List Pr) (b : Bool) (e : Ending) (w' : World) : Prop := e = .returned (.bool b) ∧ (∃ rA rC, FMap w' B gm (n + 1) l rA rC) ∧ Below gm w w'
theorem doF1 (l : List Pr) (nm to dt : ByteArray) : doF l (1, nm, to, dt) = setL l nm (valOf l nm ++ dt) := by unfold doF; exact if_pos rfl
theorem doF2 {l : List Pr} {nm : ByteArray} (to dt : ByteArray) (h : hasB l nm = true) : doF l (2, nm, to, dt) = setL (cutF1 l nm) to (valOf l nm) := by
  unfold doF
  rw [if_neg (by show ¬ (2 : Int) = 1; omega), if_pos h]
  exact if_pos rfl
theorem doF3 {l : List Pr} (hr : Ris l) (nm to dt : ByteArray) : doF l (3, nm, to, dt) = cutF1 l nm := by
  unfold doF
  rw [if_neg (by show ¬ (3 : Int) = 1; omega)]
  cases h : hasB l nm
  · rw [if_neg (by simp)]
    exact (cut_none hr h).symm
  · rw [if_pos rfl]
    exact if_neg (by show ¬ (3 : Int) = 2; omega)
theorem doFn {l : List Pr} {nm : ByteArray} {k : Int} (to dt : ByteArray) (hk : k ≠ 1) (h : hasB l nm = false) : doF l (k, nm, to, dt) = l := by
  unfold doF
  rw [if_neg hk, h]
  exact if_neg (by simp)
theorem doB1 (l : List Pr) (nm to dt : ByteArray) : doB l (1, nm, to, dt) = true := rfl
theorem doBn (l : List Pr) (nm to dt : ByteArray) {k : Int} (hk : k ≠ 1) : doB l (k, nm, to, dt) = hasB l nm := by unfold doB; rw [decide_eq_false hk]; rfl
theorem step_appB {w : World} {ops : Array Oper} {o : Oper} {a : Act} {K : Act → World → Prop} {Q : Exit → Act → World → Prop} {E : Prop} (hgd : o.guard = none) (s x : Operand)
    (ho : o.op = .call { callee := .builtin .append, args := #[s, x], argTypes := #[57, 9] })
    {B n cap : Nat} {A : Option Addr} {st t : ByteArray} (hs : a.eval s = .slice A n cap) (hn : n = st.size) (hx : a.eval x = .string t) (hr : BRow w B A cap st) (hb : st.size + t.size ≤ 1099511627776) (hB : B ≤ w.heap.size)
    (h : ∀ A' c' w', BRow w' B A' c' (st ++ t) → w.grownBy w' (rowOf A) → (rowOf A' = rowOf A ∨ rowOf A' = some w.heap.size) → K (a.put o.dst (.slice A' (st ++ t).size c')) w') :
    if Region.wanted o (yielded ops a.tmps) = true then Oper.wp Try.prog o a w K Q else E := by
  have hw : Region.wanted o (yielded ops a.tmps) = true := by simp [Region.wanted, hgd]
  rw [if_pos hw]
  subst hn
  obtain ⟨A', c', w', hrun, h2, h3, h4⟩ := hr.app t o.type hb hB
  unfold Oper.wp execOp
  simp only [ho, resolve, invoke, builtin, Sem.run_bind, Sem.run_pure, Result.andThen_ok, List.map_toArray, List.map_cons, List.map_nil, hs, hx, hrun]
  exact h A' c' w' h2 h3 h4
set_option maxRecDepth 100000 in
set_option maxHeartbeats 2000000 in
theorem do1_any {w : World} {B gm n : Nat} {l : List Pr} {rA : ByteArray → Option Addr} {rC : ByteArray → Nat} (h : FMap w B gm n l rA rC) (nm to dt : ByteArray) (hn : n < maxLen) (hB : B ≤ w.heap.size) (hnm : nm.size ≤ maxLen) (hs : (valOf l nm).size + dt.size ≤ 1099511627776) :
    Calls Try.prog 50 #[.map (some gm), opV 1 nm to dt] w (RetM w B gm n (doF l (1, nm, to, dt)) (doB l (1, nm, to, dt))) := by
  rw [opV1, doB1, doF1]
  have FI := hide (file_any nm)
  have m1 := method_app (.string nm) (.string dt)
  have t1 := ta_aa (.agg #[.string nm, .string dt])
  have H := hide h
  have hlow := h.low
  clear h
  go_enter Try.func50, Try.ntmps50
  go_wp2_with fail
  refine (FI.out _).mono ?_
  rintro e w1 ⟨rfl, b1⟩
  have F1 := H.out.below b1
  obtain ⟨A, c, lk, br, yes, no⟩ := F1.look hnm
  have bx := (Below.refl w1.heap.size w1).alloc (Nat.le_refl _) (.cells #[.string nm, .string dt] 113)
  have XB := heap_alloc_new w1 (.cells #[.string nm, .string dt] 113)
  have sx : (w1.alloc (.cells #[.string nm, .string dt] 113)).heap.size = w1.heap.size + 1 := by simp
  have F2 := F1.below bx
  have br2 := br.below bx
  have hs1 := b1.size
  obtain ⟨w2, hw2⟩ : ∃ W, w1.alloc (.cells #[.string nm, .string dt] 113) = W := ⟨_, rfl⟩
  rw [hw2] at bx XB sx F2 br2
  have x0 := cell_of_row _ _ 0 _ _ _ XB
  have x1 := cell_of_row _ _ 1 _ _ _ XB
  have brd : BRow w2.drew B A c (valOf l nm) := br2
  have F2d : FMap w2.drew B gm n l rA rC := F2.below ((Below.refl w2.heap.size w2).drew)
  have hrow : ∀ g, rowOf A = some g → B ≤ g ∧ g < w1.heap.size := fun g hg => br.row g hg
  have sd : w2.drew.heap.size = w2.heap.size := rfl
  have hBd : B ≤ w2.drew.heap.size := by omega
  have FIN : Hid (∀ A' c' w3, BRow w3 B A' c' (valOf l nm ++ dt) → w2.drew.grownBy w3 (rowOf A) → (rowOf A' = rowOf A ∨ rowOf A' = some w2.drew.heap.size) →
      ∃ w4, (Instr.mapUpdate 75 (.map (some gm)) (.string nm) (.slice A' (valOf l nm ++ dt).size c')).run Try.prog w3 = .ok () w4 ∧ (∃ rA rC, FMap w4 B gm (n + 1) (setL l nm (valOf l nm ++ dt)) rA rC) ∧ Below gm w w4 ∧ w3.cell? ⟨w1.heap.size, 0, none⟩ = some (.string nm) ∧ w3.cell? ⟨w1.heap.size, 1, none⟩ = some (.string dt)) := hide (by
    intro A' c' w3 br3 g3 loc
    obtain ⟨w4, hst, F4, g4⟩ := F2d.storeX g3 (fun e => by have := (hrow gm e.symm).1; omega) hn hnm (fun k' hk' hne g hg e => by
      cases hb : hasB l nm
      · rw [(no hb).1] at e; cases e
      · rw [(yes hb).1] at e
        exact F2d.sep k' nm hk' hb hne g hg e) br3 (fun k' hk' hne g hg e => by
      rcases loc with e1 | e1
      · rw [e1] at hg
        cases hb : hasB l nm
        · rw [(no hb).1] at hg; cases hg
        · rw [(yes hb).1] at hg
          exact F2d.sep nm k' hb hk' (fun e => hne e.symm) g hg e
      · rw [e1] at hg
        injection hg with hg
        have := ((F2d.row k' hk').row g e).2
        omega)
    have hne : ∀ g, rowOf A = some g → w1.heap.size ≠ g := fun g hg e => by have := (hrow g hg).2; omega
    have z0 := (g3.block w1.heap.size (by show w1.heap.size < w2.heap.size; omega) (fun e => hne _ e.symm rfl)).trans XB
    exact ⟨w4, hst, ⟨_, _, F4⟩, (((b1.mono (show gm ≤ w.heap.size by omega)).trans (bx.mono (show gm ≤ w1.heap.size by omega))).drew.grown g3 (by omega) (fun k e => by have := (hrow k e).1; omega)).grown g4 (by have := g3.size; omega) (fun k e => by injection e with e; omega), cell_of_row _ _ 0 _ _ _ z0, cell_of_row _ _ 1 _ _ _ z0⟩)
  clear F2d F2 F1 br2 br hrow yes no bx b1 H XB sx sd hs1 hlow hn hnm hB
  go_wp2_with fail
  go_region_law (refine step_appB rfl (.tmp 25) (.tmp 27) rfl (by simp [Act.eval]) rfl (by simp [Act.eval]) brd hs hBd ?_; intro A' c' w3 br3 g3 loc; obtain ⟨w4, hst, FF, BW, y0, y1⟩ := FIN.out A' c' w3 br3 g3 loc; rw [app_size] at hst; have FF' := hide FF; have BW' := hide BW; clear br3 g3 loc FF BW)
  all_goals
    go_wp2
    go_ret
    exact ⟨rfl, FF'.out, BW'.out⟩
set_option maxRecDepth 100000 in
set_option maxHeartbeats 2000000 in
theorem do3_any {w : World} {B gm n : Nat} {l : List Pr} {rA : ByteArray → Option Addr} {rC : ByteArray → Nat} (h : FMap w B gm n l rA rC) (nm to dt : ByteArray) (hB : B ≤ w.heap.size) (hnm : nm.size ≤ maxLen) :
    Calls Try.prog 50 #[.map (some gm), opV 3 nm to dt] w (RetM w B gm n (doF l (3, nm, to, dt)) (doB l (3, nm, to, dt))) := by
  rw [opV3, doBn l nm to dt (by omega), doF3 h.ris]
  have FI := hide (file_any nm)
  have m1 := method_rem (.string nm)
  have t1 := ta_ra (.agg #[.string nm])
  have t2 := ta_rn (.agg #[.string nm])
  have t3 := ta_rr (.agg #[.string nm])
  have H := hide h
  have hlow := h.low
  clear h
  go_enter Try.func50, Try.ntmps50
  go_wp2_with fail
  refine (FI.out _).mono ?_
  rintro e w1 ⟨rfl, b1⟩
  have F1 := H.out.below b1
  obtain ⟨A, c, lk, br, yes, no⟩ := F1.look hnm
  have bx := (Below.refl w1.heap.size w1).alloc (Nat.le_refl _) (.cells #[.string nm] 117)
  have XB := heap_alloc_new w1 (.cells #[.string nm] 117)
  have F2 := F1.below bx
  have hs1 := b1.size
  have hs2 := bx.size
  obtain ⟨w2, hw2⟩ : ∃ W, w1.alloc (.cells #[.string nm] 117) = W := ⟨_, rfl⟩
  rw [hw2] at bx XB F2 hs2
  have x0 := cell_of_row _ _ 0 _ _ _ XB
  obtain ⟨w3, hdel, F3, g3⟩ := F2.drop hnm 0
  have BW := hide (((b1.mono (show gm ≤ w.heap.size by omega)).trans (bx.mono (show gm ≤ w1.heap.size by omega))).grown g3 (by omega) (fun k e => by injection e with e; omega))
  have FF := hide (F3.more (Nat.le_succ n))
  clear F3 F2 F1 br yes no bx b1 H XB hs1 hs2 hlow hnm hB g3
  go_wp2
  go_ret
  exact ⟨rfl, ⟨_, _, FF.out⟩, BW.out⟩
set_option maxRecDepth 100000 in
set_option maxHeartbeats 2000000 in
theorem do2_any {w : World} {B gm n : Nat} {l : List Pr} {rA : ByteArray → Option Addr} {rC : ByteArray → Nat} (h : FMap w B gm n l rA rC) (nm to dt : ByteArray) (hn : n < maxLen) (hB : B ≤ w.heap.size) (hnm : nm.size ≤ maxLen) (hto : to.size ≤ maxLen) :
    Calls Try.prog 50 #[.map (some gm), opV 2 nm to dt] w (RetM w B gm n (doF l (2, nm, to, dt)) (doB l (2, nm, to, dt))) := by
  rw [opV2, doBn l nm to dt (by omega)]
  have FI := hide (file_any nm)
  have m1 := method_ren (.string nm) (.string to)
  have t1 := ta_na (.agg #[.string nm, .string to])
  have t2 := ta_nn (.agg #[.string nm, .string to])
  have H := hide h
  have hlow := h.low
  clear h
  cases hb : hasB l nm
  · rw [doFn to dt (by omega) hb]
    go_enter Try.func50, Try.ntmps50
    go_wp2_with fail
    refine (FI.out _).mono ?_
    rintro e w1 ⟨rfl, b1⟩
    have F1 := H.out.below b1
    obtain ⟨A, c, lk, br, yes, no⟩ := F1.look hnm
    rw [hb] at lk
    have bx := (Below.refl w1.heap.size w1).alloc (Nat.le_refl _) (.cells #[.string nm, .string to] 115)
    have XB := heap_alloc_new w1 (.cells #[.string nm, .string to] 115)
    have F2 := F1.below bx
    have hs1 := b1.size
    obtain ⟨w2, hw2⟩ : ∃ W, w1.alloc (.cells #[.string nm, .string to] 115) = W := ⟨_, rfl⟩
    rw [hw2] at bx XB F2
    have BW := hide ((b1.mono (show gm ≤ w.heap.size by omega)).trans (bx.mono (show gm ≤ w1.heap.size by omega)))
    have FF := hide (F2.more (Nat.le_succ n))
    clear F2 F1 br yes no bx b1 H XB hs1 hlow hnm hB hn hto hb
    go_wp2
    go_ret
    exact ⟨rfl, ⟨_, _, FF.out⟩, BW.out⟩
  · rw [doF2 to dt hb]
    go_enter Try.func50, Try.ntmps50
    go_wp2_with fail
    refine (FI.out _).mono ?_
    rintro e w1 ⟨rfl, b1⟩
    have F1 := H.out.below b1
    obtain ⟨A, c, lk, br, yes, no⟩ := F1.look hnm
    rw [hb] at lk
    have bx := (Below.refl w1.heap.size w1).alloc (Nat.le_refl _) (.cells #[.string nm, .string to] 115)
    have XB := heap_alloc_new w1 (.cells #[.string nm, .string to] 115)
    have F2 := F1.below bx
    have br2 := br.below bx
    have hs1 := b1.size
    have hs2 := bx.size
    obtain ⟨w2, hw2⟩ : ∃ W, w1.alloc (.cells #[.string nm, .string to] 115) = W := ⟨_, rfl⟩
    rw [hw2] at bx XB F2 hs2 br2
    have x0 := cell_of_row _ _ 0 _ _ _ XB
    have x1 := cell_of_row _ _ 1 _ _ _ XB
    obtain ⟨w3, hdel, F3, g3⟩ := F2.drop hnm 0
    have hlt : w1.heap.size < w2.heap.size := (Array.getElem?_eq_some_iff.1 XB).1
    have z1 := (g3.block w1.heap.size hlt (fun e => by injection e with e; omega)).trans XB
    have y1 := cell_of_row _ _ 1 _ _ _ z1
    have y0 := cell_of_row _ _ 0 _ _ _ z1
    have br3 := br2.kept g3 (fun g hg e => by injection e with e; have := (br2.row g hg).1; omega)
    obtain ⟨w4, hst, F4, g4⟩ := F3.store hn hto br3 (fun k' hk' hne g hg e => by
      obtain ⟨q1, q2⟩ := (has_cut H.out.ris nm k').1 hk'
      rw [(yes hb).1] at hg
      exact H.out.sep nm k' hb q2 (fun e => q1 e.symm) g hg e)
    have BW := hide ((((b1.mono (show gm ≤ w.heap.size by omega)).trans (bx.mono (show gm ≤ w1.heap.size by omega))).grown g3 (by omega) (fun k e => by injection e with e; omega)).grown g4 (by have := g3.size; omega) (fun k e => by injection e with e; omega))
    have FF := hide F4
    clear F4 F3 F2 F1 br br2 br3 yes no bx b1 H XB hs1 hs2 hlow hnm hB g3 g4 hn hto hb z1 hlt
    go_wp2
    go_ret
    exact ⟨rfl, ⟨_, _, FF.out⟩, BW.out⟩
end Go.Proofs.Ytblggbihnglipaa
