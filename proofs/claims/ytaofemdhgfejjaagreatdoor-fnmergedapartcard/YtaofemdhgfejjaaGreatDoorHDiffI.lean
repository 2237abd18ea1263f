/-
  What the edits tell back; what impl.DiffOf and spec.DiffOf answer.
-/
import Derived.Test.YtaofemdhgfejjaaGreatDoorHEdB
import Derived.Test.YtaofemdhgfejjaaGreatDoorHDiffS
import Derived.Test.YtaofemdhgfejjaaGreatDoorPMapOkI
import Derived.Test.YtaofemdhgfejjaaGreatDoorPMapOkS
namespace Go.Proofs.YtaofemdhgfejjaaGreatDoor
open Go.RowKit

set_option maxRecDepth 100000 in
set_option maxHeartbeats 1000000 in
theorem gainChange_any (x n : ByteArray) (w : World) :
    Calls Tryz.prog 132 #[.agg #[.string x, .string n]] w fun e w' => e = .returned (.agg #[.string x, .string ByteArray.empty, .string n, .bool false, .bool true]) ∧ Below w.heap.size w w' := by
  go_enter Tryz.func132, Tryz.ntmps132
  go_wp2
  exact bodyPost_ret (v := .agg #[.string x, .string ByteArray.empty, .string n, .bool false, .bool true]) (by simp [results, Tryz.results132, go_sem]; rfl) rfl ⟨rfl, ((Below.refl _ _).alloc (Nat.le_refl _) _).alloc (by simp) _⟩
theorem method_gain (x n : ByteArray) (w : World) : (method 314 119 (.agg #[.string x, .string n]) "loop.example/g00652/impl.change").run Tryz.prog w = .ok (132, .agg #[.string x, .string n]) w := by kernel_rfl
set_option maxRecDepth 100000 in
set_option maxHeartbeats 1000000 in
theorem lossChange_any (x o : ByteArray) (w : World) :
    Calls Tryz.prog 131 #[.agg #[.string x, .string o]] w fun e w' => e = .returned (.agg #[.string x, .string o, .string ByteArray.empty, .bool true, .bool false]) ∧ Below w.heap.size w w' := by
  go_enter Tryz.func131, Tryz.ntmps131
  go_wp2
  exact bodyPost_ret (v := .agg #[.string x, .string o, .string ByteArray.empty, .bool true, .bool false]) (by simp [results, Tryz.results131, go_sem]; rfl) rfl ⟨rfl, ((Below.refl _ _).alloc (Nat.le_refl _) _).alloc (by simp) _⟩
theorem method_loss (x o : ByteArray) (w : World) : (method 314 117 (.agg #[.string x, .string o]) "loop.example/g00652/impl.change").run Tryz.prog w = .ok (131, .agg #[.string x, .string o]) w := by kernel_rfl
set_option maxRecDepth 100000 in
set_option maxHeartbeats 1000000 in
theorem turnChange_any (x' o x n : ByteArray) (w : World) :
    Calls Tryz.prog 133 #[.agg #[.string x', .string o, .string x, .string n]] w fun e w' => e = .returned (.agg #[.string x, .string o, .string n, .bool true, .bool true]) ∧ Below w.heap.size w w' := by
  go_enter Tryz.func133, Tryz.ntmps133
  go_wp2
  exact bodyPost_ret (v := .agg #[.string x, .string o, .string n, .bool true, .bool true]) (by simp [results, Tryz.results133, go_sem]) rfl ⟨rfl, ((Below.refl _ _).alloc (Nat.le_refl _) _).alloc (by simp) _⟩
theorem method_turn (x' o x n : ByteArray) (w : World) : (method 314 121 (.agg #[.string x', .string o, .string x, .string n]) "loop.example/g00652/impl.change").run Tryz.prog w = .ok (133, .agg #[.string x', .string o, .string x, .string n]) w := by kernel_rfl
set_option maxRecDepth 100000 in
set_option maxHeartbeats 1000000 in
theorem idleChange_any (x : ByteArray) (w : World) :
    Calls Tryz.prog 134 #[.agg #[.string x]] w fun e w' => e = .returned (.agg #[.string x, .string ByteArray.empty, .string ByteArray.empty, .bool false, .bool false]) ∧ Below w.heap.size w w' := by
  go_enter Tryz.func134, Tryz.ntmps134
  go_wp2
  exact bodyPost_ret (v := .agg #[.string x, .string ByteArray.empty, .string ByteArray.empty, .bool false, .bool false]) (by simp [results, Tryz.results134, go_sem]; rfl) rfl ⟨rfl, ((Below.refl _ _).alloc (Nat.le_refl _) _).alloc (by simp) _⟩
theorem method_idle (x : ByteArray) (w : World) : (method 314 123 (.agg #[.string x]) "loop.example/g00652/impl.change").run Tryz.prog w = .ok (134, .agg #[.string x]) w := by kernel_rfl

/-- what an edit tells back of its change -/
def normC (c : Ch) : Ch := (c.1, if c.2.2.2.1 then c.2.1 else ByteArray.empty, if c.2.2.2.2 then c.2.2.1 else ByteArray.empty, c.2.2.2.1, c.2.2.2.2)
theorem norm_loss (p : Pr) : normC (lossC p) = lossC p := rfl
theorem norm_gain (p : Pr) : normC (gainC p) = gainC p := rfl
theorem norm_turn (p q : Pr) : normC (turnC p q) = turnC p q := rfl
theorem norm_dif : ∀ (n : Nat) (a b : List Pr), a.length + b.length ≤ n → ∀ c ∈ difM a b, normC c = c
  | n, [], [], _, c, h => by rw [difM_nil] at h; cases h
  | n, p :: a, [], hn, c, h => by
    rw [difM_a] at h
    rcases List.mem_cons.1 h with rfl | h
    · rfl
    · exact norm_dif (n - 1) a [] (by simp at hn ⊢; omega) c h
  | n, [], q :: b, hn, c, h => by
    rw [difM_b] at h
    rcases List.mem_cons.1 h with rfl | h
    · rfl
    · exact norm_dif (n - 1) [] b (by simp at hn ⊢; omega) c h
  | n, p :: a, q :: b, hn, c, h => by
    rcases ltB_tri p.1 q.1 with g | g | g
    · rw [difM_lt g] at h
      rcases List.mem_cons.1 h with rfl | h
      · rfl
      · exact norm_dif (n - 1) a (q :: b) (by simp at hn ⊢; omega) c h
    · by_cases g' : p.2 = q.2
      · rw [difM_same g g'] at h
        exact norm_dif (n - 1) a b (by simp at hn ⊢; omega) c h
      · rw [difM_turn g g'] at h
        rcases List.mem_cons.1 h with rfl | h
        · rfl
        · exact norm_dif (n - 1) a b (by simp at hn ⊢; omega) c h
    · rw [difM_gt g] at h
      rcases List.mem_cons.1 h with rfl | h
      · rfl
      · exact norm_dif (n - 1) (p :: a) b (by simp at hn ⊢; omega) c h
termination_by _ a b => a.length + b.length
theorem lens_tail {p : Pr} {l : List Pr} (h : lens (p :: l)) : lens l := fun i hi => by have := h (i + 1) (by simp; omega); simpa using this
theorem hlens_cons {c : Ch} {l : List Ch} (hc : cC c) (h : hlens l) : hlens (c :: l) := by
  intro i hi
  cases i with
  | zero => exact hc
  | succ i => exact h i (by simpa using hi)
/-- the texts of a change between two maps are theirs -/
theorem cC_dif : ∀ (n : Nat) (a b : List Pr), a.length + b.length ≤ n → lens a → lens b → hlens (difM a b)
  | n, [], [], _, _, _ => by rw [difM_nil]; exact hlens_nil
  | n, p :: a, [], hn, ha, hb => by
    rw [difM_a]
    exact hlens_cons ⟨(ha 0 (by simp)).1, (ha 0 (by simp)).2, by simp [lossC, maxLen]⟩ (cC_dif (n - 1) a [] (by simp at hn ⊢; omega) (lens_tail ha) hb)
  | n, [], q :: b, hn, ha, hb => by
    rw [difM_b]
    exact hlens_cons ⟨(hb 0 (by simp)).1, by simp [gainC, maxLen], (hb 0 (by simp)).2⟩ (cC_dif (n - 1) [] b (by simp at hn ⊢; omega) ha (lens_tail hb))
  | n, p :: a, q :: b, hn, ha, hb => by
    rcases ltB_tri p.1 q.1 with g | g | g
    · rw [difM_lt g]
      exact hlens_cons ⟨(ha 0 (by simp)).1, (ha 0 (by simp)).2, by simp [lossC, maxLen]⟩ (cC_dif (n - 1) a (q :: b) (by simp at hn ⊢; omega) (lens_tail ha) hb)
    · by_cases g' : p.2 = q.2
      · rw [difM_same g g']
        exact cC_dif (n - 1) a b (by simp at hn ⊢; omega) (lens_tail ha) (lens_tail hb)
      · rw [difM_turn g g']
        exact hlens_cons ⟨(hb 0 (by simp)).1, (ha 0 (by simp)).2, (hb 0 (by simp)).2⟩ (cC_dif (n - 1) a b (by simp at hn ⊢; omega) (lens_tail ha) (lens_tail hb))
    · rw [difM_gt g]
      exact hlens_cons ⟨(hb 0 (by simp)).1, by simp [gainC, maxLen], (hb 0 (by simp)).2⟩ (cC_dif (n - 1) (p :: a) b (by simp at hn ⊢; omega) ha (lens_tail hb))
termination_by _ a b => a.length + b.length

noncomputable def diffB (a b : List Pr) : Bool := mapB a && mapB b
noncomputable def diffL (a b : List Pr) : List Ch := if diffB a b = true then difM a b else []
/-- a list of changes of the call's own, and whether there is one -/
def RetChB (B : Nat) (l : List Ch) (b : Bool) (w : World) (e : Ending) (w' : World) : Prop := ∃ A cap, l.length ≤ cap ∧ e = .returned (.tuple #[.slice A l.length cap, .bool b]) ∧ HOwn w' B A cap l ∧ Below B w w'
theorem retChB_no {B : Nat} {l : List Ch} {b : Bool} {w w' : World} (hl : l = []) (hb : b = false) (h : Below B w w') : RetChB B l b w (.returned (.tuple #[.slice none 0 0, .bool false])) w' := by
  subst hl hb; exact ⟨none, 0, by simp, rfl, HOwn.nil _ _, h⟩
theorem diffL_no {a b : List Pr} (h : diffB a b = false) : diffL a b = [] := by unfold diffL; rw [h]; rfl
theorem diffL_yes {a b : List Pr} (h : diffB a b = true) : diffL a b = difM a b := by unfold diffL; rw [if_pos h]
theorem diffB_1 {a b : List Pr} (h : mapB a = false) : diffB a b = false := by unfold diffB; rw [h]; rfl
theorem diffB_2 {a b : List Pr} (h : mapB b = false) : diffB a b = false := by unfold diffB; rw [h, Bool.and_false]
theorem diffB_yes {a b : List Pr} (h : mapB a = true) (h' : mapB b = true) : diffB a b = true := by unfold diffB; rw [h, h']; rfl

set_option maxRecDepth 100000 in
set_option maxHeartbeats 4000000 in
theorem implDiffOf_any (A : Option Addr) (a : List Pr) (cap : Nat) (A' : Option Addr) (b : List Pr) (cap' : Nat) (w : World) (hla : a.length ≤ maxLen) (hlb : b.length ≤ maxLen) (hca : a.length ≤ cap) (hcb : b.length ≤ cap') (hin : PIn w w.heap.size A a) (hin' : PIn w w.heap.size A' b) :
    Calls Tryz.prog 19 #[.slice A a.length cap, .slice A' b.length cap'] w (RetChB w.heap.size (diffL a b) (diffB a b) w) := by
  cases ha : mapB a
  · have Z := hide (diffB_1 (b := b) ha)
    go_enter Tryz.func19, Tryz.ntmps19
    go_wp2_with fail
    refine (implMapOk_any A a cap _ hla hin).mono ?_
    rintro e w1 ⟨rfl, q1⟩
    rw [ha]
    go_wp2
    go_ret2
    exact retChB_no (diffL_no Z.out) Z.out q1
  · cases hb : mapB b
    · have Z := hide (diffB_2 (a := a) hb)
      go_enter Tryz.func19, Tryz.ntmps19
      go_wp2_with fail
      refine (implMapOk_any A a cap _ hla hin).mono ?_
      rintro e w1 ⟨rfl, q1⟩
      rw [ha]
      have in1 := (hin'.below q1).more q1.size
      go_wp2_with fail
      refine (implMapOk_any A' b cap' _ hlb in1).mono ?_
      rintro e w2 ⟨rfl, q2⟩
      rw [hb]
      have B2 := hide (q1.trans (q2.mono q1.size))
      clear q1 q2 in1
      go_wp2
      go_ret2
      exact retChB_no (diffL_no Z.out) Z.out B2.out
    · have Z := hide (diffB_yes ha hb)
      have h40 := (mapB_iff.1 ha).1
      have h41 := (mapB_iff.1 hb).1
      have NM := hide (norm_dif _ a b (Nat.le_refl _))
      have CD := hide (cC_dif _ a b (Nat.le_refl _) hin.1 hin'.1)
      have DL := hide (difM_len _ a b (Nat.le_refl _))
      have hme1 := method_gain
      have hme2 := method_loss
      have hme3 := method_turn
      have hme4 := method_idle
      go_enter Tryz.func19, Tryz.ntmps19
      go_wp2_with fail
      refine (implMapOk_any A a cap _ hla hin).mono ?_
      rintro e w1 ⟨rfl, q1⟩
      rw [ha]
      have in1 := (hin'.below q1).more q1.size
      go_wp2_with fail
      refine (implMapOk_any A' b cap' _ hlb in1).mono ?_
      rintro e w2 ⟨rfl, q2⟩
      rw [hb]
      have B2 := hide (q1.trans (q2.mono q1.size))
      clear q1 q2 in1
      go_wp2_with fail
      refine (editsBetween_any A a cap A' b cap' _ (by omega) (by omega) hca hcb ((hin.below B2.out).more B2.out.size) ((hin'.below B2.out).more B2.out.size)).mono ?_
      rintro e w3 ⟨A3, cap3, hc3, rfl, own3, b3⟩
      have B3 := hide (B2.out.trans (b3.mono B2.out.size))
      have E3 := hide own3
      have hdl : (difM a b).length ≤ 80 := by have := DL.out; omega
      have OZ := hide (HOwn.nil w3 w3.heap.size)
      have hdz := hide (show difM a b = difM a b from rfl)
      clear b3 own3 DL
      generalize hgd : difM a b = D at NM CD E3 hc3 hdl ⊢
      generalize hn : D.length = n at *
      have HN := hide hn
      have HD := hide hgd
      clear hn hgd hdz
      go_wp2
      go_loopw [6, 21] (fun ov iv wr => ∃ (k : Nat) (A2 : Option Addr) (cap2 : Nat) (d : List Ch), k ≤ n ∧ iv = .int .i64 k ∧ ov = .slice A2 d.length cap2 ∧ Hid (d = D.take k) ∧ Hid (d.length = k) ∧ Hid (HOwn wr w3.heap.size A2 cap2 d) ∧ Hid (Below w3.heap.size w3 wr)) (fun _ i _ => n - (intOf i).toNat)
      case atStart => exact ⟨0, _, 0, [], Nat.zero_le _, rfl, rfl, rfl, rfl, OZ, hide (Below.refl _ _)⟩
      case round =>
        clear OZ
        obtain ⟨k, A2, cap2, d, hk, rfl, rfl, HT, L, O, Q⟩ := hrel
        have hqs := Q.out.size
        by_cases hlt : k < n
        · have hkl : k < D.length := by rw [HN.out]; omega
          obtain ⟨g, rfl, hgl, hcell⟩ := (E3.out.below Q.out).cell hkl
          have sz := hide (CD.out k hkl)
          have DS : Hid (d ++ [D[k]'hkl] = D.take (k + 1)) := hide (by rw [HT.out, List.take_append_getElem])
          have NK := hide (NM.out _ (List.getElem_mem hkl))
          have L3 : Hid ((D.take (k + 1)).length = k + 1) := hide (by rw [List.length_take]; omega)
          have hki : (k : Int) < (n : Int) := by omega
          clear HT
          generalize D[k]'hkl = c at sz DS NK hcell
          obtain ⟨x, o, m, p, q⟩ := c
          have hw0 : w.heap.size ≤ w3.heap.size := B3.out.size
          rcases p with _ | _ <;> rcases q with _ | _
          · have NO := congrArg (fun z : Ch => z.2.1) NK.out
            have NN := congrArg (fun z : Ch => z.2.2.1) NK.out
            simp only [normC, Bool.false_eq_true, if_false] at NO NN
            subst NO
            subst NN
            simp only [edV, editV] at hcell
            clear NK
            go_wp2_with fail
            refine (idleChange_any x _).mono ?_
            rintro e w5 ⟨rfl, b5⟩
            have O5 := hide (O.out.below b5)
            have B5 := hide (Q.out.trans (b5.mono hqs))
            have hq5 := B5.out.size
            clear b5 O Q hcell
            go_wp2_with (at_builtin; (refine wpList_appC (l := d) (l' := [(x, ByteArray.empty, ByteArray.empty, false, false)]) 40 Tryz.underlying40 rfl (.tmp 25) (.tmp 28) rfl rfl rfl rfl rfl (O5.out.alloc _) (HIn.oneAt (x, ByteArray.empty, ByteArray.empty, false, false) sz.out _ (by simp)) (by simp) (Nat.le_trans hq5 (by simp)) (by have := L.out; simp; omega) ?_; intro A6 cap6 w6 own6 g6 r6; have B6 := hide (B5.out.trans (((Below.refl _ _).alloc hq5 (.cells (arrC (x, ByteArray.empty, ByteArray.empty, false, false)) 45)).trans ((O5.out.alloc (.cells (arrC (x, ByteArray.empty, ByteArray.empty, false, false)) 45)).grownBelow (by rw [rowOf_own]; exact g6) (Nat.le_trans hq5 (by simp))))); have O6 := hide own6; clear own6 g6 r6))
            rw [DS.out] at O6
            exact ⟨⟨k + 1, A6, cap6, D.take (k + 1), by omega, by go_num, by rw [← DS.out]; simp, rfl, L3, O6, B6⟩, by simp [intOf]; omega⟩
          · have NO := congrArg (fun z : Ch => z.2.1) NK.out
            have NN := congrArg (fun z : Ch => z.2.2.1) NK.out
            simp only [normC, if_true, Bool.false_eq_true, if_false] at NO NN
            subst NO
            simp only [edV, editV] at hcell
            clear NK
            go_wp2_with fail
            refine (gainChange_any x m _).mono ?_
            rintro e w5 ⟨rfl, b5⟩
            have O5 := hide (O.out.below b5)
            have B5 := hide (Q.out.trans (b5.mono hqs))
            have hq5 := B5.out.size
            clear b5 O Q hcell
            go_wp2_with (at_builtin; (refine wpList_appC (l := d) (l' := [(x, ByteArray.empty, m, false, true)]) 40 Tryz.underlying40 rfl (.tmp 25) (.tmp 28) rfl rfl rfl rfl rfl (O5.out.alloc _) (HIn.oneAt (x, ByteArray.empty, m, false, true) sz.out _ (by simp)) (by simp) (Nat.le_trans hq5 (by simp)) (by have := L.out; simp; omega) ?_; intro A6 cap6 w6 own6 g6 r6; have B6 := hide (B5.out.trans (((Below.refl _ _).alloc hq5 (.cells (arrC (x, ByteArray.empty, m, false, true)) 45)).trans ((O5.out.alloc (.cells (arrC (x, ByteArray.empty, m, false, true)) 45)).grownBelow (by rw [rowOf_own]; exact g6) (Nat.le_trans hq5 (by simp))))); have O6 := hide own6; clear own6 g6 r6))
            rw [DS.out] at O6
            exact ⟨⟨k + 1, A6, cap6, D.take (k + 1), by omega, by go_num, by rw [← DS.out]; simp, rfl, L3, O6, B6⟩, by simp [intOf]; omega⟩
          · have NO := congrArg (fun z : Ch => z.2.1) NK.out
            have NN := congrArg (fun z : Ch => z.2.2.1) NK.out
            simp only [normC, if_true, Bool.false_eq_true, if_false] at NO NN
            subst NN
            simp only [edV, editV] at hcell
            clear NK
            go_wp2_with fail
            refine (lossChange_any x o _).mono ?_
            rintro e w5 ⟨rfl, b5⟩
            have O5 := hide (O.out.below b5)
            have B5 := hide (Q.out.trans (b5.mono hqs))
            have hq5 := B5.out.size
            clear b5 O Q hcell
            go_wp2_with (at_builtin; (refine wpList_appC (l := d) (l' := [(x, o, ByteArray.empty, true, false)]) 40 Tryz.underlying40 rfl (.tmp 25) (.tmp 28) rfl rfl rfl rfl rfl (O5.out.alloc _) (HIn.oneAt (x, o, ByteArray.empty, true, false) sz.out _ (by simp)) (by simp) (Nat.le_trans hq5 (by simp)) (by have := L.out; simp; omega) ?_; intro A6 cap6 w6 own6 g6 r6; have B6 := hide (B5.out.trans (((Below.refl _ _).alloc hq5 (.cells (arrC (x, o, ByteArray.empty, true, false)) 45)).trans ((O5.out.alloc (.cells (arrC (x, o, ByteArray.empty, true, false)) 45)).grownBelow (by rw [rowOf_own]; exact g6) (Nat.le_trans hq5 (by simp))))); have O6 := hide own6; clear own6 g6 r6))
            rw [DS.out] at O6
            exact ⟨⟨k + 1, A6, cap6, D.take (k + 1), by omega, by go_num, by rw [← DS.out]; simp, rfl, L3, O6, B6⟩, by simp [intOf]; omega⟩
          · have NO := congrArg (fun z : Ch => z.2.1) NK.out
            have NN := congrArg (fun z : Ch => z.2.2.1) NK.out
            simp only [normC, if_true] at NO NN
            simp only [edV, editV] at hcell
            clear NK
            go_wp2_with fail
            refine (turnChange_any x o x m _).mono ?_
            rintro e w5 ⟨rfl, b5⟩
            have O5 := hide (O.out.below b5)
            have B5 := hide (Q.out.trans (b5.mono hqs))
            have hq5 := B5.out.size
            clear b5 O Q hcell
            go_wp2_with (at_builtin; (refine wpList_appC (l := d) (l' := [(x, o, m, true, true)]) 40 Tryz.underlying40 rfl (.tmp 25) (.tmp 28) rfl rfl rfl rfl rfl (O5.out.alloc _) (HIn.oneAt (x, o, m, true, true) sz.out _ (by simp)) (by simp) (Nat.le_trans hq5 (by simp)) (by have := L.out; simp; omega) ?_; intro A6 cap6 w6 own6 g6 r6; have B6 := hide (B5.out.trans (((Below.refl _ _).alloc hq5 (.cells (arrC (x, o, m, true, true)) 45)).trans ((O5.out.alloc (.cells (arrC (x, o, m, true, true)) 45)).grownBelow (by rw [rowOf_own]; exact g6) (Nat.le_trans hq5 (by simp))))); have O6 := hide own6; clear own6 g6 r6))
            rw [DS.out] at O6
            exact ⟨⟨k + 1, A6, cap6, D.take (k + 1), by omega, by go_num, by rw [← DS.out]; simp, rfl, L3, O6, B6⟩, by simp [intOf]; omega⟩
        · have E : Hid (d = D) := hide (by rw [HT.out, show k = D.length by rw [HN.out]; omega, List.take_length])
          have hgt : ¬ ((k : Int) < (n : Int)) := by omega
          have B6 := hide (B3.out.trans (Q.out.mono B3.out.size))
          have O6 := hide (O.out.more B3.out.size)
          clear hlt HT L O Q
          go_wp2
          go_ret2
          refine ⟨A2, cap2, ?_, ?_, ?_, B6.out⟩
          · rw [diffL_yes Z.out, HD.out, ← E.out]; exact O6.out.cap_le
          · rw [diffL_yes Z.out, Z.out, HD.out, ← E.out]; rfl
          · rw [diffL_yes Z.out, HD.out, ← E.out]; exact O6.out
end Go.Proofs.YtaofemdhgfejjaaGreatDoor
