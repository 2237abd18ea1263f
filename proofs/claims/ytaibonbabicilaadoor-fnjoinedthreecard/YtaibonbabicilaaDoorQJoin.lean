/-
  What impl.Add, impl.Joined and spec.Joined answer.
-/
import Derived.Test.YtaibonbabicilaaDoorQAddI
namespace Go.Proofs.YtaibonbabicilaaDoor
open Go.RowKit Go.Maps

theorem rt_lens {l : List Pr} (h : Rt l) : lens l := by
  intro i hi
  obtain ⟨h1, h2⟩ := h.1 _ (List.getElem_mem hi)
  refine ⟨?_, by unfold maxLen; omega⟩
  rw [← h2]
  exact idL_max _

set_option maxRecDepth 100000 in
set_option maxHeartbeats 1000000 in
theorem implAdd_any (A : Option Addr) (l : List Pr) (cap : Nat) (t : ByteArray) (w : World) (hl : l.length ≤ maxLen) (hin : PIn w w.heap.size A l) (hts : t.size ≤ maxLen) (hT : Tabs w) :
    Calls Tryd.prog 14 #[.slice A l.length cap, .string t] w (RetOwnI w.heap.size (addL l t) (adI l t) (addB l t) w) := by
  have T := hide (textsOf_any A l cap w hl hin hT)
  have HT := hide hT
  clear hin hT hl
  go_enter Tryd.func14, Tryd.ntmps14
  go_wp2_with fail
  refine T.out.mono ?_
  rintro e w1 ⟨b1, ⟨hf, rfl⟩ | ⟨hf, bm, rfl, hbm, tm⟩⟩
  · have B1 := hide b1
    have Z := hide (addB_no (t := t) hf)
    clear b1 hf T
    go_wp2
    go_ret3
    exact retOwnI_no (addL_no Z.out) (adI_no Z.out) Z.out B1.out
  · have B1 := hide b1
    have h60 := (objsB_iff.1 hf).1
    have HF := hide hf
    have TR := hide (tm.rep (objsB_iff.1 hf).2.2)
    have T1 := hide (HT.out.below B1.out HT.out.1)
    clear b1 hf tm T HT
    go_wp2_with fail
    refine (add_any bm l.length l t w1 TR.out (by omega) (by omega) hts T1.out).mono ?_
    rintro e w2 ⟨g2, ⟨ok, rfl⟩ | ⟨ok, rfl, m2⟩⟩
    · have Z : Hid (addB l t = false) := hide (by rw [addB_of HF.out]; exact ok)
      have B2 := hide (B1.out.grown g2 B1.out.size (fun j hj => by injection hj with hj; omega))
      clear g2 ok TR T1
      go_wp2
      go_ret3
      exact retOwnI_no (addL_no Z.out) (adI_no Z.out) Z.out B2.out
    · have Z : Hid (addB l t = true) := hide (by rw [addB_of HF.out]; exact ok)
      have B2 := hide (B1.out.grown g2 B1.out.size (fun j hj => by injection hj with hj; omega))
      have RT := hide (rt_of (add_objs Z.out))
      have h61 := (objs_all.1 (add_objs Z.out)).1
      have M2 := hide m2
      clear g2 ok m2 TR T1
      go_wp2_with fail
      refine (objs_any bm _ _ w2 M2.out (by omega) (rt_lens RT.out)).mono ?_
      rintro e w3 ⟨A3, cap3, hc3, rfl, own3, b3⟩
      have B3 := hide (B2.out.trans (b3.mono B2.out.size))
      have O3 := hide (own3.more B2.out.size)
      clear own3 b3 M2 RT
      go_wp2
      go_ret3
      refine ⟨A3, cap3, ?_, ?_, ?_, B3.out⟩
      · rw [addL_yes Z.out]; exact hc3
      · rw [addL_yes Z.out, adI_yes Z.out, Z.out]; rfl
      · rw [addL_yes Z.out]; exact O3.out

/-- a step that add refuses: the joining is refused -/
theorem join_no {a b : List Pr} {k : Nat} (hk : k < b.length) (hb : Rt b) (h : addOk (jl a b k) b[k].2 = false) : joinB a b = false := by
  obtain ⟨h1, h2⟩ := hb.1 _ (List.getElem_mem hk)
  cases hs : stepOk (jl a b k) b[k]
  · exact joinB_step hk hs
  · unfold addOk at h
    rw [decide_eq_true h1, h2, Bool.true_and] at h
    have hs2 : stepOk (jl a b k) (b[k].1, b[k].2) = true := hs
    rw [hs2, Bool.true_and, Bool.or_eq_false_iff] at h
    exact joinB_full hk h.1 (by have := of_decide_eq_false h.2; omega)
theorem join_yes {a b : List Pr} {k : Nat} (hk : k < b.length) (hb : Rt b) (h : addOk (jl a b k) b[k].2 = true) (hl : (jl a b k).length ≤ 60) :
    stepOk (jl a b k) b[k] = true ∧ (jl a b (k + 1)).length ≤ 60 ∧ setL (jl a b k) (idL b[k].2) b[k].2 = jl a b (k + 1) := by
  obtain ⟨h1, h2⟩ := hb.1 _ (List.getElem_mem hk)
  unfold addOk at h
  rw [h2] at h
  simp only [Bool.and_eq_true, Bool.or_eq_true, decide_eq_true_eq] at h
  refine ⟨h.2.1, ?_, ?_⟩
  · rw [jl_succ a b k hk, len_set]
    split
    · exact hl
    · rcases h.2.2 with g | g
      · rename_i x; exact absurd g x
      · omega
  · rw [jl_succ a b k hk, h2]

set_option maxRecDepth 100000 in
set_option maxHeartbeats 1000000 in
theorem implJoined_any (A : Option Addr) (a : List Pr) (cap : Nat) (A' : Option Addr) (b : List Pr) (cap' : Nat) (w : World) (hl : a.length ≤ maxLen) (hl' : b.length ≤ maxLen) (hin : PIn w w.heap.size A a) (hin' : PIn w w.heap.size A' b) (hT : Tabs w) :
    Calls Tryd.prog 19 #[.slice A a.length cap, .slice A' b.length cap'] w (RetOwnB w.heap.size (joinL a b) (joinB a b) w) := by
  have T := hide (textsOf_any A a cap w hl hin hT)
  have HT := hide hT
  have IN' := hide hin'
  clear hin hin' hT hl
  go_enter Tryd.func19, Tryd.ntmps19
  go_wp2_with fail
  refine T.out.mono ?_
  rintro e w1 ⟨b1, ⟨hf, rfl⟩ | ⟨hf, bm, rfl, hbm, tm⟩⟩
  · have B1 := hide b1
    have Z := hide (joinB_a (b := b) hf)
    clear b1 hf T
    go_wp2
    go_ret2
    exact retOwnB_no (joinL_no Z.out) Z.out B1.out
  · have B1 := hide b1
    have h60 := (objsB_iff.1 hf).1
    have HF := hide hf
    have TR := hide (tm.rep (objsB_iff.1 hf).2.2)
    have T1 := hide (HT.out.below B1.out HT.out.1)
    have IN1 := hide (IN'.out.below B1.out)
    have hgw := HT.out.1
    clear b1 hf tm T
    go_wp2_with fail
    refine (implObjsOk_any A' b cap' w1 hl' (IN1.out.more B1.out.size) T1.out).mono ?_
    rintro e w2 ⟨rfl, b2⟩
    have B2 := hide (B1.out.trans (b2.mono B1.out.size))
    have M2 := hide (TR.out.below b2)
    clear b2 TR T1 IN1 B1
    cases hfb : objsB b
    · have Z := hide (joinB_b (a := a) hfb)
      clear hfb
      go_wp2
      go_ret2
      exact retOwnB_no (joinL_no Z.out) Z.out B2.out
    · have HB := hide (rt_of hfb)
      have h60' := (objsB_iff.1 hfb).1
      have HA := hide (rt_of HF.out)
      have HFB := hide hfb
      clear hfb hl'
      generalize hn : b.length = n at *
      have HN := hide hn
      clear hn
      go_wp2
      go_loopw [26] (fun iv wr => ∃ k : Nat, k ≤ n ∧ iv = .int .i64 k ∧ Hid (jokTo a b k) ∧ Hid ((jl a b k).length ≤ 60) ∧ Hid (TRep wr bm (a.length + k) (jl a b k)) ∧ Hid (Below w.heap.size w wr)) (fun i _ => n - (intOf i).toNat)
      case atStart => exact ⟨0, Nat.zero_le _, rfl, jokTo_zero a b, hide h60, M2, B2⟩
      case round =>
        clear M2 B2
        obtain ⟨k, hk, rfl, J, L, M, Q⟩ := hrel
        have hqs := Q.out.size
        by_cases hlt : k < n
        · have hkl : k < b.length := by rw [HN.out]; omega
          have hin2 := IN'.out.below Q.out
          obtain ⟨b0, off, rfl, hbB, hc⟩ := hin2.2 (by rw [HN.out]; omega)
          obtain ⟨c1, c2⟩ := hc k hkl
          obtain ⟨s1, s2⟩ := hin2.1 k hkl
          have TW := hide (HT.out.below Q.out hgw)
          have hll := L.out
          have AD : Hid (∀ W, TRep W bm (a.length + k) (jl a b k) → Tabs W → Calls Tryd.prog 41 #[.map (some bm), .string (b[k]'hkl).2] W fun e w' => W.grownBy w' (some bm) ∧
            ((addOk (jl a b k) (b[k]'hkl).2 = false ∧ e = .returned (.tuple #[.string ByteArray.empty, .bool false])) ∨ (addOk (jl a b k) (b[k]'hkl).2 = true ∧ e = .returned (.tuple #[.string (idL (b[k]'hkl).2), .bool true]) ∧ TRep w' bm (a.length + k + 1) (setL (jl a b k) (idL (b[k]'hkl).2) (b[k]'hkl).2)))) :=
            hide fun W h1 h2 => add_any bm (a.length + k) (jl a b k) (b[k]'hkl).2 W h1 (by omega) (by omega) s2 h2
          have JN : Hid (addOk (jl a b k) (b[k]'hkl).2 = false → joinB a b = false) := hide (join_no hkl HB.out)
          have JY : Hid (addOk (jl a b k) (b[k]'hkl).2 = true → jokTo a b (k + 1) ∧ (jl a b (k + 1)).length ≤ 60 ∧ setL (jl a b k) (idL (b[k]'hkl).2) (b[k]'hkl).2 = jl a b (k + 1)) := hide (fun h => by
            obtain ⟨x1, x2, x3⟩ := join_yes hkl HB.out h hll
            exact ⟨jokTo_succ hkl J.out x1, x2, x3⟩)
          generalize (b[k]'hkl).1 = s at *
          generalize (b[k]'hkl).2 = v at *
          clear hin2 hc hll
          go_wp2_with fail
          refine (AD.out _ (M.out.kept (World.grownBy_alloc wr (.cells #[.string s, .string v] 43) none) (by simp)) (TW.out.below ((Below.refl wr.heap.size wr).alloc (Nat.le_refl _) _) TW.out.1)).mono ?_
          rintro e w5 ⟨g5, ⟨ok, rfl⟩ | ⟨ok, rfl, m5⟩⟩
          · have Z := hide (JN.out ok)
            have B5 := hide ((Q.out.alloc hqs (.cells #[.string s, .string v] 43)).grown g5 (Nat.le_trans hqs (by simp)) (fun j hj => by injection hj with hj; omega))
            clear g5 ok AD JN JY M
            go_wp2
            go_ret2
            exact retOwnB_no (joinL_no Z.out) Z.out B5.out
          · obtain ⟨x1, x2, x3⟩ := JY.out ok
            rw [x3] at m5
            have X1 := hide x1
            have X2 := hide x2
            have M5 : Hid (TRep w5 bm (a.length + (k + 1)) (jl a b (k + 1))) := hide m5
            have B5 := hide ((Q.out.alloc hqs (.cells #[.string s, .string v] 43)).grown g5 (Nat.le_trans hqs (by simp)) (fun j hj => by injection hj with hj; omega))
            clear g5 ok AD JN JY M x1 x2 x3 m5
            go_wp2
            exact ⟨⟨k + 1, by omega, by go_num, X1, X2, M5, B5⟩, by simp [intOf]; omega⟩
        · have ek : k = n := by omega
          have Z : Hid (joinB a b = true) := hide (joinB_iff.2 ⟨HF.out, HFB.out, by rw [HN.out, ← ek]; exact J.out, by rw [HN.out, ← ek]; exact L.out⟩)
          have JL : Hid (joinL a b = jl a b k) := hide (by rw [joinL_yes Z.out, HN.out, ek])
          have RT := hide (jl_rt HA.out HB.out k (by rw [HN.out]; omega))
          have hll := L.out
          have hgt : ¬ ((k : Int) < (n : Int)) := by omega
          have EK := hide ek
          clear hlt ek
          go_wp2_with fail
          refine (objs_any bm _ _ wr M.out (by omega) (rt_lens RT.out)).mono ?_
          rintro e w3 ⟨A3, cap3, hc3, rfl, own3, b3⟩
          have B3 := hide (Q.out.trans (b3.mono hqs))
          have O3 := hide (own3.more hqs)
          clear own3 b3 M RT
          go_wp2
          go_ret2
          refine ⟨A3, cap3, ?_, ?_, ?_, B3.out⟩
          · rw [JL.out]; exact hc3
          · rw [JL.out, Z.out]; rfl
          · rw [JL.out]; exact O3.out

set_option maxRecDepth 100000 in
set_option maxHeartbeats 1000000 in
theorem specJoined_any (A : Option Addr) (a : List Pr) (cap : Nat) (A' : Option Addr) (b : List Pr) (cap' : Nat) (w : World) (hl : a.length ≤ maxLen) (hl' : b.length ≤ maxLen) (hin : PIn w w.heap.size A a) (hin' : PIn w w.heap.size A' b) :
    Calls Tryd.prog 18 #[.slice A a.length cap, .slice A' b.length cap'] w (RetOwnB w.heap.size (joinL a b) (joinB a b) w) := by
  have R := hide (specObjsOk_any A a cap w hl hin)
  have IN := hide hin
  have IN' := hide hin'
  clear hin hin' hl
  go_enter Tryd.func18, Tryd.ntmps18
  go_wp2_with fail
  refine R.out.mono ?_
  rintro e w1 ⟨rfl, b1⟩
  have B1 := hide b1
  clear b1 R
  cases hf : objsB a
  · have Z := hide (joinB_a (b := b) hf)
    clear hf
    go_wp2
    go_ret2
    exact retOwnB_no (joinL_no Z.out) Z.out B1.out
  · have h60 := (objsB_iff.1 hf).1
    have HF := hide hf
    clear hf
    go_wp2_with fail
    refine (specObjsOk_any A' b cap' w1 hl' ((IN'.out.below B1.out).more B1.out.size)).mono ?_
    rintro e w2 ⟨rfl, b2⟩
    have B2 := hide (B1.out.trans (b2.mono B1.out.size))
    clear b2 B1
    cases hfb : objsB b
    · have Z := hide (joinB_b (a := a) hfb)
      clear hfb
      go_wp2
      go_ret2
      exact retOwnB_no (joinL_no Z.out) Z.out B2.out
    · have HB := hide (rt_of hfb)
      have h60' := (objsB_iff.1 hfb).1
      have HA := hide (rt_of HF.out)
      have HFB := hide hfb
      have hs2 := B2.out.size
      have O1 := hide (Own.built w2 w.heap.size hs2)
      have B3 := hide (B2.out.alloc hs2 (.cells #[] 43))
      have IN3 := hide (IN.out.below B3.out)
      clear hfb hl'
      generalize hn : b.length = n at *
      have HN := hide hn
      clear hn
      generalize hna : a.length = na at *
      have HNA := hide hna
      clear hna
      go_wp2_with (at_builtin; refine wpList_app 24 Tryd.underlying24 rfl (.tmp 18) (.tmp 19) rfl rfl rfl rfl HNA.out.symm O1.out IN3.out B3.out.size (by rw [HNA.out]; simp; omega) ?_; intro A3 cap3 w3 own3 g3 r3; have B4 := hide (B3.out.trans (O1.out.grownBelow (by rw [rowOf_own]; exact g3) B3.out.size)); have O3 := hide own3; clear own3 g3)
      rw [List.nil_append] at O3
      go_loopw [6, 7] (fun ov iv wr => ∃ (k : Nat) (Ao : Option Addr) (capo : Nat), k ≤ n ∧ iv = .int .i64 k ∧ ov = .slice Ao (jl a b k).length capo ∧ Hid (jokTo a b k) ∧ Hid (Own wr w.heap.size Ao capo (jl a b k)) ∧ Hid (Below w.heap.size w wr)) (fun _ i _ => n - (intOf i).toNat)
      case atStart => exact ⟨0, A3, cap3, Nat.zero_le _, rfl, rfl, jokTo_zero a b, O3, B4⟩
      case round =>
        clear O3 B4 B3 O1 IN3 B2
        obtain ⟨k, Ao, capo, hk, rfl, rfl, J, O, Q⟩ := hrel
        have hqs := Q.out.size
        have hll := jl_len a b k (by rw [HN.out]; omega)
        rw [HNA.out] at hll
        by_cases hlt : k < n
        · have hkl : k < b.length := by rw [HN.out]; omega
          have hin2 := IN'.out.below Q.out
          obtain ⟨b0, off, rfl, hbB, hc⟩ := hin2.2 (by rw [HN.out]; omega)
          obtain ⟨c1, c2⟩ := hc k hkl
          obtain ⟨x1, x2⟩ := HB.out.1 _ (List.getElem_mem hkl)
          have L3 := hide (l3Add_any Ao (jl a b k) capo (b[k]'hkl).2 wr (by omega) O.out.cap_le O.out.pin x1)
          have JN : Hid (stepOk (jl a b k) (idL (b[k]'hkl).2, (b[k]'hkl).2) = false → joinB a b = false) := hide (fun h => by rw [x2] at h; exact joinB_step hkl h)
          have JY : Hid (stepOk (jl a b k) (idL (b[k]'hkl).2, (b[k]'hkl).2) = true → jokTo a b (k + 1) ∧ l3L (jl a b k) (b[k]'hkl).2 = jl a b (k + 1)) := hide (fun h => by
            have e := l3L_set (jl_ris (b := b) HA.out.2 k (by rw [HN.out]; omega)) h
            rw [x2] at h e
            exact ⟨jokTo_succ hkl J.out h, by rw [e, jl_succ a b k hkl]⟩)
          generalize (b[k]'hkl).1 = s at *
          generalize (b[k]'hkl).2 = v at *
          clear hin2 hc x2 x1
          go_wp2_with fail
          refine L3.out.mono ?_
          rintro e w5 ⟨A5, cap5, hc5, rfl, own5, b5⟩
          have B5 := hide (Q.out.trans (b5.mono hqs))
          have O5 := hide (own5.more hqs)
          clear own5 b5 L3 O
          cases hs : stepOk (jl a b k) (idL v, v)
          · have Z := hide (JN.out hs)
            clear hs JN JY
            go_wp2
            go_ret2
            exact retOwnB_no (joinL_no Z.out) Z.out B5.out
          · obtain ⟨x1, x2⟩ := JY.out hs
            have X1 := hide x1
            rw [x2] at O5 ⊢
            clear hs JN JY x1 x2
            go_wp2
            exact ⟨⟨k + 1, A5, cap5, by omega, by go_num, rfl, X1, O5, B5⟩, by simp [intOf]; omega⟩
        · have ek : k = n := by omega
          have JK : Hid (jokTo a b b.length) := hide (by rw [HN.out, ← ek]; exact J.out)
          have RT := hide (jl_rt HA.out HB.out k (by rw [HN.out]; omega))
          have EK : Hid (jl a b b.length = jl a b k) := hide (by rw [HN.out, ek])
          have hgt : ¬ ((k : Int) < (n : Int)) := by omega
          clear hlt ek
          go_wp2_with fail
          refine (specObjsOk_any Ao (jl a b k) capo wr (by unfold maxLen; omega) O.out.pin).mono ?_
          rintro e w3 ⟨rfl, b3⟩
          have B3 := hide (Q.out.trans (b3.mono hqs))
          have O3 := hide (O.out.below b3)
          clear b3 O
          cases ho : objsB (jl a b k)
          · have Z : Hid (joinB a b = false) := hide (joinB_long (by rw [EK.out]; rw [rt_objs RT.out] at ho; have := of_decide_eq_false ho; omega))
            clear ho
            go_wp2
            go_ret2
            exact retOwnB_no (joinL_no Z.out) Z.out B3.out
          · have Z : Hid (joinB a b = true) := hide (joinB_iff.2 ⟨HF.out, HFB.out, JK.out, by rw [EK.out]; exact (objs_all.1 ho).1⟩)
            have JL : Hid (joinL a b = jl a b k) := hide (by rw [joinL_yes Z.out, EK.out])
            clear ho
            go_wp2
            go_ret2
            refine ⟨Ao, capo, ?_, ?_, ?_, B3.out⟩
            · rw [JL.out]; exact O3.out.cap_le
            · rw [JL.out, Z.out]; rfl
            · rw [JL.out]; exact O3.out
end Go.Proofs.YtaibonbabicilaaDoor
