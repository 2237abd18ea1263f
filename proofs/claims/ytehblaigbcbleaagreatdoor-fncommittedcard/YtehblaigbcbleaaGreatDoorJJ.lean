/-
  Texts that this proof leans on, joined: JJ.
-/
import Derived.Test.YtehblaigbcbleaaGreatDoorJW
import Derived.Test.YtehblaigbcbleaaGreatDoorJD
import Derived.Test.YtehblaigbcbleaaGreatDoorJO
import Derived.Test.YtehblaigbcbleaaGreatDoorJM
/-
  What impl.Add, impl.Joined and spec.Joined answer.
-/
namespace Go.Proofs.YtehblaigbcbleaaGreatDoor
open Go.RowKit Go.Maps

theorem rt_lens {l : List Pr} (h : Rt l) : lens l := by
  intro i hi
  obtain ⟨h1, h2⟩ := h.1 _ (List.getElem_mem hi)
  refine ⟨?_, by unfold maxLen; omega⟩
  rw [← h2]
  exact idL_max _

/-- a step that add refuses: the joining is refused -/
theorem join_no {a b : List Pr} {k : Nat} (hk : k < b.length) (hb : Rt b) (h : addOk (jl a b k) b[k].2 = false) : joinB a b = false := by
  obtain ⟨h1, h2⟩ := hb.1 _ (List.getElem_mem hk)
  cases hs : stepOk (jl a b k) b[k]
  · exact joinB_step hk hs
  · unfold addOk at h
    rw [decide_eq_true h1, h2, Bool.true_and] at h
    have hs2 : stepOk (jl a b k) (b[k].1, b[k].2) = true := hs
    rw [hs2, Bool.true_and, Bool.or_eq_false_iff] at h
    exact joinB_full hk h.1 (by have := of_decide_eq_false h.2; omega)
theorem join_yes {a b : List Pr} {k : Nat} (hk : k < b.length) (hb : Rt b) (h : addOk (jl a b k) b[k].2 = true) (hl : (jl a b k).length ≤ 60) :
    stepOk (jl a b k) b[k] = true ∧ (jl a b (k + 1)).length ≤ 60 ∧ setL (jl a b k) (idL b[k].2) b[k].2 = jl a b (k + 1) := by
  obtain ⟨h1, h2⟩ := hb.1 _ (List.getElem_mem hk)
  unfold addOk at h
  rw [h2] at h
  simp only [Bool.and_eq_true, Bool.or_eq_true, decide_eq_true_eq] at h
  refine ⟨h.2.1, ?_, ?_⟩
  · rw [jl_succ a b k hk, len_set]
    split
    · exact hl
    · rcases h.2.2 with g | g
      · rename_i x; exact absurd g x
      · omega
  · rw [jl_succ a b k hk, h2]

set_option maxRecDepth 100000 in
set_option maxHeartbeats 1000000 in
theorem implJoined_any (A : Option Addr) (a : List Pr) (cap : Nat) (A' : Option Addr) (b : List Pr) (cap' : Nat) (w : World) (hl : a.length ≤ maxLen) (hl' : b.length ≤ maxLen) (hin : PIn w w.heap.size A a) (hin' : PIn w w.heap.size A' b) (hT : Tabs w) :
    Calls Tryz.prog 23 #[.slice A a.length cap, .slice A' b.length cap'] w (RetOwnB w.heap.size (joinL a b) (joinB a b) w) := by
  have T := hide (textsOf_any A a cap w hl hin hT)
  have HT := hide hT
  have IN' := hide hin'
  clear hin hin' hT hl
  go_enter Tryz.func23, Tryz.ntmps23
  go_wp2_with fail
  refine T.out.mono ?_
  rintro e w1 ⟨b1, ⟨hf, rfl⟩ | ⟨hf, bm, rfl, hbm, tm⟩⟩
  · have B1 := hide b1
    have Z := hide (joinB_a (b := b) hf)
    clear b1 hf T
    go_wp2
    go_ret2
    exact retOwnB_no (joinL_no Z.out) Z.out B1.out
  · have B1 := hide b1
    have h60 := (objsB_iff.1 hf).1
    have HF := hide hf
    have TR := hide (tm.rep (objsB_iff.1 hf).2.2)
    have T1 := hide (HT.out.below B1.out HT.out.1)
    have IN1 := hide (IN'.out.below B1.out)
    have hgw := HT.out.1
    clear b1 hf tm T
    go_wp2_with fail
    refine (implObjsOk_any A' b cap' w1 hl' (IN1.out.more B1.out.size) T1.out).mono ?_
    rintro e w2 ⟨rfl, b2⟩
    have B2 := hide (B1.out.trans (b2.mono B1.out.size))
    have M2 := hide (TR.out.below b2)
    clear b2 TR T1 IN1 B1
    cases hfb : objsB b
    · have Z := hide (joinB_b (a := a) hfb)
      clear hfb
      go_wp2
      go_ret2
      exact retOwnB_no (joinL_no Z.out) Z.out B2.out
    · have HB := hide (rt_of hfb)
      have h60' := (objsB_iff.1 hfb).1
      have HA := hide (rt_of HF.out)
      have HFB := hide hfb
      clear hfb hl'
      generalize hn : b.length = n at *
      have HN := hide hn
      clear hn
      go_wp2
      go_loopw [26] (fun iv wr => ∃ k : Nat, k ≤ n ∧ iv = .int .i64 k ∧ Hid (jokTo a b k) ∧ Hid ((jl a b k).length ≤ 60) ∧ Hid (TRep wr bm (a.length + k) (jl a b k)) ∧ Hid (Below w.heap.size w wr)) (fun i _ => n - (intOf i).toNat)
      case atStart => exact ⟨0, Nat.zero_le _, rfl, jokTo_zero a b, hide h60, M2, B2⟩
      case round =>
        clear M2 B2
        obtain ⟨k, hk, rfl, J, L, M, Q⟩ := hrel
        have hqs := Q.out.size
        by_cases hlt : k < n
        · have hkl : k < b.length := by rw [HN.out]; omega
          have hin2 := IN'.out.below Q.out
          obtain ⟨b0, off, rfl, hbB, hc⟩ := hin2.2 (by rw [HN.out]; omega)
          obtain ⟨c1, c2⟩ := hc k hkl
          obtain ⟨s1, s2⟩ := hin2.1 k hkl
          have TW := hide (HT.out.below Q.out hgw)
          have hll := L.out
          have AD : Hid (∀ W, TRep W bm (a.length + k) (jl a b k) → Tabs W → Calls Tryz.prog 53 #[.map (some bm), .string (b[k]'hkl).2] W fun e w' => W.grownBy w' (some bm) ∧
            ((addOk (jl a b k) (b[k]'hkl).2 = false ∧ e = .returned (.tuple #[.string ByteArray.empty, .bool false])) ∨ (addOk (jl a b k) (b[k]'hkl).2 = true ∧ e = .returned (.tuple #[.string (idL (b[k]'hkl).2), .bool true]) ∧ TRep w' bm (a.length + k + 1) (setL (jl a b k) (idL (b[k]'hkl).2) (b[k]'hkl).2)))) :=
            hide fun W h1 h2 => add_any bm (a.length + k) (jl a b k) (b[k]'hkl).2 W h1 (by omega) (by omega) s2 h2
          have JN : Hid (addOk (jl a b k) (b[k]'hkl).2 = false → joinB a b = false) := hide (join_no hkl HB.out)
          have JY : Hid (addOk (jl a b k) (b[k]'hkl).2 = true → jokTo a b (k + 1) ∧ (jl a b (k + 1)).length ≤ 60 ∧ setL (jl a b k) (idL (b[k]'hkl).2) (b[k]'hkl).2 = jl a b (k + 1)) := hide (fun h => by
            obtain ⟨x1, x2, x3⟩ := join_yes hkl HB.out h hll
            exact ⟨jokTo_succ hkl J.out x1, x2, x3⟩)
          generalize (b[k]'hkl).1 = s at *
          generalize (b[k]'hkl).2 = v at *
          clear hin2 hc hll
          go_wp2_with fail
          refine (AD.out _ (M.out.kept (World.grownBy_alloc wr (.cells #[.string s, .string v] 81) none) (by simp)) (TW.out.below ((Below.refl wr.heap.size wr).alloc (Nat.le_refl _) _) TW.out.1)).mono ?_
          rintro e w5 ⟨g5, ⟨ok, rfl⟩ | ⟨ok, rfl, m5⟩⟩
          · have Z := hide (JN.out ok)
            have B5 := hide ((Q.out.alloc hqs (.cells #[.string s, .string v] 81)).grown g5 (Nat.le_trans hqs (by simp)) (fun j hj => by injection hj with hj; omega))
            clear g5 ok AD JN JY M
            go_wp2
            go_ret2
            exact retOwnB_no (joinL_no Z.out) Z.out B5.out
          · obtain ⟨x1, x2, x3⟩ := JY.out ok
            rw [x3] at m5
            have X1 := hide x1
            have X2 := hide x2
            have M5 : Hid (TRep w5 bm (a.length + (k + 1)) (jl a b (k + 1))) := hide m5
            have B5 := hide ((Q.out.alloc hqs (.cells #[.string s, .string v] 81)).grown g5 (Nat.le_trans hqs (by simp)) (fun j hj => by injection hj with hj; omega))
            clear g5 ok AD JN JY M x1 x2 x3 m5
            go_wp2
            exact ⟨⟨k + 1, by omega, by go_num, X1, X2, M5, B5⟩, by simp [intOf]; omega⟩
        · have ek : k = n := by omega
          have Z : Hid (joinB a b = true) := hide (joinB_iff.2 ⟨HF.out, HFB.out, by rw [HN.out, ← ek]; exact J.out, by rw [HN.out, ← ek]; exact L.out⟩)
          have JL : Hid (joinL a b = jl a b k) := hide (by rw [joinL_yes Z.out, HN.out, ek])
          have RT := hide (jl_rt HA.out HB.out k (by rw [HN.out]; omega))
          have hll := L.out
          have hgt : ¬ ((k : Int) < (n : Int)) := by omega
          have EK := hide ek
          clear hlt ek
          go_wp2_with fail
          refine (objs_any bm _ _ wr M.out (by omega) (rt_lens RT.out)).mono ?_
          rintro e w3 ⟨A3, cap3, hc3, rfl, own3, b3⟩
          have B3 := hide (Q.out.trans (b3.mono hqs))
          have O3 := hide (own3.more hqs)
          clear own3 b3 M RT
          go_wp2
          go_ret2
          refine ⟨A3, cap3, ?_, ?_, ?_, B3.out⟩
          · rw [JL.out]; exact hc3
          · rw [JL.out, Z.out]; rfl
          · rw [JL.out]; exact O3.out

end Go.Proofs.YtehblaigbcbleaaGreatDoor
/-
  Joined with what lies in it already: the same; so with what a commit was made on.
-/
namespace Go.Proofs.YtehblaigbcbleaaGreatDoor
open Go.RowKit

theorem jl_same {a b : List Pr} (ha : Ris a) (h : ∀ i (hi : i < b.length), hasB a b[i].1 = true ∧ valOf a b[i].1 = b[i].2) : ∀ k, k ≤ b.length → jl a b k = a
  | 0, _ => rfl
  | k + 1, hk => by
    rw [jl_succ a b k (by omega), jl_same ha h k (by omega)]
    obtain ⟨h1, h2⟩ := h k (by omega)
    exact set_same ha h1 h2
theorem join_same {a b : List Pr} (ha : objsB a = true) (hb : objsB b = true) (h : ∀ i (hi : i < b.length), hasB a b[i].1 = true ∧ valOf a b[i].1 = b[i].2) : joinL a b = a ∧ joinB a b = true := by
  have hr : Ris a := ris_iff.1 (objsB_iff.1 ha).2.2
  have hj : joinB a b = true := joinB_iff.2 ⟨ha, hb, fun i hi _ => by
    rw [jl_same hr h i (by omega)]
    exact stepOk_same (h i hi).2, by rw [jl_same hr h _ (Nat.le_refl _)]; exact (objsB_iff.1 ha).1⟩
  exact ⟨by rw [joinL_yes hj]; exact jl_same hr h _ (Nat.le_refl _), hj⟩
theorem cm_join {l m : List Pr} {ps : List ByteArray} {note : ByteArray} (h : cmP l m ps note) : joinL (cmL l m ps note) l = cmL l m ps note ∧ joinB (cmL l m ps note) l = true := by
  obtain ⟨_, eL, _⟩ := cmB_yes h
  rw [eL]
  have ho := (repoB_iff.1 h.1).1
  refine join_same (repoB_iff.1 (repo_cm h)).1 ho fun i hi => ?_
  obtain ⟨v1, v2⟩ := valOf_at (objsB_iff.1 ho).2.2 hi
  obtain ⟨k1, k2⟩ := add_keeps h.2.2.2.2.1 v1
  obtain ⟨k3, k4⟩ := add_keeps h.2.2.2.2.2 k1
  exact ⟨k3, by rw [k4, k2]; exact v2⟩
theorem addL_one (l : List Pr) (t : ByteArray) : (addL l t).length ≤ l.length + 1 := by
  cases e : addB l t
  · rw [addL_no e]; simp
  · rw [addL_yes e]; exact (len_set_le _ _ _).2
end Go.Proofs.YtehblaigbcbleaaGreatDoor
/-
  What laws.sameMap answers.
-/
namespace Go.Proofs.YtehblaigbcbleaaGreatDoor.M
open Go.RowKit

set_option maxRecDepth 100000 in
set_option maxHeartbeats 1000000 in
theorem sameMap_any (A A' : Option Addr) (l l' : List Pr) (cap cap' : Nat) (w : World) (B B' : Nat) (hl : l.length ≤ maxLen) (hl' : l'.length ≤ maxLen) (hin : PIn w B A l) (hin' : PIn w B' A' l') :
    Calls Tryz.prog 18 #[.slice A l.length cap, .slice A' l'.length cap'] w fun e w' => e = .returned (.bool (eqL l l')) ∧ Quiet w w' := by
  unfold maxLen at hl hl'
  by_cases he : l.length = l'.length
  · rw [← he]
    rw [← he] at hl'
    generalize hn : l.length = n at *
    have HN := hide hn
    have HN' := hide he
    clear hn he hl'
    go_enter Tryz.func18, Tryz.ntmps18
    go_wp2
    go_loopw [5] (fun i wr => ∃ k : Nat, k ≤ n ∧ i = .int .i64 k ∧ Hid (l.take k = l'.take k) ∧ Hid (Quiet w wr)) (fun i _ => n - (intOf i).toNat)
    case atStart => exact ⟨0, Nat.zero_le _, rfl, rfl, Quiet.refl w⟩
    case round =>
      obtain ⟨k, hk, rfl, H, Q⟩ := hrel
      by_cases hlt : k < n
      · have hin2 := hin.quiet Q.out
        have hin2' := hin'.quiet Q.out
        have hkl : k < l.length := by rw [HN.out]; omega
        have hkl' : k < l'.length := by rw [← HN'.out]; omega
        obtain ⟨b, off, rfl, hbB, hc⟩ := hin2.2 (by omega)
        obtain ⟨b', off', rfl, hbB', hc'⟩ := hin2'.2 (by omega)
        obtain ⟨c1, c2⟩ := hc k hkl
        obtain ⟨c3, c4⟩ := hc' k hkl'
        by_cases hp : l[k]'hkl = l'[k]'hkl'
        · have Z : Hid (l.take (k + 1) = l'.take (k + 1)) := hide (by rw [List.take_succ_eq_append_getElem hkl, List.take_succ_eq_append_getElem hkl', H.out, hp])
          rw [← hp] at c3 c4
          generalize (l[k]'hkl).1 = s at *
          generalize (l[k]'hkl).2 = v at *
          clear hin hin2 hc hin' hin2' hc' hp
          go_wp2
          go_quiet (fail)
          go_wp2
          go_roundw
          case rel => exact ⟨k + 1, by omega, by go_num, Z, Q.out.drewN _⟩
          case measure => simp [intOf]; omega
        · have Z : Hid (eqL l l' = false) := hide (eqL_no (by rintro rfl; exact hp rfl))
          have hp2 : ¬ ((l[k]'hkl).1 = (l'[k]'hkl').1 ∧ (l[k]'hkl).2 = (l'[k]'hkl').2) := fun h => hp (Prod.ext h.1 h.2)
          generalize (l[k]'hkl).1 = s at *
          generalize (l[k]'hkl).2 = v at *
          generalize (l'[k]'hkl').1 = s' at *
          generalize (l'[k]'hkl').2 = v' at *
          clear hin hin2 hc hin' hin2' hc' hp
          by_cases h1 : s = s'
          · have h2 : ¬ v = v' := fun h => hp2 ⟨h1, h⟩
            subst h1
            have d2 := eqS_no h2
            clear hp2 h2
            go_wp2
            go_quiet (fail)
            go_wp2
            go_ret
            exact ⟨ret_bool Z.out.symm, Q.out.drewN _⟩
          · have d1 := eqS_no h1
            clear hp2 h1
            go_wp2
            go_quiet (fail)
            go_wp2
            go_ret
            exact ⟨ret_bool Z.out.symm, Q.out.drewN _⟩
      · obtain rfl : k = n := by omega
        have Z : Hid (eqL l l' = true) := hide (eqL_yes (by
          have h := H.out
          rw [List.take_of_length_le (by rw [HN.out]; exact Nat.le_refl _), List.take_of_length_le (by rw [← HN'.out]; exact Nat.le_refl _)] at h
          exact h))
        go_wp2
        go_ret
        exact ⟨ret_bool Z.out.symm, Q.out⟩
  · have Z : Hid (eqL l l' = false) := hide (eqL_no (by rintro rfl; exact he rfl))
    have d : ((l.length : Int) != (l'.length : Int)) = true := by simp; omega
    clear he
    go_enter Tryz.func18, Tryz.ntmps18
    go_wp2
    go_ret
    exact ⟨ret_bool Z.out.symm, Quiet.refl _⟩
end Go.Proofs.YtehblaigbcbleaaGreatDoor.M
