/-
  What spec's l7Merge answers.
-/
import Derived.Test.YtaofemdhgfejjaaGreatDoorMRow
namespace Go.Proofs.YtaofemdhgfejjaaGreatDoor
open Go.RowKit

theorem one_max (base a b : List Pr) (k : ByteArray) (ha : (valOf a k).size ≤ maxLen) (hb : (valOf b k).size ≤ maxLen) : oneM (lk base k) (lk a k) (lk b k) = none ∨ ∃ r, oneM (lk base k) (lk a k) (lk b k) = some r ∧ ∀ v, r = some v → v.size ≤ maxLen := by
  have hx : ∀ (l : List Pr), (valOf l k).size ≤ maxLen → ∀ v, lk l k = some v → v.size ≤ maxLen := fun l h v hv => by
    rcases lk_shape l k with ⟨_, e⟩ | ⟨_, e⟩
    · rw [e] at hv; injection hv with hv; rw [← hv]; exact h
    · rw [e] at hv; cases hv
  rcases one_shape base a b k with h | h | h
  · exact .inl h
  · exact .inr ⟨_, h, hx a ha⟩
  · exact .inr ⟨_, h, hx b hb⟩
set_option maxRecDepth 100000 in
set_option maxHeartbeats 4000000 in
theorem l7Merge_any (A0 A1 A2 A3 : Option Addr) (l0 l1 l2 l3 : List Pr) (c0 c1 c2 c3 : Nat) (w : World) (h0 : l0.length ≤ 200) (h1 : l1.length ≤ 200) (h2 : l2.length ≤ 200) (h3 : l3.length ≤ 200) (i0 : PIn w w.heap.size A0 l0) (i1 : PIn w w.heap.size A1 l1) (i2 : PIn w w.heap.size A2 l2) (i3 : PIn w w.heap.size A3 l3) :
    Calls Tryz.prog 29 #[.slice A0 l0.length c0, .slice A1 l1.length c1, .slice A2 l2.length c2, .slice A3 l3.length c3] w (RetMZ w.heap.size (merM l0 l1 l2 l3) (badM l0 l1 l2) w) := by
  have OP0 := hide (Own.built w w.heap.size (Nat.le_refl _))
  have BP := hide ((Below.refl w.heap.size w).alloc (Nat.le_refl _) (.cells #[] 60))
  have OZ0 : Hid (ZOwn ((w.alloc (.cells #[] 60)).alloc (.cells #[] 9)) w.heap.size (some ⟨w.heap.size + 1, 0, none⟩) 0 []) := hide (by have := ZOwn.built (w.alloc (.cells #[] 60)) w.heap.size BP.out.size; simpa using this)
  have B1 := hide (BP.out.alloc BP.out.size (.cells #[] 9))
  have O1 := hide (OP0.out.alloc (.cells #[] 9))
  have I0 := hide i0
  have I1 := hide i1
  have I2 := hide i2
  have I3 := hide i3
  have hk := merK_len l0 l1 l2
  have KM : Hid (∀ x ∈ merK l0 l1 l2, x.size ≤ maxLen) := hide (fun x h => merK_max i0.1 i1.1 i2.1 h)
  have VM : Hid (∀ k, (valOf l1 k).size ≤ maxLen ∧ (valOf l2 k).size ≤ maxLen ∧ (valOf l3 k).size ≤ maxLen) := hide (fun k => ⟨valOf_max i1.1 k, valOf_max i2.1 k, valOf_max i3.1 k⟩)
  have x1 : l0.length ≤ maxLen ∧ l1.length ≤ maxLen ∧ l2.length ≤ maxLen ∧ l3.length ≤ maxLen := by unfold maxLen; omega
  have X1 := hide x1
  clear i0 i1 i2 i3 OP0 BP x1
  go_enter Tryz.func29, Tryz.ntmps29
  go_wp2_with fail
  refine (l7Keys_any A0 A1 A2 l0 l1 l2 c0 c1 c2 _ h0 h1 h2 ((I0.out.below B1.out).more B1.out.size) ((I1.out.below B1.out).more B1.out.size) ((I2.out.below B1.out).more B1.out.size)).mono ?_
  rintro e w2 ⟨AK, capK, rfl, zk, bk⟩
  have B2 := hide (B1.out.trans (bk.mono B1.out.size))
  have RK := hide zk.row
  have T0 : Hid (Rows3 w2 w.heap.size (some ⟨w.heap.size, 0, none⟩) 0 (merT l0 l1 l2 l3 0) (some ⟨w.heap.size + 1, 0, none⟩) 0 (badT l0 l1 l2 0) AK capK (merK l0 l1 l2)) := hide ⟨O1.out.below bk, OZ0.out.below bk, zk.more B1.out.size, fun g h x => by simp [rowOf] at h x; omega, fun g h x => by
    have := (RK.out g h).1
    simp [rowOf] at this x
    omega, fun g h x => by
    have := (RK.out g h).1
    simp [rowOf] at this x
    omega⟩
  clear O1 OZ0 zk bk B1 RK
  generalize hn : (merK l0 l1 l2).length = n at *
  have HN := hide hn
  clear hn
  go_wp2
  go_loopw [10, 11, 13] (fun o b i wr => ∃ (k : Nat) (Ao : Option Addr) (co : Nat) (Ab : Option Addr) (cb : Nat), k ≤ n ∧ i = .int .i64 k ∧ o = .slice Ao (merT l0 l1 l2 l3 k).length co ∧ b = .slice Ab (badT l0 l1 l2 k).length cb ∧ Hid (Rows3 wr w.heap.size Ao co (merT l0 l1 l2 l3 k) Ab cb (badT l0 l1 l2 k) AK capK (merK l0 l1 l2)) ∧ Hid (Below w.heap.size w wr)) (fun _ _ i _ => n - (intOf i).toNat)
  case atStart => exact ⟨0, _, _, _, _, Nat.zero_le _, rfl, rfl, rfl, T0, B2⟩
  case round =>
    clear T0 B2
    obtain ⟨k, Ao, co, Ab, cb, hkn, rfl, rfl, rfl, T, Q⟩ := hrel
    have L1 : Hid ((merT l0 l1 l2 l3 k).length ≤ n) := hide (by have := merT_len l0 l1 l2 l3 k; rw [HN.out] at this; exact this)
    have L2 : Hid ((badT l0 l1 l2 k).length ≤ n) := hide (by have := badT_len l0 l1 l2 k; rw [HN.out] at this; exact this)
    by_cases hlt : k < n
    · have hkl : k < (merK l0 l1 l2).length := by rw [HN.out]; exact hlt
      obtain ⟨gk, off, rfl, hbB, hc⟩ := T.out.k.zin (by omega)
      have cK := hc k hkl
      have KS := hide (KM.out _ (List.getElem_mem hkl))
      have M1 : Hid (∀ v, pickM l0 l1 l2 l3 ((merK l0 l1 l2)[k]'hkl) = some v → merT l0 l1 l2 l3 (k + 1) = merT l0 l1 l2 l3 k ++ [((merK l0 l1 l2)[k]'hkl, v)]) := hide (fun v hv => merT_yes hkl hv)
      have M2 : Hid (pickM l0 l1 l2 l3 ((merK l0 l1 l2)[k]'hkl) = none → merT l0 l1 l2 l3 (k + 1) = merT l0 l1 l2 l3 k) := hide (fun hv => merT_no hkl hv)
      have N1 : Hid (oneM (lk l0 ((merK l0 l1 l2)[k]'hkl)) (lk l1 ((merK l0 l1 l2)[k]'hkl)) (lk l2 ((merK l0 l1 l2)[k]'hkl)) = none → badT l0 l1 l2 (k + 1) = badT l0 l1 l2 k ++ [(merK l0 l1 l2)[k]'hkl]) := hide (fun hv => badT_yes hkl hv)
      have N2 : Hid (∀ r, oneM (lk l0 ((merK l0 l1 l2)[k]'hkl)) (lk l1 ((merK l0 l1 l2)[k]'hkl)) (lk l2 ((merK l0 l1 l2)[k]'hkl)) = some r → badT l0 l1 l2 (k + 1) = badT l0 l1 l2 k) := hide (fun r hv => badT_no hkl hv)
      clear hc
      generalize hkk : (merK l0 l1 l2)[k]'hkl = key at *
      have HK := hide hkk
      clear hkk
      have VS := hide (VM.out key)
      have SH := one_max l0 l1 l2 key VS.out.1 VS.out.2.1
      have ONE := hide (l7One_any A0 A1 A2 l0 l1 l2 c0 c1 c2 key wr w.heap.size X1.out.1 X1.out.2.1 X1.out.2.2.1 (I0.out.below Q.out) (I1.out.below Q.out) (I2.out.below Q.out))
      rcases SH with sh | ⟨r, sh, hr⟩
      · -- both changed it: it is told
        have ho : oneOk (lk l0 key) (lk l1 key) (lk l2 key) = false := by unfold oneOk; rw [sh]; rfl
        rw [ho] at ONE
        have NB := hide (N1.out sh)
        have PK : Hid (pickM l0 l1 l2 l3 key = lk l3 key) := hide (by unfold pickM; rw [sh]; rfl)
        generalize oneV (lk l0 key) (lk l1 key) (lk l2 key) = vv at ONE
        generalize oneH (lk l0 key) (lk l1 key) (lk l2 key) = hh at ONE
        clear sh ho N1 N2
        go_wp2_with fail
        refine ONE.out.mono ?_
        rintro e w' ⟨rfl, rfl⟩
        clear ONE
        have TA := hide (T.out.alloc (.cells #[Value.string key] 9))
        have BA := hide (Q.out.alloc Q.out.size (.cells #[Value.string key] 9))
        have KR : Hid (∀ W cap5, ∀ A5 : Option Addr, Rows3 W w.heap.size Ao co (merT l0 l1 l2 l3 k) A5 cap5 (badT l0 l1 l2 k ++ [key]) (some ⟨gk, off, none⟩) capK (merK l0 l1 l2) → W.cell? ⟨gk, off + k, none⟩ = some (.string key)) := hide (fun W cap5 A5 h => by
          obtain ⟨g', off', e, _, hc⟩ := h.k.zin (by omega)
          injection e with e
          injection e with e1 e2 e3
          subst e1 e2
          exact (hc k hkl).trans (by rw [HK.out]))
        go_wp2_with (at_builtin; refine wpList_appZ (l' := [key]) 27 Tryz.underlying27 rfl (.tmp 43) (.tmp 48) rfl rfl rfl rfl rfl TA.out.b (ZIn.one key _ rfl) BA.out.size (by have := L2.out; simp; omega) ?_; intro A5 cap5 w5 own5 g5 r5; have b5 := TA.out.b.grownBelow g5 BA.out.size; have T5 := hide (TA.out.appB own5 g5 r5); have Q5 := hide (BA.out.trans b5); have cK2 := KR.out w5 cap5 A5 T5.out; clear own5 g5 r5 b5 TA BA cK; go_wp2_with fail)
        refine (l1Get_any A3 l3 c3 key _ w.heap.size X1.out.2.2.2 (I3.out.below Q5.out)).mono ?_
        rintro e w' ⟨rfl, rfl⟩
        rcases lk_shape l3 key with ⟨hs, hl⟩ | ⟨hs, hl⟩
        · rw [hs]
          have NM := hide (M1.out _ (PK.out.trans hl))
          have v3 := VS.out.2.2
          generalize valOf l3 key = v at *
          clear M1 M2 hs hl
          go_wp2_with (at_builtin; refine wpList_app (l' := [(key, v)]) 24 Tryz.underlying24 rfl (.tmp 60) (.tmp 67) rfl rfl rfl rfl rfl (T5.out.alloc _).o (PIn.one w5 key v KS.out v3 _) (Nat.le_trans Q5.out.size (by simp)) (by have := L1.out; simp; omega) ?_; intro A6 cap6 w6 own6 g6 r6; have b6 := (T5.out.alloc (.cells #[.string key, .string v] 60)).o.grownBelow (by rw [rowOf_own]; exact g6) (Nat.le_trans Q5.out.size (by simp)); have T6 := hide ((T5.out.alloc (.cells #[.string key, .string v] 60)).appO own6 g6 r6); have Q6 := hide ((Q5.out.alloc Q5.out.size (.cells #[.string key, .string v] 60)).trans b6); clear own6 g6 r6 b6)
          rw [← NM.out, ← NB.out] at T6
          go_roundw
          case rel => exact ⟨k + 1, A6, cap6, A5, cap5, by omega, by go_num, by rw [NM.out]; simp, by rw [NB.out]; simp, T6, Q6⟩
          case measure => simp [intOf]; omega
        · rw [hs]
          have NM := hide (M2.out (PK.out.trans hl))
          generalize valOf l3 key = v at *
          clear M1 M2 hs hl
          rw [← NM.out, ← NB.out] at T5
          go_wp2
          go_roundw
          case rel => exact ⟨k + 1, Ao, co, A5, cap5, by omega, by go_num, by rw [NM.out], by rw [NB.out]; simp, T5, Q5⟩
          case measure => simp [intOf]; omega
      · have ho : oneOk (lk l0 key) (lk l1 key) (lk l2 key) = true := by unfold oneOk; rw [sh]; rfl
        rw [ho] at ONE
        have NB := hide (N2.out r sh)
        have PK : Hid (pickM l0 l1 l2 l3 key = r) := hide (by unfold pickM; rw [sh]; rfl)
        have hh : oneH (lk l0 key) (lk l1 key) (lk l2 key) = r.isSome := by unfold oneH; rw [sh]; rfl
        have hv : oneV (lk l0 key) (lk l1 key) (lk l2 key) = r.getD ByteArray.empty := by unfold oneV; rw [sh]; rfl
        rw [hh, hv] at ONE
        clear sh ho N1 N2 hh hv
        cases r with
        | some v =>
          have NM := hide (M1.out _ PK.out)
          have v3 := hr v rfl
          simp only [Option.isSome_some, Option.getD_some] at ONE
          clear M1 M2
          go_wp2_with fail
          refine ONE.out.mono ?_
          rintro e w' ⟨rfl, rfl⟩
          clear ONE
          go_wp2_with (at_builtin; refine wpList_app (l' := [(key, v)]) 24 Tryz.underlying24 rfl (.tmp 60) (.tmp 67) rfl rfl rfl rfl rfl (T.out.alloc _).o (PIn.one wr key v KS.out v3 _) (Nat.le_trans Q.out.size (by simp)) (by have := L1.out; simp; omega) ?_; intro A6 cap6 w6 own6 g6 r6; have b6 := (T.out.alloc (.cells #[.string key, .string v] 60)).o.grownBelow (by rw [rowOf_own]; exact g6) (Nat.le_trans Q.out.size (by simp)); have T6 := hide ((T.out.alloc (.cells #[.string key, .string v] 60)).appO own6 g6 r6); have Q6 := hide ((Q.out.alloc Q.out.size (.cells #[.string key, .string v] 60)).trans b6); clear own6 g6 r6 b6)
          rw [← NM.out, ← NB.out] at T6
          go_roundw
          case rel => exact ⟨k + 1, A6, cap6, Ab, cb, by omega, by go_num, by rw [NM.out]; simp, by rw [NB.out], T6, Q6⟩
          case measure => simp [intOf]; omega
        | none =>
          have NM := hide (M2.out PK.out)
          simp only [Option.isSome_none, Option.getD_none] at ONE
          clear M1 M2
          go_wp2_with fail
          refine ONE.out.mono ?_
          rintro e w' ⟨rfl, rfl⟩
          clear ONE
          rw [← NM.out, ← NB.out] at T
          go_wp2
          go_roundw
          case rel => exact ⟨k + 1, Ao, co, Ab, cb, by omega, by go_num, by rw [NM.out], by rw [NB.out], T, Q⟩
          case measure => simp [intOf]; omega
    · obtain rfl : k = n := by omega
      have E1 := hide (merT_all l0 l1 l2 l3 (k := k) (by rw [HN.out]; exact Nat.le_refl _))
      have E2 := hide (badT_all l0 l1 l2 (k := k) (by rw [HN.out]; exact Nat.le_refl _))
      rw [E1.out, E2.out] at T
      rw [E1.out, E2.out]
      go_wp2
      go_ret2
      exact ⟨Ao, co, Ab, cb, T.out.o.cap_le, rfl, T.out.o, T.out.b, Q.out, T.out.ob⟩
end Go.Proofs.YtaofemdhgfejjaaGreatDoor
