/-
  Texts that this proof leans on, joined: part 4.
-/
import Derived.BigQuiet
import Derived.IntWalk
import Derived.RegionTactic
import Derived.Deep.RegionLaw
import Derived.StillTailTactics
import Derived.Deep.RegionHeld3
import Derived.Test.YtaofemdhgfejjaaGreatDoorJA3
/-
  What spec's l7Merge answers.
-/
namespace Go.Proofs.YtaofemdhgfejjaaGreatDoor
open Go.RowKit

theorem one_max (base a b : List Pr) (k : ByteArray) (ha : (valOf a k).size ≤ maxLen) (hb : (valOf b k).size ≤ maxLen) : oneM (lk base k) (lk a k) (lk b k) = none ∨ ∃ r, oneM (lk base k) (lk a k) (lk b k) = some r ∧ ∀ v, r = some v → v.size ≤ maxLen := by
  have hx : ∀ (l : List Pr), (valOf l k).size ≤ maxLen → ∀ v, lk l k = some v → v.size ≤ maxLen := fun l h v hv => by
    rcases lk_shape l k with ⟨_, e⟩ | ⟨_, e⟩
    · rw [e] at hv; injection hv with hv; rw [← hv]; exact h
    · rw [e] at hv; cases hv
  rcases one_shape base a b k with h | h | h
  · exact .inl h
  · exact .inr ⟨_, h, hx a ha⟩
  · exact .inr ⟨_, h, hx b hb⟩
set_option maxRecDepth 100000 in
set_option maxHeartbeats 4000000 in
theorem l7Merge_any (A0 A1 A2 A3 : Option Addr) (l0 l1 l2 l3 : List Pr) (c0 c1 c2 c3 : Nat) (w : World) (h0 : l0.length ≤ 200) (h1 : l1.length ≤ 200) (h2 : l2.length ≤ 200) (h3 : l3.length ≤ 200) (i0 : PIn w w.heap.size A0 l0) (i1 : PIn w w.heap.size A1 l1) (i2 : PIn w w.heap.size A2 l2) (i3 : PIn w w.heap.size A3 l3) :
    Calls Tryz.prog 29 #[.slice A0 l0.length c0, .slice A1 l1.length c1, .slice A2 l2.length c2, .slice A3 l3.length c3] w (RetMZ w.heap.size (merM l0 l1 l2 l3) (badM l0 l1 l2) w) := by
  have OP0 := hide (Own.built w w.heap.size (Nat.le_refl _))
  have BP := hide ((Below.refl w.heap.size w).alloc (Nat.le_refl _) (.cells #[] 60))
  have OZ0 : Hid (ZOwn ((w.alloc (.cells #[] 60)).alloc (.cells #[] 9)) w.heap.size (some ⟨w.heap.size + 1, 0, none⟩) 0 []) := hide (by have := ZOwn.built (w.alloc (.cells #[] 60)) w.heap.size BP.out.size; simpa using this)
  have B1 := hide (BP.out.alloc BP.out.size (.cells #[] 9))
  have O1 := hide (OP0.out.alloc (.cells #[] 9))
  have I0 := hide i0
  have I1 := hide i1
  have I2 := hide i2
  have I3 := hide i3
  have hk := merK_len l0 l1 l2
  have KM : Hid (∀ x ∈ merK l0 l1 l2, x.size ≤ maxLen) := hide (fun x h => merK_max i0.1 i1.1 i2.1 h)
  have VM : Hid (∀ k, (valOf l1 k).size ≤ maxLen ∧ (valOf l2 k).size ≤ maxLen ∧ (valOf l3 k).size ≤ maxLen) := hide (fun k => ⟨valOf_max i1.1 k, valOf_max i2.1 k, valOf_max i3.1 k⟩)
  have x1 : l0.length ≤ maxLen ∧ l1.length ≤ maxLen ∧ l2.length ≤ maxLen ∧ l3.length ≤ maxLen := by unfold maxLen; omega
  have X1 := hide x1
  clear i0 i1 i2 i3 OP0 BP x1
  go_enter Tryz.func29, Tryz.ntmps29
  go_wp2_with fail
  refine (l7Keys_any A0 A1 A2 l0 l1 l2 c0 c1 c2 _ h0 h1 h2 ((I0.out.below B1.out).more B1.out.size) ((I1.out.below B1.out).more B1.out.size) ((I2.out.below B1.out).more B1.out.size)).mono ?_
  rintro e w2 ⟨AK, capK, rfl, zk, bk⟩
  have B2 := hide (B1.out.trans (bk.mono B1.out.size))
  have RK := hide zk.row
  have T0 : Hid (Rows3 w2 w.heap.size (some ⟨w.heap.size, 0, none⟩) 0 (merT l0 l1 l2 l3 0) (some ⟨w.heap.size + 1, 0, none⟩) 0 (badT l0 l1 l2 0) AK capK (merK l0 l1 l2)) := hide ⟨O1.out.below bk, OZ0.out.below bk, zk.more B1.out.size, fun g h x => by simp [rowOf] at h x; omega, fun g h x => by
    have := (RK.out g h).1
    simp [rowOf] at this x
    omega, fun g h x => by
    have := (RK.out g h).1
    simp [rowOf] at this x
    omega⟩
  clear O1 OZ0 zk bk B1 RK
  generalize hn : (merK l0 l1 l2).length = n at *
  have HN := hide hn
  clear hn
  go_wp2
  go_loopw [10, 11, 13] (fun o b i wr => ∃ (k : Nat) (Ao : Option Addr) (co : Nat) (Ab : Option Addr) (cb : Nat), k ≤ n ∧ i = .int .i64 k ∧ o = .slice Ao (merT l0 l1 l2 l3 k).length co ∧ b = .slice Ab (badT l0 l1 l2 k).length cb ∧ Hid (Rows3 wr w.heap.size Ao co (merT l0 l1 l2 l3 k) Ab cb (badT l0 l1 l2 k) AK capK (merK l0 l1 l2)) ∧ Hid (Below w.heap.size w wr)) (fun _ _ i _ => n - (intOf i).toNat)
  case atStart => exact ⟨0, _, _, _, _, Nat.zero_le _, rfl, rfl, rfl, T0, B2⟩
  case round =>
    clear T0 B2
    obtain ⟨k, Ao, co, Ab, cb, hkn, rfl, rfl, rfl, T, Q⟩ := hrel
    have L1 : Hid ((merT l0 l1 l2 l3 k).length ≤ n) := hide (by have := merT_len l0 l1 l2 l3 k; rw [HN.out] at this; exact this)
    have L2 : Hid ((badT l0 l1 l2 k).length ≤ n) := hide (by have := badT_len l0 l1 l2 k; rw [HN.out] at this; exact this)
    by_cases hlt : k < n
    · have hkl : k < (merK l0 l1 l2).length := by rw [HN.out]; exact hlt
      obtain ⟨gk, off, rfl, hbB, hc⟩ := T.out.k.zin (by omega)
      have cK := hc k hkl
      have KS := hide (KM.out _ (List.getElem_mem hkl))
      have M1 : Hid (∀ v, pickM l0 l1 l2 l3 ((merK l0 l1 l2)[k]'hkl) = some v → merT l0 l1 l2 l3 (k + 1) = merT l0 l1 l2 l3 k ++ [((merK l0 l1 l2)[k]'hkl, v)]) := hide (fun v hv => merT_yes hkl hv)
      have M2 : Hid (pickM l0 l1 l2 l3 ((merK l0 l1 l2)[k]'hkl) = none → merT l0 l1 l2 l3 (k + 1) = merT l0 l1 l2 l3 k) := hide (fun hv => merT_no hkl hv)
      have N1 : Hid (oneM (lk l0 ((merK l0 l1 l2)[k]'hkl)) (lk l1 ((merK l0 l1 l2)[k]'hkl)) (lk l2 ((merK l0 l1 l2)[k]'hkl)) = none → badT l0 l1 l2 (k + 1) = badT l0 l1 l2 k ++ [(merK l0 l1 l2)[k]'hkl]) := hide (fun hv => badT_yes hkl hv)
      have N2 : Hid (∀ r, oneM (lk l0 ((merK l0 l1 l2)[k]'hkl)) (lk l1 ((merK l0 l1 l2)[k]'hkl)) (lk l2 ((merK l0 l1 l2)[k]'hkl)) = some r → badT l0 l1 l2 (k + 1) = badT l0 l1 l2 k) := hide (fun r hv => badT_no hkl hv)
      clear hc
      generalize hkk : (merK l0 l1 l2)[k]'hkl = key at *
      have HK := hide hkk
      clear hkk
      have VS := hide (VM.out key)
      have SH := one_max l0 l1 l2 key VS.out.1 VS.out.2.1
      have ONE := hide (l7One_any A0 A1 A2 l0 l1 l2 c0 c1 c2 key wr w.heap.size X1.out.1 X1.out.2.1 X1.out.2.2.1 (I0.out.below Q.out) (I1.out.below Q.out) (I2.out.below Q.out))
      rcases SH with sh | ⟨r, sh, hr⟩
      · -- both changed it: it is told
        have ho : oneOk (lk l0 key) (lk l1 key) (lk l2 key) = false := by unfold oneOk; rw [sh]; rfl
        rw [ho] at ONE
        have NB := hide (N1.out sh)
        have PK : Hid (pickM l0 l1 l2 l3 key = lk l3 key) := hide (by unfold pickM; rw [sh]; rfl)
        generalize oneV (lk l0 key) (lk l1 key) (lk l2 key) = vv at ONE
        generalize oneH (lk l0 key) (lk l1 key) (lk l2 key) = hh at ONE
        clear sh ho N1 N2
        go_wp2_with fail
        refine ONE.out.mono ?_
        rintro e w' ⟨rfl, rfl⟩
        clear ONE
        have TA := hide (T.out.alloc (.cells #[Value.string key] 9))
        have BA := hide (Q.out.alloc Q.out.size (.cells #[Value.string key] 9))
        have KR : Hid (∀ W cap5, ∀ A5 : Option Addr, Rows3 W w.heap.size Ao co (merT l0 l1 l2 l3 k) A5 cap5 (badT l0 l1 l2 k ++ [key]) (some ⟨gk, off, none⟩) capK (merK l0 l1 l2) → W.cell? ⟨gk, off + k, none⟩ = some (.string key)) := hide (fun W cap5 A5 h => by
          obtain ⟨g', off', e, _, hc⟩ := h.k.zin (by omega)
          injection e with e
          injection e with e1 e2 e3
          subst e1 e2
          exact (hc k hkl).trans (by rw [HK.out]))
        go_wp2_with (at_builtin; refine wpList_appZ (l' := [key]) 27 Tryz.underlying27 rfl (.tmp 43) (.tmp 48) rfl rfl rfl rfl rfl TA.out.b (ZIn.one key _ rfl) BA.out.size (by have := L2.out; simp; omega) ?_; intro A5 cap5 w5 own5 g5 r5; have b5 := TA.out.b.grownBelow g5 BA.out.size; have T5 := hide (TA.out.appB own5 g5 r5); have Q5 := hide (BA.out.trans b5); have cK2 := KR.out w5 cap5 A5 T5.out; clear own5 g5 r5 b5 TA BA cK; go_wp2_with fail)
        refine (l1Get_any A3 l3 c3 key _ w.heap.size X1.out.2.2.2 (I3.out.below Q5.out)).mono ?_
        rintro e w' ⟨rfl, rfl⟩
        rcases lk_shape l3 key with ⟨hs, hl⟩ | ⟨hs, hl⟩
        · rw [hs]
          have NM := hide (M1.out _ (PK.out.trans hl))
          have v3 := VS.out.2.2
          generalize valOf l3 key = v at *
          clear M1 M2 hs hl
          go_wp2_with (at_builtin; refine wpList_app (l' := [(key, v)]) 24 Tryz.underlying24 rfl (.tmp 60) (.tmp 67) rfl rfl rfl rfl rfl (T5.out.alloc _).o (PIn.one w5 key v KS.out v3 _) (Nat.le_trans Q5.out.size (by simp)) (by have := L1.out; simp; omega) ?_; intro A6 cap6 w6 own6 g6 r6; have b6 := (T5.out.alloc (.cells #[.string key, .string v] 60)).o.grownBelow (by rw [rowOf_own]; exact g6) (Nat.le_trans Q5.out.size (by simp)); have T6 := hide ((T5.out.alloc (.cells #[.string key, .string v] 60)).appO own6 g6 r6); have Q6 := hide ((Q5.out.alloc Q5.out.size (.cells #[.string key, .string v] 60)).trans b6); clear own6 g6 r6 b6)
          rw [← NM.out, ← NB.out] at T6
          go_roundw
          case rel => exact ⟨k + 1, A6, cap6, A5, cap5, by omega, by go_num, by rw [NM.out]; simp, by rw [NB.out]; simp, T6, Q6⟩
          case measure => simp [intOf]; omega
        · rw [hs]
          have NM := hide (M2.out (PK.out.trans hl))
          generalize valOf l3 key = v at *
          clear M1 M2 hs hl
          rw [← NM.out, ← NB.out] at T5
          go_wp2
          go_roundw
          case rel => exact ⟨k + 1, Ao, co, A5, cap5, by omega, by go_num, by rw [NM.out], by rw [NB.out]; simp, T5, Q5⟩
          case measure => simp [intOf]; omega
      · have ho : oneOk (lk l0 key) (lk l1 key) (lk l2 key) = true := by unfold oneOk; rw [sh]; rfl
        rw [ho] at ONE
        have NB := hide (N2.out r sh)
        have PK : Hid (pickM l0 l1 l2 l3 key = r) := hide (by unfold pickM; rw [sh]; rfl)
        have hh : oneH (lk l0 key) (lk l1 key) (lk l2 key) = r.isSome := by unfold oneH; rw [sh]; rfl
        have hv : oneV (lk l0 key) (lk l1 key) (lk l2 key) = r.getD ByteArray.empty := by unfold oneV; rw [sh]; rfl
        rw [hh, hv] at ONE
        clear sh ho N1 N2 hh hv
        cases r with
        | some v =>
          have NM := hide (M1.out _ PK.out)
          have v3 := hr v rfl
          simp only [Option.isSome_some, Option.getD_some] at ONE
          clear M1 M2
          go_wp2_with fail
          refine ONE.out.mono ?_
          rintro e w' ⟨rfl, rfl⟩
          clear ONE
          go_wp2_with (at_builtin; refine wpList_app (l' := [(key, v)]) 24 Tryz.underlying24 rfl (.tmp 60) (.tmp 67) rfl rfl rfl rfl rfl (T.out.alloc _).o (PIn.one wr key v KS.out v3 _) (Nat.le_trans Q.out.size (by simp)) (by have := L1.out; simp; omega) ?_; intro A6 cap6 w6 own6 g6 r6; have b6 := (T.out.alloc (.cells #[.string key, .string v] 60)).o.grownBelow (by rw [rowOf_own]; exact g6) (Nat.le_trans Q.out.size (by simp)); have T6 := hide ((T.out.alloc (.cells #[.string key, .string v] 60)).appO own6 g6 r6); have Q6 := hide ((Q.out.alloc Q.out.size (.cells #[.string key, .string v] 60)).trans b6); clear own6 g6 r6 b6)
          rw [← NM.out, ← NB.out] at T6
          go_roundw
          case rel => exact ⟨k + 1, A6, cap6, Ab, cb, by omega, by go_num, by rw [NM.out]; simp, by rw [NB.out], T6, Q6⟩
          case measure => simp [intOf]; omega
        | none =>
          have NM := hide (M2.out PK.out)
          simp only [Option.isSome_none, Option.getD_none] at ONE
          clear M1 M2
          go_wp2_with fail
          refine ONE.out.mono ?_
          rintro e w' ⟨rfl, rfl⟩
          clear ONE
          rw [← NM.out, ← NB.out] at T
          go_wp2
          go_roundw
          case rel => exact ⟨k + 1, Ao, co, Ab, cb, by omega, by go_num, by rw [NM.out], by rw [NB.out], T, Q⟩
          case measure => simp [intOf]; omega
    · obtain rfl : k = n := by omega
      have E1 := hide (merT_all l0 l1 l2 l3 (k := k) (by rw [HN.out]; exact Nat.le_refl _))
      have E2 := hide (badT_all l0 l1 l2 (k := k) (by rw [HN.out]; exact Nat.le_refl _))
      rw [E1.out, E2.out] at T
      rw [E1.out, E2.out]
      go_wp2
      go_ret2
      exact ⟨Ao, co, Ab, cb, T.out.o.cap_le, rfl, T.out.o, T.out.b, Q.out, T.out.ob⟩
end Go.Proofs.YtaofemdhgfejjaaGreatDoor
/-
  What spec.Merged and spec.Resolved answer.
-/
namespace Go.Proofs.YtaofemdhgfejjaaGreatDoor
open Go.RowKit

def RetMg (B : Nat) (l : List Pr) (ks : List ByteArray) (b : Bool) (w : World) (e : Ending) (w' : World) : Prop :=
  ∃ A cap A' cap', l.length ≤ cap ∧ e = .returned (.tuple #[.slice A l.length cap, .slice A' ks.length cap', .bool b]) ∧ Own w' B A cap l ∧ ZOwn w' B A' cap' ks ∧ Below B w w' ∧ ∀ g, rowOf A = some g → rowOf A' ≠ some g
theorem retMg_no {B : Nat} {l : List Pr} {ks : List ByteArray} {b : Bool} {w w' : World} (hl : l = []) (hk : ks = []) (hb : b = false) (h : Below B w w') : RetMg B l ks b w (.returned (.tuple #[.slice none 0 0, .slice none 0 0, .bool false])) w' := by
  subst hl hk hb
  exact ⟨none, 0, none, 0, Nat.le_refl _, rfl, Own.nil _ _, ZOwn.nil _ _, h, fun g h => by cases h⟩

set_option maxRecDepth 100000 in
set_option maxHeartbeats 2000000 in
theorem specMerged_any (A0 A1 A2 : Option Addr) (l0 l1 l2 : List Pr) (c0 c1 c2 : Nat) (w : World) (h0 : l0.length ≤ maxLen) (h1 : l1.length ≤ maxLen) (h2 : l2.length ≤ maxLen) (i0 : PIn w w.heap.size A0 l0) (i1 : PIn w w.heap.size A1 l1) (i2 : PIn w w.heap.size A2 l2) :
    Calls Tryz.prog 10 #[.slice A0 l0.length c0, .slice A1 l1.length c1, .slice A2 l2.length c2] w (RetMg w.heap.size (mgL l0 l1 l2) (mgK l0 l1 l2) (mgB l0 l1 l2) w) := by
  have NO : mgB l0 l1 l2 = false → ∀ w', Below w.heap.size w w' → RetMg w.heap.size (mgL l0 l1 l2) (mgK l0 l1 l2) (mgB l0 l1 l2) w (.returned (.tuple #[.slice none 0 0, .slice none 0 0, .bool false])) w' := fun h w' q => retMg_no (mgL_no h) (mgK_no h) h q
  have NOH := hide NO
  have I0 := hide i0
  have I1 := hide i1
  have I2 := hide i2
  clear NO i0 i1 i2
  go_enter Tryz.func10, Tryz.ntmps10
  go_wp2_with fail
  refine (specMapOk_any A0 l0 c0 _ w.heap.size h0 I0.out).mono ?_
  rintro e w1 ⟨rfl, q1⟩
  have Q1 := hide q1
  clear q1
  cases hm0 : mapB l0
  · have F := hide (NOH.out (mgB_not (fun h => by rw [hm0] at h; cases h.1)))
    clear hm0
    go_wp2
    go_ret3
    exact F.out _ (Q1.out.below _)
  go_wp2_with fail
  refine (specMapOk_any A1 l1 c1 _ w.heap.size h1 (I1.out.quiet Q1.out)).mono ?_
  rintro e w2 ⟨rfl, q2⟩
  have Q2 := hide (Q1.out.trans q2)
  clear q2 Q1
  cases hm1 : mapB l1
  · have F := hide (NOH.out (mgB_not (fun h => by rw [hm1] at h; cases h.2.1)))
    clear hm0 hm1
    go_wp2
    go_ret3
    exact F.out _ (Q2.out.below _)
  go_wp2_with fail
  refine (specMapOk_any A2 l2 c2 _ w.heap.size h2 (I2.out.quiet Q2.out)).mono ?_
  rintro e w3 ⟨rfl, q3⟩
  have Q3 := hide (Q2.out.trans q3)
  clear q3 Q2
  cases hm2 : mapB l2
  · have F := hide (NOH.out (mgB_not (fun h => by rw [hm2] at h; cases h.2.2.1)))
    clear hm0 hm1 hm2
    go_wp2
    go_ret3
    exact F.out _ (Q3.out.below _)
  have n0 := (mapB_iff.1 hm0).1
  have n1 := (mapB_iff.1 hm1).1
  have n2 := (mapB_iff.1 hm2).1
  have e3 : w3.heap.size = w.heap.size := by rw [Q3.out.heap]
  go_wp2_with fail
  refine (l7Merge_any A0 A1 A2 A0 l0 l1 l2 l0 c0 c1 c2 c0 _ (by omega) (by omega) (by omega) (by omega) (by rw [e3]; exact I0.out.quiet Q3.out) (by rw [e3]; exact I1.out.quiet Q3.out) (by rw [e3]; exact I2.out.quiet Q3.out) (by rw [e3]; exact I0.out.quiet Q3.out)).mono ?_
  rw [e3]
  rintro e w4 ⟨A, cap, A', cap', hc, rfl, o4, z4, b4, ap⟩
  have O4 := hide o4
  have Z4 := hide z4
  have AP := hide ap
  have B4 := hide ((Q3.out.below w.heap.size).trans b4)
  have hlm : (merM l0 l1 l2 l0).length ≤ maxLen := by have := merM_len l0 l1 l2 l0; unfold maxLen; omega
  clear o4 z4 b4 ap e3
  go_wp2_with fail
  refine (specMapOk_any A (merM l0 l1 l2 l0) cap _ _ hlm O4.out.pin).mono ?_
  rintro e w5 ⟨rfl, q5⟩
  have q5' := q5.below w4.heap.size
  have O5 := hide (O4.out.below q5')
  have Z5 := hide (Z4.out.below q5')
  have B5 := hide (B4.out.trans (q5'.mono B4.out.size))
  clear q5 q5' O4 Z4 B4
  cases hm3 : mapB (merM l0 l1 l2 l0)
  · have F := hide (NOH.out (mgB_not (fun h => by rw [hm3] at h; cases h.2.2.2)))
    clear hm0 hm1 hm2 hm3
    generalize (merM l0 l1 l2 l0).length = n at *
    go_wp2
    go_ret3
    exact F.out _ B5.out
  have hY := mgB_iff.2 ⟨hm0, hm1, hm2, hm3⟩
  have F : Hid (RetMg w.heap.size (mgL l0 l1 l2) (mgK l0 l1 l2) (mgB l0 l1 l2) w (.returned (.tuple #[.slice A (merM l0 l1 l2 l0).length cap, .slice A' (badM l0 l1 l2).length cap', .bool true])) w5) := hide (by
    rw [mgL_yes hY, mgK_yes hY, hY]
    exact ⟨A, cap, A', cap', hc, rfl, O5.out, Z5.out, B5.out, AP.out⟩)
  clear hm0 hm1 hm2 hm3 hY O5 Z5 B5 AP NOH
  generalize (merM l0 l1 l2 l0).length = n at *
  generalize (badM l0 l1 l2).length = m at *
  go_wp2
  go_ret3
  exact F.out

theorem l1In_any (x a b : Int) (w : World) : Calls Tryz.prog 38 #[.int .i64 x, .int .i64 a, .int .i64 b] w fun e w' => e = .returned (.bool (decide (a ≤ x) && decide (x ≤ b))) ∧ w = w' := by
  by_cases h1 : a ≤ x
  · have d1 : decide (a ≤ x) = true := decide_eq_true h1
    by_cases h2 : x ≤ b
    · have d2 : decide (x ≤ b) = true := decide_eq_true h2
      go_enter Tryz.func38, Tryz.ntmps38
      go_wp2
      go_ret
      simp [h1, h2]
    · have d2 : decide (x ≤ b) = false := decide_eq_false h2
      go_enter Tryz.func38, Tryz.ntmps38
      go_wp2
      go_ret
      simp
  · have d1 : decide (a ≤ x) = false := decide_eq_false h1
    go_enter Tryz.func38, Tryz.ntmps38
    go_wp2
    go_ret
    simp

theorem in12 {side : Int} (h : side = 1 ∨ side = 2) : (decide ((1 : Int) ≤ side) && decide (side ≤ 2)) = true := by rcases h with rfl | rfl <;> rfl
theorem notIn12 {side : Int} (h : ¬ (side = 1 ∨ side = 2)) : (decide ((1 : Int) ≤ side) && decide (side ≤ 2)) = false := by
  rw [Bool.and_eq_false_iff]
  simp only [decide_eq_false_iff_not]
  omega

set_option maxRecDepth 100000 in
set_option maxHeartbeats 2000000 in
/-- behind the choice of a side -/
theorem resolvedS_tail (A0 A1 A2 A3 : Option Addr) (l0 l1 l2 l3 : List Pr) (c0 c1 c2 c3 : Nat) (side : Int) (w : World) (h : mgB l0 l1 l2 = true) (hs : side = 1 ∨ side = 2) (h3 : (A3, l3, c3) = if side = 2 then (A2, l2, c2) else (A1, l1, c1)) (i0 : PIn w w.heap.size A0 l0) (i1 : PIn w w.heap.size A1 l1) (i2 : PIn w w.heap.size A2 l2) :
    Calls Tryz.prog 18 #[.slice A0 l0.length c0, .slice A1 l1.length c1, .slice A2 l2.length c2, .int .i64 side] w (RetOwnB w.heap.size (rsL l0 l1 l2 side) (rsB l0 l1 l2 side) w) := by
  obtain ⟨hm0, hm1, hm2, _⟩ := mgB_iff.1 h
  have n0 := (mapB_iff.1 hm0).1
  have n1 := (mapB_iff.1 hm1).1
  have n2 := (mapB_iff.1 hm2).1
  have e3 : l3 = sideL l1 l2 side := by
    by_cases hh : side = 2
    · rw [if_pos hh] at h3; injection h3 with a b; injection b with b c; rw [b]; unfold sideL; rw [if_pos hh]
    · rw [if_neg hh] at h3; injection h3 with a b; injection b with b c; rw [b]; unfold sideL; rw [if_neg hh]
  have i3 : PIn w w.heap.size A3 l3 := by
    by_cases hh : side = 2
    · rw [if_pos hh] at h3; injection h3 with a b; injection b with b c; rw [a, b]; exact i2
    · rw [if_neg hh] at h3; injection h3 with a b; injection b with b c; rw [a, b]; exact i1
  have n3 : l3.length ≤ 40 := by
    by_cases hh : side = 2
    · rw [if_pos hh] at h3; injection h3 with a b; injection b with b c; rw [b]; exact n2
    · rw [if_neg hh] at h3; injection h3 with a b; injection b with b c; rw [b]; exact n1
  have hmax : (40 : Nat) ≤ maxLen := by unfold maxLen; omega
  have I0 := hide i0
  have I1 := hide i1
  have I2 := hide i2
  have I3 := hide i3
  have HG := hide h
  have HS := hide hs
  have E3 := hide e3
  clear i0 i1 i2 i3 h hm0 hm1 hm2 e3
  go_enter Tryz.func18, Tryz.ntmps18
  go_wp2_with fail
  refine (specMerged_any A0 A1 A2 l0 l1 l2 c0 c1 c2 _ (by omega) (by omega) (by omega) I0.out I1.out I2.out).mono ?_
  rintro e w1 ⟨A, cap, A', cap', hc, rfl, o1, z1, b1, ap⟩
  have B1 := hide b1
  have i3' := hide ((I3.out.below b1).more b1.size)
  have i0' := hide ((I0.out.below b1).more b1.size)
  have i1' := hide ((I1.out.below b1).more b1.size)
  have i2' := hide ((I2.out.below b1).more b1.size)
  rw [HG.out]
  clear o1 z1 b1 ap hc I0 I1 I2 I3
  generalize (mgL l0 l1 l2).length = nn at *
  generalize (mgK l0 l1 l2).length = mm at *
  go_wp2_with fail
  refine (l1In_any side 1 2 _).mono ?_
  rintro e w' ⟨rfl, rfl⟩
  rw [in12 HS.out]
  have TAIL : ∀ (w2 : World) (A : Option Addr) (cap : Nat), Own w2 w.heap.size A cap (merM l0 l1 l2 l3) → Below w.heap.size w w2 → (mapB (merM l0 l1 l2 l3) = true → RetOwnB w.heap.size (rsL l0 l1 l2 side) (rsB l0 l1 l2 side) w (.returned (.tuple #[.slice A (merM l0 l1 l2 l3).length cap, .bool true])) w2) ∧ (mapB (merM l0 l1 l2 l3) = false → RetOwnB w.heap.size (rsL l0 l1 l2 side) (rsB l0 l1 l2 side) w (.returned (.tuple #[.slice none 0 0, .bool false])) w2) := fun w2 A cap o b => ⟨fun hm => by
    have hy : rsB l0 l1 l2 side = true := rsB_iff.2 ⟨HG.out, HS.out, by rw [← E3.out]; exact hm⟩
    rw [rsL_yes hy, hy, ← E3.out]
    exact ⟨A, cap, o.cap_le, rfl, o, b⟩, fun hm => by
    have hn : rsB l0 l1 l2 side = false := rsB_not (fun x => by rw [← E3.out, hm] at x; cases x.2.2)
    exact retOwnB_no (rsL_no hn) hn b⟩
  have TL := hide TAIL
  clear TAIL
  have hlm : (merM l0 l1 l2 l3).length ≤ maxLen := by have := merM_len l0 l1 l2 l3; unfold maxLen; omega
  have MRG := hide (l7Merge_any A0 A1 A2 A3 l0 l1 l2 l3 c0 c1 c2 c3 w1 (by omega) (by omega) (by omega) (by omega) i0'.out i1'.out i2'.out i3'.out)
  clear i0' i1' i2' i3' E3 HG HS
  by_cases hh : side = 2
  · have d : (side == 2) = true := by simp [hh]
    have d' : decide (side = 2) = true := decide_eq_true hh
    rw [if_pos hh] at h3
    injection h3 with ha hb
    injection hb with hb hcc
    obtain rfl := ha.symm
    obtain rfl := hb.symm
    obtain rfl := hcc.symm
    clear hh
    go_wp2_with fail
    refine MRG.out.mono ?_
    rintro e w2 ⟨AA, capA, A', cap', hc, rfl, o2, z2, b2, ap⟩
    have B2 := hide (B1.out.trans (b2.mono B1.out.size))
    have O2 := hide (o2.more B1.out.size)
    clear o2 z2 b2 ap B1 MRG
    go_wp2_with fail
    refine (specMapOk_any AA _ capA _ _ hlm O2.out.pin).mono ?_
    rintro e w3 ⟨rfl, q3⟩
    have q3' := q3.below w2.heap.size
    have F := hide (TL.out w3 AA capA (O2.out.below q3') (B2.out.trans (q3'.mono B2.out.size)))
    clear q3 q3' O2 B2 TL
    cases hm : mapB (merM l0 l1 l2 l2)
    · have G := hide (F.out.2 hm)
      generalize (merM l0 l1 l2 l2).length = nn at *
      clear F hm
      go_wp2
      go_ret2
      exact G.out
    · have G := hide (F.out.1 hm)
      generalize (merM l0 l1 l2 l2).length = nn at *
      clear F hm
      go_wp2
      go_ret2
      exact G.out
  · have d : (side == 2) = false := by simp [hh]
    have d' : decide (side = 2) = false := decide_eq_false hh
    rw [if_neg hh] at h3
    injection h3 with ha hb
    injection hb with hb hcc
    obtain rfl := ha.symm
    obtain rfl := hb.symm
    obtain rfl := hcc.symm
    clear hh
    go_wp2_with fail
    refine MRG.out.mono ?_
    rintro e w2 ⟨AA, capA, A', cap', hc, rfl, o2, z2, b2, ap⟩
    have B2 := hide (B1.out.trans (b2.mono B1.out.size))
    have O2 := hide (o2.more B1.out.size)
    clear o2 z2 b2 ap B1 MRG
    go_wp2_with fail
    refine (specMapOk_any AA _ capA _ _ hlm O2.out.pin).mono ?_
    rintro e w3 ⟨rfl, q3⟩
    have q3' := q3.below w2.heap.size
    have F := hide (TL.out w3 AA capA (O2.out.below q3') (B2.out.trans (q3'.mono B2.out.size)))
    clear q3 q3' O2 B2 TL
    cases hm : mapB (merM l0 l1 l2 l1)
    · have G := hide (F.out.2 hm)
      generalize (merM l0 l1 l2 l1).length = nn at *
      clear F hm
      go_wp2
      go_ret2
      exact G.out
    · have G := hide (F.out.1 hm)
      generalize (merM l0 l1 l2 l1).length = nn at *
      clear F hm
      go_wp2
      go_ret2
      exact G.out

set_option maxRecDepth 100000 in
set_option maxHeartbeats 2000000 in
theorem specResolved_any (A0 A1 A2 : Option Addr) (l0 l1 l2 : List Pr) (c0 c1 c2 : Nat) (side : Int) (w : World) (h0 : l0.length ≤ maxLen) (h1 : l1.length ≤ maxLen) (h2 : l2.length ≤ maxLen) (i0 : PIn w w.heap.size A0 l0) (i1 : PIn w w.heap.size A1 l1) (i2 : PIn w w.heap.size A2 l2) :
    Calls Tryz.prog 18 #[.slice A0 l0.length c0, .slice A1 l1.length c1, .slice A2 l2.length c2, .int .i64 side] w (RetOwnB w.heap.size (rsL l0 l1 l2 side) (rsB l0 l1 l2 side) w) := by
  cases hg : mgB l0 l1 l2
  · have hn : rsB l0 l1 l2 side = false := rsB_not (fun x => by rw [hg] at x; cases x.1)
    have NO := hide (fun w' => retOwnB_no (w := w) (w' := w') (B := w.heap.size) (rsL_no hn) hn)
    have M := hide (specMerged_any A0 A1 A2 l0 l1 l2 c0 c1 c2 w h0 h1 h2 i0 i1 i2)
    rw [mgL_no hg, mgK_no hg, hg] at M
    clear i0 i1 i2 hn
    go_enter Tryz.func18, Tryz.ntmps18
    go_wp2_with fail
    refine M.out.mono ?_
    rintro e w1 ⟨A, cap, A', cap', hc, rfl, o1, z1, b1, ap⟩
    have B1 := hide b1
    clear o1 z1 b1 ap hc M hg
    go_wp2
    go_ret2
    exact NO.out _ B1.out
  · by_cases hs : side = 1 ∨ side = 2
    · by_cases hh : side = 2
      · exact resolvedS_tail A0 A1 A2 A2 l0 l1 l2 l2 c0 c1 c2 c2 side w hg hs (by rw [if_pos hh]) i0 i1 i2
      · exact resolvedS_tail A0 A1 A2 A1 l0 l1 l2 l1 c0 c1 c2 c1 side w hg hs (by rw [if_neg hh]) i0 i1 i2
    · have hn : rsB l0 l1 l2 side = false := rsB_not (fun x => hs x.2.1)
      have NO := hide (fun w' => retOwnB_no (w := w) (w' := w') (B := w.heap.size) (rsL_no hn) hn)
      have M := hide (specMerged_any A0 A1 A2 l0 l1 l2 c0 c1 c2 w h0 h1 h2 i0 i1 i2)
      rw [hg] at M
      have d := hide (notIn12 hs)
      clear i0 i1 i2 hn
      generalize (mgL l0 l1 l2) = nn at *
      generalize (mgK l0 l1 l2) = mm at *
      go_enter Tryz.func18, Tryz.ntmps18
      go_wp2_with fail
      refine M.out.mono ?_
      rintro e w1 ⟨A, cap, A', cap', hc, rfl, o1, z1, b1, ap⟩
      have B1 := hide b1
      clear o1 z1 b1 ap hc M hg hs
      go_wp2_with fail
      refine (l1In_any side 1 2 _).mono ?_
      rintro e w' ⟨rfl, rfl⟩
      rw [d.out]
      go_wp2
      go_ret2
      exact NO.out _ B1.out
end Go.Proofs.YtaofemdhgfejjaaGreatDoor
/-
  What impl.clashing and impl.Merged answer.
-/
namespace Go.Proofs.YtaofemdhgfejjaaGreatDoor
open Go.RowKit

theorem clashing_nil (w : World) : Calls Tryz.prog 27 #[.nilIface] w fun e w' => e = .returned (.slice none 0 0) ∧ Below w.heap.size w w' := by
  go_enter Tryz.func27, Tryz.ntmps27
  go_wp2_with (go_at_call 54; refine (as_nil _ _).mono ?_; rintro e w' ⟨rfl, rfl⟩)
  go_ret
  exact ⟨rfl, (Below.refl _ _).alloc (Nat.le_refl _) _⟩

set_option maxRecDepth 100000 in
set_option maxHeartbeats 2000000 in
theorem clashing_hit (p : Nat) (v : Value) (a : Addr) (w : World) (hE : Errs w a) (hp : p < w.heap.size) (h : w.cell? ⟨p, 0, none⟩ = some v) :
    Calls Tryz.prog 27 #[.iface 95 (.pointer (some ⟨p, 0, none⟩))] w fun e w' => e = .returned v ∧ Below w.heap.size w w' := by
  have B0 := hide ((Below.refl w.heap.size w).alloc (Nat.le_refl _) (.cells #[.pointer none] 95))
  have E0 := hE.below B0.out
  have HIT := hide (as_hit ⟨p, 0, none⟩ ⟨w.heap.size, 0, none⟩ (.pointer none) (w.alloc (.cells #[.pointer none] 95)) E0.2.1 E0.2.2.2 (by rw [cell_alloc_at]; rfl) (by simp))
  have z1 : (w.alloc (.cells #[.pointer none] 95)).heap.size = w.heap.size + 1 := by simp
  have hb : (w.alloc (.cells #[.pointer none] 95)).heap[w.heap.size]? = some (.cells #[.pointer none] 95 (0, 0)) := heap_alloc_new w _
  have c1 := cellB B0.out hp h
  have LATER : ∀ w2, (∃ x : World, Below (w.heap.size + 1) (w.alloc (.cells #[.pointer none] 95)) x ∧ w2 = x.setCell ⟨w.heap.size, 0, none⟩ (.pointer (some ⟨p, 0, none⟩))) → w2.cell? ⟨w.heap.size, 0, none⟩ = some (.pointer (some ⟨p, 0, none⟩)) ∧ w2.cell? ⟨p, 0, none⟩ = some v ∧ Below w.heap.size w w2 := by
    rintro w2 ⟨x, bx, rfl⟩
    have hx : x.heap[w.heap.size]? = some (.cells #[.pointer none] 95 (0, 0)) := (bx.block _ (by omega)).trans hb
    have b2 : Below w.heap.size w (x.setCell ⟨w.heap.size, 0, none⟩ (.pointer (some ⟨p, 0, none⟩))) := (B0.out.trans (bx.mono (Nat.le_succ _))).setCell (p := ⟨w.heap.size, 0, none⟩) (Nat.le_refl _) _
    refine ⟨?_, cellB b2 hp h, b2⟩
    have := heap_setCell_same x w.heap.size 0 _ _ (.pointer (some ⟨p, 0, none⟩)) hx
    exact (cell_of_row _ _ 0 _ _ _ this).trans rfl
  have LT := hide LATER
  have E1 := E0.2.2.1
  clear LATER hb c1 E0 hE h
  go_enter Tryz.func27, Tryz.ntmps27
  go_wp2_with fail
  refine HIT.out.mono ?_
  rintro e w2 ⟨rfl, e2⟩
  obtain ⟨y1, y2, y3⟩ := LT.out w2 ⟨_, ((((((Below.refl (w.heap.size + 1) (w.alloc (.cells #[.pointer none] 95))).alloc (by simp) _).alloc (by simp) _).alloc (by simp) _).alloc (by simp) _)), e2⟩
  have Y3 := hide y3
  clear e2 y3 LT HIT B0
  go_wp2
  go_ret
  exact ⟨rfl, Y3.out⟩

set_option maxRecDepth 100000 in
set_option maxHeartbeats 2000000 in
theorem implMerged_any (A0 A1 A2 : Option Addr) (l0 l1 l2 : List Pr) (c0 c1 c2 : Nat) (a : Addr) (w : World) (h0 : l0.length ≤ maxLen) (h1 : l1.length ≤ maxLen) (h2 : l2.length ≤ maxLen) (i0 : PIn w w.heap.size A0 l0) (i1 : PIn w w.heap.size A1 l1) (i2 : PIn w w.heap.size A2 l2) (hE : Errs w a) :
    Calls Tryz.prog 9 #[.slice A0 l0.length c0, .slice A1 l1.length c1, .slice A2 l2.length c2] w (RetMg w.heap.size (mgL l0 l1 l2) (mgK l0 l1 l2) (mgB l0 l1 l2) w) := by
  have M := hide (mergerOf_any A0 A1 A2 l0 l1 l2 c0 c1 c2 a w h0 h1 h2 i0 i1 i2 hE)
  have HE := hide hE
  clear i0 i1 i2 hE
  go_enter Tryz.func9, Tryz.ntmps9
  go_wp2_with fail
  refine M.out.mono ?_
  rintro e w1 ⟨b1, ⟨hg, p, rfl, hc⟩ | ⟨hg, A, cap, Ab, cb, hcap, ow, zw, ap, hcase⟩⟩
  · have E1 := HE.out.below b1
    have x1 := E1.1
    have F := hide (retMg_no (mgL_no hg) (mgK_no hg) hg b1)
    clear M b1 hg
    go_wp2_with (go_at_call 26; refine (is_refusal p 0 a _ hc).mono ?_; rintro e w' ⟨rfl, rfl⟩)
    go_ret3
    exact F.out
  · have E1 := HE.out.below b1
    have x1 := E1.1
    have F : Hid (∀ w2 A3 cap3, Own w2 w.heap.size A cap (merM l0 l1 l2 l0) → ZOwn w2 w.heap.size A3 cap3 (badM l0 l1 l2) → Below w.heap.size w w2 → (∀ g, rowOf A = some g → rowOf A3 ≠ some g) → RetMg w.heap.size (mgL l0 l1 l2) (mgK l0 l1 l2) (mgB l0 l1 l2) w (.returned (.tuple #[.slice A (merM l0 l1 l2 l0).length cap, .slice A3 (badM l0 l1 l2).length cap3, .bool true])) w2) := hide (fun w2 A3 cap3 o z b ap => by
      rw [mgL_yes hg, mgK_yes hg, hg]
      exact ⟨A, cap, A3, cap3, hcap, rfl, o, z, b, ap⟩)
    have OW := hide ow
    have ZW := hide zw
    have AP := hide ap
    have B1 := hide b1
    have EE := hide E1
    clear M b1 hg ow zw ap E1
    rcases hcase with ⟨hb, rfl⟩ | ⟨hb, p, hp, rfl, hc⟩
    · have e0 : (badM l0 l1 l2).length = 0 := by rw [hb]; rfl
      rw [e0] at F
      generalize (merM l0 l1 l2 l0).length = nn at *
      go_wp2_with (first
        | (go_at_call 26; refine (is_nil a _).mono ?_; rintro e w' ⟨rfl, rfl⟩)
        | (go_at_call 27; refine (clashing_nil _).mono ?_; rintro e w2 ⟨rfl, b2⟩; have G := hide (F.out w2 none 0 (OW.out.below b2) (by rw [hb]; exact ZOwn.nil _ _) (B1.out.trans (b2.mono B1.out.size)) (fun g _ x => by cases x)); clear b2 F OW ZW AP B1 hb e0))
      go_ret3
      exact G.out
    · generalize (merM l0 l1 l2 l0).length = nn at *
      generalize (badM l0 l1 l2).length = mm at *
      go_wp2_with (first
        | (go_at_call 26; refine (is_clash _ a _).mono ?_; rintro e w' ⟨rfl, rfl⟩)
        | (go_at_call 27; refine (clashing_hit p _ a _ EE.out hp hc).mono ?_; rintro e w2 ⟨rfl, b2⟩; have G := hide (F.out w2 Ab cb (OW.out.below b2) (ZW.out.below b2) (B1.out.trans (b2.mono B1.out.size)) AP.out); clear b2 F OW ZW AP B1 hb))
      go_ret3
      exact G.out
end Go.Proofs.YtaofemdhgfejjaaGreatDoor
/-
  What the promises on mergers say of right maps. Plain mathematics.
-/
namespace Go.Proofs.YtaofemdhgfejjaaGreatDoor
open Go.RowKit

theorem bad_lk {o a b s : List Pr} (h0 : Ris o) (h1 : Ris a) (h2 : Ris b) (hs : s = o ∨ s = a ∨ s = b) {k : ByteArray} (hk : k ∈ badM o a b) : lk (merM o a b s) k = lk s k := by
  rw [lk_mer h0 h1 h2 (side_sub hs)]
  unfold pickM
  rw [(bad_iff h0 h1 h2 k).1 hk]
  rfl
theorem good_lk {o a b s s' : List Pr} (h0 : Ris o) (h1 : Ris a) (h2 : Ris b) (hs : s = o ∨ s = a ∨ s = b) (hs' : s' = o ∨ s' = a ∨ s' = b) {k : ByteArray} (hk : ¬ k ∈ badM o a b) : lk (merM o a b s) k = lk (merM o a b s') k := by
  rw [lk_mer h0 h1 h2 (side_sub hs), lk_mer h0 h1 h2 (side_sub hs')]
  unfold pickM
  cases e : oneM (lk o k) (lk a k) (lk b k) with
  | none => exact absurd ((bad_iff h0 h1 h2 k).2 e) hk
  | some r => rfl
theorem bad_nil {o a b : List Pr} (h0 : Ris o) (h1 : Ris a) (h2 : Ris b) (h : ∀ k, oneM (lk o k) (lk a k) (lk b k) ≠ none) : badM o a b = [] := by
  cases e : badM o a b with
  | nil => rfl
  | cons k r => exact absurd ((bad_iff h0 h1 h2 k).1 (by rw [e]; exact List.mem_cons_self ..)) (h k)
theorem mer_of {o a b c : List Pr} (h0 : Ris o) (h1 : Ris a) (h2 : Ris b) (h3 : Ris c) (h : ∀ k, oneM (lk o k) (lk a k) (lk b k) = some (lk c k)) : merM o a b o = c ∧ badM o a b = [] := by
  refine ⟨ext_lk (ris_mer ..) h3 fun k => ?_, bad_nil h0 h1 h2 fun k => by rw [h k]; simp⟩
  rw [lk_mer h0 h1 h2 (side_sub (.inl rfl))]
  unfold pickM
  rw [h k]
  rfl
theorem one_left (o x : Option ByteArray) : oneM o x o = some x := by
  unfold oneM
  split
  next h => rw [h]
  next => rw [if_pos (.inl rfl)]
theorem one_right (o x : Option ByteArray) : oneM o o x = some x := by unfold oneM; rw [if_pos rfl]
theorem one_both (o x : Option ByteArray) : oneM o x x = some x := by
  unfold oneM
  split
  · rfl
  · rw [if_pos (.inr rfl)]
theorem mer_left {o a : List Pr} (h0 : mapB o = true) (h1 : mapB a = true) : merM o a o o = a ∧ badM o a o = [] := mer_of (mapB_ris h0) (mapB_ris h1) (mapB_ris h0) (mapB_ris h1) fun _ => one_left ..
theorem mer_right {o a : List Pr} (h0 : mapB o = true) (h1 : mapB a = true) : merM o o a o = a ∧ badM o o a = [] := mer_of (mapB_ris h0) (mapB_ris h0) (mapB_ris h1) (mapB_ris h1) fun _ => one_right ..
theorem mer_both {o a : List Pr} (h0 : mapB o = true) (h1 : mapB a = true) : merM o a a o = a ∧ badM o a a = [] := mer_of (mapB_ris h0) (mapB_ris h1) (mapB_ris h1) (mapB_ris h1) fun _ => one_both ..
theorem mgB_of {o a b : List Pr} (h0 : mapB o = true) (h1 : mapB a = true) (h2 : mapB b = true) : mgB o a b = mapB (merM o a b o) := by unfold mgB; rw [h0, h1, h2]; simp
theorem mg_left {o a : List Pr} (h0 : mapB o = true) (h1 : mapB a = true) : mgB o a o = true ∧ mgL o a o = a ∧ mgK o a o = [] := by
  obtain ⟨e1, e2⟩ := mer_left h0 h1
  have h : mgB o a o = true := by rw [mgB_of h0 h1 h0, e1]; exact h1
  exact ⟨h, by rw [mgL_yes h, e1], by rw [mgK_yes h, e2]⟩
theorem mg_right {o a : List Pr} (h0 : mapB o = true) (h1 : mapB a = true) : mgB o o a = true ∧ mgL o o a = a ∧ mgK o o a = [] := by
  obtain ⟨e1, e2⟩ := mer_right h0 h1
  have h : mgB o o a = true := by rw [mgB_of h0 h0 h1, e1]; exact h1
  exact ⟨h, by rw [mgL_yes h, e1], by rw [mgK_yes h, e2]⟩
theorem mg_both {o a : List Pr} (h0 : mapB o = true) (h1 : mapB a = true) : mgB o a a = true ∧ mgL o a a = a ∧ mgK o a a = [] := by
  obtain ⟨e1, e2⟩ := mer_both h0 h1
  have h : mgB o a a = true := by rw [mgB_of h0 h1 h1, e1]; exact h1
  exact ⟨h, by rw [mgL_yes h, e1], by rw [mgK_yes h, e2]⟩
theorem mg_swap {o a b : List Pr} (h : mgB o a b = true) : mgB o b a = true ∧ mgL o b a = mgL o a b ∧ mgK o b a = mgK o a b := by
  obtain ⟨h0, h1, h2, h3⟩ := mgB_iff.1 h
  have e1 := merM_swap (mapB_ris h0) (mapB_ris h1) (mapB_ris h2) o
  have e2 := badM_swap (mapB_ris h0) (mapB_ris h1) (mapB_ris h2)
  have h' : mgB o b a = true := mgB_iff.2 ⟨h0, h2, h1, by rw [← e1]; exact h3⟩
  exact ⟨h', by rw [mgL_yes h', mgL_yes h, e1], by rw [mgK_yes h', mgK_yes h, e2]⟩
/-- a key that is told is as it was -/
theorem mg_bad {o a b : List Pr} (h : mgB o a b = true) {k : ByteArray} (hk : k ∈ mgK o a b) : hasB o k = hasB (mgL o a b) k ∧ valOf o k = valOf (mgL o a b) k := by
  obtain ⟨h0, h1, h2, h3⟩ := mgB_iff.1 h
  rw [mgK_yes h] at hk
  rw [mgL_yes h]
  exact lk_eq.1 (bad_lk (mapB_ris h0) (mapB_ris h1) (mapB_ris h2) (.inl rfl) hk).symm
/-- what a merger has one of the three has -/
theorem mg_from {o a b : List Pr} (h : mgB o a b = true) {p : Pr} (hp : p ∈ mgL o a b) : (hasB o p.1 = true ∧ valOf o p.1 = p.2) ∨ (hasB a p.1 = true ∧ valOf a p.1 = p.2) ∨ (hasB b p.1 = true ∧ valOf b p.1 = p.2) := by
  obtain ⟨h0, h1, h2, h3⟩ := mgB_iff.1 h
  rw [mgL_yes h] at hp
  have e := (lk_some (ris_mer o a b o)).2 hp
  rw [lk_mer (mapB_ris h0) (mapB_ris h1) (mapB_ris h2) (side_sub (.inl rfl))] at e
  have said : ∀ (l : List Pr), lk l p.1 = some p.2 → hasB l p.1 = true ∧ valOf l p.1 = p.2 := fun l hl => by
    refine ⟨by rw [lk_has, hl]; rfl, by rw [lk_val, hl]; rfl⟩
  unfold pickM oneM at e
  split at e
  · exact .inr (.inr (said _ e))
  · split at e
    · exact .inr (.inl (said _ e))
    · exact .inl (said _ e)
theorem side_or (a b : List Pr) (side : Int) : sideL a b side = a ∨ sideL a b side = b := by unfold sideL; split; exact .inr rfl; exact .inl rfl
theorem rs_mg {o a b : List Pr} {side : Int} (h : rsB o a b side = true) : mgB o a b = true := (rsB_iff.1 h).1
/-- what is told is as on the side that is chosen, all else as in the merger -/
theorem rs_bad {o a b : List Pr} {side : Int} (h : rsB o a b side = true) {k : ByteArray} (hk : k ∈ mgK o a b) : hasB (sideL a b side) k = hasB (rsL o a b side) k ∧ valOf (sideL a b side) k = valOf (rsL o a b side) k := by
  obtain ⟨hm, _, _⟩ := rsB_iff.1 h
  obtain ⟨h0, h1, h2, h3⟩ := mgB_iff.1 hm
  rw [mgK_yes hm] at hk
  rw [rsL_yes h]
  exact lk_eq.1 (bad_lk (mapB_ris h0) (mapB_ris h1) (mapB_ris h2) (.inr (side_or a b side)) hk).symm
theorem rs_map {o a b : List Pr} {side : Int} (h : rsB o a b side = true) : mapB (rsL o a b side) = true := by rw [rsL_yes h]; exact (rsB_iff.1 h).2.2
theorem mg_map {o a b : List Pr} (h : mgB o a b = true) : mapB (mgL o a b) = true := by rw [mgL_yes h]; exact (mgB_iff.1 h).2.2.2
theorem rs_same {o a b : List Pr} {side : Int} (h : rsB o a b side = true) {k : ByteArray} (hk : lk (mgL o a b) k ≠ lk (rsL o a b side) k) : k ∈ mgK o a b := by
  obtain ⟨hm, _, _⟩ := rsB_iff.1 h
  obtain ⟨h0, h1, h2, h3⟩ := mgB_iff.1 hm
  rw [mgL_yes hm, rsL_yes h] at hk
  rw [mgK_yes hm]
  by_cases hb : k ∈ badM o a b
  · exact hb
  · exact absurd (good_lk (mapB_ris h0) (mapB_ris h1) (mapB_ris h2) (.inl rfl) (.inr (side_or a b side)) hb) hk
theorem rs_none {o a b : List Pr} {side : Int} (h : rsB o a b side = true) (hk : mgK o a b = []) : rsL o a b side = mgL o a b := by
  refine ext_lk (mapB_ris (rs_map h)) (mapB_ris (mg_map (rs_mg h))) fun k => ?_
  by_cases e : lk (mgL o a b) k = lk (rsL o a b side) k
  · exact e.symm
  · have := rs_same h e
    rw [hk] at this
    cases this
theorem side_swap {a b : List Pr} {side : Int} (h : side = 1 ∨ side = 2) : sideL b a (3 - side) = sideL a b side := by
  unfold sideL
  rcases h with rfl | rfl <;> rfl
theorem rs_swap {o a b : List Pr} {side : Int} (h : rsB o a b side = true) : rsB o b a (3 - side) = true ∧ rsL o b a (3 - side) = rsL o a b side := by
  obtain ⟨hm, hs, h4⟩ := rsB_iff.1 h
  obtain ⟨h0, h1, h2, h3⟩ := mgB_iff.1 hm
  have e : merM o b a (sideL b a (3 - side)) = merM o a b (sideL a b side) := by rw [side_swap hs, merM_swap (mapB_ris h0) (mapB_ris h1) (mapB_ris h2)]
  have h' : rsB o b a (3 - side) = true := rsB_iff.2 ⟨(mg_swap hm).1, by omega, by rw [e]; exact h4⟩
  exact ⟨h', by rw [rsL_yes h', rsL_yes h, e]⟩
end Go.Proofs.YtaofemdhgfejjaaGreatDoor
/-
  What laws.sameMap answers.
-/
namespace Go.Proofs.YtaofemdhgfejjaaGreatDoor
open Go.RowKit

set_option maxRecDepth 100000 in
set_option maxHeartbeats 1000000 in
theorem sameMap_any (A A' : Option Addr) (l l' : List Pr) (cap cap' : Nat) (w : World) (B B' : Nat) (hl : l.length ≤ maxLen) (hl' : l'.length ≤ maxLen) (hin : PIn w B A l) (hin' : PIn w B' A' l') :
    Calls Tryz.prog 11 #[.slice A l.length cap, .slice A' l'.length cap'] w fun e w' => e = .returned (.bool (eqL l l')) ∧ Quiet w w' := by
  unfold maxLen at hl hl'
  by_cases he : l.length = l'.length
  · rw [← he]
    rw [← he] at hl'
    generalize hn : l.length = n at *
    have HN := hide hn
    have HN' := hide he
    clear hn he hl'
    go_enter Tryz.func11, Tryz.ntmps11
    go_wp2
    go_loopw [5] (fun i wr => ∃ k : Nat, k ≤ n ∧ i = .int .i64 k ∧ Hid (l.take k = l'.take k) ∧ Hid (Quiet w wr)) (fun i _ => n - (intOf i).toNat)
    case atStart => exact ⟨0, Nat.zero_le _, rfl, rfl, Quiet.refl w⟩
    case round =>
      obtain ⟨k, hk, rfl, H, Q⟩ := hrel
      by_cases hlt : k < n
      · have hin2 := hin.quiet Q.out
        have hin2' := hin'.quiet Q.out
        have hkl : k < l.length := by rw [HN.out]; omega
        have hkl' : k < l'.length := by rw [← HN'.out]; omega
        obtain ⟨b, off, rfl, hbB, hc⟩ := hin2.2 (by omega)
        obtain ⟨b', off', rfl, hbB', hc'⟩ := hin2'.2 (by omega)
        obtain ⟨c1, c2⟩ := hc k hkl
        obtain ⟨c3, c4⟩ := hc' k hkl'
        by_cases hp : l[k]'hkl = l'[k]'hkl'
        · have Z : Hid (l.take (k + 1) = l'.take (k + 1)) := hide (by rw [List.take_succ_eq_append_getElem hkl, List.take_succ_eq_append_getElem hkl', H.out, hp])
          rw [← hp] at c3 c4
          generalize (l[k]'hkl).1 = s at *
          generalize (l[k]'hkl).2 = v at *
          clear hin hin2 hc hin' hin2' hc' hp
          go_wp2
          go_quiet (fail)
          go_wp2
          go_roundw
          case rel => exact ⟨k + 1, by omega, by go_num, Z, Q.out.drewN _⟩
          case measure => simp [intOf]; omega
        · have Z : Hid (eqL l l' = false) := hide (eqL_no (by rintro rfl; exact hp rfl))
          have hp2 : ¬ ((l[k]'hkl).1 = (l'[k]'hkl').1 ∧ (l[k]'hkl).2 = (l'[k]'hkl').2) := fun h => hp (Prod.ext h.1 h.2)
          generalize (l[k]'hkl).1 = s at *
          generalize (l[k]'hkl).2 = v at *
          generalize (l'[k]'hkl').1 = s' at *
          generalize (l'[k]'hkl').2 = v' at *
          clear hin hin2 hc hin' hin2' hc' hp
          by_cases h1 : s = s'
          · have h2 : ¬ v = v' := fun h => hp2 ⟨h1, h⟩
            subst h1
            have d2 := eqS_no h2
            clear hp2 h2
            go_wp2
            go_quiet (fail)
            go_wp2
            go_ret
            exact ⟨ret_bool Z.out.symm, Q.out.drewN _⟩
          · have d1 := eqS_no h1
            clear hp2 h1
            go_wp2
            go_quiet (fail)
            go_wp2
            go_ret
            exact ⟨ret_bool Z.out.symm, Q.out.drewN _⟩
      · obtain rfl : k = n := by omega
        have Z : Hid (eqL l l' = true) := hide (eqL_yes (by
          have h := H.out
          rw [List.take_of_length_le (by rw [HN.out]; exact Nat.le_refl _), List.take_of_length_le (by rw [← HN'.out]; exact Nat.le_refl _)] at h
          exact h))
        go_wp2
        go_ret
        exact ⟨ret_bool Z.out.symm, Q.out⟩
  · have Z : Hid (eqL l l' = false) := hide (eqL_no (by rintro rfl; exact he rfl))
    have d : ((l.length : Int) != (l'.length : Int)) = true := by simp; omega
    clear he
    go_enter Tryz.func11, Tryz.ntmps11
    go_wp2
    go_ret
    exact ⟨ret_bool Z.out.symm, Quiet.refl _⟩
end Go.Proofs.YtaofemdhgfejjaaGreatDoor
/-
  What laws.sameTexts, laws.eqStringS, laws.has and laws.rises answer.
-/
namespace Go.Proofs.YtaofemdhgfejjaaGreatDoor
open Go.RowKit

theorem ZIn.quiet {w w' : World} {B : Nat} {A : Option Addr} {bs : List ByteArray} (h : ZIn w B A bs) (q : Quiet w w') : ZIn w' B A bs := h.below (q.below B)
set_option maxRecDepth 100000 in
set_option maxHeartbeats 1000000 in
theorem sameTexts_same (A A' : Option Addr) (l : List ByteArray) (cap cap' : Nat) (w : World) (B B' : Nat) (hl : l.length ≤ maxLen) (hin : ZIn w B A l) (hin' : ZIn w B' A' l) :
    Calls Tryz.prog 12 #[.slice A l.length cap, .slice A' l.length cap'] w fun e w' => e = .returned (.bool true) ∧ Quiet w w' := by
  unfold maxLen at hl
  have IN := hide hin
  have IN' := hide hin'
  clear hin hin'
  generalize hn : l.length = n at *
  have HN := hide hn
  clear hn
  have e0 : ((n : Int) != (n : Int)) = false := by simp
  go_enter Tryz.func12, Tryz.ntmps12
  go_wp2
  go_loopw [5] (fun iv wr => ∃ k : Nat, k ≤ n ∧ iv = .int .i64 k ∧ Hid (Quiet w wr)) (fun i _ => n - (intOf i).toNat)
  case atStart => exact ⟨0, Nat.zero_le _, rfl, Quiet.refl w⟩
  case round =>
    obtain ⟨k, hk, rfl, Q⟩ := hrel
    by_cases hlt : k < n
    · have hkl : k < l.length := by rw [HN.out]; omega
      obtain ⟨b, off, rfl, _, hc⟩ := IN.out (by omega)
      obtain ⟨b', off', rfl, _, hc'⟩ := IN'.out (by omega)
      have c1 := (Q.out.cell _).trans (hc k hkl)
      have c2 := (Q.out.cell _).trans (hc' k hkl)
      have e1 : (l[k].toList == l[k].toList) = true := by simp
      generalize l[k] = s at *
      clear hc hc'
      go_wp2
      go_quiet (fail)
      go_wp2
      exact ⟨⟨k + 1, by omega, by go_num, Q.out.drewN _⟩, by simp [intOf]; omega⟩
    · have hgt : ¬ ((k : Int) < (n : Int)) := by omega
      clear hlt
      go_wp2
      go_ret
      exact ⟨rfl, Q.out⟩
open Classical in
/-- is the text one of these? -/
noncomputable def hasK (l : List ByteArray) (s : ByteArray) : Bool := decide (s ∈ l)
open Classical in
theorem hasK_yes {l : List ByteArray} {s : ByteArray} (h : s ∈ l) : hasK l s = true := by unfold hasK; exact decide_eq_true h
open Classical in
theorem hasK_no {l : List ByteArray} {s : ByteArray} (h : ¬ s ∈ l) : hasK l s = false := by unfold hasK; exact decide_eq_false h
set_option maxRecDepth 100000 in
set_option maxHeartbeats 1000000 in
theorem lawsHas_any (A : Option Addr) (l : List ByteArray) (cap : Nat) (s : ByteArray) (w : World) (B : Nat) (hl : l.length ≤ maxLen) (hin : ZIn w B A l) :
    Calls Tryz.prog 20 #[.slice A l.length cap, .string s] w fun e w' => e = .returned (.bool (hasK l s)) ∧ w = w' := by
  unfold maxLen at hl
  have IN := hide hin
  clear hin
  generalize hn : l.length = n at *
  have HN := hide hn
  clear hn
  go_enter Tryz.func20, Tryz.ntmps20
  go_wp2
  go_loop [5] (fun iv => ∃ k : Nat, k ≤ n ∧ iv = .int .i64 k ∧ Hid (∀ i (h : i < l.length), i < k → ¬ l[i] = s)) (fun i => n - (intOf i).toNat)
  case atStart => exact ⟨0, Nat.zero_le _, rfl, hide (fun _ _ h => absurd h (by omega))⟩
  case round =>
    obtain ⟨k, hk, rfl, H⟩ := hrel
    by_cases hlt : k < n
    · have hkl : k < l.length := by rw [HN.out]; omega
      obtain ⟨b, off, rfl, _, hc⟩ := IN.out (by omega)
      have c1 := hc k hkl
      by_cases he : l[k]'hkl = s
      · have Z : Hid (hasK l s = true) := hide (hasK_yes (he ▸ List.getElem_mem hkl))
        have d1 := eqS_yes he
        generalize l[k]'hkl = x at *
        clear hc he H
        go_wp2
        go_ret
        exact ⟨ret_bool Z.out.symm, rfl⟩
      · have d1 := eqS_no he
        have H2 : Hid (∀ i (h : i < l.length), i < k + 1 → ¬ l[i] = s) := hide (fun i hi hik => by
          rcases Nat.lt_or_ge i k with g | g
          · exact H.out i hi g
          · obtain rfl : i = k := by omega
            exact he)
        generalize l[k]'hkl = x at *
        clear hc he H
        go_wp2
        go_round
        case rel => exact ⟨k + 1, by omega, by go_num, H2⟩
        case measure => simp [intOf]; omega
    · have Z : Hid (hasK l s = false) := hide (hasK_no (fun hm => by
        obtain ⟨i, hi, hx⟩ := List.mem_iff_getElem.1 hm
        exact absurd hx (H.out i hi (by rw [HN.out] at hi; omega))))
      go_wp2
      go_ret
      exact ⟨ret_bool Z.out.symm, rfl⟩
set_option maxRecDepth 100000 in
set_option maxHeartbeats 1000000 in
theorem lawsRises_yes (A : Option Addr) (l : List ByteArray) (cap : Nat) (w : World) (B : Nat) (hl : l.length ≤ maxLen) (hr : RisK l) (hin : ZIn w B A l) :
    Calls Tryz.prog 15 #[.slice A l.length cap] w fun e w' => e = .returned (.bool true) ∧ Quiet w w' := by
  unfold maxLen at hl
  have IN := hide hin
  have HR := hide hr
  clear hin hr
  generalize hn : l.length = n at *
  have HN := hide hn
  clear hn
  go_enter Tryz.func15, Tryz.ntmps15
  go_wp2
  go_loopw [3] (fun iv wr => ∃ k : Nat, 1 ≤ k ∧ iv = .int .i64 k ∧ Hid (Quiet w wr)) (fun i _ => n - (intOf i).toNat)
  case atStart => exact ⟨1, Nat.le_refl _, rfl, Quiet.refl w⟩
  case round =>
    obtain ⟨k, hk, rfl, Q⟩ := hrel
    by_cases hlt : k < n
    · have hkl : k < l.length := by rw [HN.out]; omega
      have hkl1 : k - 1 < l.length := by omega
      obtain ⟨b, off, rfl, _, hc⟩ := IN.out (by omega)
      have c1 := (Q.out.cell _).trans (hc k hkl)
      have c2 := (Q.out.cell _).trans (hc (k - 1) hkl1)
      have hlt2 : ltB (l[k - 1]'hkl1) (l[k]'hkl) = true := List.pairwise_iff_getElem.1 HR.out (k - 1) k hkl1 hkl (by omega)
      have h3 : ltB (l[k]'hkl) (l[k - 1]'hkl1) = false := ltB_asymm hlt2
      have h4 : ¬ (l[k - 1]'hkl1) = l[k]'hkl := fun e => by rw [e, ltB_irrefl] at hlt2; cases hlt2
      have h5 := eqS_no h4
      have h6 := eqS_no (fun e => h4 e.symm)
      unfold ltB at hlt2 h3
      generalize l[k]'hkl = s at *
      generalize l[k - 1]'hkl1 = t at *
      have e3 : ((k : Int) - 1) = ((k - 1 : Nat) : Int) := by omega
      have e4 : ((k : Int) - 1).toNat = k - 1 := by omega
      clear hc h4
      go_wp2
      go_quiet (fail)
      go_wp2
      exact ⟨⟨k + 1, by omega, by go_num, Q.out.drewN _⟩, by simp [intOf]; omega⟩
    · have hgt : ¬ ((k : Int) < (n : Int)) := by omega
      clear hlt
      go_wp2
      go_ret
      exact ⟨rfl, Q.out⟩
end Go.Proofs.YtaofemdhgfejjaaGreatDoor
/-
  Words for memory: slices of changes (five cells each), as PMem, PApp and PRow have them for pairs.
-/
namespace Go.Proofs.YtaofemdhgfejjaaGreatDoor
open Go.RowKit

/-- a change: its key, the old value, the new one, was there one, is there one -/
abbrev Ch := ByteArray × ByteArray × ByteArray × Bool × Bool
def emC : Ch := (ByteArray.empty, ByteArray.empty, ByteArray.empty, false, false)
def cellsC (c : Ch) : List Value := [.string c.1, .string c.2.1, .string c.2.2.1, .bool c.2.2.2.1, .bool c.2.2.2.2]
def cC (c : Ch) : Prop := c.1.size ≤ maxLen ∧ c.2.1.size ≤ maxLen ∧ c.2.2.1.size ≤ maxLen
def hlens (l : List Ch) : Prop := ∀ i (h : i < l.length), cC l[i]
theorem hlens_nil : hlens [] := fun _ h => absurd h (by simp)
theorem hlens_append {a b : List Ch} (ha : hlens a) (hb : hlens b) : hlens (a ++ b) := by
  intro i hi
  rcases Nat.lt_or_ge i a.length with g | g
  · rw [List.getElem_append_left g]; exact ha i g
  · rw [List.getElem_append_right g]; exact hb _ (by rw [List.length_append] at hi; omega)
/-- five cells from a place on -/
def At5 (w : World) (b o : Nat) (c : Ch) : Prop := w.cell? ⟨b, o, none⟩ = some (.string c.1) ∧ w.cell? ⟨b, o + 1, none⟩ = some (.string c.2.1) ∧ w.cell? ⟨b, o + 2, none⟩ = some (.string c.2.2.1) ∧ w.cell? ⟨b, o + 3, none⟩ = some (.bool c.2.2.2.1) ∧ w.cell? ⟨b, o + 4, none⟩ = some (.bool c.2.2.2.2)
theorem At5.keep {w w' : World} {b o : Nat} {c : Ch} (h : At5 w b o c) (hk : ∀ o, w'.cell? ⟨b, o, none⟩ = w.cell? ⟨b, o, none⟩) : At5 w' b o c :=
  ⟨(hk _).trans h.1, (hk _).trans h.2.1, (hk _).trans h.2.2.1, (hk _).trans h.2.2.2.1, (hk _).trans h.2.2.2.2⟩
/-- the slice at A reads as the changes l, and lies below block B -/
def HIn (w : World) (B : Nat) (A : Option Addr) (l : List Ch) : Prop :=
  hlens l ∧ (0 < l.length → ∃ b off, A = some ⟨b, off, none⟩ ∧ b < B ∧ ∀ i (h : i < l.length), At5 w b (off + i * 5) l[i])
theorem HIn.nil (w : World) (B : Nat) (A : Option Addr) : HIn w B A [] := ⟨hlens_nil, fun h => absurd h (by simp)⟩
theorem HIn.keep {w w' : World} {B : Nat} {A : Option Addr} {l : List Ch} (h : HIn w B A l) (hk : ∀ b o, b < B → w'.cell? ⟨b, o, none⟩ = w.cell? ⟨b, o, none⟩) : HIn w' B A l :=
  ⟨h.1, fun hp => by
    obtain ⟨b, off, e, hb, hc⟩ := h.2 hp
    exact ⟨b, off, e, hb, fun i hi => (hc i hi).keep fun o => hk _ _ hb⟩⟩
theorem HIn.quiet {w w' : World} {B : Nat} {A : Option Addr} {l : List Ch} (h : HIn w B A l) (q : Quiet w w') : HIn w' B A l := h.keep fun _ _ _ => q.cell _
theorem HIn.below {w w' : World} {B : Nat} {A : Option Addr} {l : List Ch} (h : HIn w B A l) (q : Below B w w') : HIn w' B A l := h.keep fun _ _ hb => q.cell (by exact hb)
theorem HIn.more {w : World} {B B' : Nat} {A : Option Addr} {l : List Ch} (h : HIn w B A l) (hB : B ≤ B') : HIn w B' A l :=
  ⟨h.1, fun hp => by obtain ⟨b, off, e, hb, hc⟩ := h.2 hp; exact ⟨b, off, e, by omega, hc⟩⟩

def ccells (l : List Ch) : List Value := l.flatMap cellsC
theorem ccells_nil : ccells [] = [] := rfl
theorem ccells_cons (p : Ch) (l : List Ch) : ccells (p :: l) = .string p.1 :: .string p.2.1 :: .string p.2.2.1 :: .bool p.2.2.2.1 :: .bool p.2.2.2.2 :: ccells l := rfl
theorem ccells_append (a b : List Ch) : ccells (a ++ b) = ccells a ++ ccells b := by unfold ccells; rw [List.flatMap_append]
theorem ccells_length (l : List Ch) : (ccells l).length = l.length * 5 := by
  induction l with
  | nil => rfl
  | cons p r ih => rw [ccells_cons]; simp only [List.length_cons, ih]; omega
theorem ccells_get : ∀ (l : List Ch) (i : Nat) (h : i < l.length), (ccells l)[i * 5]? = some (.string l[i].1) ∧ (ccells l)[i * 5 + 1]? = some (.string l[i].2.1) ∧ (ccells l)[i * 5 + 2]? = some (.string l[i].2.2.1) ∧ (ccells l)[i * 5 + 3]? = some (.bool l[i].2.2.2.1) ∧ (ccells l)[i * 5 + 4]? = some (.bool l[i].2.2.2.2)
  | p :: r, 0, _ => by rw [ccells_cons]; exact ⟨rfl, rfl, rfl, rfl, rfl⟩
  | p :: r, i + 1, h => by
    obtain ⟨a, b, c, d, e⟩ := ccells_get r i (by simpa using h)
    rw [ccells_cons, show (i + 1) * 5 = i * 5 + 1 + 1 + 1 + 1 + 1 by omega]
    exact ⟨by simpa using a, by simpa using b, by simpa using c, by simpa using d, by simpa using e⟩
theorem ccells_set : ∀ (l : List Ch) (i : Nat) (c : Ch), (((((ccells l).set (i * 5) (.string c.1)).set (i * 5 + 1) (.string c.2.1)).set (i * 5 + 2) (.string c.2.2.1)).set (i * 5 + 3) (.bool c.2.2.2.1)).set (i * 5 + 4) (.bool c.2.2.2.2) = ccells (l.set i c)
  | [], _, _ => by simp [ccells_nil]
  | p :: r, 0, c => by simp [ccells_cons]
  | p :: r, i + 1, c => by
    rw [ccells_cons, List.set_cons_succ, ccells_cons, ← ccells_set r i c, show (i + 1) * 5 = i * 5 + 1 + 1 + 1 + 1 + 1 by omega]
    simp
theorem ccells_one (l : List Ch) : ∀ u ∈ ccells l, u.oneCell' = true := by
  intro u hu
  unfold ccells at hu
  rw [List.mem_flatMap] at hu
  obtain ⟨p, _, hp⟩ := hu
  simp [cellsC] at hp
  rcases hp with rfl | rfl | rfl | rfl | rfl <;> rfl

/-- the slice at A is a row of the call's own, from block B on, and holds the changes l -/
def HOwn (w : World) (B : Nat) (A : Option Addr) (cap : Nat) (l : List Ch) : Prop := hlens l ∧ w.ownsRow B 45 5 (.slice A l.length cap) l.length (ccells l)
theorem HOwn.nil (w : World) (B : Nat) : HOwn w B none 0 [] := ⟨hlens_nil, World.ownsRow_nil _ _ _ _⟩
theorem HOwn.form {w : World} {B : Nat} {A : Option Addr} {cap : Nat} {l : List Ch} (h : HOwn w B A cap l) : (A = none ∧ cap = 0 ∧ l = []) ∨ ∃ g, A = some ⟨g, 0, none⟩ ∧ B ≤ g ∧ g < w.heap.size := by
  rcases h.2.2 with ⟨e, e'⟩ | ⟨g, c, cur, e, hb, hg, _⟩
  · injection e with e1 e2 e3
    exact .inl ⟨e1, e3, List.eq_nil_of_length_eq_zero e2⟩
  · injection e with e1 e2 e3
    exact .inr ⟨g, e1, hb, (Array.getElem?_eq_some_iff.1 hg).1⟩
theorem HOwn.pin {w : World} {B : Nat} {A : Option Addr} {cap : Nat} {l : List Ch} (h : HOwn w B A cap l) : HIn w w.heap.size A l := by
  refine ⟨h.1, fun hp => ?_⟩
  rcases h.form with ⟨_, _, rfl⟩ | ⟨g, rfl, _, hg⟩
  · simp at hp
  · refine ⟨g, 0, rfl, hg, fun i hi => ?_⟩
    obtain ⟨a, b, c, d, e⟩ := ccells_get l i hi
    rw [Nat.zero_add]
    exact ⟨(h.2.cellAt (i * 5) (by omega)).trans a, (h.2.cellAt (i * 5 + 1) (by omega)).trans b, (h.2.cellAt (i * 5 + 2) (by omega)).trans c, (h.2.cellAt (i * 5 + 3) (by omega)).trans d, (h.2.cellAt (i * 5 + 4) (by omega)).trans e⟩
theorem HOwn.below {w w' : World} {B : Nat} {A : Option Addr} {cap : Nat} {l : List Ch} (h : HOwn w B A cap l) (hb : Below w.heap.size w w') : HOwn w' B A cap l := by
  refine ⟨h.1, h.2.kept (Below.toGrown hb none) ?_⟩
  cases hv : (Value.slice A l.length cap).ownBlock <;> simp
theorem HOwn.more {w : World} {B B' : Nat} {A : Option Addr} {cap : Nat} {l : List Ch} (h : HOwn w B A cap l) (hB : B' ≤ B) : HOwn w B' A cap l := by
  refine ⟨h.1, h.2.1, ?_⟩
  rcases h.2.2 with e | ⟨g, c, cur, e, hb, r⟩
  · exact .inl e
  · exact .inr ⟨g, c, cur, e, Nat.le_trans hB hb, r⟩
theorem HOwn.row {w : World} {B : Nat} {A : Option Addr} {cap : Nat} {l : List Ch} (h : HOwn w B A cap l) : ∀ g, rowOf A = some g → B ≤ g ∧ g < w.heap.size := by
  intro g hg
  exact h.2.lt g (by rw [rowOf_own]; exact hg)
theorem HOwn.apart {w w' : World} {B : Nat} {A A' : Option Addr} {cap : Nat} {l : List Ch} (h : HOwn w B A cap l) (hg : w.grownBy w' (rowOf A')) (hne : ∀ g, rowOf A = some g → rowOf A' ≠ some g) : HOwn w' B A cap l := by
  refine ⟨h.1, h.2.kept hg ?_⟩
  rw [rowOf_own]
  cases e : rowOf A with
  | none => exact .inl rfl
  | some g => exact .inr (fun x => hne g e x.symm)
theorem HOwn.cap_le {w : World} {B : Nat} {A : Option Addr} {cap : Nat} {l : List Ch} (h : HOwn w B A cap l) : l.length ≤ cap := by
  rcases h.2.2 with ⟨e, e'⟩ | ⟨g, c, cur, e, _, _, hnc, _⟩
  · injection e with e1 e2 e3; omega
  · injection e with e1 e2 e3; omega
theorem HOwn.made {w : World} {B n cap : Nat} (h : w.ownsRow B 45 5 (.slice (some ⟨n, 0, none⟩) 0 cap) 0 []) : HOwn w B (some ⟨n, 0, none⟩) cap [] := ⟨hlens_nil, h⟩
theorem HOwn.built (w : World) (B : Nat) (hB : B ≤ w.heap.size) : HOwn (w.alloc (.cells #[] 45)) B (some ⟨w.heap.size, 0, none⟩) 0 [] :=
  ⟨hlens_nil, World.ownsRow_made w #[] 0 hB (by simp [maxLen]) rfl⟩
theorem HOwn.alloc {w : World} {B : Nat} {A : Option Addr} {cap : Nat} {l : List Ch} (h : HOwn w B A cap l) (o : Obj) : HOwn (w.alloc o) B A cap l := h.below ((Below.refl _ _).alloc (Nat.le_refl _) o)
theorem HOwn.drew {w : World} {B : Nat} {A : Option Addr} {cap : Nat} {l : List Ch} (h : HOwn w B A cap l) : HOwn w.drew B A cap l := h
theorem HOwn.grownBelow {w w' : World} {B : Nat} {A : Option Addr} {cap : Nat} {l : List Ch} (h : HOwn w B A cap l) (hg : w.grownBy w' (Value.slice A l.length cap).ownBlock) (hB : B ≤ w.heap.size) : Below B w w' :=
  (Below.refl B w).grown hg hB (fun k hk => (h.2.lt k hk).1)
/-- the cells of one change -/
def arrC (c : Ch) : Array Value := #[.string c.1, .string c.2.1, .string c.2.2.1, .bool c.2.2.2.1, .bool c.2.2.2.2]
theorem HIn.one (w : World) (c : Ch) (hc : cC c) (t : TypeId) : HIn (w.alloc (.cells (arrC c) t)) (w.heap.size + 1) (some ⟨w.heap.size, 0, none⟩) [c] := by
  refine ⟨fun i hi => ?_, fun _ => ⟨w.heap.size, 0, rfl, by omega, fun i hi => ?_⟩⟩
  · obtain rfl : i = 0 := by simpa using hi
    exact hc
  · obtain rfl : i = 0 := by simpa using hi
    have h := heap_alloc_new w (.cells (arrC c) t)
    exact ⟨cell_of_row _ w.heap.size 0 (arrC c) t (0, 0) h, cell_of_row _ w.heap.size 1 (arrC c) t (0, 0) h, cell_of_row _ w.heap.size 2 (arrC c) t (0, 0) h, cell_of_row _ w.heap.size 3 (arrC c) t (0, 0) h, cell_of_row _ w.heap.size 4 (arrC c) t (0, 0) h⟩

theorem HIn.oneAt {w : World} (c : Ch) (hc : cC c) (t : TypeId) {g : Nat} (hg : w.heap.size = g) : HIn (w.alloc (.cells (arrC c) t)) (g + 1) (some ⟨g, 0, none⟩) [c] := by subst hg; exact HIn.one w c hc t

theorem infoC : (Tryz.prog.info? 45).map (fun i => (i.zero, i.size, i.bytes)) = some (some (.agg (arrC emC)), 5, 56) := by kernel_rfl
/-- a row comes back -/
def RetC (B : Nat) (l : List Ch) (w : World) (e : Ending) (w' : World) : Prop := ∃ A cap, l.length ≤ cap ∧ e = .returned (.slice A l.length cap) ∧ HOwn w' B A cap l ∧ Below B w w'
def RetCB (B : Nat) (l : List Ch) (b : Bool) (w : World) (e : Ending) (w' : World) : Prop := ∃ A cap, l.length ≤ cap ∧ e = .returned (.tuple #[.slice A l.length cap, .bool b]) ∧ HOwn w' B A cap l ∧ Below B w w'

section
variable (t ty : TypeId) (ht : Tryz.prog.underlying t = some (.slice 45))
include ht
set_option maxRecDepth 100000 in
theorem run_appC {w : World} {B B' : Nat} {A A' : Option Addr} {cap c : Nat} {l l' : List Ch} (hown : HOwn w B A cap l) (hin : HIn w B' A' l') (hne : 0 < l'.length) (hB : B ≤ w.heap.size) (hb : l.length + l'.length ≤ 3000000) :
    ∃ A2 cap2 w', (Builtin.append_ #[t, t] ty #[.slice A l.length cap, .slice A' l'.length c]).run Tryz.prog w = .ok (.slice A2 (l ++ l').length cap2) w' ∧ HOwn w' B A2 cap2 (l ++ l') ∧ w.grownBy w' (rowOf A) ∧ (rowOf A2 = rowOf A ∨ rowOf A2 = some w.heap.size) := by
  obtain ⟨i, hi, hz0, hz1, hz2⟩ := info_parts infoC
  have hlen : (l ++ l').length = l.length + l'.length := List.length_append
  obtain ⟨b, off, rfl, _, hc⟩ := hin.2 hne
  have hcells : ∀ j u, (ccells l')[j]? = some u → w.cell? ((⟨b, off, none⟩ : Addr).add j) = some u := by
    intro j u hu
    have hj : j < l'.length * 5 := by
      rw [← ccells_length]
      exact (List.getElem?_eq_some_iff.1 hu).1
    rw [add_pl]
    obtain ⟨p0, p1, p2, p3, p4⟩ := ccells_get l' (j / 5) (by omega)
    obtain ⟨c0, c1, c2, c3, c4⟩ := hc (j / 5) (by omega)
    have hj5 : j = j / 5 * 5 + j % 5 := by omega
    have hm : j % 5 < 5 := Nat.mod_lt _ (by omega)
    generalize j % 5 = r at hj5 hm
    match r, hm with
    | 0, _ => rw [show j / 5 * 5 = j by omega] at p0; rw [show off + j / 5 * 5 = off + j by omega] at c0; rw [p0] at hu; rw [c0, hu]
    | 1, _ => rw [show j / 5 * 5 + 1 = j by omega] at p1; rw [show off + j / 5 * 5 + 1 = off + j by omega] at c1; rw [p1] at hu; rw [c1, hu]
    | 2, _ => rw [show j / 5 * 5 + 2 = j by omega] at p2; rw [show off + j / 5 * 5 + 2 = off + j by omega] at c2; rw [p2] at hu; rw [c2, hu]
    | 3, _ => rw [show j / 5 * 5 + 3 = j by omega] at p3; rw [show off + j / 5 * 5 + 3 = off + j by omega] at c3; rw [p3] at hu; rw [c3, hu]
    | 4, _ => rw [show j / 5 * 5 + 4 = j by omega] at p4; rw [show off + j / 5 * 5 + 4 = off + j by omega] at c4; rw [p4] at hu; rw [c4, hu]
  obtain ⟨v', w', hrun, h2, h3, _, h5⟩ := run_append_own_at (P := Tryz.prog) w B t ty 45 i _ 5 56 ht hi hz0 hz1 hz2 rfl (by omega) (.slice A l.length cap) l.length (ccells l) hown.2 ⟨b, off, none⟩ l'.length c (ccells l') (ccells_length l') hcells (ccells_one l')
    (by simp only [maxLen]; omega) (by omega) hB
  have hv : ∃ A2 cap2, v' = .slice A2 (l.length + l'.length) cap2 := by
    rcases h2.2 with ⟨e, e'⟩ | ⟨g, cap', cur, e, _⟩
    · exact ⟨none, 0, by rw [e, e']⟩
    · exact ⟨_, _, e⟩
  obtain ⟨A2, cap2, rfl⟩ := hv
  refine ⟨A2, cap2, w', by rw [hlen]; exact hrun, ⟨hlens_append hown.1 hin.1, ?_⟩, by rw [← rowOf_own A l.length cap]; exact h3, ?_⟩
  · rw [hlen, ccells_append]
    exact h2
  · rw [rowOf_own, rowOf_own] at h5
    exact h5
theorem wp_appC {w : World} {o : Oper} {a : Act} {K : Act → World → Prop} {Q : Exit → Act → World → Prop} (s x : Operand)
    (ho : o.op = .call { callee := .builtin .append, args := #[s, x], argTypes := #[t, t] })
    {B B' : Nat} {A A' : Option Addr} {cap c n m : Nat} {l l' : List Ch} (hs : a.eval s = .slice A n cap) (hx : a.eval x = .slice A' m c) (hn : n = l.length) (hm : m = l'.length)
    (hown : HOwn w B A cap l) (hin : HIn w B' A' l') (hne : 0 < l'.length) (hB : B ≤ w.heap.size) (hb : l.length + l'.length ≤ 3000000)
    (h : ∀ A2 cap2 w', HOwn w' B A2 cap2 (l ++ l') → w.grownBy w' (rowOf A) → (rowOf A2 = rowOf A ∨ rowOf A2 = some w.heap.size) → K (a.put o.dst (.slice A2 (l ++ l').length cap2)) w') : o.wp Tryz.prog a w K Q := by
  subst hn hm
  obtain ⟨A2, cap2, w', hrun, h2, h3, h4⟩ := run_appC t o.type ht (c := c) hown hin hne hB hb
  unfold Oper.wp execOp
  simp only [ho, resolve, invoke, builtin, Sem.run_bind, Sem.run_pure, Result.andThen_ok, List.map_toArray, List.map_cons, List.map_nil, hs, hx, hrun]
  exact h A2 cap2 w' h2 h3 h4
theorem wpList_appC {w : World} {ops : Array Oper} {rest : List Oper} {o : Oper} {a : Act} {Q : Exit → Act → World → Prop} (hgd : o.guard = none) (s x : Operand)
    (ho : o.op = .call { callee := .builtin .append, args := #[s, x], argTypes := #[t, t] })
    {B B' : Nat} {A A' : Option Addr} {cap c n m : Nat} {l l' : List Ch} (hs : a.eval s = .slice A n cap) (hx : a.eval x = .slice A' m c) (hn : n = l.length) (hm : m = l'.length)
    (hown : HOwn w B A cap l) (hin : HIn w B' A' l') (hne : 0 < l'.length) (hB : B ≤ w.heap.size) (hb : l.length + l'.length ≤ 3000000)
    (h : ∀ A2 cap2 w', HOwn w' B A2 cap2 (l ++ l') → w.grownBy w' (rowOf A) → (rowOf A2 = rowOf A ∨ rowOf A2 = some w.heap.size) → wpList Tryz.prog ops Q rest (a.put o.dst (.slice A2 (l ++ l').length cap2)) w') : wpList Tryz.prog ops Q (o :: rest) a w :=
  wpList_plain hgd fun _ hK => wp_appC t ht s x ho hs hx hn hm hown hin hne hB hb fun A2 cap2 w' h2 h3 h4 => hK _ _ (h A2 cap2 w' h2 h3 h4)
theorem step_appC {w : World} {ops : Array Oper} {o : Oper} {a : Act} {K : Act → World → Prop} {Q : Exit → Act → World → Prop} {E : Prop} (hgd : o.guard = none) (s x : Operand)
    (ho : o.op = .call { callee := .builtin .append, args := #[s, x], argTypes := #[t, t] })
    {B B' : Nat} {A A' : Option Addr} {cap c n m : Nat} {l l' : List Ch} (hs : a.eval s = .slice A n cap) (hx : a.eval x = .slice A' m c) (hn : n = l.length) (hm : m = l'.length)
    (hown : HOwn w B A cap l) (hin : HIn w B' A' l') (hne : 0 < l'.length) (hB : B ≤ w.heap.size) (hb : l.length + l'.length ≤ 3000000)
    (h : ∀ A2 cap2 w', HOwn w' B A2 cap2 (l ++ l') → w.grownBy w' (rowOf A) → (rowOf A2 = rowOf A ∨ rowOf A2 = some w.heap.size) → K (a.put o.dst (.slice A2 (l ++ l').length cap2)) w') :
    if Region.wanted o (yielded ops a.tmps) = true then Oper.wp Tryz.prog o a w K Q else E := by
  have hw : Region.wanted o (yielded ops a.tmps) = true := by simp [Region.wanted, hgd]
  rw [if_pos hw]
  exact wp_appC t ht s x ho hs hx hn hm hown hin hne hB hb h
end
end Go.Proofs.YtaofemdhgfejjaaGreatDoor
/-
  Changes that are done to a map, one behind the other: plain mathematics.
-/
namespace Go.Proofs.YtaofemdhgfejjaaGreatDoor
open Go.RowKit

/-- keys with their old values -/
def cp (l : List Ch) : List Pr := l.map fun c => (c.1, c.2.1)
theorem cp_len (l : List Ch) : (cp l).length = l.length := by unfold cp; rw [List.length_map]
theorem cp_get (l : List Ch) (i : Nat) (h : i < (cp l).length) : (cp l)[i].1 = (l[i]'(by rw [cp_len] at h; exact h)).1 := by simp [cp]
/-- what is asked of a change at a map -/
noncomputable def fitB (m : List Pr) (c : Ch) : Bool := keyB c.1 && (valB c.2.2.1 && ((hasB m c.1 == c.2.2.2.1) && (decide (valOf m c.1 = c.2.1) && (c.2.2.2.2 || decide (c.2.2.1 = ByteArray.empty)))))
theorem fitB_iff {m : List Pr} {c : Ch} : fitB m c = true ↔ keyB c.1 = true ∧ valB c.2.2.1 = true ∧ hasB m c.1 = c.2.2.2.1 ∧ valOf m c.1 = c.2.1 ∧ (c.2.2.2.2 = true ∨ c.2.2.1 = ByteArray.empty) := by
  unfold fitB
  simp only [Bool.and_eq_true, Bool.or_eq_true, beq_iff_eq, decide_eq_true_eq]
def stepM (m : List Pr) (c : Ch) : List Pr := if c.2.2.2.2 = true then setL m c.1 c.2.2.1 else delL m c.1
theorem stepM_yes {m : List Pr} {c : Ch} (h : c.2.2.2.2 = true) : stepM m c = setL m c.1 c.2.2.1 := by unfold stepM; rw [if_pos h]
theorem stepM_no {m : List Pr} {c : Ch} (h : c.2.2.2.2 = false) : stepM m c = delL m c.1 := by unfold stepM; rw [h]; rfl
def appM (m : List Pr) (l : List Ch) : List Pr := l.foldl stepM m
theorem appM_succ (m : List Pr) (l : List Ch) (k : Nat) (h : k < l.length) : appM m (l.take (k + 1)) = stepM (appM m (l.take k)) l[k] := by
  unfold appM
  rw [List.take_succ_eq_append_getElem h, List.foldl_append]
  rfl
theorem ris_step {m : List Pr} (h : Ris m) (c : Ch) : Ris (stepM m c) := by
  unfold stepM
  split
  · exact ris_set h _ _
  · exact ris_del h _
theorem ris_app : ∀ (l : List Ch) {m : List Pr}, Ris m → Ris (appM m l)
  | [], _, h => h
  | c :: l, _, h => ris_app l (ris_step h c)
theorem lk_step {m : List Pr} (h : Ris m) (c : Ch) (k : ByteArray) : lk (stepM m c) k = if k = c.1 then (if c.2.2.2.2 = true then some c.2.2.1 else none) else lk m k := by
  unfold stepM
  split
  · rw [lk_set h]
  · rw [lk_del h]
theorem lk_app_other : ∀ (l : List Ch) {m : List Pr}, Ris m → ∀ {k : ByteArray}, (∀ c ∈ l, c.1 ≠ k) → lk (appM m l) k = lk m k
  | [], _, _, _, _ => rfl
  | c :: l, m, h, k, hne => by
    have h1 := lk_app_other l (ris_step h c) (k := k) (fun d hd => hne d (List.mem_cons_of_mem _ hd))
    have h2 := lk_step h c k
    rw [if_neg (fun e => hne c (List.mem_cons_self ..) e.symm)] at h2
    exact h1.trans h2
theorem fitB_lk {m m' : List Pr} {c : Ch} (h : lk m c.1 = lk m' c.1) : fitB m c = fitB m' c := by
  obtain ⟨h1, h2⟩ := lk_eq.1 h
  unfold fitB
  rw [h1, h2]
/-- the first k changes are right where they are done, and rise -/
def appsTo (m : List Pr) (l : List Ch) (k : Nat) : Prop :=
  (∀ i (h : i < l.length), i < k → fitB (appM m (l.take i)) l[i] = true) ∧ ∀ i (h : i + 1 < l.length), i + 1 < k → ltB l[i].1 l[i + 1].1 = true
theorem appsTo_zero (m : List Pr) (l : List Ch) : appsTo m l 0 := ⟨fun _ _ h => absurd h (by omega), fun _ _ h => absurd h (by omega)⟩
theorem appsTo_succ {m : List Pr} {l : List Ch} {k : Nat} (hk : k < l.length) (h : appsTo m l k) (h1 : fitB (appM m (l.take k)) l[k] = true) (h2 : ∀ (hp : 0 < k), ltB (l[k - 1]'(by omega)).1 l[k].1 = true) : appsTo m l (k + 1) := by
  refine ⟨fun i hi hik => ?_, fun i hi hik => ?_⟩
  · rcases Nat.lt_or_ge i k with g | g
    · exact h.1 i hi g
    · obtain rfl : i = k := by omega
      exact h1
  · rcases Nat.lt_or_ge (i + 1) k with g | g
    · exact h.2 i hi g
    · obtain rfl : k = i + 1 := by omega
      simpa using h2 (by omega)
open Classical in
noncomputable def appB (m : List Pr) (l : List Ch) : Bool := decide (mapB m = true ∧ appsTo m l l.length ∧ mapB (appM m l) = true)
open Classical in
theorem appB_iff {m : List Pr} {l : List Ch} : appB m l = true ↔ mapB m = true ∧ appsTo m l l.length ∧ mapB (appM m l) = true := by unfold appB; exact decide_eq_true_iff
noncomputable def appL (m : List Pr) (l : List Ch) : List Pr := if appB m l = true then appM m l else []
theorem appL_no {m : List Pr} {l : List Ch} (h : appB m l = false) : appL m l = [] := by unfold appL; rw [h]; rfl
theorem appL_yes {m : List Pr} {l : List Ch} (h : appB m l = true) : appL m l = appM m l := by unfold appL; rw [if_pos h]
theorem appL_len (m : List Pr) (l : List Ch) : (appL m l).length ≤ 40 := by
  cases h : appB m l
  · rw [appL_no h]; simp
  · rw [appL_yes h]; exact (mapB_iff.1 (appB_iff.1 h).2.2).1
theorem appB_not {m : List Pr} {l : List Ch} (h : ¬ appB m l = true) : appB m l = false := by simpa using h
theorem appB_map {m : List Pr} {l : List Ch} (h : mapB m = false) : appB m l = false := appB_not fun x => by rw [(appB_iff.1 x).1] at h; cases h
theorem appB_end {m : List Pr} {l : List Ch} (h : mapB (appM m l) = false) : appB m l = false := appB_not fun x => by rw [(appB_iff.1 x).2.2] at h; cases h
theorem appB_fit {m : List Pr} {l : List Ch} {k : Nat} (hk : k < l.length) (h : fitB (appM m (l.take k)) l[k] = false) : appB m l = false := appB_not fun x => by rw [(appB_iff.1 x).2.1.1 k hk hk] at h; cases h
theorem appB_rise {m : List Pr} {l : List Ch} {k : Nat} (hk : k + 1 < l.length) (h : ltB l[k].1 l[k + 1].1 = false) : appB m l = false := appB_not fun x => by rw [(appB_iff.1 x).2.1.2 k hk hk] at h; cases h
theorem rise_cp {l : List Ch} : risesTo (cp l) (cp l).length ↔ ∀ i (h : i + 1 < l.length), ltB l[i].1 l[i + 1].1 = true := by
  constructor
  · intro h i hi
    have := h i (by rw [cp_len]; exact hi) (by rw [cp_len]; exact hi)
    rw [cp_get, cp_get] at this
    exact this
  · intro h i hi _
    rw [cp_get, cp_get]
    exact h i (by rw [cp_len] at hi; exact hi)
theorem appB_cp {m : List Pr} {l : List Ch} (h : risesB (cp l) = false) : appB m l = false := appB_not fun x => by
  rw [risesB_yes (rise_cp.2 fun i hi => (appB_iff.1 x).2.1.2 i hi hi)] at h
  cases h
theorem ch_lt {l : List Ch} (h : risesTo (cp l) (cp l).length) {i j : Nat} (hj : j < l.length) (hi : i < j) : ltB (l[i]'(by omega)).1 l[j].1 = true := by
  have := rises_lt h j (by rw [cp_len]; exact hj) i hi
  rw [cp_get, cp_get] at this
  exact this
/-- what a change finds is what the map had, as keys rise -/
theorem lk_take {m : List Pr} {l : List Ch} (hm : Ris m) (h : risesTo (cp l) (cp l).length) {i : Nat} (hi : i < l.length) : lk (appM m (l.take i)) l[i].1 = lk m l[i].1 := by
  refine lk_app_other _ hm fun c hc => ?_
  obtain ⟨j, hj, rfl⟩ := List.mem_iff_getElem.1 hc
  rw [List.length_take] at hj
  rw [List.getElem_take]
  exact ne_of_lt (ch_lt h hi (by omega))
theorem fit_take {m : List Pr} {l : List Ch} (hm : Ris m) (h : risesTo (cp l) (cp l).length) {i : Nat} (hi : i < l.length) : fitB (appM m (l.take i)) l[i] = fitB m l[i] := fitB_lk (lk_take hm h hi)
def isLoss (c : Ch) : Bool := c.2.2.2.1 && !c.2.2.2.2
def lossN (l : List Ch) : Nat := (l.filter isLoss).length
theorem lossN_succ (l : List Ch) (k : Nat) (h : k < l.length) : lossN (l.take (k + 1)) = lossN (l.take k) + (if isLoss l[k] = true then 1 else 0) := by
  unfold lossN
  rw [List.take_succ_eq_append_getElem h, List.filter_append, List.length_append]
  congr 1
  by_cases e : isLoss l[k] = true
  · simp [e]
  · simp [e]
theorem step_len {m : List Pr} {c : Ch} (h : hasB m c.1 = c.2.2.2.1) : m.length ≤ (stepM m c).length + (if isLoss c = true then 1 else 0) := by
  cases e : c.2.2.2.2
  · rw [stepM_no e]
    unfold delL
    cases e' : c.2.2.2.1
    · rw [e'] at h; rw [h]; simp
    · rw [e'] at h
      have : isLoss c = true := by unfold isLoss; rw [e, e']; rfl
      rw [if_pos h, if_pos this, List.length_eraseIdx]
      split <;> omega
  · rw [stepM_yes e, len_set]
    split <;> omega
theorem len_apps {m : List Pr} {l : List Ch} (h : appsTo m l l.length) (i : Nat) : ∀ (j : Nat), i ≤ j → j ≤ l.length → (appM m (l.take i)).length + lossN (l.take i) ≤ (appM m (l.take j)).length + lossN (l.take j)
  | 0, h1, _ => by obtain rfl : i = 0 := by omega
                   exact Nat.le_refl _
  | j + 1, h1, h2 => by
    rcases Nat.lt_or_ge i (j + 1) with g | g
    · have ih := len_apps h i j (by omega) (by omega)
      have h3 := step_len (fitB_iff.1 (h.1 j (by omega) (by omega))).2.2.1
      rw [appM_succ _ _ _ (by omega), lossN_succ _ _ (by omega)]
      omega
    · obtain rfl : i = j + 1 := by omega
      exact Nat.le_refl _
theorem loss_at {m : List Pr} {l : List Ch} (hr : risesTo (cp l) (cp l).length) (hf : ∀ i (h : i < l.length), hasB m l[i].1 = l[i].2.2.2.1) : ∀ (j : Nat) (h : j < l.length), lossN (l.take j) ≤ atN m l[j].1
  | 0, _ => by simp [lossN]
  | j + 1, h => by
    have ih := loss_at hr hf j (by omega)
    have hlt := ch_lt hr h (show j < j + 1 by omega)
    rw [lossN_succ _ _ (by omega)]
    by_cases e : isLoss (l[j]'(by omega)) = true
    · rw [if_pos e]
      have hh : hasB m (l[j]'(by omega)).1 = true := by
        rw [hf j (by omega)]
        unfold isLoss at e
        rw [Bool.and_eq_true] at e
        exact e.1
      have := at_mono_has hh hlt
      omega
    · rw [if_neg e]
      have := at_mono m hlt
      omega
theorem loss_le {m : List Pr} {l : List Ch} (hr : risesTo (cp l) (cp l).length) (hf : ∀ i (h : i < l.length), hasB m l[i].1 = l[i].2.2.2.1) : lossN l ≤ m.length := by
  rcases Nat.eq_zero_or_pos l.length with g | g
  · rw [List.eq_nil_of_length_eq_zero g]; simp [lossN]
  · obtain ⟨j, hj⟩ : ∃ j, l.length = j + 1 := ⟨l.length - 1, by omega⟩
    have ih := loss_at hr hf j (by omega)
    have e0 : lossN l = lossN (l.take (j + 1)) := by rw [← hj, List.take_length]
    rw [e0, lossN_succ _ _ (by omega)]
    by_cases e : isLoss (l[j]'(by omega)) = true
    · rw [if_pos e]
      have hh : hasB m (l[j]'(by omega)).1 = true := by
        rw [hf j (by omega)]
        unfold isLoss at e
        rw [Bool.and_eq_true] at e
        exact e.1
      obtain ⟨h1, _⟩ := hasB_iff.1 hh
      omega
    · rw [if_neg e]
      have := atN_le m (l[j]'(by omega)).1
      omega
/-- so many pairs on the way are too many at the end -/
theorem appB_long {m : List Pr} {l : List Ch} {k : Nat} (hk : k ≤ l.length) (h : 80 < (appM m (l.take k)).length) : appB m l = false := appB_not fun x => by
  obtain ⟨hm, ha, he⟩ := appB_iff.1 x
  have hr := rise_cp.2 fun i hi => ha.2 i hi hi
  have hris := mapB_ris hm
  have hf : ∀ i (h : i < l.length), hasB m l[i].1 = l[i].2.2.2.1 := fun i hi => by
    have := ha.1 i hi hi
    rw [fit_take hris hr hi] at this
    exact (fitB_iff.1 this).2.2.1
  have h1 := len_apps ha k l.length hk (Nat.le_refl _)
  rw [List.take_length] at h1
  have h2 := loss_le hr hf
  have h3 := (mapB_iff.1 hm).1
  have h4 := (mapB_iff.1 he).1
  omega
theorem appB_all {m : List Pr} {l : List Ch} (hm : mapB m = true) (hr : risesTo (cp l) (cp l).length) (hf : ∀ i (h : i < l.length), fitB m l[i] = true) (he : mapB (appM m l) = true) : appB m l = true :=
  appB_iff.2 ⟨hm, ⟨fun i hi _ => by rw [fit_take (mapB_ris hm) hr hi]; exact hf i hi, fun i hi _ => rise_cp.1 hr i hi⟩, he⟩
theorem appB_fit0 {m : List Pr} {l : List Ch} {k : Nat} (hm : mapB m = true) (hr : risesTo (cp l) (cp l).length) (hk : k < l.length) (h : fitB m l[k] = false) : appB m l = false :=
  appB_fit hk (by rw [fit_take (mapB_ris hm) hr hk]; exact h)
end Go.Proofs.YtaofemdhgfejjaaGreatDoor
/-
  What impl.editOf makes of a change.
-/
namespace Go.Proofs.YtaofemdhgfejjaaGreatDoor
open Go.RowKit

/-- the edit of a change -/
def editV (x o n : ByteArray) : Bool → Bool → Value
  | true, true => .iface 121 (.agg #[.string x, .string o, .string x, .string n])
  | true, false => .iface 117 (.agg #[.string x, .string o])
  | false, true => .iface 119 (.agg #[.string x, .string n])
  | false, false => .iface 123 (.agg #[.string x])
theorem below3 (w : World) (a b c : Obj) : Below w.heap.size w (((w.alloc a).alloc b).alloc c).drew := ((((Below.refl _ _).alloc (Nat.le_refl _) _).alloc (by simp) _).alloc (by simp; omega) _).drew

set_option maxRecDepth 100000 in
set_option maxHeartbeats 2000000 in
theorem editOf_any (x o n : ByteArray) (p q : Bool) (w : World) :
    Calls Tryz.prog 44 #[.agg #[.string x, .string o, .string n, .bool p, .bool q]] w fun e w' => e = .returned (editV x o n p q) ∧ Below w.heap.size w w' := by
  cases p <;> cases q
  all_goals
    go_enter Tryz.func44, Tryz.ntmps44
    go_wp2
    go_region
    all_goals
      go_wp2
      go_ret
      exact ⟨rfl, below3 w _ _ _⟩

end Go.Proofs.YtaofemdhgfejjaaGreatDoor
/-
  What leads from one map to another one, as a list of changes: plain mathematics; rows of edits in memory.
-/
namespace Go.Proofs.YtaofemdhgfejjaaGreatDoor
open Go.RowKit

def lossC (p : Pr) : Ch := (p.1, p.2, ByteArray.empty, true, false)
def gainC (q : Pr) : Ch := (q.1, ByteArray.empty, q.2, false, true)
def turnC (p q : Pr) : Ch := (q.1, p.2, q.2, true, true)
/-- by rising keys, of each key that is unlike in both a change -/
def difM : List Pr → List Pr → List Ch
  | [], [] => []
  | p :: a, [] => lossC p :: difM a []
  | [], q :: b => gainC q :: difM [] b
  | p :: a, q :: b => if ltB p.1 q.1 = true then lossC p :: difM a (q :: b) else if ltB q.1 p.1 = true then gainC q :: difM (p :: a) b else if p.2 = q.2 then difM a b else turnC p q :: difM a b
termination_by a b => a.length + b.length
theorem difM_nil : difM [] [] = [] := by rw [difM]
theorem difM_a (p : Pr) (a : List Pr) : difM (p :: a) [] = lossC p :: difM a [] := by rw [difM]
theorem difM_b (q : Pr) (b : List Pr) : difM [] (q :: b) = gainC q :: difM [] b := by rw [difM]
theorem difM_lt {p q : Pr} {a b : List Pr} (h : ltB p.1 q.1 = true) : difM (p :: a) (q :: b) = lossC p :: difM a (q :: b) := by rw [difM, if_pos h]
theorem difM_gt {p q : Pr} {a b : List Pr} (h : ltB q.1 p.1 = true) : difM (p :: a) (q :: b) = gainC q :: difM (p :: a) b := by rw [difM, if_neg (by rw [ltB_asymm h]; simp), if_pos h]
theorem difM_same {p q : Pr} {a b : List Pr} (h : p.1 = q.1) (h' : p.2 = q.2) : difM (p :: a) (q :: b) = difM a b := by rw [difM, h, ltB_irrefl, if_neg (by simp), if_neg (by simp), if_pos h']
theorem difM_turn {p q : Pr} {a b : List Pr} (h : p.1 = q.1) (h' : ¬ p.2 = q.2) : difM (p :: a) (q :: b) = turnC p q :: difM a b := by rw [difM, h, ltB_irrefl, if_neg (by simp), if_neg (by simp), if_neg h']
theorem difM_len : ∀ (n : Nat) (a b : List Pr), a.length + b.length ≤ n → (difM a b).length ≤ n
  | n, [], [], _ => by rw [difM_nil]; simp
  | n, p :: a, [], h => by
    rw [difM_a]
    have := difM_len (n - 1) a [] (by simp at h ⊢; omega)
    simp at h ⊢; omega
  | n, [], q :: b, h => by
    rw [difM_b]
    have := difM_len (n - 1) [] b (by simp at h ⊢; omega)
    simp at h ⊢; omega
  | n, p :: a, q :: b, h => by
    rcases ltB_tri p.1 q.1 with g | g | g
    · rw [difM_lt g]
      have := difM_len (n - 1) a (q :: b) (by simp at h ⊢; omega)
      simp at h ⊢; omega
    · by_cases g' : p.2 = q.2
      · rw [difM_same g g']
        exact difM_len n a b (by simp at h ⊢; omega)
      · rw [difM_turn g g']
        have := difM_len (n - 1) a b (by simp at h ⊢; omega)
        simp at h ⊢; omega
    · rw [difM_gt g]
      have := difM_len (n - 1) (p :: a) b (by simp at h ⊢; omega)
      simp at h ⊢; omega
termination_by _ a b => a.length + b.length

/-- the edit of a change -/
def edV (c : Ch) : Value := editV c.1 c.2.1 c.2.2.1 c.2.2.2.1 c.2.2.2.2
theorem edV_loss (p : Pr) : edV (lossC p) = .iface 117 (.agg #[.string p.1, .string p.2]) := rfl
theorem edV_gain (q : Pr) : edV (gainC q) = .iface 119 (.agg #[.string q.1, .string q.2]) := rfl
theorem edV_turn (p q : Pr) (h : p.1 = q.1) : edV (turnC p q) = .iface 121 (.agg #[.string p.1, .string p.2, .string q.1, .string q.2]) := by rw [h]; rfl
theorem editV_one (x o n : ByteArray) (p q : Bool) : (editV x o n p q).oneCell' = true := by cases p <;> cases q <;> rfl

/-- the slice at A is a row of the call's own, and holds the edits of the changes l -/
def EOwn (w : World) (B : Nat) (A : Option Addr) (cap : Nat) (l : List Ch) : Prop := w.ownsRow B 74 1 (.slice A l.length cap) l.length (l.map edV)
theorem EOwn.nil (w : World) (B : Nat) : EOwn w B none 0 [] := World.ownsRow_nil _ _ _ _
theorem EOwn.below {w w' : World} {B : Nat} {A : Option Addr} {cap : Nat} {l : List Ch} (h : EOwn w B A cap l) (hb : Below w.heap.size w w') : EOwn w' B A cap l := by
  refine World.ownsRow.kept h (Below.toGrown hb none) ?_
  cases hv : (Value.slice A l.length cap).ownBlock <;> simp
theorem EOwn.alloc {w : World} {B : Nat} {A : Option Addr} {cap : Nat} {l : List Ch} (h : EOwn w B A cap l) (o : Obj) : EOwn (w.alloc o) B A cap l := h.below ((Below.refl _ _).alloc (Nat.le_refl _) o)
theorem EOwn.drew {w : World} {B : Nat} {A : Option Addr} {cap : Nat} {l : List Ch} (h : EOwn w B A cap l) : EOwn w.drew B A cap l := h
theorem EOwn.row {w : World} {B : Nat} {A : Option Addr} {cap : Nat} {l : List Ch} (h : EOwn w B A cap l) : ∀ g, rowOf A = some g → B ≤ g ∧ g < w.heap.size := by
  intro g hg
  exact World.ownsRow.lt h g (by rw [rowOf_own]; exact hg)
theorem EOwn.grownBelow {w w' : World} {B : Nat} {A : Option Addr} {cap : Nat} {l : List Ch} (h : EOwn w B A cap l) (hg : w.grownBy w' (Value.slice A l.length cap).ownBlock) (hB : B ≤ w.heap.size) : Below B w w' :=
  (Below.refl B w).grown hg hB (fun k hk => (World.ownsRow.lt h k hk).1)
theorem EOwn.kept {w w' : World} {B : Nat} {A A' : Option Addr} {cap : Nat} {l : List Ch} (h : EOwn w B A cap l) (hg : w.grownBy w' (rowOf A')) (hne : ∀ g, rowOf A = some g → rowOf A' ≠ some g) : EOwn w' B A cap l := by
  refine World.ownsRow.kept h hg ?_
  rw [rowOf_own]
  cases e : rowOf A with
  | none => exact .inl rfl
  | some g => exact .inr (fun x => hne g e x.symm)
theorem EOwn.cell {w : World} {B : Nat} {A : Option Addr} {cap : Nat} {l : List Ch} (h : EOwn w B A cap l) {i : Nat} (hi : i < l.length) : ∃ g, A = some ⟨g, 0, none⟩ ∧ g < w.heap.size ∧ w.cell? ⟨g, i, none⟩ = some (edV l[i]) := by
  have h' := h
  rcases h.2 with ⟨e, e'⟩ | ⟨g, c, cur, e, hb, hg, _⟩
  · omega
  · injection e with e1 e2 e3
    subst e1
    refine ⟨g, rfl, (Array.getElem?_eq_some_iff.1 hg).1, ?_⟩
    have := World.ownsRow.cellAt h' i (by omega)
    rw [List.getElem?_map, List.getElem?_eq_getElem hi] at this
    exact this
theorem infoE : (Tryz.prog.info? 74).map (fun i => (i.zero, i.size, i.bytes)) = some (some .nilIface, 1, 16) := by kernel_rfl
section
variable (t ty : TypeId) (ht : Tryz.prog.underlying t = some (.slice 74))
include ht
set_option maxRecDepth 100000 in
theorem run_appE {w : World} {B g : Nat} {A : Option Addr} {cap : Nat} {l : List Ch} {c : Ch} (hown : EOwn w B A cap l) (hc : w.cell? ⟨g, 0, none⟩ = some (edV c)) (hB : B ≤ w.heap.size) (hb : l.length ≤ 3000000) :
    ∃ A2 cap2 w', (Builtin.append_ #[t, t] ty #[.slice A l.length cap, .slice (some ⟨g, 0, none⟩) 1 1]).run Tryz.prog w = .ok (.slice A2 (l ++ [c]).length cap2) w' ∧ EOwn w' B A2 cap2 (l ++ [c]) ∧ w.grownBy w' (rowOf A) ∧ (rowOf A2 = rowOf A ∨ rowOf A2 = some w.heap.size) := by
  obtain ⟨i, hi, hz0, hz1, hz2⟩ := info_parts infoE
  have hlen : (l ++ [c]).length = l.length + 1 := by simp
  have hcells : ∀ j u, ([edV c] : List Value)[j]? = some u → w.cell? ((⟨g, 0, none⟩ : Addr).add j) = some u := by
    intro j u hu
    have hj : j < 1 := by simpa using (List.getElem?_eq_some_iff.1 hu).1
    obtain rfl : j = 0 := by omega
    rw [add_pl]
    simp at hu
    subst hu
    exact hc
  obtain ⟨v', w', hrun, h2, h3, _, h5⟩ := run_append_own_at (P := Tryz.prog) w B t ty 74 i _ 1 16 ht hi hz0 hz1 hz2 rfl (by omega) (.slice A l.length cap) l.length (l.map edV) hown ⟨g, 0, none⟩ 1 1 [edV c] rfl hcells (fun u hu => by simp at hu; subst hu; exact editV_one _ _ _ _ _)
    (by simp only [maxLen]; omega) (by omega) hB
  have hv : ∃ A2 cap2, v' = .slice A2 (l.length + 1) cap2 := by
    rcases h2.2 with ⟨e, e'⟩ | ⟨g, cap', cur, e, _⟩
    · exact ⟨none, 0, by rw [e, e']⟩
    · exact ⟨_, _, e⟩
  obtain ⟨A2, cap2, rfl⟩ := hv
  refine ⟨A2, cap2, w', by rw [hlen]; exact hrun, ?_, by rw [← rowOf_own A l.length cap]; exact h3, ?_⟩
  · unfold EOwn
    rw [hlen, List.map_append]
    exact h2
  · rw [rowOf_own, rowOf_own] at h5
    exact h5
theorem wp_appE {w : World} {o : Oper} {a : Act} {K : Act → World → Prop} {Q : Exit → Act → World → Prop} (s x : Operand)
    (ho : o.op = .call { callee := .builtin .append, args := #[s, x], argTypes := #[t, t] })
    {B g : Nat} {A : Option Addr} {cap n : Nat} {l : List Ch} {c : Ch} (hs : a.eval s = .slice A n cap) (hx : a.eval x = .slice (some ⟨g, 0, none⟩) 1 1) (hn : n = l.length)
    (hown : EOwn w B A cap l) (hc : w.cell? ⟨g, 0, none⟩ = some (edV c)) (hB : B ≤ w.heap.size) (hb : l.length ≤ 3000000)
    (h : ∀ A2 cap2 w', EOwn w' B A2 cap2 (l ++ [c]) → w.grownBy w' (rowOf A) → (rowOf A2 = rowOf A ∨ rowOf A2 = some w.heap.size) → K (a.put o.dst (.slice A2 (l ++ [c]).length cap2)) w') : o.wp Tryz.prog a w K Q := by
  subst hn
  obtain ⟨A2, cap2, w', hrun, h2, h3, h4⟩ := run_appE t o.type ht hown hc hB hb
  unfold Oper.wp execOp
  simp only [ho, resolve, invoke, builtin, Sem.run_bind, Sem.run_pure, Result.andThen_ok, List.map_toArray, List.map_cons, List.map_nil, hs, hx, hrun]
  exact h A2 cap2 w' h2 h3 h4
theorem wpList_appE {w : World} {ops : Array Oper} {rest : List Oper} {o : Oper} {a : Act} {Q : Exit → Act → World → Prop} (hgd : o.guard = none) (s x : Operand)
    (ho : o.op = .call { callee := .builtin .append, args := #[s, x], argTypes := #[t, t] })
    {B g : Nat} {A : Option Addr} {cap n : Nat} {l : List Ch} {c : Ch} (hs : a.eval s = .slice A n cap) (hx : a.eval x = .slice (some ⟨g, 0, none⟩) 1 1) (hn : n = l.length)
    (hown : EOwn w B A cap l) (hc : w.cell? ⟨g, 0, none⟩ = some (edV c)) (hB : B ≤ w.heap.size) (hb : l.length ≤ 3000000)
    (h : ∀ A2 cap2 w', EOwn w' B A2 cap2 (l ++ [c]) → w.grownBy w' (rowOf A) → (rowOf A2 = rowOf A ∨ rowOf A2 = some w.heap.size) → wpList Tryz.prog ops Q rest (a.put o.dst (.slice A2 (l ++ [c]).length cap2)) w') : wpList Tryz.prog ops Q (o :: rest) a w :=
  wpList_plain hgd fun _ hK => wp_appE t ht s x ho hs hx hn hown hc hB hb fun A2 cap2 w' h2 h3 h4 => hK _ _ (h A2 cap2 w' h2 h3 h4)
theorem step_appE {w : World} {ops : Array Oper} {o : Oper} {a : Act} {K : Act → World → Prop} {Q : Exit → Act → World → Prop} {E : Prop} (hgd : o.guard = none) (s x : Operand)
    (ho : o.op = .call { callee := .builtin .append, args := #[s, x], argTypes := #[t, t] })
    {B g : Nat} {A : Option Addr} {cap n : Nat} {l : List Ch} {c : Ch} (hs : a.eval s = .slice A n cap) (hx : a.eval x = .slice (some ⟨g, 0, none⟩) 1 1) (hn : n = l.length)
    (hown : EOwn w B A cap l) (hc : w.cell? ⟨g, 0, none⟩ = some (edV c)) (hB : B ≤ w.heap.size) (hb : l.length ≤ 3000000)
    (h : ∀ A2 cap2 w', EOwn w' B A2 cap2 (l ++ [c]) → w.grownBy w' (rowOf A) → (rowOf A2 = rowOf A ∨ rowOf A2 = some w.heap.size) → K (a.put o.dst (.slice A2 (l ++ [c]).length cap2)) w') :
    if Region.wanted o (yielded ops a.tmps) = true then Oper.wp Tryz.prog o a w K Q else E := by
  have hw : Region.wanted o (yielded ops a.tmps) = true := by simp [Region.wanted, hgd]
  rw [if_pos hw]
  exact wp_appE t ht s x ho hs hx hn hown hc hB hb h
end
end Go.Proofs.YtaofemdhgfejjaaGreatDoor
/-
  What Inverse answers, in the reference and in the program.
-/
namespace Go.Proofs.YtaofemdhgfejjaaGreatDoor
open Go.RowKit

/-- a change, turned round -/
def invC (c : Ch) : Ch := (c.1, c.2.2.1, c.2.1, c.2.2.2.2, c.2.2.2.1)
theorem invC_c {c : Ch} (h : cC c) : cC (invC c) := ⟨h.1, h.2.2, h.2.1⟩
def invL (l : List Ch) : List Ch := l.map invC
theorem invL_len (l : List Ch) : (invL l).length = l.length := by simp [invL]
theorem inv_step (l : List Ch) (k : Nat) (h : k < l.length) : invL (l.take k) ++ [invC l[k]] = invL (l.take (k + 1)) := by unfold invL; rw [List.take_succ_eq_append_getElem h, List.map_append]; rfl

end Go.Proofs.YtaofemdhgfejjaaGreatDoor
/-
  What leads from one right map to another one does, and back. Plain mathematics.
-/
namespace Go.Proofs.YtaofemdhgfejjaaGreatDoor
open Go.RowKit

theorem invL_get (l : List Ch) (i : Nat) (h : i < (invL l).length) : (invL l)[i] = invC (l[i]'(by rw [invL_len] at h; exact h)) := by simp [invL]
theorem inv_mem {l : List Ch} {c : Ch} (h : c ∈ l) : invC c ∈ invL l := List.mem_map.2 ⟨c, h, rfl⟩
theorem inv_mem' {l : List Ch} {c : Ch} (h : c ∈ invL l) : ∃ d ∈ l, c.1 = d.1 := by
  obtain ⟨d, hd, rfl⟩ := List.mem_map.1 h
  exact ⟨d, hd, rfl⟩
theorem invL_invL (l : List Ch) : invL (invL l) = l := by
  unfold invL
  rw [List.map_map]
  have : invC ∘ invC = id := rfl
  rw [this, List.map_id]
/-- the change of a key, by what both maps tell of it -/
def chF (k : ByteArray) (x y : Option ByteArray) : Ch := (k, x.getD ByteArray.empty, y.getD ByteArray.empty, x.isSome, y.isSome)
/-- D tells each key that is unlike in both, once, by rising keys -/
def Char (A B : List Pr) (D : List Ch) : Prop :=
  (∀ c ∈ D, c = chF c.1 (lk A c.1) (lk B c.1) ∧ lk A c.1 ≠ lk B c.1) ∧ (∀ k, lk A k ≠ lk B k → chF k (lk A k) (lk B k) ∈ D) ∧ D.Pairwise fun a b => ltB a.1 b.1 = true
theorem none_of {A : List Pr} {h : ByteArray} (h1 : ∀ k, lk A k ≠ none → ltB h k = true) : lk A h = none := by
  cases e : lk A h with
  | none => rfl
  | some v =>
    have := h1 h (by rw [e]; simp)
    rw [ltB_irrefl] at this
    cases this
theorem char_gt {A B : List Pr} {D : List Ch} {h : ByteArray} (h1 : ∀ k, lk A k ≠ none → ltB h k = true) (h2 : ∀ k, lk B k ≠ none → ltB h k = true) (H : Char A B D) : ∀ c ∈ D, ltB h c.1 = true := by
  intro c hc
  obtain ⟨_, hne⟩ := H.1 c hc
  cases e : lk A c.1 with
  | none =>
    refine h2 _ fun e2 => hne ?_
    rw [e, e2]
  | some v => exact h1 _ (by rw [e]; simp)
theorem char_yes {A B A' B' : List Pr} {D : List Ch} {h : ByteArray} {x y : Option ByteArray} (hA : ∀ k, lk A k = if k = h then x else lk A' k) (hB : ∀ k, lk B k = if k = h then y else lk B' k)
    (h1 : ∀ k, lk A' k ≠ none → ltB h k = true) (h2 : ∀ k, lk B' k ≠ none → ltB h k = true) (xy : x ≠ y) (H : Char A' B' D) : Char A B (chF h x y :: D) := by
  have hg := char_gt h1 h2 H
  refine ⟨fun c hc => ?_, fun k hk => ?_, List.pairwise_cons.2 ⟨hg, H.2.2⟩⟩
  · rcases List.mem_cons.1 hc with rfl | hc
    · have e : (chF h x y).1 = h := rfl
      rw [e, hA, hB, if_pos rfl, if_pos rfl]
      exact ⟨rfl, xy⟩
    · have hne : c.1 ≠ h := fun e => by have := hg c hc; rw [e, ltB_irrefl] at this; cases this
      rw [hA, hB, if_neg hne, if_neg hne]
      exact H.1 c hc
  · rw [hA, hB] at hk ⊢
    by_cases e : k = h
    · subst e
      rw [if_pos rfl, if_pos rfl]
      exact List.mem_cons_self ..
    · rw [if_neg e, if_neg e] at hk ⊢
      exact List.mem_cons_of_mem _ (H.2.1 k hk)
theorem char_no {A B A' B' : List Pr} {D : List Ch} {h : ByteArray} {x : Option ByteArray} (hA : ∀ k, lk A k = if k = h then x else lk A' k) (hB : ∀ k, lk B k = if k = h then x else lk B' k)
    (h1 : ∀ k, lk A' k ≠ none → ltB h k = true) (h2 : ∀ k, lk B' k ≠ none → ltB h k = true) (H : Char A' B' D) : Char A B D := by
  have hg := char_gt h1 h2 H
  refine ⟨fun c hc => ?_, fun k hk => ?_, H.2.2⟩
  · have hne : c.1 ≠ h := fun e => by have := hg c hc; rw [e, ltB_irrefl] at this; cases this
    rw [hA, hB, if_neg hne, if_neg hne]
    exact H.1 c hc
  · rw [hA, hB] at hk ⊢
    by_cases e : k = h
    · rw [if_pos e, if_pos e] at hk
      exact absurd rfl hk
    · rw [if_neg e, if_neg e] at hk ⊢
      exact H.2.1 k hk
theorem lk_cons {p : Pr} {a : List Pr} (h : Ris (p :: a)) (k : ByteArray) : lk (p :: a) k = if k = p.1 then some p.2 else lk a k := by
  have ha : Ris a := (List.pairwise_cons.1 h).2
  apply Option.ext
  intro v
  rw [lk_some h]
  by_cases e : k = p.1
  · subst e
    rw [if_pos rfl]
    constructor
    · intro x
      rw [h.key x (show (p.1, p.2) ∈ p :: a from List.mem_cons_self ..)]
    · intro x
      injection x with x
      rw [← x]
      exact List.mem_cons_self ..
  · rw [if_neg e, lk_some ha]
    constructor
    · intro x
      rcases List.mem_cons.1 x with x | x
      · exact absurd (congrArg Prod.fst x) e
      · exact x
    · intro x; exact List.mem_cons_of_mem _ x
theorem lk_gt {p : Pr} {a : List Pr} (h : Ris (p :: a)) : ∀ k, lk a k ≠ none → ltB p.1 k = true := by
  intro k hk
  have ha : Ris a := (List.pairwise_cons.1 h).2
  cases e : lk a k with
  | none => exact absurd e hk
  | some v => exact (List.pairwise_cons.1 h).1 (k, v) ((lk_some ha).1 e)
theorem lk_below {h : ByteArray} {b : List Pr} (hb : ∀ k, lk b k ≠ none → ltB h k = true) (k : ByteArray) : lk b k = if k = h then none else lk b k := by
  by_cases e : k = h
  · rw [if_pos e, e]; exact none_of hb
  · rw [if_neg e]
theorem lk_gt2 {p q : Pr} {b : List Pr} (h : Ris (q :: b)) (hlt : ltB p.1 q.1 = true) : ∀ k, lk (q :: b) k ≠ none → ltB p.1 k = true := by
  intro k hk
  rw [lk_cons h] at hk
  by_cases e : k = q.1
  · rw [e]; exact hlt
  · rw [if_neg e] at hk
    exact ltB_trans hlt (lk_gt h k hk)
theorem lk_nil_gt (h : ByteArray) : ∀ k, lk [] k ≠ none → ltB h k = true := fun k hk => absurd (lk_nil k) hk
theorem lk_nil_if (h k : ByteArray) : lk [] k = if k = h then none else lk [] k := by rw [lk_nil]; split <;> rfl
theorem dif_char : ∀ (n : Nat) (a b : List Pr), a.length + b.length ≤ n → Ris a → Ris b → Char a b (difM a b)
  | n, [], [], _, _, _ => by rw [difM_nil]; exact ⟨fun c h => absurd h (by simp), fun k h => absurd rfl h, List.Pairwise.nil⟩
  | n, p :: a, [], hn, ha, hb => by
    rw [difM_a]
    exact char_yes (h := p.1) (x := some p.2) (y := none) (lk_cons ha) (lk_nil_if p.1) (lk_gt ha) (lk_nil_gt _) (by simp) (dif_char (n - 1) a [] (by simp at hn ⊢; omega) (List.pairwise_cons.1 ha).2 hb)
  | n, [], q :: b, hn, ha, hb => by
    rw [difM_b]
    exact char_yes (h := q.1) (x := none) (y := some q.2) (lk_nil_if q.1) (lk_cons hb) (lk_nil_gt _) (lk_gt hb) (by simp) (dif_char (n - 1) [] b (by simp at hn ⊢; omega) ha (List.pairwise_cons.1 hb).2)
  | n, p :: a, q :: b, hn, ha, hb => by
    have ha' := (List.pairwise_cons.1 ha).2
    have hb' := (List.pairwise_cons.1 hb).2
    rcases ltB_tri p.1 q.1 with g | g | g
    · rw [difM_lt g]
      exact char_yes (h := p.1) (x := some p.2) (y := none) (lk_cons ha) (lk_below (lk_gt2 hb g)) (lk_gt ha) (lk_gt2 hb g) (by simp) (dif_char (n - 1) a (q :: b) (by simp at hn ⊢; omega) ha' hb)
    · by_cases g' : p.2 = q.2
      · rw [difM_same g g']
        refine char_no (h := p.1) (x := some p.2) (lk_cons ha) ?_ (lk_gt ha) ?_ (dif_char (n - 1) a b (by simp at hn ⊢; omega) ha' hb')
        · rw [g, g']; exact lk_cons hb
        · rw [g]; exact lk_gt hb
      · rw [difM_turn g g']
        have := char_yes (A := p :: a) (B := q :: b) (A' := a) (B' := b) (h := q.1) (x := some p.2) (y := some q.2) (by rw [← g]; exact lk_cons ha) (lk_cons hb) (by rw [← g]; exact lk_gt ha) (lk_gt hb) (by simpa using g') (dif_char (n - 1) a b (by simp at hn ⊢; omega) ha' hb')
        exact this
    · rw [difM_gt g]
      exact char_yes (h := q.1) (x := none) (y := some q.2) (lk_below (lk_gt2 ha g)) (lk_cons hb) (lk_gt2 ha g) (lk_gt hb) (by simp) (dif_char (n - 1) (p :: a) b (by simp at hn ⊢; omega) ha hb')
termination_by _ a b => a.length + b.length
theorem dif_inv : ∀ (n : Nat) (a b : List Pr), a.length + b.length ≤ n → invL (difM a b) = difM b a
  | n, [], [], _ => by rw [difM_nil]; rfl
  | n, p :: a, [], hn => by rw [difM_a, difM_b, ← dif_inv (n - 1) a [] (by simp at hn ⊢; omega)]; rfl
  | n, [], q :: b, hn => by rw [difM_b, difM_a, ← dif_inv (n - 1) [] b (by simp at hn ⊢; omega)]; rfl
  | n, p :: a, q :: b, hn => by
    rcases ltB_tri p.1 q.1 with g | g | g
    · rw [difM_lt g, difM_gt g, ← dif_inv (n - 1) a (q :: b) (by simp at hn ⊢; omega)]; rfl
    · by_cases g' : p.2 = q.2
      · rw [difM_same g g', difM_same g.symm g'.symm, ← dif_inv (n - 1) a b (by simp at hn ⊢; omega)]
      · rw [difM_turn g g', difM_turn g.symm (fun e => g' e.symm), ← dif_inv (n - 1) a b (by simp at hn ⊢; omega)]
        show (q.1, q.2, p.2, true, true) :: invL (difM a b) = _
        unfold turnC
        rw [g]
    · rw [difM_gt g, difM_lt g, ← dif_inv (n - 1) (p :: a) b (by simp at hn ⊢; omega)]; rfl
termination_by _ a b => a.length + b.length
theorem ris_cp {l : List Ch} (h : l.Pairwise fun a b => ltB a.1 b.1 = true) : risesTo (cp l) (cp l).length :=
  rise_cp.2 fun i hi => List.pairwise_iff_getElem.1 h i (i + 1) (by omega) hi (by omega)
/-- what is done to a key stays -/
theorem lk_app_mem {m : List Pr} {l : List Ch} (hm : Ris m) (hr : risesTo (cp l) (cp l).length) : ∀ c ∈ l, lk (appM m l) c.1 = if c.2.2.2.2 = true then some c.2.2.1 else none := by
  intro c hc
  obtain ⟨i, hi, rfl⟩ := List.mem_iff_getElem.1 hc
  have e : l = l.take (i + 1) ++ l.drop (i + 1) := (List.take_append_drop _ _).symm
  have e2 : appM m l = appM (appM m (l.take (i + 1))) (l.drop (i + 1)) := by
    unfold appM
    rw [← List.foldl_append, List.take_append_drop]
  rw [e2, lk_app_other _ (ris_app _ hm), appM_succ _ _ _ hi, lk_step (ris_app _ hm), if_pos rfl]
  intro d hd
  obtain ⟨j, hj, rfl⟩ := List.mem_iff_getElem.1 hd
  rw [List.length_drop] at hj
  rw [List.getElem_drop]
  exact (ne_of_lt (ch_lt hr (by omega) (show i < i + 1 + j by omega))).symm
theorem lk_val_ok {m : List Pr} (h : mapB m = true) (k : ByteArray) : valB (valOf m k) = true := by
  cases hh : hasB m k
  · rw [valOf_no hh]
    exact okB_yes (by simp) (by simp) (fun j hj _ => absurd hj (by simp))
  · obtain ⟨hlt, he⟩ := hasB_iff.1 hh
    rw [valOf_yes hlt he]
    exact ((mapB_all.1 h).2.1 _ (List.getElem_mem hlt)).2
theorem lk_key_ok {m : List Pr} (h : mapB m = true) {k : ByteArray} (hh : hasB m k = true) : keyB k = true := by
  obtain ⟨hlt, he⟩ := hasB_iff.1 hh
  rw [← he]
  exact ((mapB_all.1 h).2.1 _ (List.getElem_mem hlt)).1
theorem dif_fit {a b : List Pr} (ha : mapB a = true) (hb : mapB b = true) : ∀ c ∈ difM a b, fitB a c = true := by
  intro c hc
  obtain ⟨e, hne⟩ := (dif_char _ a b (Nat.le_refl _) (mapB_ris ha) (mapB_ris hb)).1 c hc
  have e1 : c.2.1 = valOf a c.1 := by rw [lk_val]; exact congrArg (fun z : Ch => z.2.1) e
  have e2 : c.2.2.1 = valOf b c.1 := by rw [lk_val]; exact congrArg (fun z : Ch => z.2.2.1) e
  have e3 : c.2.2.2.1 = hasB a c.1 := by rw [lk_has]; exact congrArg (fun z : Ch => z.2.2.2.1) e
  have e4 : c.2.2.2.2 = hasB b c.1 := by rw [lk_has]; exact congrArg (fun z : Ch => z.2.2.2.2) e
  refine fitB_iff.2 ⟨?_, by rw [e2]; exact lk_val_ok hb _, e3.symm, e1.symm, ?_⟩
  · cases h1 : hasB a c.1
    · cases h2 : hasB b c.1
      · exact absurd (by rw [lk_no h1, lk_no h2]) hne
      · exact lk_key_ok hb h2
    · exact lk_key_ok ha h1
  · cases h2 : hasB b c.1
    · right; rw [e2, valOf_no h2]
    · left; rw [e4, h2]
theorem dif_app {a b : List Pr} (ha : mapB a = true) (hb : mapB b = true) : appM a (difM a b) = b := by
  have hc := dif_char _ a b (Nat.le_refl _) (mapB_ris ha) (mapB_ris hb)
  have hr := ris_cp hc.2.2
  refine ext_lk (ris_app _ (mapB_ris ha)) (mapB_ris hb) fun k => ?_
  by_cases e : lk a k = lk b k
  · rw [lk_app_other _ (mapB_ris ha), e]
    intro c h1 h2
    obtain ⟨_, hne⟩ := hc.1 c h1
    rw [h2] at hne
    exact hne e
  · have h1 := lk_app_mem (mapB_ris ha) hr _ (hc.2.1 k e)
    have e1 : (chF k (lk a k) (lk b k)).1 = k := rfl
    rw [e1] at h1
    rw [h1]
    show (if (lk b k).isSome = true then some ((lk b k).getD ByteArray.empty) else none) = lk b k
    cases lk b k <;> rfl
theorem dif_ok {a b : List Pr} (ha : mapB a = true) (hb : mapB b = true) : appB a (difM a b) = true :=
  appB_all ha (ris_cp (dif_char _ a b (Nat.le_refl _) (mapB_ris ha) (mapB_ris hb)).2.2) (fun i hi => dif_fit ha hb _ (List.getElem_mem hi)) (by rw [dif_app ha hb]; exact hb)
theorem dif_appL {a b : List Pr} (ha : mapB a = true) (hb : mapB b = true) : appL a (difM a b) = b := by rw [appL_yes (dif_ok ha hb), dif_app ha hb]
theorem dif_self {a : List Pr} (ha : mapB a = true) : difM a a = [] := by
  have hc := dif_char _ a a (Nat.le_refl _) (mapB_ris ha) (mapB_ris ha)
  cases e : difM a a with
  | nil => rfl
  | cons c r => rw [e] at hc; exact absurd rfl (hc.1 c (List.mem_cons_self ..)).2
/-- changes that are done can be undone -/
theorem inv_fit {m : List Pr} {l : List Ch} (h : appB m l = true) : ∀ c ∈ l, lk (appM m l) c.1 = (if c.2.2.2.2 = true then some c.2.2.1 else none) ∧ lk m c.1 = (if c.2.2.2.1 = true then some c.2.1 else none) ∧ fitB (appM m l) (c.1, c.2.2.1, c.2.1, c.2.2.2.2, c.2.2.2.1) = true := by
  intro c hc
  obtain ⟨hm, ha, he⟩ := appB_iff.1 h
  have hr := rise_cp.2 fun i hi => ha.2 i hi hi
  have h1 := lk_app_mem (mapB_ris hm) hr c hc
  obtain ⟨i, hi, rfl⟩ := List.mem_iff_getElem.1 hc
  have hf := ha.1 i hi hi
  rw [fit_take (mapB_ris hm) hr hi] at hf
  obtain ⟨f1, f2, f3, f4, f5⟩ := fitB_iff.1 hf
  have h2 : lk m l[i].1 = (if l[i].2.2.2.1 = true then some l[i].2.1 else none) := by
    unfold lk
    rw [f3, f4]
  refine ⟨h1, h2, fitB_iff.2 ⟨f1, by rw [← f4]; exact lk_val_ok hm _, ?_, ?_, ?_⟩⟩
  · show hasB (appM m l) l[i].1 = l[i].2.2.2.2
    rw [lk_has, h1]
    cases l[i].2.2.2.2 <;> rfl
  · show valOf (appM m l) l[i].1 = l[i].2.2.1
    rw [lk_val, h1]
    rcases f5 with g | g
    · rw [g]; rfl
    · rw [g]; split <;> rfl
  · show l[i].2.2.2.1 = true ∨ l[i].2.1 = ByteArray.empty
    cases g : l[i].2.2.2.1
    · right; rw [← f4, valOf_no (by rw [f3, g])]
    · exact .inl rfl
theorem cp_inv (l : List Ch) : (∀ i (h : i + 1 < l.length), ltB l[i].1 l[i + 1].1 = true) → risesTo (cp (invL l)) (cp (invL l)).length := by
  intro h
  refine rise_cp.2 fun i hi => ?_
  rw [invL_len] at hi
  rw [invL_get, invL_get]
  exact h i hi
theorem inv_app {m : List Pr} {l : List Ch} (h : appB m l = true) : appM (appM m l) (invL l) = m := by
  obtain ⟨hm, ha, he⟩ := appB_iff.1 h
  have hr := cp_inv l fun i hi => ha.2 i hi hi
  refine ext_lk (ris_app _ (ris_app _ (mapB_ris hm))) (mapB_ris hm) fun k => ?_
  by_cases e : ∃ c ∈ l, c.1 = k
  · obtain ⟨c, hc, rfl⟩ := e
    obtain ⟨_, h2, _⟩ := inv_fit h c hc
    have h3 := lk_app_mem (ris_app l (mapB_ris hm)) hr _ (inv_mem hc)
    rw [h2]
    exact h3
  · have hne : ∀ c ∈ l, c.1 ≠ k := fun c hc x => e ⟨c, hc, x⟩
    rw [lk_app_other (invL l) (ris_app _ (mapB_ris hm)) (fun c hc => by obtain ⟨d, hd, e⟩ := inv_mem' hc; rw [e]; exact hne d hd), lk_app_other l (mapB_ris hm) hne]
theorem inv_ok {m : List Pr} {l : List Ch} (h : appB m l = true) : appB (appM m l) (invL l) = true := by
  obtain ⟨hm, ha, he⟩ := appB_iff.1 h
  refine appB_all he (cp_inv l fun i hi => ha.2 i hi hi) (fun i hi => ?_) (by rw [inv_app h]; exact hm)
  rw [invL_len] at hi
  rw [invL_get]
  exact (inv_fit h _ (List.getElem_mem hi)).2.2
theorem inv_appL {m : List Pr} {l : List Ch} (h : appB m l = true) : appL (appL m l) (invL l) = m := by rw [appL_yes h, appL_yes (inv_ok h), inv_app h]
/-- what leads on cannot be done twice -/
theorem dif_again {m n : List Pr} (hm : mapB m = true) (hn : mapB n = true) (h : ¬ difM m n = []) : appB n (difM m n) = false := by
  have hc := dif_char _ m n (Nat.le_refl _) (mapB_ris hm) (mapB_ris hn)
  have hl : 0 < (difM m n).length := by
    rcases Nat.eq_zero_or_pos (difM m n).length with g | g
    · exact absurd (List.eq_nil_of_length_eq_zero g) h
    · exact g
  refine appB_fit0 hn (ris_cp hc.2.2) hl ?_
  cases e : fitB n (difM m n)[0]
  · rfl
  · obtain ⟨_, _, f3, f4, _⟩ := fitB_iff.1 e
    obtain ⟨e0, hne⟩ := hc.1 _ (List.getElem_mem hl)
    have e1 : (difM m n)[0].2.1 = valOf m (difM m n)[0].1 := by rw [lk_val]; exact congrArg (fun z : Ch => z.2.1) e0
    have e3 : (difM m n)[0].2.2.2.1 = hasB m (difM m n)[0].1 := by rw [lk_has]; exact congrArg (fun z : Ch => z.2.2.2.1) e0
    exact absurd (lk_eq.2 ⟨by rw [f3, e3], by rw [f4, e1]⟩).symm hne
theorem app_none {m : List Pr} : appB m [] = mapB m := by
  cases h : mapB m
  · exact appB_map h
  · exact appB_iff.2 ⟨h, appsTo_zero m [], h⟩
theorem appL_none {m : List Pr} (h : mapB m = true) : appL m [] = m := by rw [appL_yes (by rw [app_none]; exact h)]; rfl
end Go.Proofs.YtaofemdhgfejjaaGreatDoor
