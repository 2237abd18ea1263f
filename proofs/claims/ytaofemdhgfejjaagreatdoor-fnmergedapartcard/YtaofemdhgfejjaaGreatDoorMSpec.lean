/-
  What spec's l7Keys and l7One answer.
-/
import Derived.Test.YtaofemdhgfejjaaGreatDoorMTak
import Derived.Test.YtaofemdhgfejjaaGreatDoorCPutX
import Derived.Test.YtaofemdhgfejjaaGreatDoorPGet
import Derived.Test.YtaofemdhgfejjaaGreatDoorPDropI
namespace Go.Proofs.YtaofemdhgfejjaaGreatDoor
open Go.RowKit

/-- a row of texts of the call's own comes back -/
def RetZ (B : Nat) (l : List ByteArray) (w : World) (e : Ending) (w' : World) : Prop := ∃ A cap, e = .returned (.slice A l.length cap) ∧ ZOwn w' B A cap l ∧ Below B w w'
theorem ZOwn.apart {w w' : World} {B : Nat} {A A' : Option Addr} {cap : Nat} {l : List ByteArray} (h : ZOwn w B A cap l) (hg : w.grownBy w' (rowOf A')) (hne : ∀ g, rowOf A = some g → rowOf A' ≠ some g) : ZOwn w' B A cap l := by
  refine World.ownsRow.kept h hg ?_
  rw [rowOf_own]
  cases e : rowOf A with
  | none => exact .inl rfl
  | some g => exact .inr (fun x => hne g e x.symm)
theorem keysM_take (l : List Pr) (k : Nat) (h : k < l.length) : keysM (l.take (k + 1)) = putK (keysM (l.take k)) l[k].1 := by
  unfold keysM
  rw [List.take_succ_eq_append_getElem h, List.foldl_append]
  rfl
theorem keysM_le (l : List Pr) (k : Nat) : (keysM (l.take k)).length ≤ l.length := by
  have := keysM_len (l.take k) []
  rw [List.length_take] at this
  unfold keysM
  simp only [List.length_nil] at this
  omega

set_option maxRecDepth 100000 in
set_option maxHeartbeats 2000000 in
theorem l7Keys_any (A0 A1 A2 : Option Addr) (l0 l1 l2 : List Pr) (c0 c1 c2 : Nat) (w : World) (h0 : l0.length ≤ 200) (h1 : l1.length ≤ 200) (h2 : l2.length ≤ 200) (i0 : PIn w w.heap.size A0 l0) (i1 : PIn w w.heap.size A1 l1) (i2 : PIn w w.heap.size A2 l2) :
    Calls Tryz.prog 57 #[.slice A0 l0.length c0, .slice A1 l1.length c1, .slice A2 l2.length c2] w (RetZ w.heap.size (merK l0 l1 l2) w) := by
  have OZ := hide (ZOwn.built w w.heap.size (Nat.le_refl _))
  have BZ := hide ((Below.refl w.heap.size w).alloc (Nat.le_refl _) (.cells #[] 9))
  have OP0 : Hid (Own ((w.alloc (.cells #[] 9)).alloc (.cells #[] 60)) w.heap.size (some ⟨w.heap.size + 1, 0, none⟩) 0 []) := hide (by have := Own.built (w.alloc (.cells #[] 9)) w.heap.size BZ.out.size; simpa using this)
  have B1 := hide (BZ.out.alloc BZ.out.size (.cells #[] 60))
  have Z1 := hide (OZ.out.alloc (.cells #[] 60))
  have I0 := hide i0
  have I1 := hide i1
  have I2 := hide i2
  have ZS : Hid (w.heap.size < (w.alloc (.cells #[] 9)).heap.size) := hide (by simp)
  clear i0 i1 i2 OZ BZ
  generalize hn0 : l0.length = n0 at *
  generalize hn1 : l1.length = n1 at *
  generalize hn2 : l2.length = n2 at *
  have N0 := hide hn0
  have N1 := hide hn1
  have N2 := hide hn2
  clear hn0 hn1 hn2
  go_enter Tryz.func57, Tryz.ntmps57
  go_wp2_with (first
    | (at_builtin; refine wpList_app 24 Tryz.underlying24 rfl (.tmp 11) (.tmp 12) rfl rfl rfl rfl N0.out.symm OP0.out (I0.out.below B1.out) B1.out.size (by rw [N0.out]; simp; omega) ?_; intro A3 cap3 w3 own3 g3 r3; have b3 := OP0.out.grownBelow (by rw [rowOf_own]; exact g3) B1.out.size; have B3 := hide (B1.out.trans b3); have O3 := hide own3; clear own3)
    | (at_builtin; refine wpList_app 24 Tryz.underlying24 rfl (.tmp 13) (.tmp 14) rfl rfl rfl (by simp) N1.out.symm O3.out (I1.out.below B3.out) B3.out.size (by rw [List.length_append, N0.out, N1.out]; simp; omega) ?_; intro A4 cap4 w4 own4 g4 r4; have b4 := O3.out.grownBelow (by rw [rowOf_own]; exact g4) B3.out.size; have B4 := hide (B3.out.trans b4); have O4 := hide own4; clear own4)
    | (at_builtin; refine wpList_app 24 Tryz.underlying24 rfl (.tmp 15) (.tmp 16) rfl rfl rfl (by simp) N2.out.symm O4.out (I2.out.below B4.out) B4.out.size (by rw [List.length_append, List.length_append, N0.out, N1.out, N2.out]; simp; omega) ?_; intro A5 cap5 w5 own5 g5 r5; have b5 := O4.out.grownBelow (by rw [rowOf_own]; exact g5) B4.out.size; have B5 := hide (B4.out.trans b5); have O5 := hide own5; clear own5))
  have E : Hid (([] ++ l0 ++ l1) ++ l2 = l0 ++ l1 ++ l2) := hide (by simp)
  have z3 : w.heap.size + 2 ≤ w3.heap.size := by have := b3.size; simpa using this
  have z4 := b4.size
  have ne1 : ∀ g, rowOf (some (⟨w.heap.size, 0, none⟩ : Addr)) = some g → rowOf (some (⟨w.heap.size + 1, 0, none⟩ : Addr)) ≠ some g := fun g h x => by simp [rowOf] at h x; omega
  have ne3 : ∀ g, rowOf (some (⟨w.heap.size, 0, none⟩ : Addr)) = some g → rowOf A3 ≠ some g := fun g h x => by
    rcases r3 with e | e
    · rw [e] at x; exact ne1 g h x
    · rw [e] at x; simp [rowOf] at h x; omega
  have ne4 : ∀ g, rowOf (some (⟨w.heap.size, 0, none⟩ : Addr)) = some g → rowOf A4 ≠ some g := fun g h x => by
    rcases r4 with e | e
    · rw [e] at x; exact ne3 g h x
    · rw [e] at x; simp [rowOf] at h x; omega
  have Z5 := hide (((Z1.out.apart g3 ne1).apart g4 ne3).apart g5 ne4)
  have O6 := O5.out
  rw [E.out] at O6
  have OA := hide O6
  have NL : Hid (l0.length + (l1.length + l2.length) = (l0 ++ l1 ++ l2).length) := hide (by simp)
  have LN : (l0 ++ l1 ++ l2).length ≤ 600 := by simp only [List.length_append, N0.out, N1.out, N2.out]; omega
  rw [NL.out]
  have MK : Hid (merK l0 l1 l2 = keysM (l0 ++ l1 ++ l2)) := hide rfl
  clear Z1 g3 r3 b3 B3 O3 g4 r4 b4 B4 O4 g5 r5 b5 O5 O6 ne1 ne3 ne4 z3 z4 E OP0 B1 I0 I1 I2
  generalize l0 ++ l1 ++ l2 = la at *
  generalize hn : la.length = n at *
  have HN := hide hn
  clear hn NL N0 N1 N2
  go_loopw [7, 9] (fun ks i wr => ∃ (k : Nat) (A : Option Addr) (cap : Nat), k ≤ n ∧ i = .int .i64 k ∧ ks = .slice A (keysM (la.take k)).length cap ∧ Hid (ZOwn wr w.heap.size A cap (keysM (la.take k))) ∧ Hid (Own wr w.heap.size A5 cap5 la) ∧ Hid (Below w.heap.size w wr)) (fun _ i _ => n - (intOf i).toNat)
  case atStart => exact ⟨0, _, _, Nat.zero_le _, rfl, rfl, Z5, OA, B5⟩
  case round =>
    clear Z5 OA B5
    obtain ⟨k, A, cap, hk, rfl, rfl, Z, O, Q⟩ := hrel
    have KL : Hid ((keysM (la.take k)).length ≤ 600) := hide (by have := keysM_le la k; rw [HN.out] at this; omega)
    by_cases hlt : k < n
    · have hkl : k < la.length := by rw [HN.out]; omega
      have hin := O.out.pin
      obtain ⟨b, off, rfl, hbB, hc⟩ := hin.2 (by omega)
      obtain ⟨c1, _⟩ := hc k hkl
      have E2 := hide (keysM_take la k hkl)
      clear hc hin
      generalize (la[k]'hkl).1 = s at *
      generalize keysM (la.take k) = ks at *
      go_wp2_with fail
      refine (l1PutX_any A ks cap s _ w.heap.size (by have := KL.out; omega) Z.out Q.out.size).mono ?_
      rintro e w2 ⟨A2, cap2, rfl, z2, b2⟩
      have O2 := hide (O.out.below b2)
      have Q2 := hide (Q.out.trans (b2.mono Q.out.size))
      rw [← E2.out] at z2
      have Z2 := hide z2
      rw [← E2.out]
      clear z2 b2 O Q Z c1
      go_wp2
      go_roundw
      case rel => exact ⟨k + 1, A2, cap2, by omega, by go_num, rfl, Z2, O2, Q2⟩
      case measure => simp [intOf]; omega
    · obtain rfl : k = n := by omega
      have E3 : Hid (keysM (la.take k) = merK l0 l1 l2) := hide (by rw [List.take_of_length_le (by rw [HN.out]; exact Nat.le_refl _), MK.out])
      rw [E3.out] at Z ⊢
      go_wp2
      go_ret
      exact ⟨A, cap, rfl, Z.out, Q.out⟩

/-- what l7One answers -/
def oneV (o x y : Option ByteArray) : ByteArray := ((oneM o x y).getD none).getD ByteArray.empty
def oneH (o x y : Option ByteArray) : Bool := ((oneM o x y).getD none).isSome
def oneOk (o x y : Option ByteArray) : Bool := (oneM o x y).isSome
theorem ret_one {s s' : ByteArray} {a a' b b' : Bool} (h : s = s') (h1 : a = a') (h2 : b = b') : Ending.returned (.tuple #[.string s, .bool a, .bool b]) = .returned (.tuple #[.string s', .bool a', .bool b']) := by rw [h, h1, h2]
theorem two_ne {a b c : Bool} (h1 : ¬ b = a) (h2 : ¬ c = a) : b = c := by cases a <;> cases b <;> cases c <;> simp_all
theorem eqB_yes {a b : Bool} (h : a = b) : (a == b) = true := by simp [h]
theorem eqB_no {a b : Bool} (h : ¬ a = b) : (a == b) = false := by simp [h]

set_option maxRecDepth 100000 in
set_option maxHeartbeats 4000000 in
theorem l7One_any (A0 A1 A2 : Option Addr) (l0 l1 l2 : List Pr) (c0 c1 c2 : Nat) (key : ByteArray) (w : World) (B : Nat) (h0 : l0.length ≤ maxLen) (h1 : l1.length ≤ maxLen) (h2 : l2.length ≤ maxLen) (i0 : PIn w B A0 l0) (i1 : PIn w B A1 l1) (i2 : PIn w B A2 l2) :
    Calls Tryz.prog 58 #[.slice A0 l0.length c0, .slice A1 l1.length c1, .slice A2 l2.length c2, .string key] w fun e w' => e = .returned (.tuple #[.string (oneV (lk l0 key) (lk l1 key) (lk l2 key)), .bool (oneH (lk l0 key) (lk l1 key) (lk l2 key)), .bool (oneOk (lk l0 key) (lk l1 key) (lk l2 key))]) ∧ w = w' := by
  have R0 := hide (l1Get_any A0 l0 c0 key w B h0 i0)
  have R1 := hide (l1Get_any A1 l1 c1 key w B h1 i1)
  have R2 := hide (l1Get_any A2 l2 c2 key w B h2 i2)
  have Q1 : Hid (lk l1 key = lk l0 key ↔ hasB l1 key = hasB l0 key ∧ valOf l1 key = valOf l0 key) := hide lk_eq
  have Q2 : Hid (lk l2 key = lk l0 key ↔ hasB l2 key = hasB l0 key ∧ valOf l2 key = valOf l0 key) := hide lk_eq
  have Q3 : Hid (lk l1 key = lk l2 key ↔ hasB l1 key = hasB l2 key ∧ valOf l1 key = valOf l2 key) := hide lk_eq
  have V1 := hide (lk_val l1 key)
  have V2 := hide (lk_val l2 key)
  have U1 := hide (lk_has l1 key)
  have U2 := hide (lk_has l2 key)
  generalize hx0 : valOf l0 key = x0 at *
  generalize hx1 : valOf l1 key = x1 at *
  generalize hx2 : valOf l2 key = x2 at *
  generalize hb0 : hasB l0 key = b0 at *
  generalize hb1 : hasB l1 key = b1 at *
  generalize hb2 : hasB l2 key = b2 at *
  clear hx0 hx1 hx2 hb0 hb1 hb2 i0 i1 i2
  have YES1 : Hid (lk l1 key = lk l0 key → oneV (lk l0 key) (lk l1 key) (lk l2 key) = x2 ∧ oneH (lk l0 key) (lk l1 key) (lk l2 key) = b2 ∧ oneOk (lk l0 key) (lk l1 key) (lk l2 key) = true) := hide (fun e => by
    unfold oneV oneH oneOk oneM
    rw [if_pos e, V2.out, U2.out]
    exact ⟨rfl, rfl, rfl⟩)
  have YES2 : Hid (¬ lk l1 key = lk l0 key → (lk l2 key = lk l0 key ∨ lk l1 key = lk l2 key) → oneV (lk l0 key) (lk l1 key) (lk l2 key) = x1 ∧ oneH (lk l0 key) (lk l1 key) (lk l2 key) = b1 ∧ oneOk (lk l0 key) (lk l1 key) (lk l2 key) = true) := hide (fun e e2 => by
    unfold oneV oneH oneOk oneM
    rw [if_neg e, if_pos e2, V1.out, U1.out]
    exact ⟨rfl, rfl, rfl⟩)
  have NO : Hid (¬ lk l1 key = lk l0 key → ¬ (lk l2 key = lk l0 key ∨ lk l1 key = lk l2 key) → oneV (lk l0 key) (lk l1 key) (lk l2 key) = ByteArray.empty ∧ oneH (lk l0 key) (lk l1 key) (lk l2 key) = false ∧ oneOk (lk l0 key) (lk l1 key) (lk l2 key) = false) := hide (fun e e2 => by
    unfold oneV oneH oneOk oneM
    rw [if_neg e, if_neg e2]
    exact ⟨rfl, rfl, rfl⟩)
  generalize hr1 : oneV (lk l0 key) (lk l1 key) (lk l2 key) = r1 at *
  generalize hr2 : oneH (lk l0 key) (lk l1 key) (lk l2 key) = r2 at *
  generalize hr3 : oneOk (lk l0 key) (lk l1 key) (lk l2 key) = r3 at *
  clear hr1 hr2 hr3
  have GO : ∀ (FIN : Hid (∀ s a b, s = r1 ∧ a = r2 ∧ b = r3 → Ending.returned (.tuple #[.string s, .bool a, .bool b]) = .returned (.tuple #[.string r1, .bool r2, .bool r3]))), Calls Tryz.prog 58 #[.slice A0 l0.length c0, .slice A1 l1.length c1, .slice A2 l2.length c2, .string key] w fun e w' => e = .returned (.tuple #[.string r1, .bool r2, .bool r3]) ∧ w = w' := by
    intro FIN
    generalize l0.length = n0 at *
    generalize l1.length = n1 at *
    generalize l2.length = n2 at *
    go_enter Tryz.func58, Tryz.ntmps58
    go_wp2_with fail
    refine R0.out.mono ?_
    rintro e w' ⟨rfl, rfl⟩
    go_wp2_with fail
    refine R1.out.mono ?_
    rintro e w' ⟨rfl, rfl⟩
    go_wp2_with fail
    refine R2.out.mono ?_
    rintro e w' ⟨rfl, rfl⟩
    clear R0 R1 R2
    by_cases e1 : b1 = b0
    · have d1 := eqB_yes e1
      by_cases e2 : x1 = x0
      · have d2 := eqS_yes e2
        obtain ⟨f1, f2, f3⟩ := YES1.out (Q1.out.2 ⟨e1, e2⟩)
        have F := hide (FIN.out _ _ _ ⟨f1.symm, f2.symm, f3.symm⟩)
        clear e1 e2 f1 f2 f3 Q1 Q2 Q3 YES1 YES2 NO V1 V2 U1 U2
        go_wp2
        go_ret3
        exact ⟨F.out, rfl⟩
      · have d2 := eqS_no e2
        have N1 : Hid (¬ lk l1 key = lk l0 key) := hide (fun h => e2 (Q1.out.1 h).2)
        clear e2
        by_cases e3 : b2 = b0
        · have d3 := eqB_yes e3
          by_cases e4 : x2 = x0
          · have d4 := eqS_yes e4
            obtain ⟨f1, f2, f3⟩ := YES2.out N1.out (.inl (Q2.out.2 ⟨e3, e4⟩))
            have F := hide (FIN.out _ _ _ ⟨f1.symm, f2.symm, f3.symm⟩)
            clear e1 e3 e4 f1 f2 f3 Q1 Q2 Q3 YES1 YES2 NO V1 V2 U1 U2
            go_wp2
            go_ret3
            exact ⟨F.out, rfl⟩
          · have d4 := eqS_no e4
            have N2 : Hid (¬ lk l2 key = lk l0 key) := hide (fun h => e4 (Q2.out.1 h).2)
            clear e4
            have d5 := eqB_yes (e1.trans e3.symm)
            by_cases e6 : x1 = x2
            · have d6 := eqS_yes e6
              obtain ⟨f1, f2, f3⟩ := YES2.out N1.out (.inr (Q3.out.2 ⟨e1.trans e3.symm, e6⟩))
              have F := hide (FIN.out _ _ _ ⟨f1.symm, f2.symm, f3.symm⟩)
              clear e1 e3 e6 f1 f2 f3 Q1 Q2 Q3 YES1 YES2 NO V1 V2 U1 U2
              go_wp2
              go_ret3
              exact ⟨F.out, rfl⟩
            · have d6 := eqS_no e6
              obtain ⟨f1, f2, f3⟩ := NO.out N1.out (by rintro (h | h); exact N2.out h; exact e6 (Q3.out.1 h).2)
              have F := hide (FIN.out _ _ _ ⟨f1.symm, f2.symm, f3.symm⟩)
              clear e1 e3 e6 f1 f2 f3 Q1 Q2 Q3 YES1 YES2 NO V1 V2 U1 U2
              go_wp2
              go_ret3
              exact ⟨F.out, rfl⟩
        · have d3 := eqB_no e3
          have d5 := eqB_no (fun h : b1 = b2 => e3 (h.symm.trans e1))
          obtain ⟨f1, f2, f3⟩ := NO.out N1.out (by rintro (h | h); exact e3 (Q2.out.1 h).1; exact e3 ((Q3.out.1 h).1.symm.trans e1))
          have F := hide (FIN.out _ _ _ ⟨f1.symm, f2.symm, f3.symm⟩)
          clear e1 e3 f1 f2 f3 Q1 Q2 Q3 YES1 YES2 NO V1 V2 U1 U2
          go_wp2
          go_ret3
          exact ⟨F.out, rfl⟩
    · have d1 := eqB_no e1
      have N1 : Hid (¬ lk l1 key = lk l0 key) := hide (fun h => e1 (Q1.out.1 h).1)
      by_cases e3 : b2 = b0
      · have d3 := eqB_yes e3
        have d5 := eqB_no (fun h : b1 = b2 => e1 (h.trans e3))
        by_cases e4 : x2 = x0
        · have d4 := eqS_yes e4
          obtain ⟨f1, f2, f3⟩ := YES2.out N1.out (.inl (Q2.out.2 ⟨e3, e4⟩))
          have F := hide (FIN.out _ _ _ ⟨f1.symm, f2.symm, f3.symm⟩)
          clear e1 e3 e4 f1 f2 f3 Q1 Q2 Q3 YES1 YES2 NO V1 V2 U1 U2
          go_wp2
          go_ret3
          exact ⟨F.out, rfl⟩
        · have d4 := eqS_no e4
          obtain ⟨f1, f2, f3⟩ := NO.out N1.out (by rintro (h | h); exact e4 (Q2.out.1 h).2; exact e1 ((Q3.out.1 h).1.trans e3))
          have F := hide (FIN.out _ _ _ ⟨f1.symm, f2.symm, f3.symm⟩)
          clear e1 e3 e4 f1 f2 f3 Q1 Q2 Q3 YES1 YES2 NO V1 V2 U1 U2
          go_wp2
          go_ret3
          exact ⟨F.out, rfl⟩
      · have d3 := eqB_no e3
        have d5 := eqB_yes (two_ne e1 e3)
        by_cases e6 : x1 = x2
        · have d6 := eqS_yes e6
          obtain ⟨f1, f2, f3⟩ := YES2.out N1.out (.inr (Q3.out.2 ⟨two_ne e1 e3, e6⟩))
          have F := hide (FIN.out _ _ _ ⟨f1.symm, f2.symm, f3.symm⟩)
          clear e1 e3 e6 f1 f2 f3 Q1 Q2 Q3 YES1 YES2 NO V1 V2 U1 U2
          go_wp2
          go_ret3
          exact ⟨F.out, rfl⟩
        · have d6 := eqS_no e6
          obtain ⟨f1, f2, f3⟩ := NO.out N1.out (by rintro (h | h); exact e3 (Q2.out.1 h).1; exact e6 (Q3.out.1 h).2)
          have F := hide (FIN.out _ _ _ ⟨f1.symm, f2.symm, f3.symm⟩)
          clear e1 e3 e6 f1 f2 f3 Q1 Q2 Q3 YES1 YES2 NO V1 V2 U1 U2
          go_wp2
          go_ret3
          exact ⟨F.out, rfl⟩
  exact GO (hide (fun s a b h => ret_one h.1 h.2.1 h.2.2))
end Go.Proofs.YtaofemdhgfejjaaGreatDoor
