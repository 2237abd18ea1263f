/-
  For every code, laws.FnJoinedThree returns true: of three lists it is all the same which two are joined first; with none, or itself, a list stays. No conditions but that the two tables of the digest hold what the program's text lays (the card ties them).
-/
import Derived.Test.YtaibonbabicilaaDoorQLaid
import Derived.Test.YtaibonbabicilaaDoorRdCode
import Derived.Test.YtaibonbabicilaaDoorQDraw9
import Derived.Test.YtaibonbabicilaaDoorQJoin
import Derived.Test.YtaibonbabicilaaDoorQLaws
import Derived.Test.YtaibonbabicilaaDoorPSame
namespace Go.Proofs.YtaibonbabicilaaDoor.LJoinedThree
open Go.RowKit Go.ChangeShapes Go.WideShapes Go.ChangeAt
open Go.ChangeMaps (open_string shut_string)

theorem join_ok {a b : List Pr} (h1 : objsB a = true) (h2 : objsB b = true) (h : ∀ k v v', (k, v) ∈ a → (k, v') ∈ b → v = v') (hl : a.length + b.length ≤ 60) : joinB a b = true := by
  refine joinB_iff.2 ⟨h1, h2, (jok_iff (rt_of h1).2 (rt_of h2).2).2 h, ?_⟩
  have := jl_len a b b.length (Nat.le_refl _)
  omega
theorem join_with {a b : List Pr} (h : joinB a b = true) (p : Pr) : p ∈ joinL a b ↔ p ∈ a ∨ p ∈ b := by rw [joinL_yes h]; exact join_mem h p
theorem join_ris {a b : List Pr} (h : joinB a b = true) : Ris (joinL a b) := by rw [joinL_yes h]; exact (rt_of (join_objs h)).2
theorem join_right {a b : List Pr} (h : joinB a b = true) : objsB (joinL a b) = true := by rw [joinL_yes h]; exact join_objs h
theorem join_most {a b : List Pr} (h : joinB a b = true) : (joinL a b).length ≤ a.length + b.length := by rw [joinL_yes h]; exact jl_len a b b.length (Nat.le_refl _)
/-- all that the law asks -/
theorem three {a b : List Pr} (ha : a.length ≤ 5) (hb : b.length ≤ 5) (tb : Tx9 b) (h : joinB a b = true) (ht : addB a thirdS = true) :
    joinB (joinL a b) (addL a thirdS) = true ∧ joinB b (addL a thirdS) = true ∧ joinB a (joinL b (addL a thirdS)) = true ∧ joinL (joinL a b) (addL a thirdS) = joinL a (joinL b (addL a thirdS)) ∧ joinB a [] = true ∧ joinL a [] = a ∧ joinB a a = true ∧ joinL a a = a := by
  obtain ⟨h1, h2, h3, _⟩ := joinB_iff.1 h
  have hra := (rt_of h1).2
  have hrb := (rt_of h2).2
  have hab := (jok_iff hra hrb).1 h3
  have hc : objsB (addL a thirdS) = true := by rw [addL_yes ht]; exact add_objs ht
  have hmc : ∀ p, p ∈ addL a thirdS ↔ p = (idL thirdS, thirdS) ∨ (p ∈ a ∧ p.1 ≠ idL thirdS) := fun p => by rw [addL_yes ht]; exact mem_set hra _ _ p
  have hlc : (addL a thirdS).length ≤ 6 := by have := addL_more a thirdS; omega
  have hrc := (rt_of hc).2
  have s3 := (stepOk_iff hra).1 (addB_iff.1 ht).2.2.1
  have hac : ∀ k v v', (k, v) ∈ a → (k, v') ∈ addL a thirdS → v = v' := by
    intro k v v' x y
    rcases (hmc _).1 y with e | ⟨e, _⟩
    · injection e with e1 e2
      rw [e2]
      exact s3 v (by show (idL thirdS, v) ∈ a; rw [← e1]; exact x)
    · exact hra.key x e
  have hbc : ∀ k v v', (k, v) ∈ b → (k, v') ∈ addL a thirdS → v = v' := by
    intro k v v' x y
    rcases (hmc _).1 y with e | ⟨e, _⟩
    · injection e with e1 e2
      have i1 := ((rt_of h2).1 _ x).2
      have i2 := tb _ x
      exact absurd (i1.trans e1) (third_alone i2)
    · exact (hab _ _ _ e x).symm
  have hn := join_right h
  have hln := join_most h
  have j1 : joinB (joinL a b) (addL a thirdS) = true := join_ok hn hc (fun k v v' x y => by
    rcases (join_with h _).1 x with g | g
    · exact hac _ _ _ g y
    · exact hbc _ _ _ g y) (by omega)
  have j2 : joinB b (addL a thirdS) = true := join_ok h2 hc hbc (by omega)
  have hly := join_most j2
  have j3 : joinB a (joinL b (addL a thirdS)) = true := join_ok h1 (join_right j2) (fun k v v' x y => by
    rcases (join_with j2 _).1 y with g | g
    · exact hab _ _ _ x g
    · exact hac _ _ _ x g) (by omega)
  have e1 : joinL (joinL a b) (addL a thirdS) = joinL a (joinL b (addL a thirdS)) := Ris.ext (join_ris j1) (join_ris j3) fun p => by
    rw [join_with j1, join_with h, join_with j3, join_with j2, or_assoc]
  have j4 : joinB a [] = true := join_ok h1 (objs_all.2 ⟨by simp, (fun _ x => by cases x), List.Pairwise.nil⟩) (fun _ _ _ _ y => by cases y) (by simp; omega)
  have e2 : joinL a [] = a := Ris.ext (join_ris j4) hra fun p => by rw [join_with j4]; simp
  have j5 : joinB a a = true := join_ok h1 h1 (fun k v v' x y => hra.key x y) (by omega)
  have e3 : joinL a a = a := Ris.ext (join_ris j5) hra fun p => by rw [join_with j5]; simp
  exact ⟨j1, j2, j3, e1, j4, e2, j5, e3⟩

set_option maxRecDepth 100000 in
set_option maxHeartbeats 2000000 in
theorem walk (A : Option Addr) (n : Nat) (cap : Nat) (w : World) (hl : n ≤ maxLen) (hin : CIn w w.heap.size A n) (hT : Tabs w) :
    Calls Tryd.prog 8 #[.slice A n cap] w fun e w' => e = .returned (.bool true) ∧ Below w.heap.size w w' := by
  by_cases hbig : 1048576 < n
  · have d : decide (1048576 < n) = true := decide_eq_true hbig
    go_enter Tryd.func8, Tryd.ntmps8
    go_wp2_with (go_at_call 20; refine (big_any A n cap _ hl).mono ?_; rintro e w' ⟨rfl, rfl⟩)
    go_ret
    exact ⟨rfl, Below.refl _ _⟩
  have hn : n ≤ 1048576 := by omega
  have d : decide (1048576 < n) = false := decide_eq_false hbig
  have IN := hide hin
  have HT := hide hT
  have HB := hide hT.1
  have B0 : Hid (Below w.heap.size w w) := hide (Below.refl _ _)
  clear hin hT
  go_enter Tryd.func8, Tryd.ntmps8
  go_wp2_with fail
  refine (big_any A n cap w hl).mono ?_
  rintro e w' ⟨rfl, rfl⟩
  go_wp2_with fail
  refine (drawJoined9_any A n cap w hn IN.out).mono ?_
  rintro e w1 ⟨AM, capM, l, AK, capK, l', hcM, hl5, _, hcK, hl5', tx, rfl, own1, own1', b1⟩
  have B1 := hide (B0.out.trans (b1.mono B0.out.size))
  have M_1 := hide own1
  have K_1 := hide own1'
  have TX := hide tx
  clear b1 own1 own1' B0 tx
  have hlm : l.length ≤ maxLen := by unfold maxLen; omega
  have hlm' : l'.length ≤ maxLen := by unfold maxLen; omega
  have hom : (⟨#[116, 104, 105, 114, 100]⟩ : ByteArray).size ≤ maxLen := by decide
  have e1 : (joinB l l' != joinB l l') = false := by simp
  have e3 := eqL_self (joinL l l')
  have e4 : (joinB l l' == joinB l l') = true := by simp
  have z1 := joinL_len l l'
  have z1m : (joinL l l').length ≤ maxLen := by unfold maxLen; omega
  have z2 := addL_objs l ⟨#[116, 104, 105, 114, 100]⟩
  have z2m : (addL l ⟨#[116, 104, 105, 114, 100]⟩).length ≤ maxLen := by unfold maxLen; omega
  go_wp2_with fail
  refine (implJoined_any AM l capM AK l' capK w1 hlm hlm' M_1.out.pin K_1.out.pin (HT.out.below B1.out HB.out)).mono ?_
  rintro e w2 ⟨AN, capN, hcN, rfl, own2, b2⟩
  have B2 := hide (B1.out.trans (b2.mono B1.out.size))
  have M_2 := hide (M_1.out.below b2)
  have K_2 := hide (K_1.out.below b2)
  have N_2 := hide (own2.more B1.out.size)
  clear b2 own2 B1 M_1 K_1
  go_wp2_with fail
  refine (specJoined_any AM l capM AK l' capK w2 hlm hlm' M_2.out.pin K_2.out.pin).mono ?_
  rintro e w3 ⟨AX, capX, hcX, rfl, own3, b3⟩
  have B3 := hide (B2.out.trans (b3.mono B2.out.size))
  have M_3 := hide (M_2.out.below b3)
  have K_3 := hide (K_2.out.below b3)
  have N_3 := hide (N_2.out.below b3)
  have X_3 := hide (own3.more B2.out.size)
  clear b3 own3 B2 M_2 K_2 N_2
  go_wp2_with fail
  refine (implAdd_any AM l capM ⟨#[116, 104, 105, 114, 100]⟩ w3 hlm M_3.out.pin hom (HT.out.below B3.out HB.out)).mono ?_
  rintro e w4 ⟨AC, capC, hcC, rfl, own4, b4⟩
  have B4 := hide (B3.out.trans (b4.mono B3.out.size))
  have M_4 := hide (M_3.out.below b4)
  have K_4 := hide (K_3.out.below b4)
  have N_4 := hide (N_3.out.below b4)
  have X_4 := hide (X_3.out.below b4)
  have C_4 := hide (own4.more B3.out.size)
  clear b4 own4 B3 M_3 K_3 N_3 X_3
  go_wp2_with fail
  refine (sameMap_any AN AX _ _ capN capX w4 _ _ z1m z1m N_4.out.pin X_4.out.pin).mono ?_
  rintro e w5 ⟨rfl, q5⟩
  have b5 := q5.below w4.heap.size
  have B5 := hide (B4.out.trans (b5.mono B4.out.size))
  have M_5 := hide (M_4.out.below b5)
  have K_5 := hide (K_4.out.below b5)
  have N_5 := hide (N_4.out.below b5)
  have X_5 := hide (X_4.out.below b5)
  have C_5 := hide (C_4.out.below b5)
  clear b5 q5 B4 M_4 K_4 N_4 X_4 C_4
  cases hb : joinB l l'
  · go_wp2_with fail
    refine (sameMap_any AN AX _ _ capN capX w5 _ _ z1m z1m N_5.out.pin X_5.out.pin).mono ?_
    rintro e w6 ⟨rfl, q6⟩
    have b6 := q6.below w5.heap.size
    have B6 := hide (B5.out.trans (b6.mono B5.out.size))
    have M_6 := hide (M_5.out.below b6)
    have K_6 := hide (K_5.out.below b6)
    have N_6 := hide (N_5.out.below b6)
    have X_6 := hide (X_5.out.below b6)
    have C_6 := hide (C_5.out.below b6)
    clear b6 q6 B5 M_5 K_5 N_5 X_5 C_5
    go_wp2
    go_ret
    exact ⟨rfl, B6.out⟩
  · cases ht : addB l ⟨#[116, 104, 105, 114, 100]⟩
    · go_wp2_with fail
      refine (sameMap_any AN AX _ _ capN capX w5 _ _ z1m z1m N_5.out.pin X_5.out.pin).mono ?_
      rintro e w6 ⟨rfl, q6⟩
      have b6 := q6.below w5.heap.size
      have B6 := hide (B5.out.trans (b6.mono B5.out.size))
      have M_6 := hide (M_5.out.below b6)
      have K_6 := hide (K_5.out.below b6)
      have N_6 := hide (N_5.out.below b6)
      have X_6 := hide (X_5.out.below b6)
      have C_6 := hide (C_5.out.below b6)
      clear b6 q6 B5 M_5 K_5 N_5 X_5 C_5
      go_wp2
      go_ret
      exact ⟨rfl, B6.out⟩
    · have TH := hide (three hl5 hl5' TX.out hb ht)
      rw [show thirdS = ⟨#[116, 104, 105, 114, 100]⟩ from rfl] at TH
      have y3 := joinL_len l' (addL l ⟨#[116, 104, 105, 114, 100]⟩)
      have y3m : (joinL l' (addL l ⟨#[116, 104, 105, 114, 100]⟩)).length ≤ maxLen := by unfold maxLen; omega
      have y1 := joinL_len (joinL l l') (addL l ⟨#[116, 104, 105, 114, 100]⟩)
      have y1m : (joinL (joinL l l') (addL l ⟨#[116, 104, 105, 114, 100]⟩)).length ≤ maxLen := by unfold maxLen; omega
      have n0 : ([] : List Pr).length ≤ maxLen := by simp
      have es := eqL_self l
      have es1 := eqL_self (joinL (joinL l l') (addL l ⟨#[116, 104, 105, 114, 100]⟩))
      clear hb ht
      go_wp2_with fail
      refine (implJoined_any AN (joinL l l') capN AC (addL l ⟨#[116, 104, 105, 114, 100]⟩) capC w5 z1m z2m N_5.out.pin C_5.out.pin (HT.out.below B5.out HB.out)).mono ?_
      rintro e w6 ⟨AP1, capP1, hcP1, rfl, own6, b6⟩
      have B6 := hide (B5.out.trans (b6.mono B5.out.size))
      have M_6 := hide (M_5.out.below b6)
      have K_6 := hide (K_5.out.below b6)
      have N_6 := hide (N_5.out.below b6)
      have X_6 := hide (X_5.out.below b6)
      have C_6 := hide (C_5.out.below b6)
      have P1_6 := hide (own6.more B5.out.size)
      clear b6 own6 B5 M_5 K_5 N_5 X_5 C_5
      rw [TH.out.1]
      go_wp2_with fail
      refine (implJoined_any AK l' capK AC (addL l ⟨#[116, 104, 105, 114, 100]⟩) capC w6 hlm' z2m K_6.out.pin C_6.out.pin (HT.out.below B6.out HB.out)).mono ?_
      rintro e w7 ⟨AP2, capP2, hcP2, rfl, own7, b7⟩
      have B7 := hide (B6.out.trans (b7.mono B6.out.size))
      have M_7 := hide (M_6.out.below b7)
      have K_7 := hide (K_6.out.below b7)
      have N_7 := hide (N_6.out.below b7)
      have X_7 := hide (X_6.out.below b7)
      have C_7 := hide (C_6.out.below b7)
      have P1_7 := hide (P1_6.out.below b7)
      have P2_7 := hide (own7.more B6.out.size)
      clear b7 own7 B6 M_6 K_6 N_6 X_6 C_6 P1_6
      rw [TH.out.2.1]
      go_wp2_with fail
      refine (implJoined_any AM l capM AP2 (joinL l' (addL l ⟨#[116, 104, 105, 114, 100]⟩)) capP2 w7 hlm y3m M_7.out.pin P2_7.out.pin (HT.out.below B7.out HB.out)).mono ?_
      rintro e w8 ⟨AP3, capP3, hcP3, rfl, own8, b8⟩
      have B8 := hide (B7.out.trans (b8.mono B7.out.size))
      have M_8 := hide (M_7.out.below b8)
      have K_8 := hide (K_7.out.below b8)
      have N_8 := hide (N_7.out.below b8)
      have X_8 := hide (X_7.out.below b8)
      have C_8 := hide (C_7.out.below b8)
      have P1_8 := hide (P1_7.out.below b8)
      have P2_8 := hide (P2_7.out.below b8)
      have P3_8 := hide (own8.more B7.out.size)
      clear b8 own8 B7 M_7 K_7 N_7 X_7 C_7 P1_7 P2_7
      rw [TH.out.2.2.1]
      rw [← TH.out.2.2.2.1] at hcP3 P3_8 ⊢
      go_wp2_with fail
      refine (implJoined_any AM l capM none [] 0 w8 hlm n0 M_8.out.pin (PIn.nil _ _ _) (HT.out.below B8.out HB.out)).mono ?_
      rintro e w9 ⟨AP4, capP4, hcP4, rfl, own9, b9⟩
      have B9 := hide (B8.out.trans (b9.mono B8.out.size))
      have M_9 := hide (M_8.out.below b9)
      have K_9 := hide (K_8.out.below b9)
      have N_9 := hide (N_8.out.below b9)
      have X_9 := hide (X_8.out.below b9)
      have C_9 := hide (C_8.out.below b9)
      have P1_9 := hide (P1_8.out.below b9)
      have P2_9 := hide (P2_8.out.below b9)
      have P3_9 := hide (P3_8.out.below b9)
      have P4_9 := hide (own9.more B8.out.size)
      clear b9 own9 B8 M_8 K_8 N_8 X_8 C_8 P1_8 P2_8 P3_8
      rw [TH.out.2.2.2.2.1]
      rw [TH.out.2.2.2.2.2.1] at hcP4 P4_9 ⊢
      go_wp2_with fail
      refine (implJoined_any AM l capM AM l capM w9 hlm hlm M_9.out.pin M_9.out.pin (HT.out.below B9.out HB.out)).mono ?_
      rintro e w10 ⟨AP5, capP5, hcP5, rfl, own10, b10⟩
      have B10 := hide (B9.out.trans (b10.mono B9.out.size))
      have M_10 := hide (M_9.out.below b10)
      have K_10 := hide (K_9.out.below b10)
      have N_10 := hide (N_9.out.below b10)
      have X_10 := hide (X_9.out.below b10)
      have C_10 := hide (C_9.out.below b10)
      have P1_10 := hide (P1_9.out.below b10)
      have P2_10 := hide (P2_9.out.below b10)
      have P3_10 := hide (P3_9.out.below b10)
      have P4_10 := hide (P4_9.out.below b10)
      have P5_10 := hide (own10.more B9.out.size)
      clear b10 own10 B9 M_9 K_9 N_9 X_9 C_9 P1_9 P2_9 P3_9 P4_9
      rw [TH.out.2.2.2.2.2.2.1]
      rw [TH.out.2.2.2.2.2.2.2] at hcP5 P5_10 ⊢
      go_wp2_with fail
      refine (sameMap_any AP1 AP3 _ _ capP1 capP3 w10 _ _ y1m y1m P1_10.out.pin P3_10.out.pin).mono ?_
      rintro e w11 ⟨rfl, q11⟩
      have b11 := q11.below w10.heap.size
      have B11 := hide (B10.out.trans (b11.mono B10.out.size))
      have M_11 := hide (M_10.out.below b11)
      have K_11 := hide (K_10.out.below b11)
      have N_11 := hide (N_10.out.below b11)
      have X_11 := hide (X_10.out.below b11)
      have C_11 := hide (C_10.out.below b11)
      have P1_11 := hide (P1_10.out.below b11)
      have P2_11 := hide (P2_10.out.below b11)
      have P3_11 := hide (P3_10.out.below b11)
      have P4_11 := hide (P4_10.out.below b11)
      have P5_11 := hide (P5_10.out.below b11)
      clear b11 q11 B10 M_10 K_10 N_10 X_10 C_10 P1_10 P2_10 P3_10 P4_10 P5_10
      go_wp2_with fail
      refine (sameMap_any AP4 AM _ _ capP4 capM w11 _ _ hlm hlm P4_11.out.pin M_11.out.pin).mono ?_
      rintro e w12 ⟨rfl, q12⟩
      have b12 := q12.below w11.heap.size
      have B12 := hide (B11.out.trans (b12.mono B11.out.size))
      have M_12 := hide (M_11.out.below b12)
      have K_12 := hide (K_11.out.below b12)
      have N_12 := hide (N_11.out.below b12)
      have X_12 := hide (X_11.out.below b12)
      have C_12 := hide (C_11.out.below b12)
      have P1_12 := hide (P1_11.out.below b12)
      have P2_12 := hide (P2_11.out.below b12)
      have P3_12 := hide (P3_11.out.below b12)
      have P4_12 := hide (P4_11.out.below b12)
      have P5_12 := hide (P5_11.out.below b12)
      clear b12 q12 B11 M_11 K_11 N_11 X_11 C_11 P1_11 P2_11 P3_11 P4_11 P5_11
      go_wp2_with fail
      refine (sameMap_any AP5 AM _ _ capP5 capM w12 _ _ hlm hlm P5_12.out.pin M_12.out.pin).mono ?_
      rintro e w13 ⟨rfl, q13⟩
      have b13 := q13.below w12.heap.size
      have B13 := hide (B12.out.trans (b13.mono B12.out.size))
      have M_13 := hide (M_12.out.below b13)
      have K_13 := hide (K_12.out.below b13)
      have N_13 := hide (N_12.out.below b13)
      have X_13 := hide (X_12.out.below b13)
      have C_13 := hide (C_12.out.below b13)
      have P1_13 := hide (P1_12.out.below b13)
      have P2_13 := hide (P2_12.out.below b13)
      have P3_13 := hide (P3_12.out.below b13)
      have P4_13 := hide (P4_12.out.below b13)
      have P5_13 := hide (P5_12.out.below b13)
      clear b13 q13 B12 M_12 K_12 N_12 X_12 C_12 P1_12 P2_12 P3_12 P4_12 P5_12
      go_wp2
      go_ret
      exact ⟨rfl, B13.out⟩

theorem plainVars : ∀ n ∈ Rows.fnJoinedThreeSpec.vars, ∀ g t, Tryd.prog.globalNamed n = some g → (Tryd.prog.globals[g]?).map (·.type) = some t → Tryd.prog.readableRec t = true ∧ t < Tryd.prog.types.size := by
  intro n hn g t h1 h2
  have hb : (Rows.fnJoinedThreeSpec.vars).all (fun n => ((Tryd.prog.globalNamed n).bind fun g => (Tryd.prog.globals[g]?).map fun x => Tryd.prog.readableRec x.type && decide (x.type < Tryd.prog.types.size)).getD false) = true := by kernel_rfl
  have h := List.all_eq_true.1 hb n hn
  rw [h1] at h
  obtain ⟨x, hx, rfl⟩ := Option.map_eq_some_iff.1 h2
  simp only [Option.bind_some, hx, Option.map_some, Option.getD_some, Bool.and_eq_true, decide_eq_true_eq] at h
  exact h
set_option maxRecDepth 100000 in
theorem contract (H : Type) (enc : TypeId × Value → H) (W : World) (base : Nat) (args : Array Value) (ds gs : List (DataW H)) (before : List MemPlace)
    (hval0 : ∀ (j : Nat) t v, Tryd.f8.params[j]? = some t → args[j]? = some v → Value.okWide Tryd.prog W .any base t v)
    (hW : DataW.Whole enc Tryd.prog Tryd.f8.params.toList Rows.fnJoinedThreeSpec.vars false W args.toList ds gs before) (hL : laidMetH Tryd.prog Rows.fnJoinedThreeRow.laid W) :
    Calls Tryd.prog 8 args W fun e W' => ∃ v, e = .returned v ∧ Rows.fnJoinedThreeSpec.post enc Tryd.prog Tryd.f8 false true false false W args v W' := by
  have hval : ∀ (j : Nat) t v, Tryd.f8.params[j]? = some t → args[j]? = some v → Value.okWide Tryd.prog W .any base t v := hval0
  have hT : Tabs W := tabs_of (l := Rows.fnJoinedThreeRow.laid) hL (List.mem_cons_self ..) (List.mem_cons_of_mem _ (List.mem_cons_self ..))
  have hW' := hW
  obtain ⟨p, q, hA0, hV, rfl, hfz, hnd⟩ := hW
  have hA : DataW.TrodAll enc Tryd.prog W 0 (fun _ => true) true Tryd.f8.params.toList args.toList ds p := hA0
  rw [Tryd.params8] at hA hval
  obtain ⟨v0, vs0, d0, ds0, p0, q0, hargs, rfl, rfl, h0, r0⟩ := trodAll_cons hA
  obtain ⟨rfl, rfl, rfl⟩ := trodAll_nil r0
  obtain rfl : args = #[v0] := by cases args; simp_all
  obtain ⟨x0, x1, rfl⟩ := list2 (vars_len hV)
  obtain ⟨A0, n0, cap0, rfl⟩ := okWide_slice Tryd.underlying34 (hval 0 34 v0 rfl rfl)
  have lt0 : ∀ x ∈ p0, x.block < W.heap.size := by obtain ⟨m, hm⟩ := h0; exact DataW.trod_lt m _ _ _ hm
  obtain ⟨l0, rfl, hl0, hin0⟩ := open_code h0
  clear hA0 hval0
  refine (walk A0 n0 cap0 W hl0 hin0 hT).mono fun e W' ⟨he, bel⟩ => ?_
  subst he
  exact ⟨_, rfl, _, _, _, [], _, q, hW', trodAll_mk1 (shut_bool Tryd.underlying4 _), (trodAll_cons_mk (Below.trod laidOut (by kernel_rfl) (of_decide_eq_true (by kernel_rfl)) h0 bel lt0) trodAll_mk0), vars_stay laidOut bel plainVars hV, bel.frame _, fun h => by cases h⟩

/-- a world for the witness: the tables hold what their initialisers lay -/
noncomputable def laidWorld (os : Os) : World := layAll (World.holding Tryd.prog os ⟨#[], #[], []⟩)
theorem laid_met (os : Os) : laidMet Tryd.prog Rows.fnJoinedThreeRow.laid ((laidWorld os).forCall (fun _ _ => 0) ⟨#[], #[.slice none 0 0], []⟩).memory :=
  laidMet_of_run' 8 (by kernel_rfl) (by kernel_rfl)
theorem reads (os : Os) {H : Type} (enc : TypeId × Value → H) : ∃ x, DataW.whole enc Tryd.prog ((laidWorld os).forCall (fun _ _ => 0) ⟨#[], #[.slice none 0 0], []⟩).memory Tryd.f8.params.toList Rows.fnJoinedThreeSpec.vars false (#[.slice none 0 0] : Array Value).toList 8 = some x :=
  Option.isSome_iff_exists.1 (by kernel_rfl)
set_option maxRecDepth 100000 in
theorem lifted (os : Os) (started : os.Started) (H : Type) (enc : TypeId × Value → H) (F : Stop.Interp) :
    ReturnsInHanded {} Tryd.checked os 8 .any ((OpenSpec.ofChange Rows.fnJoinedThreeSpec).preRow enc Tryd.prog Tryd.f8 Rows.fnJoinedThreeRow.domain false Rows.fnJoinedThreeRow.laid) (((OpenSpec.ofChange Rows.fnJoinedThreeSpec).at F).post enc Tryd.prog Tryd.f8 false true false false) := by
  obtain ⟨x, hx⟩ := reads os enc
  refine returnsInHanded_of_row (C := Tryd.checked) (s := OpenSpec.ofChange Rows.fnJoinedThreeSpec) own started (by kernel_rfl) Tryd.func8
    (witness_row_at (enc := enc) (C := Tryd.checked) false (laidWorld os) #[.slice none 0 0] rfl (by kernel_rfl) (by kernel_rfl) (by kernel_rfl)
      (OpenSpec.preRow_of_cond 8 hx rfl (fun k hk => by cases hk) (by kernel_rfl) (laid_met os))) ?_
  intro W base args ds gs before hval hW _ _ _ hL _ _
  exact contract H enc W base args ds gs before hval hW hL
theorem said : Rows.FnJoinedThreeSaid :=
  OpenClaim.holds_of_cond 8 Tryd.f8 rfl rfl rfl rfl rfl rfl rfl ⟨rfl, rfl, rfl, rfl, rfl⟩ rfl rfl rfl rfl rfl (by kernel_rfl) Tryd.func8 (by kernel_rfl)
    (of_decide_eq_true (by kernel_rfl)) (by unfold Func.isWrapper; first | (rw [if_pos (by decide +kernel)]; kernel_rfl) | (rw [if_neg (by decide +kernel)]; exact ⟨rfl, rfl⟩))
    (fun os started H enc _ F => by rw [OpenClaim.pre_eq_preRow]; exact lifted os started H enc F)
theorem plain (f : FuncId) (fn : Func) (hf : Tryd.pinned.checked.prog.funcNamed "loop.example/g00652/laws.FnJoinedThree" = some f) (hfn : Tryd.pinned.checked.prog.funcs[f]? = some fn) :
    false = Tryd.pinned.checked.prog.looks [] ∧ ∀ (j : Nat) t, fn.params[j]? = some t → Tryd.pinned.checked.prog.wantsStandIn t = false := by
  obtain rfl : f = 8 := Option.some.inj ((show Tryd.prog.funcNamed "loop.example/g00652/laws.FnJoinedThree" = some 8 by kernel_rfl).symm.trans hf) |>.symm
  obtain rfl : fn = Tryd.f8 := (Option.some.inj (Tryd.func8.symm.trans hfn)).symm
  refine ⟨by kernel_rfl, fun j t ht => ?_⟩
  rw [Tryd.params8] at ht
  have hm := Array.mem_of_getElem? ht
  simp only [List.mem_toArray, List.mem_cons, List.not_mem_nil, or_false] at hm
  subst hm
  exact (show Tryd.prog.wantsStandIn 34 = false by kernel_rfl)
theorem card : Rows.FnJoinedThreeCardSaid :=
  Claim7.holds_tied_plain_at .later [] _ _ _ _ said (fun _ h => by cases h) (by kernel_rfl) (fun _ h => by cases h) fnJoinedThree_row_tie rfl ⟨rfl, rfl⟩ (by kernel_rfl) rfl plain (by kernel_rfl)

end Go.Proofs.YtaibonbabicilaaDoor.LJoinedThree
namespace Go.Proofs.YtaibonbabicilaaDoor
theorem fnJoinedThree_proved : Rows.FnJoinedThreeCardSaid := LJoinedThree.card
end Go.Proofs.YtaibonbabicilaaDoor
