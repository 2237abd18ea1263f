/-
  For every code, laws.FnDiffs returns true: what leads from one map to another one does, turned round it leads back; of a map and itself there is none. No conditions.
-/
import Derived.Test.YtcpalnkcjcgaeaaPSame
import Derived.Test.YtcpalnkcjcgaeaaPAlg
import Derived.Test.YtcpalnkcjcgaeaaLCode
import Derived.Test.YtcpalnkcjcgaeaaHDraw
import Derived.Test.YtcpalnkcjcgaeaaHSame
import Derived.Test.YtcpalnkcjcgaeaaHDifA
import Derived.Test.YtcpalnkcjcgaeaaHDiffL
import Derived.Test.YtcpalnkcjcgaeaaHAppS
import Derived.Test.YtcpalnkcjcgaeaaHAppI
import Derived.Test.YtcpalnkcjcgaeaaHInv
import Derived.Test.YtcpalnkcjcgaeaaHText
import Derived.Test.YtcpalnkcjcgaeaaHTextI
namespace Go.Proofs.Ytcpalnkcjcgaeaa.LDiffs
open Go.RowKit Go.ChangeShapes Go.WideShapes Go.ChangeAt
open Go.ChangeMaps (open_string shut_string)

theorem nil_empty (l : List UInt8) : (l == []) = l.isEmpty := by cases l <;> rfl
theorem tot_small : ∀ {d : List Ch}, smallD d → tot d ≤ 36 * d.length
  | [], _ => by simp [tot]
  | c :: r, h => by
    have h1 := h c (List.mem_cons_self ..)
    have h2 := tot_small (d := r) (fun x hx => h x (List.mem_cons_of_mem _ hx))
    rw [tot, List.length_cons]
    omega
theorem chT_pos {c : Ch} (h : c.2.2.2.1 = true ∨ c.2.2.2.2 = true) : 0 < (chT c).size := by
  unfold chT saysC
  rw [ByteArray.size_append]
  rcases h with h | h
  · rw [if_pos h]; unfold lineG; simp only [ByteArray.size_append]; show 0 < 1 + _ + _ + _ + _ + _; omega
  · rw [if_pos h]; unfold lineG; simp only [ByteArray.size_append]; show 0 < _ + (1 + _ + _ + _ + _); omega
theorem text_none {a b : List Pr} (ha : mapB a = true) (hb : mapB b = true) : ((((difM a b).length : Int) == 0) == ((diffTextS (difM a b)).toList == [])) = true := by
  have hc := dif_char _ a b (Nat.le_refl _) (mapB_ris ha) (mapB_ris hb)
  have hl := difM_len _ a b (Nat.le_refl _)
  have h1 := (mapB_iff.1 ha).1
  have h2 := (mapB_iff.1 hb).1
  unfold diffTextS
  rw [if_pos (by omega)]
  cases e : difM a b with
  | nil => simp [difT]
  | cons c r =>
    rw [e] at hc
    obtain ⟨e0, hne⟩ := hc.1 c (List.mem_cons_self ..)
    have h4 : c.2.2.2.1 = true ∨ c.2.2.2.2 = true := by
      have e3 : c.2.2.2.1 = (lk a c.1).isSome := congrArg (fun z : Ch => z.2.2.2.1) e0
      have e4 : c.2.2.2.2 = (lk b c.1).isSome := congrArg (fun z : Ch => z.2.2.2.2) e0
      rw [e3, e4]
      cases x : lk a c.1 with
      | none =>
        cases y : lk b c.1 with
        | none => exact absurd (x.trans y.symm) hne
        | some _ => exact .inr rfl
      | some _ => exact .inl rfl
    have h5 := chT_pos h4
    have h6 : ((difT (c :: r)).toList == []) = false := by
      rw [beq_eq_false_iff_ne]
      intro x
      rw [Go.ByteArray.toList_eq] at x
      have : (difT (c :: r)).size = 0 := by
        rw [show (difT (c :: r)).size = (difT (c :: r)).data.toList.length by rfl, x]; rfl
      rw [difT, ByteArray.size_append] at this
      omega
    rw [h6]
    have h7 : (((c :: r).length : Int) == 0) = false := by rw [beq_eq_false_iff_ne]; simp; omega
    rw [h7]
    rfl

set_option maxRecDepth 100000 in
set_option maxHeartbeats 2000000 in
theorem walk (A : Option Addr) (n : Nat) (cap : Nat) (w : World) (hl : n ≤ maxLen) (hin : CIn w w.heap.size A n) :
    Calls Try.prog 3 #[.slice A n cap] w fun e w' => e = .returned (.bool true) ∧ Below w.heap.size w w' := by
  by_cases hbig : 1048576 < n
  · have d : decide (1048576 < n) = true := decide_eq_true hbig
    go_enter Try.func3, Try.ntmps3
    go_wp2_with (go_at_call 12; refine (big_any A n cap _ hl).mono ?_; rintro e w' ⟨rfl, rfl⟩)
    go_ret
    exact ⟨rfl, Below.refl _ _⟩
  have hn : n ≤ 1048576 := by omega
  have d : decide (1048576 < n) = false := decide_eq_false hbig
  have IN := hide hin
  have B0 : Hid (Below w.heap.size w w) := hide (Below.refl _ _)
  clear hin
  go_enter Try.func3, Try.ntmps3
  go_wp2_with fail
  refine (big_any A n cap w hl).mono ?_
  rintro e w' ⟨rfl, rfl⟩
  go_wp2_with fail
  refine (drawDiffOf_any A n cap w hn IN.out).mono ?_
  rintro e w1 ⟨AP, capP, l, AQ, capQ, l2, hcP, hl40, mbP, hcQ, hl41, mbQ, rfl, o1, p1, b1⟩
  have B1 := hide (B0.out.trans (b1.mono B0.out.size))
  have P_1 := hide o1
  have Q_1 := hide p1
  clear b1 o1 p1 B0
  have hlm : l.length ≤ maxLen := by unfold maxLen; omega
  have hlm2 : l2.length ≤ maxLen := by unfold maxLen; omega
  have MP := hide mbP
  have MQ := hide mbQ
  clear mbP mbQ
  have dB : diffB l l2 = true := diffB_yes MP.out MQ.out
  have hdl := diffL_len l l2
  have hdm : (diffL l l2).length ≤ maxLen := by unfold maxLen; omega
  have hd1 : (diffL l l2).length ≤ 1048576 := by omega
  have es := eqCL_self (diffL l l2)
  have DE := hide (diffL_yes dB)
  go_wp2_with fail
  refine (implDiffOf_any AP (l) capP AQ (l2) capQ w1 hlm hlm2 hcP hcQ P_1.out.pin Q_1.out.pin).mono ?_
  rintro e w2 ⟨AN, capN, hcN, rfl, o2, b2⟩
  have B2 := hide (B1.out.trans (b2.mono B1.out.size))
  have P_2 := hide (P_1.out.below b2)
  have Q_2 := hide (Q_1.out.below b2)
  have N_2 := hide o2
  clear b2 o2 B1 P_1 Q_1
  go_wp2_with fail
  refine (specDiffOf_any AP (l) capP AQ (l2) capQ w2 hlm hlm2 P_2.out.pin Q_2.out.pin).mono ?_
  rintro e w3 ⟨AT, capT, hcT, rfl, o3, b3⟩
  have B3 := hide (B2.out.trans (b3.mono B2.out.size))
  have P_3 := hide (P_2.out.below b3)
  have Q_3 := hide (Q_2.out.below b3)
  have N_3 := hide (N_2.out.below b3)
  have T_3 := hide o3
  clear b3 o3 B2 P_2 Q_2 N_2
  go_wp2_with fail
  refine (drawDiffText_any A n cap w3 hn ((IN.out.keep B3.out).more B3.out.size)).mono ?_
  rintro e w4 ⟨AX, capX, d, hcX, hd80, sm, rfl, o4, b4⟩
  have B4 := hide (B3.out.trans (b4.mono B3.out.size))
  have P_4 := hide (P_3.out.below b4)
  have Q_4 := hide (Q_3.out.below b4)
  have N_4 := hide (N_3.out.below b4)
  have T_4 := hide (T_3.out.below b4)
  have X_4 := hide o4
  clear b4 o4 B3 P_3 Q_3 N_3 T_3
  have hxm : d.length ≤ maxLen := by unfold maxLen; omega
  have htx : tot d ≤ 1048576 := by have := tot_small sm; omega
  clear sm
  have ex : ((diffTextS d).toList == (diffTextS d).toList) = true := by simp
  go_wp2_with fail
  refine (sameChanges_any AN AT (diffL l l2) (diffL l l2) capN capT w4 _ _ hdm hdm N_4.out.pin T_4.out.pin).mono ?_
  rintro e w5 ⟨rfl, q5⟩
  have b5 := q5.below w4.heap.size
  have B5 := hide (B4.out.trans (b5.mono B4.out.size))
  have P_5 := hide (P_4.out.below b5)
  have Q_5 := hide (Q_4.out.below b5)
  have N_5 := hide (N_4.out.below b5)
  have T_5 := hide (T_4.out.below b5)
  have X_5 := hide (X_4.out.below b5)
  clear b5 q5 B4 P_4 Q_4 N_4 T_4 X_4
  go_wp2_with fail
  refine (implDiffText_any AX d capX w5 hxm X_5.out.pin htx).mono ?_
  rintro e w6 ⟨rfl, b6⟩
  have B6 := hide (B5.out.trans (b6.mono B5.out.size))
  have P_6 := hide (P_5.out.below b6)
  have Q_6 := hide (Q_5.out.below b6)
  have N_6 := hide (N_5.out.below b6)
  have T_6 := hide (T_5.out.below b6)
  have X_6 := hide (X_5.out.below b6)
  clear b6  B5 P_5 Q_5 N_5 T_5 X_5
  go_wp2_with fail
  refine (specDiffText_any AX d capX w6 _ hxm X_6.out.pin htx).mono ?_
  rintro e w7 ⟨rfl, q7⟩
  have b7 := q7.below w6.heap.size
  have B7 := hide (B6.out.trans (b7.mono B6.out.size))
  have P_7 := hide (P_6.out.below b7)
  have Q_7 := hide (Q_6.out.below b7)
  have N_7 := hide (N_6.out.below b7)
  have T_7 := hide (T_6.out.below b7)
  have X_7 := hide (X_6.out.below b7)
  clear b7 q7 B6 P_6 Q_6 N_6 T_6 X_6
  have a1 : appB l (diffL l l2) = true := by rw [DE.out]; exact dif_ok MP.out MQ.out
  have A1 : Hid (appL l (diffL l l2) = l2) := hide (by rw [DE.out]; exact dif_appL MP.out MQ.out)
  have hal := appL_len l (diffL l l2)
  have ham : (appL l (diffL l l2)).length ≤ maxLen := by unfold maxLen; omega
  go_wp2_with fail
  refine (implApplied_any AP (l) capP AN (diffL l l2) capN w7 hlm hd1 P_7.out.pin N_7.out.pin).mono ?_
  rintro e w8 ⟨AM, capM, hcM, rfl, o8, b8⟩
  have B8 := hide (B7.out.trans (b8.mono B7.out.size))
  have P_8 := hide (P_7.out.below b8)
  have Q_8 := hide (Q_7.out.below b8)
  have N_8 := hide (N_7.out.below b8)
  have T_8 := hide (T_7.out.below b8)
  have X_8 := hide (X_7.out.below b8)
  have M_8 := hide o8
  clear b8 o8 B7 P_7 Q_7 N_7 T_7 X_7
  go_wp2_with fail
  refine (implInverse_any AN (diffL l l2) capN w8 hd1 N_8.out.pin).mono ?_
  rintro e w9 ⟨AI, capI, hcI, rfl, o9, b9⟩
  have B9 := hide (B8.out.trans (b9.mono B8.out.size))
  have P_9 := hide (P_8.out.below b9)
  have Q_9 := hide (Q_8.out.below b9)
  have N_9 := hide (N_8.out.below b9)
  have T_9 := hide (T_8.out.below b9)
  have X_9 := hide (X_8.out.below b9)
  have M_9 := hide (M_8.out.below b9)
  have I_9 := hide o9
  clear b9 o9 B8 P_8 Q_8 N_8 T_8 X_8 M_8
  have hil : (invL (diffL l l2)).length ≤ 1048576 := by rw [invL_len]; exact hd1
  have a2 : appB (appL l (diffL l l2)) (invL (diffL l l2)) = true := by rw [appL_yes a1]; exact inv_ok a1
  have A2 : Hid (appL (appL l (diffL l l2)) (invL (diffL l l2)) = l) := hide (inv_appL a1)
  have hal2 := appL_len (appL l (diffL l l2)) (invL (diffL l l2))
  have ham2 : (appL (appL l (diffL l l2)) (invL (diffL l l2))).length ≤ maxLen := by unfold maxLen; omega
  go_wp2_with fail
  refine (implApplied_any AM (appL l (diffL l l2)) capM AI (invL (diffL l l2)) capI w9 ham hil M_9.out.pin I_9.out.pin).mono ?_
  rintro e w10 ⟨AB, capB, hcB, rfl, o10, b10⟩
  have B10 := hide (B9.out.trans (b10.mono B9.out.size))
  have P_10 := hide (P_9.out.below b10)
  have Q_10 := hide (Q_9.out.below b10)
  have N_10 := hide (N_9.out.below b10)
  have T_10 := hide (T_9.out.below b10)
  have X_10 := hide (X_9.out.below b10)
  have M_10 := hide (M_9.out.below b10)
  have I_10 := hide (I_9.out.below b10)
  have B_10 := hide o10
  clear b10 o10 B9 P_9 Q_9 N_9 T_9 X_9 M_9 I_9
  go_wp2_with fail
  refine (implDiffOf_any AP (l) capP AP (l) capP w10 hlm hlm hcP hcP P_10.out.pin P_10.out.pin).mono ?_
  rintro e w11 ⟨AU, capU, hcU, rfl, o11, b11⟩
  have B11 := hide (B10.out.trans (b11.mono B10.out.size))
  have P_11 := hide (P_10.out.below b11)
  have Q_11 := hide (Q_10.out.below b11)
  have N_11 := hide (N_10.out.below b11)
  have T_11 := hide (T_10.out.below b11)
  have X_11 := hide (X_10.out.below b11)
  have M_11 := hide (M_10.out.below b11)
  have I_11 := hide (I_10.out.below b11)
  have B_11 := hide (B_10.out.below b11)
  have U_11 := hide o11
  clear b11 o11 B10 P_10 Q_10 N_10 T_10 X_10 M_10 I_10 B_10
  go_wp2_with fail
  refine (implDiffOf_any AQ (l2) capQ AP (l) capP w11 hlm2 hlm hcQ hcP Q_11.out.pin P_11.out.pin).mono ?_
  rintro e w12 ⟨AV, capV, hcV, rfl, o12, b12⟩
  have B12 := hide (B11.out.trans (b12.mono B11.out.size))
  have P_12 := hide (P_11.out.below b12)
  have Q_12 := hide (Q_11.out.below b12)
  have N_12 := hide (N_11.out.below b12)
  have T_12 := hide (T_11.out.below b12)
  have X_12 := hide (X_11.out.below b12)
  have M_12 := hide (M_11.out.below b12)
  have I_12 := hide (I_11.out.below b12)
  have B_12 := hide (B_11.out.below b12)
  have U_12 := hide (U_11.out.below b12)
  have V_12 := hide o12
  clear b12 o12 B11 P_11 Q_11 N_11 T_11 X_11 M_11 I_11 B_11 U_11
  have dB1 : diffB l l = true := diffB_yes MP.out MP.out
  have dB2 : diffB l2 l = true := diffB_yes MQ.out MP.out
  have e1 : eqL (appL l (diffL l l2)) l2 = true := by rw [A1.out]; exact eqL_self _
  have e2 : eqL (appL (appL l (diffL l l2)) (invL (diffL l l2))) l = true := by rw [A2.out]; exact eqL_self _
  have hz : (diffL l l).length = 0 := by rw [diffL_yes dB1, dif_self MP.out]; rfl
  have hzi : (((diffL l l).length : Int) == 0) = true := by rw [hz]; rfl
  have HZ := hide hz
  clear hz
  have hdl2 := diffL_len l2 l
  have hdm2 : (diffL l2 l).length ≤ maxLen := by unfold maxLen; omega
  have him : (invL (diffL l l2)).length ≤ maxLen := by rw [invL_len]; exact hdm
  have e3 : eqCL (diffL l2 l) (invL (diffL l l2)) = true := eqCL_yes (by rw [diffL_yes dB2, DE.out]; exact (dif_inv _ l l2 (Nat.le_refl _)).symm)
  have SD : Hid (tot (diffL l l2) ≤ 1048576) := hide (by have := tot_small (show smallD (diffL l l2) by rw [DE.out]; exact small_dif MP.out MQ.out); omega)
  have e4 : ((((diffL l l2).length : Int) == 0) == ((diffTextS (diffL l l2)).toList == [])) = true := by rw [DE.out]; exact text_none MP.out MQ.out
  have e5 : ((((diffL l l2).length : Int) == 0) == (diffTextS (diffL l l2)).toList.isEmpty) = true := by rw [← nil_empty]; exact e4
  go_wp2_with fail
  refine (sameMap_any AM AQ (appL l (diffL l l2)) (l2) capM capQ w12 _ _ ham hlm2 M_12.out.pin Q_12.out.pin).mono ?_
  rintro e w13 ⟨rfl, q13⟩
  have b13 := q13.below w12.heap.size
  have B13 := hide (B12.out.trans (b13.mono B12.out.size))
  have P_13 := hide (P_12.out.below b13)
  have Q_13 := hide (Q_12.out.below b13)
  have N_13 := hide (N_12.out.below b13)
  have T_13 := hide (T_12.out.below b13)
  have X_13 := hide (X_12.out.below b13)
  have M_13 := hide (M_12.out.below b13)
  have I_13 := hide (I_12.out.below b13)
  have B_13 := hide (B_12.out.below b13)
  have U_13 := hide (U_12.out.below b13)
  have V_13 := hide (V_12.out.below b13)
  clear b13 q13 B12 P_12 Q_12 N_12 T_12 X_12 M_12 I_12 B_12 U_12 V_12
  go_wp2_with fail
  refine (sameMap_any AB AP (appL (appL l (diffL l l2)) (invL (diffL l l2))) (l) capB capP w13 _ _ ham2 hlm B_13.out.pin P_13.out.pin).mono ?_
  rintro e w14 ⟨rfl, q14⟩
  have b14 := q14.below w13.heap.size
  have B14 := hide (B13.out.trans (b14.mono B13.out.size))
  have P_14 := hide (P_13.out.below b14)
  have Q_14 := hide (Q_13.out.below b14)
  have N_14 := hide (N_13.out.below b14)
  have T_14 := hide (T_13.out.below b14)
  have X_14 := hide (X_13.out.below b14)
  have M_14 := hide (M_13.out.below b14)
  have I_14 := hide (I_13.out.below b14)
  have B_14 := hide (B_13.out.below b14)
  have U_14 := hide (U_13.out.below b14)
  have V_14 := hide (V_13.out.below b14)
  clear b14 q14 B13 P_13 Q_13 N_13 T_13 X_13 M_13 I_13 B_13 U_13 V_13
  go_wp2_with fail
  refine (implInverse_any AN (diffL l l2) capN w14 hd1 N_14.out.pin).mono ?_
  rintro e w15 ⟨AJ, capJ, hcJ, rfl, o15, b15⟩
  have B15 := hide (B14.out.trans (b15.mono B14.out.size))
  have P_15 := hide (P_14.out.below b15)
  have Q_15 := hide (Q_14.out.below b15)
  have N_15 := hide (N_14.out.below b15)
  have T_15 := hide (T_14.out.below b15)
  have X_15 := hide (X_14.out.below b15)
  have M_15 := hide (M_14.out.below b15)
  have I_15 := hide (I_14.out.below b15)
  have B_15 := hide (B_14.out.below b15)
  have U_15 := hide (U_14.out.below b15)
  have V_15 := hide (V_14.out.below b15)
  have J_15 := hide o15
  clear b15 o15 B14 P_14 Q_14 N_14 T_14 X_14 M_14 I_14 B_14 U_14 V_14
  go_wp2_with fail
  refine (sameChanges_any AV AJ (diffL l2 l) (invL (diffL l l2)) capV capJ w15 _ _ hdm2 him V_15.out.pin J_15.out.pin).mono ?_
  rintro e w16 ⟨rfl, q16⟩
  have b16 := q16.below w15.heap.size
  have B16 := hide (B15.out.trans (b16.mono B15.out.size))
  have P_16 := hide (P_15.out.below b16)
  have Q_16 := hide (Q_15.out.below b16)
  have N_16 := hide (N_15.out.below b16)
  have T_16 := hide (T_15.out.below b16)
  have X_16 := hide (X_15.out.below b16)
  have M_16 := hide (M_15.out.below b16)
  have I_16 := hide (I_15.out.below b16)
  have B_16 := hide (B_15.out.below b16)
  have U_16 := hide (U_15.out.below b16)
  have V_16 := hide (V_15.out.below b16)
  have J_16 := hide (J_15.out.below b16)
  clear b16 q16 B15 P_15 Q_15 N_15 T_15 X_15 M_15 I_15 B_15 U_15 V_15 J_15
  go_wp2_with fail
  refine (implDiffText_any AN (diffL l l2) capN w16 hdm N_16.out.pin SD.out).mono ?_
  rintro e w17 ⟨rfl, b17⟩
  have B17 := hide (B16.out.trans (b17.mono B16.out.size))
  have P_17 := hide (P_16.out.below b17)
  have Q_17 := hide (Q_16.out.below b17)
  have N_17 := hide (N_16.out.below b17)
  have T_17 := hide (T_16.out.below b17)
  have X_17 := hide (X_16.out.below b17)
  have M_17 := hide (M_16.out.below b17)
  have I_17 := hide (I_16.out.below b17)
  have B_17 := hide (B_16.out.below b17)
  have U_17 := hide (U_16.out.below b17)
  have V_17 := hide (V_16.out.below b17)
  have J_17 := hide (J_16.out.below b17)
  clear b17  B16 P_16 Q_16 N_16 T_16 X_16 M_16 I_16 B_16 U_16 V_16 J_16
  go_wp2
  go_ret
  exact ⟨rfl, B17.out⟩

set_option maxRecDepth 100000 in
theorem lifted (os : Os) (started : os.Started) (H : Type) (enc : TypeId × Value → H) :
    ReturnsInHanded {} Try.checked os 3 .any (Rows.fnDiffsSpec.pre6 enc Try.prog Try.f3 Rows.fnDiffsRow.domain false) (Rows.fnDiffsSpec.post enc Try.prog Try.f3 false true false false) := by
  refine returnsInHanded_of_change (C := Try.checked) own started (by kernel_rfl) Try.func3
    (ChangeSpec.witness6 (enc := enc) (C := Try.checked) false ⟨#[], #[.slice none 0 0], []⟩ 8 (by kernel_rfl) (by kernel_rfl) (by kernel_rfl) (by kernel_rfl)) ?_
  intro W base args ds gs before hval0 hW hcnd _
  have hval : ∀ (j : Nat) t v, Try.f3.params[j]? = some t → args[j]? = some v → Value.okWide Try.prog W .any base t v := hval0
  have hW' := hW
  obtain ⟨p, q, hA0, hV, rfl, hfz, hnd⟩ := hW
  have hA : DataW.TrodAll enc Try.prog W 0 (fun _ => true) true Try.f3.params.toList args.toList ds p := hA0
  rw [Try.params3] at hA hval
  obtain ⟨v0, vs0, d0, ds0, p0, q0, hargs, rfl, rfl, h0, r0⟩ := trodAll_cons hA
  obtain ⟨rfl, rfl, rfl⟩ := trodAll_nil r0
  obtain rfl : args = #[v0] := by cases args; simp_all
  obtain ⟨rfl, rfl⟩ := trodVars_none hV
  obtain ⟨A0, n0, cap0, rfl⟩ := okWide_slice Try.underlying22 (hval 0 22 v0 rfl rfl)
  have lt0 : ∀ x ∈ p0, x.block < W.heap.size := by obtain ⟨m, hm⟩ := h0; exact DataW.trod_lt m _ _ _ hm
  obtain ⟨l0, rfl, hl0, hin0⟩ := open_code h0
  clear hA0 hval0
  refine (walk A0 n0 cap0 W hl0 hin0).mono fun e W' ⟨he, bel⟩ => ?_
  subst he
  exact ⟨_, rfl, _, _, _, [], _, [], hW', trodAll_mk1 (shut_bool Try.underlying4 _), (trodAll_cons_mk (Below.trod laidOut (by kernel_rfl) (of_decide_eq_true (by kernel_rfl)) h0 bel lt0) trodAll_mk0), rfl, bel.frame _, fun h => by cases h⟩

theorem over : Rows.fnDiffsRow.holds Try.pinned (OpenSpec.ofChange Rows.fnDiffsSpec) :=
  OpenClaim.holds_of_wide 3 Try.f3 rfl rfl rfl rfl rfl rfl rfl ⟨rfl, rfl, rfl, rfl, rfl⟩ rfl rfl rfl rfl rfl (by kernel_rfl) Try.func3 (by kernel_rfl)
    (of_decide_eq_true (by kernel_rfl)) (by unfold Func.isWrapper; first | (rw [if_pos (by decide +kernel)]; kernel_rfl) | (rw [if_neg (by decide +kernel)]; exact ⟨rfl, rfl⟩))
    (fun os started H enc _ => lifted os started H enc)

end Go.Proofs.Ytcpalnkcjcgaeaa.LDiffs
namespace Go.Proofs.Ytcpalnkcjcgaeaa
theorem fnDiffs_proved : Rows.FnDiffsSaid := LDiffs.over
end Go.Proofs.Ytcpalnkcjcgaeaa
