/-
  What spec.l11Form answers.
-/
import Derived.Test.YtblggbihnglipaaDFoS
namespace Go.Proofs.Ytblggbihnglipaa
open Go.RowKit

theorem box4 (w : World) (a b c d : Value) (t : TypeId) : (w.alloc (.cells #[a, b, c, d] t)).cell? ⟨w.heap.size, 0, none⟩ = some a ∧ (w.alloc (.cells #[a, b, c, d] t)).cell? ⟨w.heap.size, 1, none⟩ = some b ∧ (w.alloc (.cells #[a, b, c, d] t)).cell? ⟨w.heap.size, 2, none⟩ = some c ∧ (w.alloc (.cells #[a, b, c, d] t)).cell? ⟨w.heap.size, 3, none⟩ = some d := by
  have h := heap_alloc_new w (.cells #[a, b, c, d] t)
  exact ⟨cell_of_row _ _ 0 _ _ _ h, cell_of_row _ _ 1 _ _ _ h, cell_of_row _ _ 2 _ _ _ h, cell_of_row _ _ 3 _ _ _ h⟩
theorem empD (s : ByteArray) : (s.toList == []) = decide (s = ByteArray.empty) := by
  by_cases h : s = ByteArray.empty
  · subst h
    rw [Go.ByteArray.toList_eq]
    simp
  · rw [decide_eq_false h, beq_eq_false_iff_ne]
    intro e
    apply h
    apply Go.WideShapes.bytes_inj
    rw [Go.ByteArray.toList_eq] at e
    simpa using e
set_option maxRecDepth 100000 in
set_option maxHeartbeats 1000000 in
theorem l11Form_any (k : Int) (a b c : ByteArray) (w : World) (ha : a.size ≤ maxLen) (hb : b.size ≤ maxLen) :
    Calls Try.prog 43 #[.agg #[.int .i64 k, .string a, .string b, .string c]] w fun e w' => e = .returned (.bool (formB (k, a, b, c))) ∧ Below w.heap.size w w' := by
  obtain ⟨x0, x1, x2, x3⟩ := box4 w (.int .i64 k) (.string a) (.string b) (.string c) 45
  have B1 : Hid (Below w.heap.size w (w.alloc (.cells #[.int .i64 k, .string a, .string b, .string c] 45))) := hide ((Below.refl _ w).alloc (Nat.le_refl _) _)
  have NA := hide (fun W => l11Name_any a W ha)
  have NB := hide (fun W => l11Name_any b W hb)
  have KI := hide (fun W => l1In_any k 1 3 W)
  by_cases hk : 1 ≤ k ∧ k ≤ 3
  · have kd : (decide (1 ≤ k) && decide (k ≤ 3)) = true := by rw [decide_eq_true hk.1, decide_eq_true hk.2]; rfl
    rw [kd] at KI
    by_cases hna : nameP a
    · rw [nameB_yes hna] at NA
      by_cases h2 : k = 2
      · subst h2
        have FE : formB (2, a, b, c) = (nameB b && decide (c = ByteArray.empty)) := by
          by_cases h : nameP b ∧ c = ByteArray.empty
          · rw [formB_yes ⟨by show (1 : Int) ≤ 2; omega, by show (2 : Int) ≤ 3; omega, hna, fun _ => h, fun h => absurd rfl h⟩, nameB_yes h.1, decide_eq_true h.2]; rfl
          · rw [formB_no (fun hp => h (hp.2.2.2.1 rfl))]
            by_cases h1 : nameP b
            · rw [decide_eq_false (fun e => h ⟨h1, e⟩), Bool.and_false]
            · rw [nameB_no h1, Bool.false_and]
        have F2 := hide FE
        clear FE hk kd
        have ec := empD c
        generalize decide (c = ByteArray.empty) = dc at *
        generalize nameB b = nb at *
        go_enter Try.func43, Try.ntmps43
        go_wp2_with fail
        refine (KI.out _).mono ?_
        rintro e w1 ⟨rfl, rfl⟩
        go_wp2_with fail
        refine (NA.out _).mono ?_
        rintro e w1 ⟨rfl, rfl⟩
        go_wp2_with fail
        refine (NB.out _).mono ?_
        rintro e w1 ⟨rfl, rfl⟩
        cases nb
        · go_wp2
          go_ret
          exact ⟨ret_bool (by rw [F2.out]; rfl), B1.out⟩
        · go_wp2
          go_ret
          exact ⟨ret_bool (by rw [F2.out]; simp), B1.out⟩
      · have FE : formB (k, a, b, c) = (decide (b = ByteArray.empty) && (decide (k = 1) || decide (c = ByteArray.empty))) := by
          by_cases hb0 : b = ByteArray.empty
          · by_cases hc0 : k = 1 ∨ c = ByteArray.empty
            · rw [formB_yes ⟨hk.1, hk.2, hna, fun h => absurd h h2, fun _ => ⟨hb0, hc0⟩⟩, decide_eq_true hb0]
              rcases hc0 with h | h
              · rw [decide_eq_true h]; rfl
              · rw [decide_eq_true h]; simp
            · rw [formB_no (fun hp => hc0 (hp.2.2.2.2 h2).2), decide_eq_true hb0, decide_eq_false (fun h => hc0 (.inl h)), decide_eq_false (fun h => hc0 (.inr h))]; rfl
          · rw [formB_no (fun hp => hb0 (hp.2.2.2.2 h2).1), decide_eq_false hb0]; rfl
        have F2 := hide FE
        have k2 : (k == 2) = false := beq_eq_false_iff_ne.2 h2
        have k1 : (k == 1) = decide (k = 1) := by
          by_cases h : k = 1
          · rw [decide_eq_true h, beq_iff_eq]; exact h
          · rw [decide_eq_false h, beq_eq_false_iff_ne]; exact h
        clear FE hk kd h2
        have ec := empD c
        have eb := empD b
        generalize decide (c = ByteArray.empty) = dc at *
        generalize decide (b = ByteArray.empty) = db at *
        generalize decide (k = 1) = dk at *
        go_enter Try.func43, Try.ntmps43
        go_wp2_with fail
        refine (KI.out _).mono ?_
        rintro e w1 ⟨rfl, rfl⟩
        go_wp2_with fail
        refine (NA.out _).mono ?_
        rintro e w1 ⟨rfl, rfl⟩
        cases db
        · go_wp2
          go_ret
          exact ⟨ret_bool (by rw [F2.out]; rfl), B1.out⟩
        · cases dk
          · go_wp2
            go_ret
            exact ⟨ret_bool (by rw [F2.out]; simp), B1.out⟩
          · go_wp2
            go_ret
            exact ⟨ret_bool (by rw [F2.out]; simp), B1.out⟩
    · have F2 := hide (formB_no (o := (k, a, b, c)) (fun hp => hna hp.2.2.1))
      rw [nameB_no hna] at NA
      go_enter Try.func43, Try.ntmps43
      go_wp2_with fail
      refine (KI.out _).mono ?_
      rintro e w1 ⟨rfl, rfl⟩
      go_wp2_with fail
      refine (NA.out _).mono ?_
      rintro e w1 ⟨rfl, rfl⟩
      go_wp2
      go_ret
      exact ⟨ret_bool F2.out.symm, B1.out⟩
  · have F2 := hide (formB_no (o := (k, a, b, c)) (fun hp => hk ⟨hp.1, hp.2.1⟩))
    have kd : (decide (1 ≤ k) && decide (k ≤ 3)) = false := by
      by_cases h : 1 ≤ k
      · rw [decide_eq_false (show ¬ k ≤ 3 from fun h' => hk ⟨h, h'⟩), Bool.and_false]
      · rw [decide_eq_false h, Bool.false_and]
    rw [kd] at KI
    go_enter Try.func43, Try.ntmps43
    go_wp2_with fail
    refine (KI.out _).mono ?_
    rintro e w1 ⟨rfl, rfl⟩
    go_wp2
    go_ret
    exact ⟨ret_bool F2.out.symm, B1.out⟩
end Go.Proofs.Ytblggbihnglipaa
