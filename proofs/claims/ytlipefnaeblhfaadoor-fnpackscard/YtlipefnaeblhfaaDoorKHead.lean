/-
  What impl.packHead reads.
-/
import Derived.Test.YtlipefnaeblhfaaDoorKNum
import Derived.WalkMore
import Derived.ScopeJumps
namespace Go.Proofs.YtlipefnaeblhfaaDoor
open Go.RowKit

theorem byK_cut (s : ByteArray) (k j : Nat) (h : j < k) (hk : k ≤ s.size) : byK (s.extract 0 k) j = byK s j := by
  have hz : (s.extract 0 k).size = k := by rw [ByteArray.size_extract]; omega
  rw [byK_in (show j < (s.extract 0 k).size by omega), byK_in (show j < s.size by omega)]
  simp [ByteArray.getElem_extract]
theorem numK_cut (s : ByteArray) (k : Nat) (hk : k ≤ s.size) : ∀ j, j ≤ k → numK (s.extract 0 k) j = numK s j
  | 0, _ => rfl
  | j + 1, h => by
    show 10 * numK (s.extract 0 k) j + (byK (s.extract 0 k) j - 48) = 10 * numK s j + (byK s j - 48)
    rw [numK_cut s k hk j (by omega), byK_cut s k j (by omega) hk]
/-- a pack's piece begins with a number and a byte 10 -/
def headP (s : ByteArray) : Prop := posB s 10 < s.size ∧ numP (s.extract 0 (posB s 10))
open Classical in
noncomputable def hdV (s : ByteArray) : Nat := if headP s then numK s (posB s 10) else 0
open Classical in
noncomputable def hdE (s : ByteArray) : Nat := if headP s then posB s 10 + 1 else 0
theorem hd_no {s : ByteArray} (h : ¬ headP s) : hdV s = 0 ∧ hdE s = 0 := ⟨if_neg h, if_neg h⟩
theorem hd_yes {s : ByteArray} (h : headP s) : hdV s = numK s (posB s 10) ∧ hdE s = posB s 10 + 1 := ⟨if_pos h, if_pos h⟩
/-- so far: e digits -/
def hdTo (s : ByteArray) (e : Nat) : Prop := e ≤ s.size ∧ e ≤ 9 ∧ digsTo s e ∧ (e ≤ 1 ∨ byK s 0 ≠ 48)
theorem hd_no10 {s : ByteArray} {e : Nat} (h : digsTo s e) (j : Nat) (hj : j < s.size) (hje : j < e) : s[j] ≠ 10 := fun hc => by
  have := (h j hje).1
  rw [byK_in hj, hc] at this
  exact absurd this (by decide)
theorem posB_is {s : ByteArray} {c : UInt8} (h : posB s c < s.size) : s[posB s c] = c := by
  have hp : List.findIdx (fun x => x == c) s.data.toList < s.data.toList.length := h
  have := List.findIdx_getElem (w := hp)
  exact beq_iff_eq.1 this
theorem hd_pos {s : ByteArray} {e : Nat} (h : digsTo s e) (he : e ≤ s.size) : e ≤ posB s 10 := by
  rcases Nat.lt_or_ge (posB s 10) e with g | g
  · exfalso
    exact hd_no10 h (posB s 10) (by omega) g (posB_is (by omega))
  · exact g
theorem hd_end {s : ByteArray} {e : Nat} (h : hdTo s e) (he : ¬ e < s.size) : ¬ headP s := fun hp => by
  have := hd_pos h.2.2.1 h.1
  have := hp.1
  omega
theorem hd_stop {s : ByteArray} {e : Nat} (h : hdTo s e) (he : e < s.size) (h0 : 0 < e) (hc : byK s e = 10) : headP s ∧ posB s 10 = e := by
  have hx : s[e] = 10 := by
    rw [byK_in he] at hc
    exact UInt8.toNat_inj.1 hc
  have hp := posB_hit he hx (fun j hj hje => hd_no10 h.2.2.1 j hj hje)
  have hz : (s.extract 0 e).size = e := by rw [ByteArray.size_extract]; omega
  refine ⟨⟨by omega, ?_⟩, hp⟩
  rw [hp]
  refine ⟨by omega, by rw [hz]; exact h.2.1, ?_, fun i hi => ?_⟩
  · rw [hz, byK_cut s e 0 h0 h.1]
    rintro ⟨a, b⟩
    rcases h.2.2.2 with g | g
    · omega
    · exact g a
  · rw [hz] at hi
    rw [byK_cut s e i hi h.1]
    exact h.2.2.1 i hi
theorem hd_bad {s : ByteArray} {e : Nat} (h : hdTo s e) (hc : byK s e ≠ 10 ∨ e = 0) (hb : ¬ (48 ≤ byK s e ∧ byK s e ≤ 57) ∨ (e = 1 ∧ byK s 0 = 48) ∨ e = 9) : ¬ headP s := fun hp => by
  have h1 := hd_pos h.2.2.1 h.1
  obtain ⟨p1, p2, p3, p4, p5⟩ := hp
  have hz : (s.extract 0 (posB s 10)).size = posB s 10 := by rw [ByteArray.size_extract]; omega
  rw [hz] at p2 p3 p4 p5
  have hne : e < posB s 10 := by
    rcases hc with hc | hc
    · rcases Nat.lt_or_ge e (posB s 10) with g | g
      · exact g
      · exfalso
        obtain g2 : posB s 10 = e := by omega
        apply hc
        rw [← g2, byK_in p1, posB_is p1]
        rfl
    · omega
  have h5 := p5 e hne
  rw [byK_cut s _ e hne (by omega)] at h5
  rw [byK_cut s _ 0 (by omega) (by omega)] at p4
  rcases hb with hb | ⟨hb, hb2⟩ | hb
  · exact hb h5
  · exact p4 ⟨hb2, by omega⟩
  · omega
theorem hd_next {s : ByteArray} {e : Nat} (h : hdTo s e) (he : e < s.size) (h1 : 48 ≤ byK s e) (h2 : byK s e ≤ 57) (h3 : ¬ (e = 1 ∧ byK s 0 = 48)) (h4 : e ≠ 9) : hdTo s (e + 1) := by
  obtain ⟨a, b, c, d⟩ := h
  refine ⟨he, by omega, digsTo_next c h1 h2, ?_⟩
  rcases Nat.eq_zero_or_pos e with g | g
  · exact .inl (by omega)
  · refine .inr fun hx => ?_
    rcases d with d | d
    · exact h3 ⟨by omega, hx⟩
    · exact d hx

set_option maxRecDepth 100000 in
set_option maxHeartbeats 1000000 in
theorem packHead_any (s : ByteArray) (w : World) (hs : s.size ≤ 1048576) :
    Calls Tryd.prog 33 #[.string s] w fun e w' => e = .returned (.tuple #[.int .i64 (hdV s : Int), .int .i64 (hdE s : Int)]) ∧ w = w' := by
  go_enter Tryd.func33, Tryd.ntmps33
  go_wp2
  refine wp_scope_jumps 0 (fun a' w' => w' = w ∧ ∃ (e : Nat) (u4 u5 u6 u7 u8 u9 u10 u11 u12 u13 u14 u15 u16 u17 u18 u19 u20 u21 u22 u23 u24 u25 u26 u27 u28 u29 u30 u31 u32 u33 u34 u35 u36 u37 u38 u39 : Value), a' = { tmps := #[.string s, undef, .int .i64 (numK s e : Int), .int .i64 (e : Int), u4, u5, u6, u7, u8, u9, u10, u11, u12, u13, u14, u15, u16, u17, u18, u19, u20, u21, u22, u23, u24, u25, u26, u27, u28, u29, u30, u31, u32, u33, u34, u35, u36, u37, u38, u39, undef, undef, undef], defers := [] } ∧ headP s ∧ posB s 10 = e ∧ e ≤ 9) (fun _ _ => 0) rfl ?_ ?_
  · go_wp2
    go_step3
    go_wp2
    go_loop [2, 3] (fun zv ev => ∃ e : Nat, e ≤ s.size ∧ e ≤ 9 ∧ zv = .int .i64 (numK s e : Int) ∧ ev = .int .i64 (e : Int) ∧ Hid (hdTo s e)) (fun _ e => s.size - (intOf e).toNat)
    case atStart => exact ⟨0, Nat.zero_le _, by omega, rfl, rfl, hide ⟨Nat.zero_le _, by omega, fun _ h => absurd h (by omega), .inl (by omega)⟩⟩
    case round =>
      obtain ⟨e, he, h9, rfl, rfl, F⟩ := hrel
      have NO : Hid (¬ headP s → Ending.returned (.tuple #[.int .i64 0, .int .i64 0]) = .returned (.tuple #[.int .i64 (hdV s : Int), .int .i64 (hdE s : Int)])) := hide (fun h => by obtain ⟨a, b⟩ := hd_no h; rw [a, b]; rfl)
      by_cases hlt : e < s.size
      · have bi : s[e].toNat = byK s e := (byK_in hlt).symm
        have bl := byK_lt s e
        have hk := numK_small F.out.2.2.1 h9
        have ST : Hid (numK s (e + 1) = 10 * numK s e + (byK s e - 48)) := hide rfl
        by_cases c10 : byK s e = 10 ∧ 0 < e
        · have Y := hide (hd_stop F.out hlt c10.2 c10.1)
          obtain ⟨c1, c2⟩ := c10
          rw [c1] at bi
          have d1 : (0 : Int) < (e : Int) := by omega
          have d2 : decide ((0 : Int) < (e : Int)) = true := decide_eq_true d1
          have d3 : decide (0 < e) = true := decide_eq_true c2
          clear NO ST F
          go_wp2
          go_step3
          exact ⟨rfl, rfl, e, _, _, _, _, _, _, _, _, _, _, _, _, _, _, _, _, _, _, _, _, _, _, _, _, _, _, _, _, _, _, _, _, _, _, _, _, rfl, Y.out.1, Y.out.2, by omega⟩
        · have BAD : Hid ((¬ (48 ≤ byK s e ∧ byK s e ≤ 57) ∨ (e = 1 ∧ byK s 0 = 48) ∨ e = 9) → ¬ headP s) := hide (fun h => hd_bad F.out (by
            by_cases hx : byK s e = 10
            · exact .inr (by
                rcases Nat.eq_zero_or_pos e with g | g
                · exact g
                · exact absurd ⟨hx, g⟩ c10)
            · exact .inl hx) h)
          have NXT : Hid (48 ≤ byK s e → byK s e ≤ 57 → ¬ (e = 1 ∧ byK s 0 = 48) → e ≠ 9 → hdTo s (e + 1)) := hide (fun a b c d => hd_next F.out hlt a b c d)
          have t0 : ((byK s e : Int) == 10 && decide ((0 : Int) < (e : Int))) = false := by
            rw [Bool.and_eq_false_iff]
            by_cases hx : byK s e = 10
            · exact .inr (decide_eq_false (by have : ¬ 0 < e := fun g => c10 ⟨hx, g⟩; omega))
            · exact .inl (beq_eq_false_iff_ne.2 (by omega))
          have z0 : (s[0]'(by omega)).toNat = byK s 0 := (byK_in (by omega)).symm
          clear F
          by_cases cx : byK s e = 10
          · have ex : e = 0 := by
              rcases Nat.eq_zero_or_pos e with g | g
              · exact g
              · exact absurd ⟨cx, g⟩ c10
            have N := hide (NO.out (BAD.out (.inl (by omega))))
            subst ex
            rw [cx] at bi
            clear NO BAD NXT t0 ST c10
            go_wp2
            simp only [Exit.jump]
            go_ret2
            exact ⟨N.out, rfl⟩
          · have f0 : ((byK s e : Int) == 10) = false := beq_eq_false_iff_ne.2 (by omega)
            have f1 : (byK s e == 10) = false := beq_eq_false_iff_ne.2 cx
            clear t0
            by_cases g1 : 48 ≤ byK s e ∧ byK s e ≤ 57
            · obtain ⟨g1, g2⟩ := g1
              generalize byK s e = c at *
              have f2 : decide ((48 : Int) ≤ (c : Int)) = true := decide_eq_true (by omega)
              have f3 : decide ((c : Int) ≤ 57) = true := decide_eq_true (by omega)
              have f4 : decide (48 ≤ c) = true := decide_eq_true g1
              have f5 : decide (c ≤ 57) = true := decide_eq_true g2
              by_cases g3 : e = 1 ∧ byK s 0 = 48
              · have N := hide (NO.out (BAD.out (.inr (.inl g3))))
                obtain ⟨rfl, g4⟩ := g3
                rw [g4] at z0
                clear NO BAD NXT ST c10
                go_wp2
                simp only [Exit.jump]
                go_ret2
                exact ⟨N.out, rfl⟩
              · by_cases g5 : e = 9
                · have N := hide (NO.out (BAD.out (.inr (.inr g5))))
                  subst g5
                  clear NO BAD NXT ST c10
                  go_wp2
                  simp only [Exit.jump]
                  go_ret2
                  exact ⟨N.out, rfl⟩
                · have X := hide (NXT.out g1 g2 g3 g5)
                  have f6 : ((e : Int) == 9) = false := beq_eq_false_iff_ne.2 (by omega)
                  have f7 : (e == 9) = false := beq_eq_false_iff_ne.2 g5
                  generalize numK s e = k at *
                  generalize byK s 0 = c0 at *
                  clear NO BAD NXT c10
                  by_cases g6 : e = 1
                  · have g7 : ¬ c0 = 48 := fun h => g3 ⟨g6, h⟩
                    have f8 : ((c0 : Int) == 48) = false := beq_eq_false_iff_ne.2 (by omega)
                    have f9 : (c0 == 48) = false := beq_eq_false_iff_ne.2 g7
                    have f10 : ((e : Int) == 1) = true := beq_iff_eq.2 (by omega)
                    have h8 : e + 1 ≤ 9 := by omega
                    clear g3 g5 g6
                    go_wp2
                    go_round
                    case rel => exact ⟨e + 1, by omega, h8, by rw [ST.out]; congr 1; omega, by go_num, X⟩
                    case measure => simp [intOf]; omega
                  · have f10 : ((e : Int) == 1) = false := beq_eq_false_iff_ne.2 (by omega)
                    have f11 : (e == 1) = false := beq_eq_false_iff_ne.2 g6
                    have h8 : e + 1 ≤ 9 := by omega
                    clear g3 g5 g6
                    go_wp2
                    go_round
                    case rel => exact ⟨e + 1, by omega, h8, by rw [ST.out]; congr 1; omega, by go_num, X⟩
                    case measure => simp [intOf]; omega
            · have N := hide (NO.out (BAD.out (.inl g1)))
              generalize byK s e = c at *
              clear NO BAD NXT ST c10
              by_cases g2 : 48 ≤ c
              · have f2 : decide ((48 : Int) ≤ (c : Int)) = true := decide_eq_true (by omega)
                have f3 : decide ((c : Int) ≤ 57) = false := decide_eq_false (by omega)
                have f4 : decide (48 ≤ c) = true := decide_eq_true g2
                have f5 : decide (c ≤ 57) = false := decide_eq_false (by omega)
                clear g1
                go_wp2
                simp only [Exit.jump]
                go_ret2
                exact ⟨N.out, rfl⟩
              · have f2 : decide ((48 : Int) ≤ (c : Int)) = false := decide_eq_false (by omega)
                have f4 : decide (48 ≤ c) = false := decide_eq_false g2
                clear g1
                go_wp2
                simp only [Exit.jump]
                go_ret2
                exact ⟨N.out, rfl⟩
      · have N := hide (NO.out (hd_end F.out hlt))
        have hgt : ¬ ((e : Int) < (s.size : Int)) := by omega
        clear hlt NO F
        go_wp2
        simp only [Exit.jump]
        go_ret2
        exact ⟨N.out, rfl⟩
  · rintro a' w' ⟨rfl, e, u4, u5, u6, u7, u8, u9, u10, u11, u12, u13, u14, u15, u16, u17, u18, u19, u20, u21, u22, u23, u24, u25, u26, u27, u28, u29, u30, u31, u32, u33, u34, u35, u36, u37, u38, u39, rfl, hp, he, h9⟩
    obtain ⟨e1, e2⟩ := hd_yes hp
    rw [he] at e1 e2
    have E1 := hide e1
    have E2 := hide e2
    go_wp2
    simp only [Exit.jump]
    go_ret2
    exact ⟨by rw [E1.out, E2.out]; rfl, rfl⟩
end Go.Proofs.YtlipefnaeblhfaaDoor
