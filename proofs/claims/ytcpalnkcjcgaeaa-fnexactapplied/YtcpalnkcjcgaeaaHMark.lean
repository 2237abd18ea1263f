/-
  What the laws' markChangeS and heldChangeS do.
-/
import Derived.Test.YtcpalnkcjcgaeaaHMem
import Derived.Test.YtcpalnkcjcgaeaaLMark
import Derived.Test.YtcpalnkcjcgaeaaLPairS
namespace Go.Proofs.Ytcpalnkcjcgaeaa
open Go.RowKit

def mB (k : Nat) : Bool := decide (k % 3 = 0)
theorem mB_eq {x : Int} {k : Nat} (h : x = (k : Int)) : (x % 3 == 0) = mB k := by
  subst h
  unfold mB
  by_cases h : k % 3 = 0
  · rw [decide_eq_true h, beq_iff_eq]; omega
  · rw [decide_eq_false h, beq_eq_false_iff_ne]; omega
def markC (q : Nat) : Ch := (markS q, markS (q + 1), markS (q + 2), mB (q + 3), mB (q + 4))
def marksC (k n : Nat) : List Ch := (List.range n).map fun i => markC (k + 5 * i)
theorem marksC_len (k n : Nat) : (marksC k n).length = n := by unfold marksC; simp
theorem marksC_succ (k n : Nat) : marksC k (n + 1) = marksC k n ++ [markC (k + 5 * n)] := by unfold marksC; rw [List.range_succ, List.map_append]; rfl
theorem marksC_get (k n i : Nat) (h : i < (marksC k n).length) : (marksC k n)[i] = markC (k + 5 * i) := by simp only [marksC, List.getElem_map, List.getElem_range]
theorem marksC_step (k : Nat) (l : List Ch) (i : Nat) (h : i < l.length) : (marksC k i ++ l.drop i).set i (markC (k + 5 * i)) = marksC k (i + 1) ++ l.drop (i + 1) := by
  rw [List.set_append_right _ _ (by rw [marksC_len]; exact Nat.le_refl _), marksC_len, Nat.sub_self, List.drop_eq_getElem_cons h, List.set_cons_zero, marksC_succ, List.append_assoc]
  rfl
theorem marksC_lens (k n : Nat) (h : k + 5 * n ≤ 10000000) : hlens (marksC k n) := by
  intro i hi
  rw [marksC_get]
  have := marksC_len k n
  have h1 := mark_size (k + 5 * i)
  have h2 := mark_size (k + 5 * i + 1)
  have h3 := mark_size (k + 5 * i + 2)
  unfold cC markC maxLen
  refine ⟨?_, ?_, ?_⟩ <;> simp only <;> omega
def MarkRetC (k : Nat) (w : World) (B : Nat) (A : Option Addr) (cap n : Nat) (e : Ending) (w' : World) : Prop := e = .returned (.int .i64 (k + 5 * n : Nat)) ∧ HOwn w' B A cap (marksC k n) ∧ w.grownBy w' (rowOf A)

set_option maxRecDepth 100000 in
set_option maxHeartbeats 2000000 in
theorem markChangeS_any (A : Option Addr) (l : List Ch) (cap k : Nat) (w : World) (B : Nat) (hk : 1 ≤ k) (hl : k + 5 * l.length ≤ 10000000) (hown : HOwn w B A cap l) :
    Calls Try.prog 36 #[.slice A l.length cap, .int .i64 k] w (MarkRetC k w B A cap l.length) := by
  rcases hown.form with ⟨rfl, rfl, rfl⟩ | ⟨g, rfl, hBg, hgw⟩
  · go_enter Try.func36, Try.ntmps36
    go_wp2
    refine wp_loop_rounds 1 ?_
    rw [rounds_succ]
    go_wp2
    go_ret
    exact ⟨rfl, ⟨marksC_lens k 0 (by omega), by simpa [marksC] using hown.2⟩, World.grownBy.refl _ _⟩
  · have O0 := hide hown.2
    clear hown
    generalize hn : l.length = n at *
    have HN := hide hn
    clear hn
    go_enter Try.func36, Try.ntmps36
    go_wp2
    go_loopw [1, 5] (fun q i wr => ∃ j : Nat, j ≤ n ∧ i = .int .i64 j ∧ q = .int .i64 (k + 5 * j : Nat) ∧ Hid (wr.ownsRow B 45 5 (.slice (some ⟨g, 0, none⟩) n cap) n (ccells (marksC k j ++ l.drop j))) ∧ Hid (w.grownBy wr (some g))) (fun _ i _ => n - (intOf i).toNat)
    case atStart => exact ⟨0, Nat.zero_le _, rfl, rfl, by simpa [marksC] using O0, World.grownBy.refl _ _⟩
    case round =>
      clear O0
      obtain ⟨j, hj, rfl, rfl, O, G⟩ := hrel
      by_cases hlt : j < n
      · have hjl : j < l.length := by rw [HN.out]; omega
        have hz : g < wr.heap.size := by have := G.out.size; omega
        have LN : Hid ((ccells (marksC k j ++ l.drop j)).length = n * 5) := hide (by rw [ccells_length, List.length_append, marksC_len, List.length_drop, HN.out]; omega)
        have E2 := hide (ccells_set (marksC k j ++ l.drop j) j (markC (k + 5 * j)))
        rw [marksC_step k l j hjl] at E2
        have KK : Hid (k + 5 * (j + 1) = k + 5 * j + 5) := hide (by omega)
        have hkj : k + 5 * j + 5 ≤ 10000000 := by omega
        have hq1 : 1 ≤ k + 5 * j := by omega
        generalize marksC k j ++ l.drop j = xs at *
        generalize k + 5 * j = q at *
        simp only [markC] at E2
        go_wp2_with fail
        refine (markText_int _ q _ rfl (by omega) (by omega)).mono ?_
        rintro e w2 ⟨rfl, b2⟩
        have O2 := hide (O.out.kept (Below.toGrown b2 none) (.inr (by simp [Value.ownBlock])))
        have G2 := hide (World.grownBy.trans G.out (Below.toGrown b2 (some g)))
        obtain ⟨x1, r1⟩ : ∃ x, w2.cell? ⟨g, j * 5, none⟩ = some x := by rw [O2.out.cellAt (j * 5) (by omega)]; exact ⟨_, List.getElem?_eq_getElem (by rw [LN.out]; omega)⟩
        have f1 := O2.out.frozenAt (j * 5)
        have S2 := hide (O2.out.stored (j * 5) (.string (markS q)))
        clear b2
        generalize markS q = m1 at *
        go_wp2_with fail
        refine (markText_int _ (q + 1) _ (by omega) (by omega) (by omega)).mono ?_
        rintro e w3 ⟨rfl, b3⟩
        have O3 := hide (S2.out.1.kept (Below.toGrown b3 none) (.inr (by simp [Value.ownBlock])))
        have G3 := hide (World.grownBy.trans (World.grownBy.trans G2.out S2.out.2) (Below.toGrown b3 (some g)))
        obtain ⟨x2, r2⟩ : ∃ x, w3.cell? ⟨g, j * 5 + 1, none⟩ = some x := by rw [O3.out.cellAt (j * 5 + 1) (by omega)]; exact ⟨_, List.getElem?_eq_getElem (by rw [List.length_set, LN.out]; omega)⟩
        have f2 := O3.out.frozenAt (j * 5 + 1)
        have S3 := hide (O3.out.stored (j * 5 + 1) (.string (markS (q + 1))))
        clear b3
        generalize markS (q + 1) = m2 at *
        go_wp2_with fail
        refine (markText_int _ (q + 2) _ (by omega) (by omega) (by omega)).mono ?_
        rintro e w4 ⟨rfl, b4⟩
        have O4 := hide (S3.out.1.kept (Below.toGrown b4 none) (.inr (by simp [Value.ownBlock])))
        have G4 := hide (World.grownBy.trans (World.grownBy.trans G3.out S3.out.2) (Below.toGrown b4 (some g)))
        have LN4 : Hid (∀ i, i < n * 5 → ∃ x, w4.cell? ⟨g, i, none⟩ = some x) := hide (fun i hi => by rw [O4.out.cellAt i (by omega)]; exact ⟨_, List.getElem?_eq_getElem (by rw [List.length_set, List.length_set, LN.out]; omega)⟩)
        obtain ⟨x3, r3⟩ := LN4.out (j * 5 + 2) (by omega)
        obtain ⟨x4, r4⟩ := LN4.out (j * 5 + 3) (by omega)
        obtain ⟨x5, r5⟩ := LN4.out (j * 5 + 4) (by omega)
        have f3 := O4.out.frozenAt (j * 5 + 2)
        have f4 := O4.out.frozenAt (j * 5 + 3)
        have f5 := O4.out.frozenAt (j * 5 + 4)
        have S4 := O4.out.stored (j * 5 + 2) (.string (markS (q + 2)))
        have S5 := S4.1.stored (j * 5 + 3) (.bool (mB (q + 3)))
        have S6 := S5.1.stored (j * 5 + 4) (.bool (mB (q + 4)))
        have S7 := hide S6.1
        have G7 := hide (World.grownBy.trans (World.grownBy.trans (World.grownBy.trans G4.out S4.2) S5.2) S6.2)
        clear b4 S4 S5 S6
        generalize markS (q + 2) = m3 at *
        go_wp2
        go_roundw
        case rel =>
          have S8 := S7.out
          rw [E2.out] at S8
          rw [mB_eq (x := (q : Int) + 1 + 1 + 1) (k := q + 3) (by omega), mB_eq (x := (q : Int) + 1 + 1 + 1 + 1) (k := q + 4) (by omega)]
          exact ⟨j + 1, by omega, by go_num, by rw [KK.out]; go_num, S8, G7⟩
        case measure => simp [intOf]; omega
      · obtain rfl : j = n := by omega
        have F : Hid (marksC k j ++ l.drop j = marksC k j) := hide (by rw [List.drop_of_length_le (by rw [HN.out]; exact Nat.le_refl _), List.append_nil])
        go_wp2
        go_ret
        refine ⟨rfl, ⟨marksC_lens k j (by omega), ?_⟩, G.out⟩
        have O2 := O.out
        rw [F.out] at O2
        rw [marksC_len]
        exact O2

set_option maxRecDepth 100000 in
set_option maxHeartbeats 2000000 in
theorem heldChangeS_any (A : Option Addr) (n cap k : Nat) (w : World) (hk : 1 ≤ k) (hl : k + 5 * n ≤ 10000000) (hin : HIn w w.heap.size A (marksC k n)) :
    Calls Try.prog 37 #[.slice A n cap, .int .i64 k] w fun e w' => e = .returned (.int .i64 (k + 5 * n : Nat)) ∧ Below w.heap.size w w' := by
  go_enter Try.func37, Try.ntmps37
  go_wp2
  go_loopw [1, 5] (fun q i wr => ∃ j : Nat, j ≤ n ∧ i = .int .i64 j ∧ q = .int .i64 (k + 5 * j : Nat) ∧ Hid (Below w.heap.size w wr)) (fun _ i _ => n - (intOf i).toNat)
  case atStart => exact ⟨0, Nat.zero_le _, rfl, rfl, Below.refl _ w⟩
  case round =>
    obtain ⟨j, hj, rfl, rfl, Q⟩ := hrel
    by_cases hlt : j < n
    · have hin2 := (hin.below Q.out).more Q.out.size
      have hjl : j < (marksC k n).length := by rw [marksC_len]; exact hlt
      obtain ⟨b, off, rfl, hbB, hc⟩ := hin2.2 (by omega)
      obtain ⟨c1, c2, c3, c4, c5⟩ := hc j hjl
      rw [marksC_get] at c1 c2 c3 c4 c5
      simp only [markC] at c1 c2 c3 c4 c5
      have KK : Hid (k + 5 * (j + 1) = k + 5 * j + 5) := hide (by omega)
      have hkj : k + 5 * j + 5 ≤ 10000000 := by omega
      have hq1 : 1 ≤ k + 5 * j := by omega
      clear hc hin2 hjl
      generalize k + 5 * j = q at *
      have M1h := hide (fun W => markText_int (q : Int) q W rfl (by omega) (by omega))
      have M2h := hide (fun W => markText_int ((q : Int) + 1) (q + 1) W (by omega) (by omega) (by omega))
      have M3h := hide (fun W => markText_int ((q : Int) + 1 + 1) (q + 2) W (by omega) (by omega) (by omega))
      generalize markS q = m1 at *
      generalize markS (q + 1) = m2 at *
      generalize markS (q + 2) = m3 at *
      have e1 : (m1.toList == m1.toList) = true := by simp
      have e2 : (m2.toList == m2.toList) = true := by simp
      have e3 : (m3.toList == m3.toList) = true := by simp
      go_wp2
      go_region_held3 (fun w' => w'.cell? ⟨b, off + j * 5, none⟩ = some (.string m1)) (first | go_keep | exact cellB b2 (by simp; omega) (by simpa using c1))
        (first | (go_at_call 69; refine (M1h.out _).mono ?_; rintro e w2 ⟨rfl, b2⟩))
      have Q2 := hide (Q.out.trans (((Below.refl _ wr).drew).trans (b2.mono (by exact Q.out.size))))
      have d2 : w2.cell? ⟨b, off + j * 5 + 1, none⟩ = some (.string m2) := cellB b2 (by simpa using hbB) (by simpa using c2)
      have d3 : w2.cell? ⟨b, off + j * 5 + 2, none⟩ = some (.string m3) := cellB b2 (by simpa using hbB) (by simpa using c3)
      have d4 : w2.cell? ⟨b, off + j * 5 + 3, none⟩ = some (.bool (mB (q + 3))) := cellB b2 (by simpa using hbB) (by simpa using c4)
      have d5 : w2.cell? ⟨b, off + j * 5 + 4, none⟩ = some (.bool (mB (q + 4))) := cellB b2 (by simpa using hbB) (by simpa using c5)
      have hb2 : b < w2.heap.size := by have := b2.size; simp at this; omega
      clear c1 c2 c3 c4 c5 b2
      go_wp2
      go_region_held3 (fun w' => w'.cell? ⟨b, off + j * 5 + 1, none⟩ = some (.string m2)) (first | go_keep | exact cellB b3 (by simp; omega) (by simpa using d2))
        (first | (go_at_call 69; refine (M2h.out _).mono ?_; rintro e w3 ⟨rfl, b3⟩))
      have Q3 := hide (Q2.out.trans (((Below.refl _ w2).drew).trans (b3.mono (by exact Q2.out.size))))
      have g3 : w3.cell? ⟨b, off + j * 5 + 2, none⟩ = some (.string m3) := cellB b3 (by simpa using hb2) (by simpa using d3)
      have g4 : w3.cell? ⟨b, off + j * 5 + 3, none⟩ = some (.bool (mB (q + 3))) := cellB b3 (by simpa using hb2) (by simpa using d4)
      have g5 : w3.cell? ⟨b, off + j * 5 + 4, none⟩ = some (.bool (mB (q + 4))) := cellB b3 (by simpa using hb2) (by simpa using d5)
      have hb3 : b < w3.heap.size := by have := b3.size; simp at this; omega
      clear d2 d3 d4 d5 b3
      go_wp2
      go_region_held3 (fun w' => w'.cell? ⟨b, off + j * 5 + 2, none⟩ = some (.string m3)) (first | go_keep | exact cellB b4 (by simp; omega) (by simpa using g3))
        (first | (go_at_call 69; refine (M3h.out _).mono ?_; rintro e w4 ⟨rfl, b4⟩))
      have Q4 := hide (Q3.out.trans (((Below.refl _ w3).drew).trans (b4.mono (by exact Q3.out.size))))
      have i4 : w4.cell? ⟨b, off + j * 5 + 3, none⟩ = some (.bool (mB (q + 3))) := cellB b4 (by simpa using hb3) (by simpa using g4)
      have i5 : w4.cell? ⟨b, off + j * 5 + 4, none⟩ = some (.bool (mB (q + 4))) := cellB b4 (by simpa using hb3) (by simpa using g5)
      clear g3 g4 g5 b4
      have u3 : (mB (q + 3) == (((q : Int) + 1 + 1 + 1) % 3 == 0)) = true := by rw [mB_eq (k := q + 3) (by omega)]; simp
      have u4 : (mB (q + 4) == (((q : Int) + 1 + 1 + 1 + 1) % 3 == 0)) = true := by rw [mB_eq (k := q + 4) (by omega)]; simp
      go_wp2
      go_roundw
      case rel => exact ⟨j + 1, by omega, by go_num, by rw [KK.out]; go_num, Q4.out⟩
      case measure => simp [intOf]; omega
    · go_wp2
      go_ret
      obtain rfl : j = n := by omega
      exact ⟨rfl, Q.out⟩
end Go.Proofs.Ytcpalnkcjcgaeaa
