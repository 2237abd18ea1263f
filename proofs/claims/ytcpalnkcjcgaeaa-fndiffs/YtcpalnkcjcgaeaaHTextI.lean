/-
  What impl.DiffText writes.
-/
import Derived.Test.YtcpalnkcjcgaeaaHText
import Derived.Test.YtcpalnkcjcgaeaaHEditO
namespace Go.Proofs.Ytcpalnkcjcgaeaa
open Go.RowKit

theorem ta_gain_gain (v : Value) (W : World) : (Instr.typeAssert (.iface 75 v) 65 75 true).run Try.prog W = .ok (.tuple #[v, .bool true]) W := by kernel_rfl
theorem ta_gain_loss (v : Value) (W : World) : (Instr.typeAssert (.iface 75 v) 65 78 true).run Try.prog W = .ok (.tuple #[.agg #[.string ⟨#[]⟩, .string ⟨#[]⟩], .bool false]) W := by kernel_rfl
theorem ta_gain_turn (v : Value) (W : World) : (Instr.typeAssert (.iface 75 v) 65 80 true).run Try.prog W = .ok (.tuple #[.agg #[.string ⟨#[]⟩, .string ⟨#[]⟩, .string ⟨#[]⟩, .string ⟨#[]⟩], .bool false]) W := by kernel_rfl
theorem ta_loss_gain (v : Value) (W : World) : (Instr.typeAssert (.iface 78 v) 65 75 true).run Try.prog W = .ok (.tuple #[.agg #[.string ⟨#[]⟩, .string ⟨#[]⟩], .bool false]) W := by kernel_rfl
theorem ta_loss_loss (v : Value) (W : World) : (Instr.typeAssert (.iface 78 v) 65 78 true).run Try.prog W = .ok (.tuple #[v, .bool true]) W := by kernel_rfl
theorem ta_loss_turn (v : Value) (W : World) : (Instr.typeAssert (.iface 78 v) 65 80 true).run Try.prog W = .ok (.tuple #[.agg #[.string ⟨#[]⟩, .string ⟨#[]⟩, .string ⟨#[]⟩, .string ⟨#[]⟩], .bool false]) W := by kernel_rfl
theorem ta_turn_gain (v : Value) (W : World) : (Instr.typeAssert (.iface 80 v) 65 75 true).run Try.prog W = .ok (.tuple #[.agg #[.string ⟨#[]⟩, .string ⟨#[]⟩], .bool false]) W := by kernel_rfl
theorem ta_turn_loss (v : Value) (W : World) : (Instr.typeAssert (.iface 80 v) 65 78 true).run Try.prog W = .ok (.tuple #[.agg #[.string ⟨#[]⟩, .string ⟨#[]⟩], .bool false]) W := by kernel_rfl
theorem ta_turn_turn (v : Value) (W : World) : (Instr.typeAssert (.iface 80 v) 65 80 true).run Try.prog W = .ok (.tuple #[v, .bool true]) W := by kernel_rfl
theorem ta_idle_gain (v : Value) (W : World) : (Instr.typeAssert (.iface 109 v) 65 75 true).run Try.prog W = .ok (.tuple #[.agg #[.string ⟨#[]⟩, .string ⟨#[]⟩], .bool false]) W := by kernel_rfl
theorem ta_idle_loss (v : Value) (W : World) : (Instr.typeAssert (.iface 109 v) 65 78 true).run Try.prog W = .ok (.tuple #[.agg #[.string ⟨#[]⟩, .string ⟨#[]⟩], .bool false]) W := by kernel_rfl
theorem ta_idle_turn (v : Value) (W : World) : (Instr.typeAssert (.iface 109 v) 65 80 true).run Try.prog W = .ok (.tuple #[.agg #[.string ⟨#[]⟩, .string ⟨#[]⟩, .string ⟨#[]⟩, .string ⟨#[]⟩], .bool false]) W := by kernel_rfl
theorem bc_append (a b : ByteArray) : Lib.byteCells a.data.toList ++ Lib.strCells b = Lib.byteCells (a ++ b).data.toList := by
  simp [Lib.byteCells, Lib.strCells, ByteArray.data_append]
theorem lineG_ne (s g x y : ByteArray) : (s ++ lineG g x y).data.toList ≠ [] := by
  intro e
  have h1 := lineG_size g x y
  have h2 : (s ++ lineG g x y).size = 0 := by
    show (s ++ lineG g x y).data.size = 0
    rw [← Array.length_toList, e]
    rfl
  rw [ByteArray.size_append] at h2
  omega
theorem says_ff (x o n : ByteArray) : saysC x o n false false = ByteArray.empty := by simp [saysC]
theorem says_ft (x o n : ByteArray) : saysC x o n false true = lineG ⟨#[43]⟩ x n := by simp [saysC]
theorem says_tf (x o n : ByteArray) : saysC x o n true false = lineG ⟨#[45]⟩ x o := by simp [saysC]
theorem says_tt (s x o n : ByteArray) : s ++ saysC x o n true true = s ++ lineG ⟨#[45]⟩ x o ++ lineG ⟨#[43]⟩ x n := by simp [saysC, ← bas]

set_option maxRecDepth 100000 in
set_option maxHeartbeats 4000000 in
theorem implDiffText_any (A : Option Addr) (l : List Ch) (cap : Nat) (w : World) (hl : l.length ≤ maxLen) (hin : HIn w w.heap.size A l) (ht : tot l ≤ 1048576) :
    Calls Try.prog 18 #[.slice A l.length cap] w fun e w' => e = .returned (.string (diffTextS l)) ∧ Below w.heap.size w w' := by
  unfold maxLen at hl
  by_cases h100 : l.length ≤ 100
  · have Z0 : Hid (diffTextS l = difT l) := hide (by unfold diffTextS; rw [if_pos h100])
    have IN := hide hin
    clear hin
    generalize hn : l.length = n at hl h100 ⊢
    have HN := hide hn
    have d100 : ¬ (100 : Int) < (n : Int) := by omega
    clear hn
    have I0 := hide (Lib.fresh_isBuilder 70 5 w)
    have BB0 := hide ((Below.refl w.heap.size w).alloc (Nat.le_refl _) (.cells #[.pointer none, .slice none 0 0] 70))
    have F0 := hide (heap_alloc_new w (.cells #[.pointer none, .slice none 0 0] 70))
    go_enter Try.func18, Try.ntmps18
    go_wp2_with fail
    go_loopw [14] (fun i wr => ∃ k : Nat, k ≤ n ∧ i = .int .i64 k ∧ Hid (IsBld w.heap.size w.heap.size (Lib.byteCells (difT (l.take k)).data.toList) wr) ∧ Hid ((difT (l.take k)).data.toList = [] → wr.heap[w.heap.size]? = some (.cells #[.pointer none, .slice none 0 0] 70 (0, 0))) ∧ Hid (Below w.heap.size w wr)) (fun i _ => n - (intOf i).toNat)
    case atStart => exact ⟨0, Nat.zero_le _, rfl, by simpa [difT, Lib.byteCells] using I0, hide (fun _ => F0.out), BB0⟩
    case round =>
      clear I0 BB0 F0
      obtain ⟨k, hk, rfl, I, F, Q⟩ := hrel
      have hqs := Q.out.size
      have hblt : w.heap.size < wr.heap.size := by
        rcases I.out with h | h <;> exact h.lt
      by_cases hlt : k < n
      · have hkl : k < l.length := by rw [HN.out]; omega
        have in1 := IN.out.below Q.out
        obtain ⟨b, off, rfl, hbB, hc⟩ := in1.2 (by omega)
        obtain ⟨c1, c2, c3, c4, c5⟩ := hc k hkl
        have s0 : (Lib.byteCells (difT (l.take k)).data.toList).length ≤ 2 * 1048576 + 600 := by
          rw [Lib.byteCells_length]
          have h7 := difT_size (l.take k)
          have h8 := tot_take l k
          rw [List.length_take] at h7
          have h9 : (difT (l.take k)).data.toList.length = (difT (l.take k)).size := by rw [Array.length_toList]; rfl
          omega
        have st : (l[k]'hkl).1.size + (l[k]'hkl).2.1.size + (l[k]'hkl).2.2.1.size ≤ 1048576 := by
          have h7 := tot_succ hkl
          have h8 := tot_take l (k + 1)
          omega
        have Z1 : Hid (difT (l.take k) ++ saysC (l[k]'hkl).1 (l[k]'hkl).2.1 (l[k]'hkl).2.2.1 (l[k]'hkl).2.2.2.1 (l[k]'hkl).2.2.2.2 = difT (l.take (k + 1))) := hide (by rw [difT_succ hkl]; rfl)
        generalize (l[k]'hkl).1 = x at *
        generalize (l[k]'hkl).2.1 = o at *
        generalize (l[k]'hkl).2.2.1 = n' at *
        generalize (l[k]'hkl).2.2.2.1 = p at *
        generalize (l[k]'hkl).2.2.2.2 = q at *
        generalize difT (l.take k) = s at *
        clear in1 hc
        go_wp2_with fail
        refine (editOf_any x o n' p q _).mono ?_
        rintro e w2 ⟨rfl, b2⟩
        have b2' := ((Below.refl wr.heap.size wr).alloc (Nat.le_refl _) (.cells #[.string x, .string o, .string n', .bool p, .bool q] 45)).trans (b2.mono (by simp))
        have I2 := hide (I.out.below b2')
        have F2 : Hid (s.data.toList = [] → w2.heap[w.heap.size]? = some (.cells #[.pointer none, .slice none 0 0] 70 (0, 0))) := hide (fun h => by rw [b2'.block _ hblt]; exact F.out h)
        have Q2 := hide (Q.out.trans (b2'.mono hqs))
        have hqs2 := Q2.out.size
        have hblt2 : w.heap.size < w2.heap.size := by have := b2'.size; omega
        clear b2 b2' I F Q c1 c2 c3 c4 c5
        cases p
        · cases q
          · rw [says_ff, bae'] at Z1
            rw [Z1.out] at I2 F2
            simp only [editV]
            have ta0 := ta_idle_gain
            have ta1 := ta_idle_loss
            have ta2 := ta_idle_turn
            go_wp2
            exact ⟨⟨k + 1, by omega, by go_num, I2, F2, Q2⟩, by simp [intOf]; omega⟩
          · rw [says_ft] at Z1
            simp only [editV]
            have ta0 := ta_gain_gain
            have W2 := hide (writePair_any w.heap.size w.heap.size (Lib.byteCells s.data.toList) ⟨#[43]⟩ x n' (w2.alloc (.cells #[.string x, .string n'] 75)) (I2.out.below ((Below.refl _ w2).alloc (Nat.le_refl _) _)) (by have e7 : (ByteArray.mk #[43]).size = 1 := rfl; omega) (Nat.le_trans hqs2 (by simp)))
            have Q3 := hide (Q2.out.alloc hqs2 (.cells #[.string x, .string n'] 75))
            rw [bc_append, Z1.out] at W2
            have NE : Hid ((difT (l.take (k + 1))).data.toList ≠ []) := hide (by rw [← Z1.out]; exact lineG_ne _ _ _ _)
            go_wp2_with fail
            refine W2.out.mono ?_
            rintro e w4 ⟨rfl, i4, b4, _⟩
            have I4 := hide i4
            have Q4 := hide (Q3.out.trans b4)
            clear i4 b4 W2 Q2 I2 F2 Q3
            go_wp2
            exact ⟨⟨k + 1, by omega, by go_num, I4, hide (fun h => absurd h NE.out), Q4⟩, by simp [intOf]; omega⟩
        · cases q
          · rw [says_tf] at Z1
            simp only [editV]
            have ta0 := ta_loss_gain
            have ta1 := ta_loss_loss
            have W2 := hide (writePair_any w.heap.size w.heap.size (Lib.byteCells s.data.toList) ⟨#[45]⟩ x o (w2.alloc (.cells #[.string x, .string o] 78)) (I2.out.below ((Below.refl _ w2).alloc (Nat.le_refl _) _)) (by have e7 : (ByteArray.mk #[45]).size = 1 := rfl; omega) (Nat.le_trans hqs2 (by simp)))
            have Q3 := hide (Q2.out.alloc hqs2 (.cells #[.string x, .string o] 78))
            rw [bc_append, Z1.out] at W2
            have NE : Hid ((difT (l.take (k + 1))).data.toList ≠ []) := hide (by rw [← Z1.out]; exact lineG_ne _ _ _ _)
            go_wp2_with fail
            refine W2.out.mono ?_
            rintro e w4 ⟨rfl, i4, b4, _⟩
            have I4 := hide i4
            have Q4 := hide (Q3.out.trans b4)
            clear i4 b4 W2 Q2 I2 F2 Q3
            go_wp2
            exact ⟨⟨k + 1, by omega, by go_num, I4, hide (fun h => absurd h NE.out), Q4⟩, by simp [intOf]; omega⟩
          · rw [says_tt] at Z1
            simp only [editV]
            have ta0 := ta_turn_gain
            have ta1 := ta_turn_loss
            have ta2 := ta_turn_turn
            have W2 := hide (writePair_any w.heap.size w.heap.size (Lib.byteCells s.data.toList) ⟨#[45]⟩ x o (w2.alloc (.cells #[.string x, .string o, .string x, .string n'] 80)) (I2.out.below ((Below.refl _ w2).alloc (Nat.le_refl _) _)) (by have e7 : (ByteArray.mk #[45]).size = 1 := rfl; omega) (Nat.le_trans hqs2 (by simp)))
            have HH := hide (heap_alloc_new w2 (.cells #[.string x, .string o, .string x, .string n'] 80))
            have Q3 := hide (Q2.out.alloc hqs2 (.cells #[.string x, .string o, .string x, .string n'] 80))
            rw [bc_append] at W2
            have NE : Hid ((difT (l.take (k + 1))).data.toList ≠ []) := hide (by rw [← Z1.out]; exact lineG_ne _ _ _ _)
            go_wp2_with fail
            refine W2.out.mono ?_
            rintro e w4 ⟨rfl, i4, b4, k4⟩
            have hh := k4 w2.heap.size _ _ _ (by omega) HH.out (by decide)
            have d2 : w4.cell? ⟨w2.heap.size, 2, none⟩ = some (.string x) := by rw [Lib.cell_of_heap hh]; rfl
            have d3 : w4.cell? ⟨w2.heap.size, 3, none⟩ = some (.string n') := by rw [Lib.cell_of_heap hh]; rfl
            have Q4 := hide (Q3.out.trans b4)
            have W4 := hide (writePair_any w.heap.size w.heap.size (Lib.byteCells (s ++ lineG ⟨#[45]⟩ x o).data.toList) ⟨#[43]⟩ x n' w4 i4 (by
              have e7 : (ByteArray.mk #[43]).size = 1 := rfl
              have e8 : (ByteArray.mk #[45]).size = 1 := rfl
              have e9 := lineG_size ⟨#[45]⟩ x o
              rw [← bc_append, List.length_append, Lib.strCells_length]
              omega) Q4.out.size)
            rw [bc_append, Z1.out] at W4
            clear i4 b4 k4 hh W2 Q2 I2 F2 Q3 HH
            go_wp2_with fail
            refine W4.out.mono ?_
            rintro e w5 ⟨rfl, i5, b5, _⟩
            have I5 := hide i5
            have Q5 := hide (Q4.out.trans b5)
            clear i5 b5 W4 Q4 d2 d3
            go_wp2
            exact ⟨⟨k + 1, by omega, by go_num, I5, hide (fun h => absurd h NE.out), Q5⟩, by simp [intOf]; omega⟩
      · have ek : Hid (l.take k = l) := hide (List.take_of_length_le (by rw [HN.out]; omega))
        have i7 := I.out
        have f7 := F.out
        rw [ek.out] at i7 f7
        have S1 := hide (string_any w.heap.size w.heap.size (difT l).data.toList wr i7 f7)
        have hgt : ¬ ((k : Int) < (n : Int)) := by omega
        clear i7 f7 I F hlt
        go_wp2_with fail
        refine S1.out.mono ?_
        rintro e w2 ⟨rfl, b2⟩
        have B2 := hide (Q.out.trans b2)
        clear b2 S1
        go_wp2
        go_ret
        exact ⟨ret_str Z0.out.symm, B2.out⟩
  · have Z0 : Hid (diffTextS l = ByteArray.empty) := hide (by unfold diffTextS; rw [if_neg h100])
    have d100 : (100 : Int) < (l.length : Int) := by omega
    go_enter Try.func18, Try.ntmps18
    go_wp2
    go_ret
    exact ⟨ret_str Z0.out.symm, Below.refl _ _⟩
end Go.Proofs.Ytcpalnkcjcgaeaa
