/-
  What impl.shaBytes makes of eight words.
-/
import Derived.Test.YtdahpnjamlfakaaGreatDoorQArr
import Derived.Laws.BytesArg
import Derived.Below
namespace Go.Proofs.YtdahpnjamlfakaaGreatDoor
open Go.RowKit

/-- the four bytes of a word, the highest first -/
def bytesI (x : Int) : List Int := [x / 16777216, x / 65536 % 256, x / 256 % 256, x % 256]
theorem run_conv (W : World) (b cap : Nat) (xs : List Int) (n : Nat) (t : TypeId) (hn : xs.length = n) (hb : W.heap[b]? = some (.cells (xs.map (Value.int .u8)).toArray t (0, 0))) :
    (convert 22 9 (.slice (some ⟨b, 0, none⟩) n cap)).run Tryz.prog W = .ok (.string (strOfNums xs)) W :=
  run_convert_bytes_arg W 22 5 (by kernel_rfl) (by kernel_rfl) b 0 n cap xs hn (fun i hi => by
    rw [Nat.zero_add, cell_of_row W b i _ t (0, 0) hb]
    have hi' : i < xs.length := by omega
    simp [hi', List.getD]) 9 (by kernel_rfl)

set_option maxRecDepth 100000 in
set_option maxHeartbeats 1000000 in
theorem shaBytes_any (x0 x1 x2 x3 x4 x5 x6 x7 : Int) (w : World) (h0 : isW x0) (h1 : isW x1) (h2 : isW x2) (h3 : isW x3) (h4 : isW x4) (h5 : isW x5) (h6 : isW x6) (h7 : isW x7) :
    Calls Tryz.prog 131 #[.agg #[.int .u32 x0, .int .u32 x1, .int .u32 x2, .int .u32 x3, .int .u32 x4, .int .u32 x5, .int .u32 x6, .int .u32 x7]] w fun e w' => e = .returned (.string (strOfNums ([x0, x1, x2, x3, x4, x5, x6, x7].flatMap bytesI))) ∧ Below w.heap.size w w' := by
  have k0 : ∀ w, (Instr.index 150 (.agg #[.int .u32 x0, .int .u32 x1, .int .u32 x2, .int .u32 x3, .int .u32 x4, .int .u32 x5, .int .u32 x6, .int .u32 x7]) (.int .i64 0)).run Tryz.prog w = .ok (.int .u32 x0) w := fun w => run_index_agg8 _ rfl 0 (by omega) (by omega) w
  obtain ⟨a0, b0⟩ := h0
  have k1 : ∀ w, (Instr.index 150 (.agg #[.int .u32 x0, .int .u32 x1, .int .u32 x2, .int .u32 x3, .int .u32 x4, .int .u32 x5, .int .u32 x6, .int .u32 x7]) (.int .i64 1)).run Tryz.prog w = .ok (.int .u32 x1) w := fun w => run_index_agg8 _ rfl 1 (by omega) (by omega) w
  obtain ⟨a1, b1⟩ := h1
  have k2 : ∀ w, (Instr.index 150 (.agg #[.int .u32 x0, .int .u32 x1, .int .u32 x2, .int .u32 x3, .int .u32 x4, .int .u32 x5, .int .u32 x6, .int .u32 x7]) (.int .i64 2)).run Tryz.prog w = .ok (.int .u32 x2) w := fun w => run_index_agg8 _ rfl 2 (by omega) (by omega) w
  obtain ⟨a2, b2⟩ := h2
  have k3 : ∀ w, (Instr.index 150 (.agg #[.int .u32 x0, .int .u32 x1, .int .u32 x2, .int .u32 x3, .int .u32 x4, .int .u32 x5, .int .u32 x6, .int .u32 x7]) (.int .i64 3)).run Tryz.prog w = .ok (.int .u32 x3) w := fun w => run_index_agg8 _ rfl 3 (by omega) (by omega) w
  obtain ⟨a3, b3⟩ := h3
  have k4 : ∀ w, (Instr.index 150 (.agg #[.int .u32 x0, .int .u32 x1, .int .u32 x2, .int .u32 x3, .int .u32 x4, .int .u32 x5, .int .u32 x6, .int .u32 x7]) (.int .i64 4)).run Tryz.prog w = .ok (.int .u32 x4) w := fun w => run_index_agg8 _ rfl 4 (by omega) (by omega) w
  obtain ⟨a4, b4⟩ := h4
  have k5 : ∀ w, (Instr.index 150 (.agg #[.int .u32 x0, .int .u32 x1, .int .u32 x2, .int .u32 x3, .int .u32 x4, .int .u32 x5, .int .u32 x6, .int .u32 x7]) (.int .i64 5)).run Tryz.prog w = .ok (.int .u32 x5) w := fun w => run_index_agg8 _ rfl 5 (by omega) (by omega) w
  obtain ⟨a5, b5⟩ := h5
  have k6 : ∀ w, (Instr.index 150 (.agg #[.int .u32 x0, .int .u32 x1, .int .u32 x2, .int .u32 x3, .int .u32 x4, .int .u32 x5, .int .u32 x6, .int .u32 x7]) (.int .i64 6)).run Tryz.prog w = .ok (.int .u32 x6) w := fun w => run_index_agg8 _ rfl 6 (by omega) (by omega) w
  obtain ⟨a6, b6⟩ := h6
  have k7 : ∀ w, (Instr.index 150 (.agg #[.int .u32 x0, .int .u32 x1, .int .u32 x2, .int .u32 x3, .int .u32 x4, .int .u32 x5, .int .u32 x6, .int .u32 x7]) (.int .i64 7)).run Tryz.prog w = .ok (.int .u32 x7) w := fun w => run_index_agg8 _ rfl 7 (by omega) (by omega) w
  obtain ⟨a7, b7⟩ := h7
  go_enter Tryz.func131, Tryz.ntmps131
  go_wp2
  refine wp_loop_rounds 9 ?_
  rw [rounds_succ]
  go_wp2
  rw [rounds_succ]
  go_wp2
  rw [rounds_succ]
  go_wp2
  rw [rounds_succ]
  go_wp2
  rw [rounds_succ]
  go_wp2
  rw [rounds_succ]
  go_wp2
  rw [rounds_succ]
  go_wp2
  rw [rounds_succ]
  go_wp2
  rw [rounds_succ]
  go_wp2
  have C := run_conv ((w.alloc (.cells #[.int .u32 x0, .int .u32 x1, .int .u32 x2, .int .u32 x3, .int .u32 x4, .int .u32 x5, .int .u32 x6, .int .u32 x7] 150)).alloc (.cells (([x0, x1, x2, x3, x4, x5, x6, x7].flatMap bytesI).map (Value.int .u8)).toArray 180)) (w.heap.size + 1) 32 ([x0, x1, x2, x3, x4, x5, x6, x7].flatMap bytesI) 32 180 rfl (by
    have h := heap_alloc_new (w.alloc (.cells #[.int .u32 x0, .int .u32 x1, .int .u32 x2, .int .u32 x3, .int .u32 x4, .int .u32 x5, .int .u32 x6, .int .u32 x7] 150)) (.cells (([x0, x1, x2, x3, x4, x5, x6, x7].flatMap bytesI).map (Value.int .u8)).toArray 180)
    have e : (w.alloc (.cells #[.int .u32 x0, .int .u32 x1, .int .u32 x2, .int .u32 x3, .int .u32 x4, .int .u32 x5, .int .u32 x6, .int .u32 x7] 150)).heap.size = w.heap.size + 1 := by simp
    rw [e] at h
    exact h)
  have B : Hid (Below w.heap.size w ((w.alloc (.cells #[.int .u32 x0, .int .u32 x1, .int .u32 x2, .int .u32 x3, .int .u32 x4, .int .u32 x5, .int .u32 x6, .int .u32 x7] 150)).alloc (.cells (([x0, x1, x2, x3, x4, x5, x6, x7].flatMap bytesI).map (Value.int .u8)).toArray 180))) := hide (((Below.refl w.heap.size w).alloc (Nat.le_refl _) _).alloc (by simp) _)
  simp only [List.flatMap_cons, List.flatMap_nil, bytesI, List.cons_append, List.nil_append, List.append_nil, List.map_cons, List.map_nil] at C B ⊢
  rw [C]
  simp only [Result.andThen]
  rw [Oper.upon_value]
  go_wp2
  go_ret
  exact ⟨rfl, B.out⟩
end Go.Proofs.YtdahpnjamlfakaaGreatDoor
