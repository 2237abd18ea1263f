/-
  The 64 words of the rounds: what spec.l2K gives at each place.
-/
import Derived.Test.YtdahpnjamlfakaaGreatDoorQRot
import Derived.Test.YtdahpnjamlfakaaGreatDoorQTab
namespace Go.Proofs.YtdahpnjamlfakaaGreatDoor
open Go.RowKit

set_option maxRecDepth 100000 in
theorem l2K_0 (w : World) : Calls Tryz.prog 170 #[.int .i64 0] w fun e w' => e = .returned (.int .u32 1116352408) ∧ ∃ n, w' = w.drewN n := by
  go_enter Tryz.func170, Tryz.ntmps170
  go_wp2
  go_quiet (fail)
  go_wp2
  go_ret
  exact ⟨by rfl, _, rfl⟩
set_option maxRecDepth 100000 in
theorem l2K_1 (w : World) : Calls Tryz.prog 170 #[.int .i64 1] w fun e w' => e = .returned (.int .u32 1899447441) ∧ ∃ n, w' = w.drewN n := by
  go_enter Tryz.func170, Tryz.ntmps170
  go_wp2
  go_quiet (fail)
  go_wp2
  go_ret
  exact ⟨by rfl, _, rfl⟩
set_option maxRecDepth 100000 in
theorem l2K_2 (w : World) : Calls Tryz.prog 170 #[.int .i64 2] w fun e w' => e = .returned (.int .u32 3049323471) ∧ ∃ n, w' = w.drewN n := by
  go_enter Tryz.func170, Tryz.ntmps170
  go_wp2
  go_quiet (fail)
  go_wp2
  go_ret
  exact ⟨by rfl, _, rfl⟩
set_option maxRecDepth 100000 in
theorem l2K_3 (w : World) : Calls Tryz.prog 170 #[.int .i64 3] w fun e w' => e = .returned (.int .u32 3921009573) ∧ ∃ n, w' = w.drewN n := by
  go_enter Tryz.func170, Tryz.ntmps170
  go_wp2
  go_quiet (fail)
  go_wp2
  go_ret
  exact ⟨by rfl, _, rfl⟩
set_option maxRecDepth 100000 in
theorem l2K_4 (w : World) : Calls Tryz.prog 170 #[.int .i64 4] w fun e w' => e = .returned (.int .u32 961987163) ∧ ∃ n, w' = w.drewN n := by
  go_enter Tryz.func170, Tryz.ntmps170
  go_wp2
  go_quiet (fail)
  go_wp2
  go_ret
  exact ⟨by rfl, _, rfl⟩
set_option maxRecDepth 100000 in
theorem l2K_5 (w : World) : Calls Tryz.prog 170 #[.int .i64 5] w fun e w' => e = .returned (.int .u32 1508970993) ∧ ∃ n, w' = w.drewN n := by
  go_enter Tryz.func170, Tryz.ntmps170
  go_wp2
  go_quiet (fail)
  go_wp2
  go_ret
  exact ⟨by rfl, _, rfl⟩
set_option maxRecDepth 100000 in
theorem l2K_6 (w : World) : Calls Tryz.prog 170 #[.int .i64 6] w fun e w' => e = .returned (.int .u32 2453635748) ∧ ∃ n, w' = w.drewN n := by
  go_enter Tryz.func170, Tryz.ntmps170
  go_wp2
  go_quiet (fail)
  go_wp2
  go_ret
  exact ⟨by rfl, _, rfl⟩
set_option maxRecDepth 100000 in
theorem l2K_7 (w : World) : Calls Tryz.prog 170 #[.int .i64 7] w fun e w' => e = .returned (.int .u32 2870763221) ∧ ∃ n, w' = w.drewN n := by
  go_enter Tryz.func170, Tryz.ntmps170
  go_wp2
  go_quiet (fail)
  go_wp2
  go_ret
  exact ⟨by rfl, _, rfl⟩
set_option maxRecDepth 100000 in
theorem l2K_8 (w : World) : Calls Tryz.prog 170 #[.int .i64 8] w fun e w' => e = .returned (.int .u32 3624381080) ∧ ∃ n, w' = w.drewN n := by
  go_enter Tryz.func170, Tryz.ntmps170
  go_wp2
  go_quiet (fail)
  go_wp2
  go_ret
  exact ⟨by rfl, _, rfl⟩
set_option maxRecDepth 100000 in
theorem l2K_9 (w : World) : Calls Tryz.prog 170 #[.int .i64 9] w fun e w' => e = .returned (.int .u32 310598401) ∧ ∃ n, w' = w.drewN n := by
  go_enter Tryz.func170, Tryz.ntmps170
  go_wp2
  go_quiet (fail)
  go_wp2
  go_ret
  exact ⟨by rfl, _, rfl⟩
set_option maxRecDepth 100000 in
theorem l2K_10 (w : World) : Calls Tryz.prog 170 #[.int .i64 10] w fun e w' => e = .returned (.int .u32 607225278) ∧ ∃ n, w' = w.drewN n := by
  go_enter Tryz.func170, Tryz.ntmps170
  go_wp2
  go_quiet (fail)
  go_wp2
  go_ret
  exact ⟨by rfl, _, rfl⟩
set_option maxRecDepth 100000 in
theorem l2K_11 (w : World) : Calls Tryz.prog 170 #[.int .i64 11] w fun e w' => e = .returned (.int .u32 1426881987) ∧ ∃ n, w' = w.drewN n := by
  go_enter Tryz.func170, Tryz.ntmps170
  go_wp2
  go_quiet (fail)
  go_wp2
  go_ret
  exact ⟨by rfl, _, rfl⟩
set_option maxRecDepth 100000 in
theorem l2K_12 (w : World) : Calls Tryz.prog 170 #[.int .i64 12] w fun e w' => e = .returned (.int .u32 1925078388) ∧ ∃ n, w' = w.drewN n := by
  go_enter Tryz.func170, Tryz.ntmps170
  go_wp2
  go_quiet (fail)
  go_wp2
  go_ret
  exact ⟨by rfl, _, rfl⟩
set_option maxRecDepth 100000 in
theorem l2K_13 (w : World) : Calls Tryz.prog 170 #[.int .i64 13] w fun e w' => e = .returned (.int .u32 2162078206) ∧ ∃ n, w' = w.drewN n := by
  go_enter Tryz.func170, Tryz.ntmps170
  go_wp2
  go_quiet (fail)
  go_wp2
  go_ret
  exact ⟨by rfl, _, rfl⟩
set_option maxRecDepth 100000 in
theorem l2K_14 (w : World) : Calls Tryz.prog 170 #[.int .i64 14] w fun e w' => e = .returned (.int .u32 2614888103) ∧ ∃ n, w' = w.drewN n := by
  go_enter Tryz.func170, Tryz.ntmps170
  go_wp2
  go_quiet (fail)
  go_wp2
  go_ret
  exact ⟨by rfl, _, rfl⟩
set_option maxRecDepth 100000 in
theorem l2K_15 (w : World) : Calls Tryz.prog 170 #[.int .i64 15] w fun e w' => e = .returned (.int .u32 3248222580) ∧ ∃ n, w' = w.drewN n := by
  go_enter Tryz.func170, Tryz.ntmps170
  go_wp2
  go_quiet (fail)
  go_wp2
  go_ret
  exact ⟨by rfl, _, rfl⟩
set_option maxRecDepth 100000 in
theorem l2K_16 (w : World) : Calls Tryz.prog 170 #[.int .i64 16] w fun e w' => e = .returned (.int .u32 3835390401) ∧ ∃ n, w' = w.drewN n := by
  go_enter Tryz.func170, Tryz.ntmps170
  go_wp2
  go_quiet (fail)
  go_wp2
  go_ret
  exact ⟨by rfl, _, rfl⟩
set_option maxRecDepth 100000 in
theorem l2K_17 (w : World) : Calls Tryz.prog 170 #[.int .i64 17] w fun e w' => e = .returned (.int .u32 4022224774) ∧ ∃ n, w' = w.drewN n := by
  go_enter Tryz.func170, Tryz.ntmps170
  go_wp2
  go_quiet (fail)
  go_wp2
  go_ret
  exact ⟨by rfl, _, rfl⟩
set_option maxRecDepth 100000 in
theorem l2K_18 (w : World) : Calls Tryz.prog 170 #[.int .i64 18] w fun e w' => e = .returned (.int .u32 264347078) ∧ ∃ n, w' = w.drewN n := by
  go_enter Tryz.func170, Tryz.ntmps170
  go_wp2
  go_quiet (fail)
  go_wp2
  go_ret
  exact ⟨by rfl, _, rfl⟩
set_option maxRecDepth 100000 in
theorem l2K_19 (w : World) : Calls Tryz.prog 170 #[.int .i64 19] w fun e w' => e = .returned (.int .u32 604807628) ∧ ∃ n, w' = w.drewN n := by
  go_enter Tryz.func170, Tryz.ntmps170
  go_wp2
  go_quiet (fail)
  go_wp2
  go_ret
  exact ⟨by rfl, _, rfl⟩
set_option maxRecDepth 100000 in
theorem l2K_20 (w : World) : Calls Tryz.prog 170 #[.int .i64 20] w fun e w' => e = .returned (.int .u32 770255983) ∧ ∃ n, w' = w.drewN n := by
  go_enter Tryz.func170, Tryz.ntmps170
  go_wp2
  go_quiet (fail)
  go_wp2
  go_ret
  exact ⟨by rfl, _, rfl⟩
set_option maxRecDepth 100000 in
theorem l2K_21 (w : World) : Calls Tryz.prog 170 #[.int .i64 21] w fun e w' => e = .returned (.int .u32 1249150122) ∧ ∃ n, w' = w.drewN n := by
  go_enter Tryz.func170, Tryz.ntmps170
  go_wp2
  go_quiet (fail)
  go_wp2
  go_ret
  exact ⟨by rfl, _, rfl⟩
set_option maxRecDepth 100000 in
theorem l2K_22 (w : World) : Calls Tryz.prog 170 #[.int .i64 22] w fun e w' => e = .returned (.int .u32 1555081692) ∧ ∃ n, w' = w.drewN n := by
  go_enter Tryz.func170, Tryz.ntmps170
  go_wp2
  go_quiet (fail)
  go_wp2
  go_ret
  exact ⟨by rfl, _, rfl⟩
set_option maxRecDepth 100000 in
theorem l2K_23 (w : World) : Calls Tryz.prog 170 #[.int .i64 23] w fun e w' => e = .returned (.int .u32 1996064986) ∧ ∃ n, w' = w.drewN n := by
  go_enter Tryz.func170, Tryz.ntmps170
  go_wp2
  go_quiet (fail)
  go_wp2
  go_ret
  exact ⟨by rfl, _, rfl⟩
set_option maxRecDepth 100000 in
theorem l2K_24 (w : World) : Calls Tryz.prog 170 #[.int .i64 24] w fun e w' => e = .returned (.int .u32 2554220882) ∧ ∃ n, w' = w.drewN n := by
  go_enter Tryz.func170, Tryz.ntmps170
  go_wp2
  go_quiet (fail)
  go_wp2
  go_ret
  exact ⟨by rfl, _, rfl⟩
set_option maxRecDepth 100000 in
theorem l2K_25 (w : World) : Calls Tryz.prog 170 #[.int .i64 25] w fun e w' => e = .returned (.int .u32 2821834349) ∧ ∃ n, w' = w.drewN n := by
  go_enter Tryz.func170, Tryz.ntmps170
  go_wp2
  go_quiet (fail)
  go_wp2
  go_ret
  exact ⟨by rfl, _, rfl⟩
set_option maxRecDepth 100000 in
theorem l2K_26 (w : World) : Calls Tryz.prog 170 #[.int .i64 26] w fun e w' => e = .returned (.int .u32 2952996808) ∧ ∃ n, w' = w.drewN n := by
  go_enter Tryz.func170, Tryz.ntmps170
  go_wp2
  go_quiet (fail)
  go_wp2
  go_ret
  exact ⟨by rfl, _, rfl⟩
set_option maxRecDepth 100000 in
theorem l2K_27 (w : World) : Calls Tryz.prog 170 #[.int .i64 27] w fun e w' => e = .returned (.int .u32 3210313671) ∧ ∃ n, w' = w.drewN n := by
  go_enter Tryz.func170, Tryz.ntmps170
  go_wp2
  go_quiet (fail)
  go_wp2
  go_ret
  exact ⟨by rfl, _, rfl⟩
set_option maxRecDepth 100000 in
theorem l2K_28 (w : World) : Calls Tryz.prog 170 #[.int .i64 28] w fun e w' => e = .returned (.int .u32 3336571891) ∧ ∃ n, w' = w.drewN n := by
  go_enter Tryz.func170, Tryz.ntmps170
  go_wp2
  go_quiet (fail)
  go_wp2
  go_ret
  exact ⟨by rfl, _, rfl⟩
set_option maxRecDepth 100000 in
theorem l2K_29 (w : World) : Calls Tryz.prog 170 #[.int .i64 29] w fun e w' => e = .returned (.int .u32 3584528711) ∧ ∃ n, w' = w.drewN n := by
  go_enter Tryz.func170, Tryz.ntmps170
  go_wp2
  go_quiet (fail)
  go_wp2
  go_ret
  exact ⟨by rfl, _, rfl⟩
set_option maxRecDepth 100000 in
theorem l2K_30 (w : World) : Calls Tryz.prog 170 #[.int .i64 30] w fun e w' => e = .returned (.int .u32 113926993) ∧ ∃ n, w' = w.drewN n := by
  go_enter Tryz.func170, Tryz.ntmps170
  go_wp2
  go_quiet (fail)
  go_wp2
  go_ret
  exact ⟨by rfl, _, rfl⟩
set_option maxRecDepth 100000 in
theorem l2K_31 (w : World) : Calls Tryz.prog 170 #[.int .i64 31] w fun e w' => e = .returned (.int .u32 338241895) ∧ ∃ n, w' = w.drewN n := by
  go_enter Tryz.func170, Tryz.ntmps170
  go_wp2
  go_quiet (fail)
  go_wp2
  go_ret
  exact ⟨by rfl, _, rfl⟩
set_option maxRecDepth 100000 in
theorem l2K_32 (w : World) : Calls Tryz.prog 170 #[.int .i64 32] w fun e w' => e = .returned (.int .u32 666307205) ∧ ∃ n, w' = w.drewN n := by
  go_enter Tryz.func170, Tryz.ntmps170
  go_wp2
  go_quiet (fail)
  go_wp2
  go_ret
  exact ⟨by rfl, _, rfl⟩
set_option maxRecDepth 100000 in
theorem l2K_33 (w : World) : Calls Tryz.prog 170 #[.int .i64 33] w fun e w' => e = .returned (.int .u32 773529912) ∧ ∃ n, w' = w.drewN n := by
  go_enter Tryz.func170, Tryz.ntmps170
  go_wp2
  go_quiet (fail)
  go_wp2
  go_ret
  exact ⟨by rfl, _, rfl⟩
set_option maxRecDepth 100000 in
theorem l2K_34 (w : World) : Calls Tryz.prog 170 #[.int .i64 34] w fun e w' => e = .returned (.int .u32 1294757372) ∧ ∃ n, w' = w.drewN n := by
  go_enter Tryz.func170, Tryz.ntmps170
  go_wp2
  go_quiet (fail)
  go_wp2
  go_ret
  exact ⟨by rfl, _, rfl⟩
set_option maxRecDepth 100000 in
theorem l2K_35 (w : World) : Calls Tryz.prog 170 #[.int .i64 35] w fun e w' => e = .returned (.int .u32 1396182291) ∧ ∃ n, w' = w.drewN n := by
  go_enter Tryz.func170, Tryz.ntmps170
  go_wp2
  go_quiet (fail)
  go_wp2
  go_ret
  exact ⟨by rfl, _, rfl⟩
set_option maxRecDepth 100000 in
theorem l2K_36 (w : World) : Calls Tryz.prog 170 #[.int .i64 36] w fun e w' => e = .returned (.int .u32 1695183700) ∧ ∃ n, w' = w.drewN n := by
  go_enter Tryz.func170, Tryz.ntmps170
  go_wp2
  go_quiet (fail)
  go_wp2
  go_ret
  exact ⟨by rfl, _, rfl⟩
set_option maxRecDepth 100000 in
theorem l2K_37 (w : World) : Calls Tryz.prog 170 #[.int .i64 37] w fun e w' => e = .returned (.int .u32 1986661051) ∧ ∃ n, w' = w.drewN n := by
  go_enter Tryz.func170, Tryz.ntmps170
  go_wp2
  go_quiet (fail)
  go_wp2
  go_ret
  exact ⟨by rfl, _, rfl⟩
set_option maxRecDepth 100000 in
theorem l2K_38 (w : World) : Calls Tryz.prog 170 #[.int .i64 38] w fun e w' => e = .returned (.int .u32 2177026350) ∧ ∃ n, w' = w.drewN n := by
  go_enter Tryz.func170, Tryz.ntmps170
  go_wp2
  go_quiet (fail)
  go_wp2
  go_ret
  exact ⟨by rfl, _, rfl⟩
set_option maxRecDepth 100000 in
theorem l2K_39 (w : World) : Calls Tryz.prog 170 #[.int .i64 39] w fun e w' => e = .returned (.int .u32 2456956037) ∧ ∃ n, w' = w.drewN n := by
  go_enter Tryz.func170, Tryz.ntmps170
  go_wp2
  go_quiet (fail)
  go_wp2
  go_ret
  exact ⟨by rfl, _, rfl⟩
set_option maxRecDepth 100000 in
theorem l2K_40 (w : World) : Calls Tryz.prog 170 #[.int .i64 40] w fun e w' => e = .returned (.int .u32 2730485921) ∧ ∃ n, w' = w.drewN n := by
  go_enter Tryz.func170, Tryz.ntmps170
  go_wp2
  go_quiet (fail)
  go_wp2
  go_ret
  exact ⟨by rfl, _, rfl⟩
set_option maxRecDepth 100000 in
theorem l2K_41 (w : World) : Calls Tryz.prog 170 #[.int .i64 41] w fun e w' => e = .returned (.int .u32 2820302411) ∧ ∃ n, w' = w.drewN n := by
  go_enter Tryz.func170, Tryz.ntmps170
  go_wp2
  go_quiet (fail)
  go_wp2
  go_ret
  exact ⟨by rfl, _, rfl⟩
set_option maxRecDepth 100000 in
theorem l2K_42 (w : World) : Calls Tryz.prog 170 #[.int .i64 42] w fun e w' => e = .returned (.int .u32 3259730800) ∧ ∃ n, w' = w.drewN n := by
  go_enter Tryz.func170, Tryz.ntmps170
  go_wp2
  go_quiet (fail)
  go_wp2
  go_ret
  exact ⟨by rfl, _, rfl⟩
set_option maxRecDepth 100000 in
theorem l2K_43 (w : World) : Calls Tryz.prog 170 #[.int .i64 43] w fun e w' => e = .returned (.int .u32 3345764771) ∧ ∃ n, w' = w.drewN n := by
  go_enter Tryz.func170, Tryz.ntmps170
  go_wp2
  go_quiet (fail)
  go_wp2
  go_ret
  exact ⟨by rfl, _, rfl⟩
set_option maxRecDepth 100000 in
theorem l2K_44 (w : World) : Calls Tryz.prog 170 #[.int .i64 44] w fun e w' => e = .returned (.int .u32 3516065817) ∧ ∃ n, w' = w.drewN n := by
  go_enter Tryz.func170, Tryz.ntmps170
  go_wp2
  go_quiet (fail)
  go_wp2
  go_ret
  exact ⟨by rfl, _, rfl⟩
set_option maxRecDepth 100000 in
theorem l2K_45 (w : World) : Calls Tryz.prog 170 #[.int .i64 45] w fun e w' => e = .returned (.int .u32 3600352804) ∧ ∃ n, w' = w.drewN n := by
  go_enter Tryz.func170, Tryz.ntmps170
  go_wp2
  go_quiet (fail)
  go_wp2
  go_ret
  exact ⟨by rfl, _, rfl⟩
set_option maxRecDepth 100000 in
theorem l2K_46 (w : World) : Calls Tryz.prog 170 #[.int .i64 46] w fun e w' => e = .returned (.int .u32 4094571909) ∧ ∃ n, w' = w.drewN n := by
  go_enter Tryz.func170, Tryz.ntmps170
  go_wp2
  go_quiet (fail)
  go_wp2
  go_ret
  exact ⟨by rfl, _, rfl⟩
set_option maxRecDepth 100000 in
theorem l2K_47 (w : World) : Calls Tryz.prog 170 #[.int .i64 47] w fun e w' => e = .returned (.int .u32 275423344) ∧ ∃ n, w' = w.drewN n := by
  go_enter Tryz.func170, Tryz.ntmps170
  go_wp2
  go_quiet (fail)
  go_wp2
  go_ret
  exact ⟨by rfl, _, rfl⟩
set_option maxRecDepth 100000 in
theorem l2K_48 (w : World) : Calls Tryz.prog 170 #[.int .i64 48] w fun e w' => e = .returned (.int .u32 430227734) ∧ ∃ n, w' = w.drewN n := by
  go_enter Tryz.func170, Tryz.ntmps170
  go_wp2
  go_quiet (fail)
  go_wp2
  go_ret
  exact ⟨by rfl, _, rfl⟩
set_option maxRecDepth 100000 in
theorem l2K_49 (w : World) : Calls Tryz.prog 170 #[.int .i64 49] w fun e w' => e = .returned (.int .u32 506948616) ∧ ∃ n, w' = w.drewN n := by
  go_enter Tryz.func170, Tryz.ntmps170
  go_wp2
  go_quiet (fail)
  go_wp2
  go_ret
  exact ⟨by rfl, _, rfl⟩
set_option maxRecDepth 100000 in
theorem l2K_50 (w : World) : Calls Tryz.prog 170 #[.int .i64 50] w fun e w' => e = .returned (.int .u32 659060556) ∧ ∃ n, w' = w.drewN n := by
  go_enter Tryz.func170, Tryz.ntmps170
  go_wp2
  go_quiet (fail)
  go_wp2
  go_ret
  exact ⟨by rfl, _, rfl⟩
set_option maxRecDepth 100000 in
theorem l2K_51 (w : World) : Calls Tryz.prog 170 #[.int .i64 51] w fun e w' => e = .returned (.int .u32 883997877) ∧ ∃ n, w' = w.drewN n := by
  go_enter Tryz.func170, Tryz.ntmps170
  go_wp2
  go_quiet (fail)
  go_wp2
  go_ret
  exact ⟨by rfl, _, rfl⟩
set_option maxRecDepth 100000 in
theorem l2K_52 (w : World) : Calls Tryz.prog 170 #[.int .i64 52] w fun e w' => e = .returned (.int .u32 958139571) ∧ ∃ n, w' = w.drewN n := by
  go_enter Tryz.func170, Tryz.ntmps170
  go_wp2
  go_quiet (fail)
  go_wp2
  go_ret
  exact ⟨by rfl, _, rfl⟩
set_option maxRecDepth 100000 in
theorem l2K_53 (w : World) : Calls Tryz.prog 170 #[.int .i64 53] w fun e w' => e = .returned (.int .u32 1322822218) ∧ ∃ n, w' = w.drewN n := by
  go_enter Tryz.func170, Tryz.ntmps170
  go_wp2
  go_quiet (fail)
  go_wp2
  go_ret
  exact ⟨by rfl, _, rfl⟩
set_option maxRecDepth 100000 in
theorem l2K_54 (w : World) : Calls Tryz.prog 170 #[.int .i64 54] w fun e w' => e = .returned (.int .u32 1537002063) ∧ ∃ n, w' = w.drewN n := by
  go_enter Tryz.func170, Tryz.ntmps170
  go_wp2
  go_quiet (fail)
  go_wp2
  go_ret
  exact ⟨by rfl, _, rfl⟩
set_option maxRecDepth 100000 in
theorem l2K_55 (w : World) : Calls Tryz.prog 170 #[.int .i64 55] w fun e w' => e = .returned (.int .u32 1747873779) ∧ ∃ n, w' = w.drewN n := by
  go_enter Tryz.func170, Tryz.ntmps170
  go_wp2
  go_quiet (fail)
  go_wp2
  go_ret
  exact ⟨by rfl, _, rfl⟩
set_option maxRecDepth 100000 in
theorem l2K_56 (w : World) : Calls Tryz.prog 170 #[.int .i64 56] w fun e w' => e = .returned (.int .u32 1955562222) ∧ ∃ n, w' = w.drewN n := by
  go_enter Tryz.func170, Tryz.ntmps170
  go_wp2
  go_quiet (fail)
  go_wp2
  go_ret
  exact ⟨by rfl, _, rfl⟩
set_option maxRecDepth 100000 in
theorem l2K_57 (w : World) : Calls Tryz.prog 170 #[.int .i64 57] w fun e w' => e = .returned (.int .u32 2024104815) ∧ ∃ n, w' = w.drewN n := by
  go_enter Tryz.func170, Tryz.ntmps170
  go_wp2
  go_quiet (fail)
  go_wp2
  go_ret
  exact ⟨by rfl, _, rfl⟩
set_option maxRecDepth 100000 in
theorem l2K_58 (w : World) : Calls Tryz.prog 170 #[.int .i64 58] w fun e w' => e = .returned (.int .u32 2227730452) ∧ ∃ n, w' = w.drewN n := by
  go_enter Tryz.func170, Tryz.ntmps170
  go_wp2
  go_quiet (fail)
  go_wp2
  go_ret
  exact ⟨by rfl, _, rfl⟩
set_option maxRecDepth 100000 in
theorem l2K_59 (w : World) : Calls Tryz.prog 170 #[.int .i64 59] w fun e w' => e = .returned (.int .u32 2361852424) ∧ ∃ n, w' = w.drewN n := by
  go_enter Tryz.func170, Tryz.ntmps170
  go_wp2
  go_quiet (fail)
  go_wp2
  go_ret
  exact ⟨by rfl, _, rfl⟩
set_option maxRecDepth 100000 in
theorem l2K_60 (w : World) : Calls Tryz.prog 170 #[.int .i64 60] w fun e w' => e = .returned (.int .u32 2428436474) ∧ ∃ n, w' = w.drewN n := by
  go_enter Tryz.func170, Tryz.ntmps170
  go_wp2
  go_quiet (fail)
  go_wp2
  go_ret
  exact ⟨by rfl, _, rfl⟩
set_option maxRecDepth 100000 in
theorem l2K_61 (w : World) : Calls Tryz.prog 170 #[.int .i64 61] w fun e w' => e = .returned (.int .u32 2756734187) ∧ ∃ n, w' = w.drewN n := by
  go_enter Tryz.func170, Tryz.ntmps170
  go_wp2
  go_quiet (fail)
  go_wp2
  go_ret
  exact ⟨by rfl, _, rfl⟩
set_option maxRecDepth 100000 in
theorem l2K_62 (w : World) : Calls Tryz.prog 170 #[.int .i64 62] w fun e w' => e = .returned (.int .u32 3204031479) ∧ ∃ n, w' = w.drewN n := by
  go_enter Tryz.func170, Tryz.ntmps170
  go_wp2
  go_quiet (fail)
  go_wp2
  go_ret
  exact ⟨by rfl, _, rfl⟩
set_option maxRecDepth 100000 in
theorem l2K_63 (w : World) : Calls Tryz.prog 170 #[.int .i64 63] w fun e w' => e = .returned (.int .u32 3329325298) ∧ ∃ n, w' = w.drewN n := by
  go_enter Tryz.func170, Tryz.ntmps170
  go_wp2
  go_quiet (fail)
  go_wp2
  go_ret
  exact ⟨by rfl, _, rfl⟩
theorem l2K_any : ∀ (i : Nat) (_ : i < 64) (w : World), Calls Tryz.prog 170 #[.int .i64 i] w fun e w' => e = .returned (.int .u32 (ksI i)) ∧ ∃ n, w' = w.drewN n
  | 0, _, w => l2K_0 w
  | 1, _, w => l2K_1 w
  | 2, _, w => l2K_2 w
  | 3, _, w => l2K_3 w
  | 4, _, w => l2K_4 w
  | 5, _, w => l2K_5 w
  | 6, _, w => l2K_6 w
  | 7, _, w => l2K_7 w
  | 8, _, w => l2K_8 w
  | 9, _, w => l2K_9 w
  | 10, _, w => l2K_10 w
  | 11, _, w => l2K_11 w
  | 12, _, w => l2K_12 w
  | 13, _, w => l2K_13 w
  | 14, _, w => l2K_14 w
  | 15, _, w => l2K_15 w
  | 16, _, w => l2K_16 w
  | 17, _, w => l2K_17 w
  | 18, _, w => l2K_18 w
  | 19, _, w => l2K_19 w
  | 20, _, w => l2K_20 w
  | 21, _, w => l2K_21 w
  | 22, _, w => l2K_22 w
  | 23, _, w => l2K_23 w
  | 24, _, w => l2K_24 w
  | 25, _, w => l2K_25 w
  | 26, _, w => l2K_26 w
  | 27, _, w => l2K_27 w
  | 28, _, w => l2K_28 w
  | 29, _, w => l2K_29 w
  | 30, _, w => l2K_30 w
  | 31, _, w => l2K_31 w
  | 32, _, w => l2K_32 w
  | 33, _, w => l2K_33 w
  | 34, _, w => l2K_34 w
  | 35, _, w => l2K_35 w
  | 36, _, w => l2K_36 w
  | 37, _, w => l2K_37 w
  | 38, _, w => l2K_38 w
  | 39, _, w => l2K_39 w
  | 40, _, w => l2K_40 w
  | 41, _, w => l2K_41 w
  | 42, _, w => l2K_42 w
  | 43, _, w => l2K_43 w
  | 44, _, w => l2K_44 w
  | 45, _, w => l2K_45 w
  | 46, _, w => l2K_46 w
  | 47, _, w => l2K_47 w
  | 48, _, w => l2K_48 w
  | 49, _, w => l2K_49 w
  | 50, _, w => l2K_50 w
  | 51, _, w => l2K_51 w
  | 52, _, w => l2K_52 w
  | 53, _, w => l2K_53 w
  | 54, _, w => l2K_54 w
  | 55, _, w => l2K_55 w
  | 56, _, w => l2K_56 w
  | 57, _, w => l2K_57 w
  | 58, _, w => l2K_58 w
  | 59, _, w => l2K_59 w
  | 60, _, w => l2K_60 w
  | 61, _, w => l2K_61 w
  | 62, _, w => l2K_62 w
  | 63, _, w => l2K_63 w
  | n + 64, h, _ => absurd h (by omega)
theorem ksI_word : ∀ i : Fin 64, 0 ≤ ksI i.val ∧ ksI i.val < 4294967296 := by decide
end Go.Proofs.YtdahpnjamlfakaaGreatDoor
