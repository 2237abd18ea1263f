/-
  What spec.FrameOf answers.
-/
import Derived.Test.YtpnbolekhgcacaaDoorFSum
import Derived.Deep.RegionWith
namespace Go.Proofs.YtpnbolekhgcacaaDoor
open Go.RowKit

/-- the four bytes as the walk writes them -/
def be4W (n : Nat) : Array Value := #[.int .u8 (IntKind.u8.wrap ((n : Int) / 16777216)), .int .u8 (IntKind.u8.wrap ((n : Int) / 65536)), .int .u8 (IntKind.u8.wrap ((n : Int) / 256)), .int .u8 (IntKind.u8.wrap (n : Int))]
theorem run_be4 (n : Nat) (W : World) (b : Nat) (hb : W.heap[b]? = some (.cells #[.int .u8 (IntKind.u8.wrap ((n : Int) / 16777216)), .int .u8 (IntKind.u8.wrap ((n : Int) / 65536)), .int .u8 (IntKind.u8.wrap ((n : Int) / 256)), .int .u8 (IntKind.u8.wrap (n : Int))] 5 (0, 0))) :
    (convert 29 9 (.slice (some ⟨b, 0, none⟩) 4 4)).run Tryd.prog W = .ok (.string (strOfNums (be4 n))) W := by
  refine run_conv W b 4 (be4 n) 4 5 rfl ?_
  rw [hb]
  simp [be4, IntKind.wrap, IntKind.bits, IntKind.signed]

set_option maxRecDepth 100000 in
set_option maxHeartbeats 1000000 in
theorem specFrameOf_any (s : ByteArray) (w : World) (hs : s.size ≤ maxLen) :
    Calls Tryd.prog 6 #[.string s] w fun e w' => e = .returned (.string (frameT s)) ∧ Below w.heap.size w w' := by
  by_cases h : s.size ≤ 100000
  · have C := hide (fun W => l12Sum_any s W hs)
    have FIN : Hid (frameT s = strOfNums (be4 s.size) ++ strOfNums (le4 (crcN s)) ++ s) := hide (by unfold frameT frameL headF; rw [if_pos h, nums_app])
    have V := hide (run_be4 s.size)
    have z1 : (strOfNums (be4 s.size)).size = 4 := by rw [strOfNums_size]; rfl
    have z2 : (strOfNums (le4 (crcN s))).size = 4 := by rw [strOfNums_size]; rfl
    have z3 : (strOfNums (be4 s.size) ++ strOfNums (le4 (crcN s))).size = 8 := by rw [ByteArray.size_append, z1, z2]
    generalize strOfNums (be4 s.size) = x at *
    generalize strOfNums (le4 (crcN s)) = y at *
    unfold maxLen at hs
    go_enter Tryd.func6, Tryd.ntmps6
    go_wp2
    have V0 := fun W : World => V.out (W.alloc (.cells #[.int .u8 (IntKind.u8.wrap ((s.size : Int) / 16777216)), .int .u8 (IntKind.u8.wrap ((s.size : Int) / 65536)), .int .u8 (IntKind.u8.wrap ((s.size : Int) / 256)), .int .u8 (IntKind.u8.wrap (s.size : Int))] 5)).drew W.heap.size (heap_alloc_new W _)
    have V1 := fun W : World => V.out (W.alloc (.cells #[.int .u8 (IntKind.u8.wrap ((s.size : Int) / 16777216)), .int .u8 (IntKind.u8.wrap ((s.size : Int) / 65536)), .int .u8 (IntKind.u8.wrap ((s.size : Int) / 256)), .int .u8 (IntKind.u8.wrap (s.size : Int))] 5)) W.heap.size (heap_alloc_new W _)
    go_region_with (go_at_call 17; refine (C.out _).mono ?_; rintro e w1 ⟨rfl, b1⟩; have B1 := hide b1; clear b1; try have V2 := V.out w1 w.heap.size ((B1.out.block w.heap.size (by simp)).trans (heap_alloc_new w _)))
    all_goals
      go_wp2
      go_ret
      refine ⟨ret_str FIN.out.symm, ?_⟩
      first
        | exact (((Below.refl w.heap.size w).alloc (Nat.le_refl _) _).drew.trans (B1.out.mono (by simp)))
        | exact (((Below.refl w.heap.size w).alloc (Nat.le_refl _) _).drew.trans (B1.out.mono (by simp))).drew
        | exact (((Below.refl w.heap.size w).drew.trans B1.out).alloc B1.out.size _)
        | exact (((Below.refl w.heap.size w).drew.trans B1.out).alloc B1.out.size _).drew
  · have FIN : Hid (frameT s = ByteArray.empty) := hide (by unfold frameT; rw [if_neg h])
    unfold maxLen at hs
    have hb : (100000 : Int) < (s.size : Int) := by omega
    go_enter Tryd.func6, Tryd.ntmps6
    go_wp2
    go_ret
    exact ⟨ret_str FIN.out.symm, Below.refl _ _⟩
end Go.Proofs.YtpnbolekhgcacaaDoor
