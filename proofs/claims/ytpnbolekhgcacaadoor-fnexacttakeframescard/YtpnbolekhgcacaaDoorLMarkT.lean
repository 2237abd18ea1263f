/-
  The laws' marks: markText, markPairS, heldPairS.
-/
import Derived.Test.YtpnbolekhgcacaaDoorCBase
import Derived.Test.YtpnbolekhgcacaaDoorPStr
import Derived.Test.YtpnbolekhgcacaaDoorCBase
import Derived.IntWalk
import Derived.Laws.IdiomStrings
import Derived.Deep.RegionHeld3
namespace Go.Proofs.YtpnbolekhgcacaaDoor
open Go.RowKit

def digF : Nat → Nat → ByteArray → ByteArray
  | 0, _, acc => acc
  | f + 1, k, acc => if k = 0 then acc else digF f (k / 10) (⟨#[(48 + k % 10).toUInt8]⟩ ++ acc)
theorem digF_step {f k : Nat} {s r : ByteArray} (hk : 0 < k) (hkf : k ≤ f) (h : digF f k s = r) : digF (f - 1) (k / 10) (⟨#[(48 + k % 10).toUInt8]⟩ ++ s) = r := by
  obtain ⟨g, rfl⟩ : ∃ g, f = g + 1 := ⟨f - 1, by omega⟩
  rw [digF, if_neg (by omega)] at h
  exact h
theorem digF_zero {f : Nat} {s r : ByteArray} (h : digF f 0 s = r) : s = r := by
  cases f with
  | zero => exact h
  | succ f => rw [digF, if_pos rfl] at h; exact h
/-- the text m and k in decimal -/
def markS (k : Nat) : ByteArray := ⟨#[109]⟩ ++ digF k k ByteArray.empty

theorem dig_conv (j : Nat) (W : World) : (convert 29 9 (.slice (some ⟨W.heap.size, 0, none⟩) 1 1)).run Tryd.prog (W.alloc (.cells #[.int .u8 (48 + (j : Int) % 10)] 5)) = .ok (.string ⟨#[(48 + j % 10).toUInt8]⟩) (W.alloc (.cells #[.int .u8 (48 + (j : Int) % 10)] 5)) := by
  have h := run_convert_bytes_back (P := Tryd.prog) (W.alloc (.cells #[.int .u8 (48 + (j : Int) % 10)] 5)) 29 9 5 ⟨W.heap.size, 0, none⟩ 1 [(48 + j % 10).toUInt8] Tryd.underlying29 Tryd.underlying5 Tryd.underlying9 (fun i hi => by
    obtain rfl : i = 0 := by simpa using hi
    rw [show (⟨W.heap.size, 0, none⟩ : Addr).add 0 = ⟨W.heap.size, 0, none⟩ from rfl, cell_of_row _ W.heap.size 0 _ 5 (0, 0) (heap_alloc_new W _)]
    simp
    omega)
  exact h

set_option maxRecDepth 100000 in
set_option maxHeartbeats 1000000 in
theorem markText_any (k : Nat) (w : World) (h1 : 1 ≤ k) (h2 : k ≤ 10000000) :
    Calls Tryd.prog 20 #[.int .i64 k] w fun e w' => e = .returned (.string (markS k)) ∧ Below w.heap.size w w' := by
  have d0 : decide ((k : Int) ≤ 0) = false := decide_eq_false (by omega)
  have d1 : decide (k = 0) = false := decide_eq_false (by omega)
  go_enter Tryd.func20, Tryd.ntmps20
  go_wp2
  go_loopw [0, 3] (fun i t wr => ∃ (j f : Nat) (s : ByteArray), j ≤ f ∧ j ≤ k ∧ s.size + j ≤ k ∧ i = .int .i64 j ∧ t = .string s ∧ Hid (digF f j s = digF k k ByteArray.empty) ∧ Hid (Below w.heap.size w wr)) (fun i _ _ => (intOf i).toNat)
  case atStart => exact ⟨k, k, ByteArray.empty, Nat.le_refl _, Nat.le_refl _, by simp, rfl, rfl, rfl, Below.refl _ w⟩
  case round =>
    obtain ⟨j, f, s, hjf, hjk, hsj, rfl, rfl, H, Q⟩ := hrel
    by_cases hj : 0 < j
    · have hcv := dig_conv j wr
      have Z := hide (digF_step hj hjf H.out)
      have hs1 : (ByteArray.mk #[(48 + j % 10).toUInt8]).size = 1 := rfl
      have HS : Hid ((ByteArray.mk #[(48 + j % 10).toUInt8] ++ s).size = 1 + s.size) := hide (by rw [ByteArray.size_append, hs1])
      generalize (ByteArray.mk #[(48 + j % 10).toUInt8]) = d at *
      go_wp2
      go_roundw
      case rel => exact ⟨j / 10, f - 1, d ++ s, by omega, by omega, by rw [HS.out]; omega, by go_num, rfl, Z, Q.out.alloc Q.out.size _⟩
      case measure => simp [intOf]; omega
    · obtain rfl : j = 0 := by omega
      have Z : Hid (markS k = ⟨#[109]⟩ ++ s) := hide (by unfold markS; rw [← digF_zero H.out])
      go_wp2
      go_ret
      exact ⟨ret_str Z.out.symm, Q.out⟩

theorem markText_int (a : Int) (k : Nat) (w : World) (h : a = (k : Int)) (h1 : 1 ≤ k) (h2 : k ≤ 10000000) :
    Calls Tryd.prog 20 #[.int .i64 a] w fun e w' => e = .returned (.string (markS k)) ∧ Below w.heap.size w w' := by subst h; exact markText_any k w h1 h2
theorem dig_size : ∀ (f k : Nat) (s : ByteArray), (digF f k s).size ≤ s.size + f
  | 0, _, s => Nat.le_refl _
  | f + 1, k, s => by
    unfold digF
    split
    · omega
    · refine Nat.le_trans (dig_size f _ _) ?_
      rw [ByteArray.size_append]
      show 1 + s.size + f ≤ _
      omega
theorem mark_size (k : Nat) : (markS k).size ≤ k + 1 := by
  unfold markS
  rw [ByteArray.size_append]
  have := dig_size k k ByteArray.empty
  have h0 : ByteArray.empty.size = 0 := rfl
  have h1 : (ByteArray.mk #[109]).size = 1 := rfl
  omega
end Go.Proofs.YtpnbolekhgcacaaDoor
