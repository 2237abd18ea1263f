/-
  Numbers written in decimal: what strconv.Itoa and spec.l1Dec answer.
-/
import Derived.Test.YtlipefnaeblhfaaDoorILay
import Derived.Test.YtlipefnaeblhfaaDoorKNum
import Derived.Test.YtlipefnaeblhfaaDoorChecked
import Derived.Below
import Derived.Laws.BytesArg
import Derived.Laws.IdiomStrings
namespace Go.Proofs.YtlipefnaeblhfaaDoor
open Go.RowKit

/-- a number in decimal -/
def decB (n : Nat) : ByteArray := ⟨(Lib.decDigits n).toArray⟩
theorem decB_list (n : Nat) : (decB n).data.toList = Lib.decDigits n := by simp [decB]
theorem decB_step {n : Nat} (h : ¬ n < 10) : decB n = decB (n / 10) ++ ⟨#[(48 + n % 10).toUInt8]⟩ := by
  apply Go.WideShapes.bytes_inj
  rw [ByteArray.data_append, Array.toList_append, decB_list, decB_list, Lib.decDigits, dif_neg h]
theorem decB_one {n : Nat} (h : n < 10) : decB n = ⟨#[(48 + n).toUInt8]⟩ := by
  apply Go.WideShapes.bytes_inj
  rw [decB_list, Lib.decDigits, dif_pos h]
theorem decB_size : ∀ n : Nat, (decB n).size ≤ n + 1 := by
  intro n
  induction n using Nat.strongRecOn with
  | _ n ih =>
    by_cases h : n < 10
    · rw [decB_one h]; show 1 ≤ _; omega
    · rw [decB_step h, ByteArray.size_append]
      have := ih (n / 10) (by omega)
      show _ + 1 ≤ _
      omega
def Pow (w : World) : Prop := Lib.TabIs Tryd.prog w "internal/strconv.uint64pow10" .u64 Lib.pow10Tab
theorem itoa_any (n : Nat) (w : World) (hn : n ≤ 1048576) (hP : Pow w) :
    Calls Tryd.prog 26 #[.int .i64 (n : Int)] w fun e w' => e = .returned (.string (decB n)) ∧ Below w.heap.size w w' := by
  refine (Any.strconv_Itoa Tryd.itoa (n : Int) (by omega) (by omega) w hP).mono ?_
  rintro e w' ⟨rfl, k, os, rfl⟩
  refine ⟨?_, ?_⟩
  · unfold Lib.itoa decB
    rw [if_neg (by omega), Int.toNat_natCast]
  · exact ⟨rfl, rfl, rfl, by show w.heap.size ≤ (w.heap ++ os).size; simp, fun b hb => Array.getElem?_append_left hb⟩
theorem dec_conv (x : Int) (m : Nat) (W : World) (hx : x = (48 + m : Nat)) (hm : m < 10) : (convert 33 9 (.slice (some ⟨W.heap.size, 0, none⟩) 1 1)).run Tryd.prog (W.alloc (.cells #[.int .u8 x] 5)) = .ok (.string ⟨#[(48 + m).toUInt8]⟩) (W.alloc (.cells #[.int .u8 x] 5)) := by
  subst hx
  have h := run_convert_bytes_back (P := Tryd.prog) (W.alloc (.cells #[.int .u8 ((48 + m : Nat) : Int)] 5)) 33 9 5 ⟨W.heap.size, 0, none⟩ 1 [(48 + m).toUInt8] Tryd.underlying33 Tryd.underlying5 Tryd.underlying9 (fun i hi => by
    obtain rfl : i = 0 := by simpa using hi
    rw [show (⟨W.heap.size, 0, none⟩ : Addr).add 0 = ⟨W.heap.size, 0, none⟩ from rfl, cell_of_row _ W.heap.size 0 _ 5 (0, 0) (heap_alloc_new W _)]
    simp
    omega)
  exact h
set_option maxRecDepth 100000 in
set_option maxHeartbeats 1000000 in
theorem l1Dec_any (n : Nat) (w : World) (hn : n ≤ 1048576) :
    Calls Tryd.prog 41 #[.int .i64 (n : Int)] w fun e w' => e = .returned (.string (decB n)) ∧ Below w.heap.size w w' := by
  go_enter Tryd.func41, Tryd.ntmps41
  go_wp2
  go_loopw [0, 3] (fun i t wr => ∃ (j : Nat) (s : ByteArray), j ≤ n ∧ s.size + j ≤ n + 1 ∧ i = .int .i64 j ∧ t = .string s ∧ Hid (decB n = decB j ++ s) ∧ Hid (Below w.heap.size w wr)) (fun i _ _ => (intOf i).toNat)
  case atStart => exact ⟨n, ByteArray.empty, Nat.le_refl _, by simp, rfl, rfl, hide (Go.WideShapes.bytes_inj (by simp)), Below.refl _ w⟩
  case round =>
    obtain ⟨j, s, hj, hs, rfl, rfl, H, Q⟩ := hrel
    by_cases h10 : j < 10
    · have hcv := dec_conv (48 + (j : Int)) j wr (by omega) h10
      have Z : Hid (decB n = ⟨#[(48 + j).toUInt8]⟩ ++ s) := hide (by rw [H.out, decB_one h10])
      have hs1 : (ByteArray.mk #[(48 + j).toUInt8]).size = 1 := rfl
      generalize (ByteArray.mk #[(48 + j).toUInt8]) = d at *
      have hgt : ¬ ((10 : Int) ≤ (j : Int)) := by omega
      have Q1 := hide (Q.out.alloc Q.out.size (.cells #[.int .u8 (48 + (j : Int))] 5))
      clear H Q
      go_wp2
      go_ret
      exact ⟨ret_str Z.out.symm, Q1.out⟩
    · have hcv := dec_conv (48 + (j : Int) % 10) (j % 10) wr (by omega) (Nat.mod_lt _ (by decide))
      have Z : Hid (decB n = decB (j / 10) ++ (⟨#[(48 + j % 10).toUInt8]⟩ ++ s)) := hide (by
        rw [H.out, decB_step h10]
        exact Go.WideShapes.bytes_inj (by simp))
      have hs1 : (ByteArray.mk #[(48 + j % 10).toUInt8]).size = 1 := rfl
      have HS : Hid ((ByteArray.mk #[(48 + j % 10).toUInt8] ++ s).size = 1 + s.size) := hide (by rw [ByteArray.size_append, hs1])
      generalize (ByteArray.mk #[(48 + j % 10).toUInt8]) = d at *
      have hge : (10 : Int) ≤ (j : Int) := by omega
      have Q1 := hide (Q.out.alloc Q.out.size (.cells #[.int .u8 (48 + (j : Int) % 10)] 5))
      clear H Q
      go_wp2
      go_roundw
      case rel => exact ⟨j / 10, d ++ s, by omega, by rw [HS.out]; omega, by go_num, rfl, Z, Q1⟩
      case measure => simp [intOf]; omega
end Go.Proofs.YtlipefnaeblhfaaDoor
