/-
  What spec.l2Sha and spec.Sha256 give.
-/
import Derived.Test.YtdahpnjamlfakaaGreatDoorQStep
import Derived.WalkSpells
namespace Go.Proofs.YtdahpnjamlfakaaGreatDoor
open Go.RowKit

set_option maxRecDepth 100000 in
set_option maxHeartbeats 2000000 in
theorem l2Sha_any (s : ByteArray) (w : World) (hs : s.size ≤ 2000) :
    Calls Tryz.prog 101 #[.string s] w fun e w' => e = .returned (.string (shaL s)) ∧ Below w.heap.size w w' := by
  go_enter Tryz.func101, Tryz.ntmps101
  go_wp2_with fail
  refine (l2Pad_any s _ hs).mono ?_
  rintro e w1 ⟨rfl, hb1⟩
  have B1 := hide hb1
  clear hb1
  have hz := padT_size s
  have HZ := hide hz
  have hN2 := padN_le s.size
  have hN : Hid (padN s.size = 64 * (padN s.size / 64)) := hide (by unfold padN; omega)
  have STP := hide (step_st s hs)
  have FIN : Hid (shaL s = digB (stTo (padY s) (padN s.size / 64))) := hide rfl
  have S0 : Hid ((⟨#[106, 9, 230, 103, 187, 103, 174, 133, 60, 110, 243, 114, 165, 79, 245, 58, 81, 14, 82, 127, 155, 5, 104, 140, 31, 131, 217, 171, 91, 224, 205, 25]⟩ : ByteArray) = digB (stTo (padY s) 0)) := hide dig_first
  have DZ : Hid (∀ n, (digB (stTo (padY s) n)).size = 32) := hide fun n => digB_size _
  generalize padN s.size / 64 = M at *
  generalize padN s.size = N at *
  generalize padY s = y at *
  have ht1 : (padT s).size ≤ 2072 := by omega
  have hN3 : (padT s).size ≤ 64 * M := by have := hN.out; omega
  have hN4 : 64 * M ≤ (padT s).size := by have := hN.out; omega
  clear hz hN
  generalize padT s = t at *
  go_wp2_with fail
  go_loopw [4, 5] (fun sv iv wr => ∃ n q : Nat, n ≤ M ∧ q ≤ 64 * n ∧ 64 * n ≤ q ∧ sv = .string (digB (stTo y n)) ∧ iv = .int .i64 (q : Int) ∧ Hid (Below w.heap.size w wr)) (fun _ i _ => 2073 - (intOf i).toNat)
  case atStart => exact ⟨0, 0, by omega, by omega, by omega, by rw [← S0.out], rfl, B1⟩
  case round =>
    obtain ⟨n, q, hn, hq1, hq2, rfl, rfl, Q⟩ := hrel
    clear B1 S0
    by_cases hlt : n < M
    · have w64 : IntKind.i64.wrap ((q : Int) + 64) = (q : Int) + 64 := by rw [IntKind.wrap_i64]; omega
      have p0 : (q : Int) < (t.size : Int) := by omega
      have p2 : (q : Int) + 64 ≤ (t.size : Int) := by omega
      have p5 : (0 : Int) ≤ (q : Int) := by omega
      have p6 : (q : Int) ≤ (q : Int) + 64 := by omega
      have p3 : ((q : Int) + 64).toNat = q + 64 := by omega
      have ste : Hid (digB (mixI (mOf (sB (digB (stTo y n)))) (wAt (mOf (sB (t.extract q (q + 64)))))) = digB (stTo y (n + 1))) := hide (by rw [show q = 64 * n by omega]; exact STP.out n (by have := HZ.out; omega))
      have z1 := hide (DZ.out n)
      have z2 : Hid ((t.extract q (q + 64)).size = 64) := hide (by rw [ByteArray.size_extract]; omega)
      go_wp2_with fail
      refine (l2Step_any (digB (stTo y n)) (t.extract q (q + 64)) _ z1.out z2.out).mono ?_
      rintro e w3 ⟨rfl, hb3⟩
      have H3 := hide hb3
      clear hb3
      have hq := Q.out.size
      rw [ste.out]
      go_wp2
      exact ⟨⟨n + 1, q + 64, by omega, by omega, by omega, rfl, by go_num, hide (Q.out.trans (H3.out.mono (by omega)))⟩, by simp [intOf]; omega⟩
    · have p0 : ¬ ((q : Int) < (t.size : Int)) := by omega
      have en : Hid (n = M) := hide (by omega)
      clear hlt
      go_wp2
      go_ret
      exact ⟨ret_str (by rw [FIN.out, en.out]), Q.out⟩
end Go.Proofs.YtdahpnjamlfakaaGreatDoor
