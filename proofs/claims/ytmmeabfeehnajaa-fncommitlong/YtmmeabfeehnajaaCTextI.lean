/-
  What impl.CommitText answers.
-/
import Derived.Test.YtmmeabfeehnajaaCText
import Derived.Test.YtmmeabfeehnajaaCBld
namespace Go.Proofs.Ytmmeabfeehnajaa
open Go.RowKit

theorem head_bytes0 (t : ByteArray) (l : List ByteArray) : (([] : List Value) ++ Lib.strCells ⟨#[99, 111, 109, 109, 105, 116, 32]⟩) ++ Lib.strCells t = Lib.byteCells (headTo t l 0).data.toList := by
  rw [headTo]
  simp [Lib.byteCells, Lib.strCells, ByteArray.data_append]
theorem head_bytes1 {t : ByteArray} {l : List ByteArray} {k : Nat} (h : k < l.length) : (Lib.byteCells (headTo t l k).data.toList ++ [Value.int .u8 32]) ++ Lib.strCells l[k] = Lib.byteCells (headTo t l (k + 1)).data.toList := by
  rw [headTo_next h]
  simp [Lib.byteCells, Lib.strCells, ByteArray.data_append]
theorem head_bytes2 (t : ByteArray) (l : List ByteArray) (m : ByteArray) : (Lib.byteCells (headTo t l l.length).data.toList ++ [Value.int .u8 10]) ++ Lib.strCells m = Lib.byteCells (textC t l m).data.toList := by
  unfold textC
  simp [Lib.byteCells, Lib.strCells, ByteArray.data_append]
theorem textC_ne (t : ByteArray) (l : List ByteArray) (m : ByteArray) : (textC t l m).data.toList ≠ [] := by
  intro e
  have h2 : (textC t l m).size = 0 := by
    show (textC t l m).data.size = 0
    rw [← Array.length_toList, e]
    rfl
  unfold textC at h2
  rw [ByteArray.size_append, ByteArray.size_append] at h2
  have e2 : (ByteArray.mk #[10]).size = 1 := rfl
  omega

set_option maxRecDepth 100000 in
set_option maxHeartbeats 2000000 in
theorem implCommitText_any (t m : ByteArray) (A : Option Addr) (l : List ByteArray) (cap : Nat) (w : World) (ht : t.size ≤ maxLen) (hm : m.size ≤ maxLen) (hl : l.length ≤ maxLen) (hin : SIn w w.heap.size A l) :
    Calls Try.prog 27 #[.agg #[.string t, .slice A l.length cap, .string m]] w fun e w' => e = .returned (.string (comTextS t l m)) ∧ Below w.heap.size w w' := by
  have B1 : Hid (Below w.heap.size w (w.alloc (.cells #[.string t, .slice A l.length cap, .string m] 44))) := hide ((Below.refl _ w).alloc (Nat.le_refl _) _)
  have X := hide (box3 w (.string t) (.slice A l.length cap) (.string m) 44)
  have R := hide (implCommitOk_any t m A l cap _ ht hm hl ((hin.below B1.out).more B1.out.size))
  have IN := hide hin
  clear hin
  cases hc : comB t l m
  · rw [hc] at R
    have Z := hide (comText_no hc)
    go_enter Try.func27, Try.ntmps27
    go_wp2_with fail
    refine R.out.mono ?_
    rintro e w1 ⟨rfl, b1⟩
    have BB := hide (B1.out.trans (b1.mono B1.out.size))
    clear b1
    go_wp2
    go_ret
    exact ⟨ret_str Z.out.symm, BB.out⟩
  · rw [hc] at R
    have Z := hide (comText_yes hc)
    obtain ⟨g1, g2, g3, g4⟩ := comSz_of hc
    have SZ := hide (headTo_size g1 g3)
    have G3 := hide g3
    have E0 := hide (head_bytes0 t l)
    have E2 := hide (head_bytes2 t l m)
    have e7 : (ByteArray.mk #[99, 111, 109, 109, 105, 116, 32]).size = 7 := rfl
    clear g3 hc
    go_enter Try.func27, Try.ntmps27
    go_wp2_with fail
    refine R.out.mono ?_
    rintro e w1 ⟨rfl, b1⟩
    have lt : w.heap.size < (w.alloc (.cells #[.string t, .slice A l.length cap, .string m] 44)).heap.size := by simp
    have Y0 := hide (cellB b1 lt X.out.1)
    have Y1 := hide (cellB b1 lt X.out.2.1)
    have Y2 := hide (cellB b1 lt X.out.2.2)
    have lt1 : w.heap.size < w1.heap.size := Nat.lt_of_lt_of_le lt b1.size
    have BB := hide (B1.out.trans (b1.mono B1.out.size))
    have IN1 := hide ((IN.out.below BB.out).more BB.out.size)
    have I0 := hide (Lib.fresh_isBuilder 72 5 w1)
    have Q0 := hide ((Below.refl w1.heap.size w1).alloc (Nat.le_refl _) (.cells #[.pointer none, .slice none 0 0] 72))
    clear b1 R X B1 lt IN
    go_wp2_with fail
    refine (writeString_any w1.heap.size w1.heap.size [] ⟨#[99, 111, 109, 109, 105, 116, 32]⟩ _ I0.out (by rw [e7]; simp) Q0.out.size).mono ?_
    rintro e w2 ⟨rfl, i2, b2, _⟩
    have I2 := hide i2
    have Q2 := hide (Q0.out.trans b2)
    have x0 := cellB Q2.out lt1 Y0.out
    clear i2 b2 I0 Q0
    go_wp2_with fail
    refine (writeString_any w1.heap.size w1.heap.size _ t _ I2.out (by rw [List.length_append, Lib.strCells_length, e7]; simp; omega) Q2.out.size).mono ?_
    rintro e w3 ⟨rfl, i3, b3, _⟩
    rw [E0.out] at i3
    have I3 := hide i3
    have Q3 := hide (Q2.out.trans b3)
    have x1 := cellB Q3.out lt1 Y1.out
    clear i3 b3 I2 Q2 x0
    generalize hn : l.length = n at *
    have HN := hide hn
    clear hn
    clear E0 Y0 Y1 ht hm hl e7
    go_wp2_with fail
    go_loopw [16] (fun i wr => ∃ k : Nat, k ≤ n ∧ i = .int .i64 k ∧ Hid (IsBld w1.heap.size w1.heap.size (Lib.byteCells (headTo t l k).data.toList) wr) ∧ Hid (Below w1.heap.size w1 wr)) (fun i _ => n - (intOf i).toNat)
    case atStart => exact ⟨0, Nat.zero_le _, rfl, I3, Q3⟩
    case round =>
      clear I3 Q3 x1
      obtain ⟨k, hk, rfl, I, Q⟩ := hrel
      have s0 := SZ.out k
      have s0' : (Lib.byteCells (headTo t l k).data.toList).length ≤ 23 + 17 * k := by rw [Lib.byteCells_length]; exact s0
      by_cases hlt : k < n
      · have hkl : k < l.length := by rw [HN.out]; omega
        have in1 := IN1.out.below Q.out
        obtain ⟨b, off, rfl, hbB, hc⟩ := in1.2 (by omega)
        have c1 := hc k hkl
        have s1 := G3.out k hkl
        have E := hide (head_bytes1 (t := t) hkl)
        generalize l[k] = x at *
        generalize Lib.byteCells (headTo t l k).data.toList = bs at *
        clear in1 hc s0
        go_wp2_with fail
        refine (writeByte_any w1.heap.size w1.heap.size bs 32 _ I.out (by omega) Q.out.size).mono ?_
        rintro e w4 ⟨rfl, i4, b4, _⟩
        have I4 := hide i4
        have Q4 := hide (Q.out.trans b4)
        clear i4 b4 I Q c1
        go_wp2_with fail
        refine (writeString_any w1.heap.size w1.heap.size _ x _ I4.out (by rw [List.length_append]; simp; omega) Q4.out.size).mono ?_
        rintro e w5 ⟨rfl, i5, b5, _⟩
        rw [E.out] at i5
        have I5 := hide i5
        have Q5 := hide (Q4.out.trans b5)
        clear i5 b5 I4 Q4
        go_wp2
        go_roundw
        case rel => exact ⟨k + 1, by omega, by go_num, I5, Q5⟩
        case measure => simp [intOf]; omega
      · obtain rfl : k = n := by omega
        generalize Lib.byteCells (headTo t l k).data.toList = bs at *
        go_wp2_with fail
        refine (writeByte_any w1.heap.size w1.heap.size bs 10 _ I.out (by omega) Q.out.size).mono ?_
        rintro e w4 ⟨rfl, i4, b4, _⟩
        have I4 := hide i4
        have Q4 := hide (Q.out.trans b4)
        have x2 := cellB Q4.out lt1 Y2.out
        clear i4 b4 I Q
        go_wp2_with fail
        refine (writeString_any w1.heap.size w1.heap.size _ m _ I4.out (by rw [List.length_append]; simp; omega) Q4.out.size).mono ?_
        rintro e w5 ⟨rfl, i5, b5, _⟩
        rw [E2.out] at i5
        have I5 := hide i5
        have Q5 := hide (Q4.out.trans b5)
        clear i5 b5 I4 Q4 x2
        go_wp2_with fail
        refine (string_some w1.heap.size w1.heap.size (textC t l m).data.toList w5 I5.out (textC_ne t l m)).mono ?_
        rintro e w6 ⟨rfl, b6⟩
        have B6 := hide (BB.out.trans ((Q5.out.trans b6).mono BB.out.size))
        clear b6 I5 Q5
        go_wp2
        go_ret
        exact ⟨ret_str Z.out.symm, B6.out⟩
end Go.Proofs.Ytmmeabfeehnajaa
