/-
  What impl.PackText answers.
-/
import Derived.Test.YtlipefnaeblhfaaDoorKText
import Derived.Test.YtlipefnaeblhfaaDoorPBld
namespace Go.Proofs.YtlipefnaeblhfaaDoor
open Go.RowKit

theorem gPow : Tryd.prog.globalNamed "internal/strconv.uint64pow10" = some 2 := by kernel_rfl
theorem pow_lt {w : World} (h : Pow w) : 2 < w.heap.size := by
  unfold Pow Lib.TabIs World.var? at h
  simp only [gPow, Option.bind_some] at h
  by_cases hh : 2 < w.heap.size
  · exact hh
  · rw [Array.getElem?_eq_none (by omega)] at h
    simp at h
theorem Pow.below {w w' : World} {B : Nat} (h : Pow w) (q : Below B w w') (hB : 2 < B) : Pow w' := by
  unfold Pow Lib.TabIs World.var? at h ⊢
  simp only [gPow, Option.bind_some] at h ⊢
  rw [q.block _ hB]
  exact h
theorem pack_bytes {l : List Pr} {k : Nat} (h : k < l.length) : Lib.byteCells (packL (l.take k)).data.toList ++ Lib.strCells (decB l[k].2.size) ++ [Value.int .u8 10] ++ Lib.strCells l[k].2 = Lib.byteCells (packL (l.take (k + 1))).data.toList := by
  rw [packL_next h]
  simp [Lib.strCells, Lib.byteCells, ByteArray.data_append]
theorem packL_ne {l : List Pr} (h : l ≠ []) : (packL l).data.toList ≠ [] := by
  cases l with
  | nil => exact absurd rfl h
  | cons p r =>
    intro hx
    have := congrArg List.length hx
    simp [packL, pieceT] at this
set_option maxRecDepth 100000 in
set_option maxHeartbeats 2000000 in
theorem implPackText_any (A : Option Addr) (l : List Pr) (cap : Nat) (w : World) (hl : l.length ≤ maxLen) (hin : PIn w w.heap.size A l) (hT : Tabs w) (hP : Pow w) :
    Calls Tryd.prog 10 #[.slice A l.length cap] w fun e w' => e = .returned (.string (packT l)) ∧ Below w.heap.size w w' := by
  have R := hide (implObjsOk_any A l cap w hl hin hT)
  have IN := hide hin
  have PW := hide hP
  have hpl := pow_lt hP
  clear hin hl hT hP
  cases hb : objsB l
  · have E := hide (packT_no hb)
    rw [hb] at R
    go_enter Tryd.func10, Tryd.ntmps10
    go_wp2_with fail
    refine R.out.mono ?_
    rintro e w1 ⟨rfl, b1⟩
    have B1 := hide b1
    clear b1 R
    go_wp2
    go_ret
    exact ⟨ret_str E.out.symm, B1.out⟩
  · have E := hide (packT_yes hb)
    rw [hb] at R
    have h60 := (objsB_iff.1 hb).1
    have TS := hide (objs_texts hb)
    have E0 : Hid (packL (l.take 0) = ByteArray.empty) := hide rfl
    by_cases hnil : l = []
    · subst hnil
      have E1 : Hid (packT [] = ⟨#[]⟩) := hide (by rw [E.out]; rfl)
      go_enter Tryd.func10, Tryd.ntmps10
      go_wp2_with fail
      refine R.out.mono ?_
      rintro e w1 ⟨rfl, b1⟩
      have B1 := hide (b1.alloc b1.size (.cells #[.pointer none, .slice none 0 0] 45))
      have X1 := hide (heap_alloc_new w1 (.cells #[.pointer none, .slice none 0 0] 45))
      have h1 := b1.size
      clear b1 R
      go_wp2_with fail
      refine wp_loop_rounds 1 ?_
      rw [rounds_succ]
      go_wp2_with fail
      refine (string_none w1.heap.size w1.heap.size (.pointer none) _ X1.out).mono ?_
      rintro e w2 ⟨rfl, b2⟩
      have B2 := hide (B1.out.trans (b2.mono h1))
      clear b2
      go_wp2
      go_ret
      exact ⟨ret_str E1.out.symm, B2.out⟩
    · have NE := hide (packL_ne hnil)
      clear hb
      generalize hn : l.length = n at *
      have HN := hide hn
      clear hn
      go_enter Tryd.func10, Tryd.ntmps10
      go_wp2_with fail
      refine R.out.mono ?_
      rintro e w1 ⟨rfl, b1⟩
      have h1 := b1.size
      have BB := hide b1
      have I0 := hide (Lib.fresh_isBuilder 45 5 w1)
      have Q0 := hide ((Below.refl w1.heap.size w1).alloc (Nat.le_refl _) (.cells #[.pointer none, .slice none 0 0] 45))
      have IN1 := hide ((IN.out.below b1).more b1.size)
      have PW1 := hide (PW.out.below b1 hpl)
      have hpl1 : 2 < w1.heap.size := by omega
      clear b1 R IN PW
      go_wp2_with fail
      go_loopw [11] (fun i wr => ∃ k : Nat, k ≤ n ∧ i = .int .i64 k ∧ Hid (IsBld w1.heap.size w1.heap.size (Lib.byteCells (packL (l.take k)).data.toList) wr) ∧ Hid (Below w1.heap.size w1 wr)) (fun i _ => n - (intOf i).toNat)
      case atStart => exact ⟨0, Nat.zero_le _, rfl, I0, Q0⟩
      case round =>
        clear I0 Q0 E0
        obtain ⟨k, hk, rfl, I, Q⟩ := hrel
        have hqs := Q.out.size
        by_cases hlt : k < n
        · have hkl : k < l.length := by rw [HN.out]; omega
          have in1 := IN1.out.below Q.out
          obtain ⟨b, off, rfl, hbB, hc⟩ := in1.2 (by omega)
          obtain ⟨c1, c2⟩ := hc k hkl
          have ht := TS.out _ (List.getElem_mem hkl)
          have EB := hide (pack_bytes hkl)
          have zs := packL_size (l.take k) (fun p hp => TS.out p (List.mem_of_mem_take hp))
          have zl : (l.take k).length ≤ 60 := by rw [List.length_take]; omega
          have zb : (Lib.byteCells (packL (l.take k)).data.toList).length ≤ 300000 := by rw [Lib.byteCells_length]; show (packL (l.take k)).size ≤ 300000; omega
          have zd := decB_size (l[k]'hkl).2.size
          have D := hide (fun W h => itoa_any (l[k]'hkl).2.size W (by omega) h)
          generalize (l[k]'hkl).2 = t at *
          generalize (l[k]'hkl).1 = i0 at *
          generalize Lib.byteCells (packL (l.take k)).data.toList = bs at *
          generalize decB t.size = d at *
          have X0 := hide (heap_alloc_new wr (.cells #[.string i0, .string t] 41))
          have QA := hide ((Below.refl wr.heap.size wr).alloc (Nat.le_refl _) (.cells #[.string i0, .string t] 41))
          have IA := hide (I.out.below QA.out)
          have hz : (wr.alloc (.cells #[.string i0, .string t] 41)).heap.size = wr.heap.size + 1 := by simp
          clear in1 hc zs zl
          have QB := hide (Q.out.alloc hqs (.cells #[.string i0, .string t] 41))
          have ne1 : wr.heap.size ≠ w1.heap.size := by
            obtain ⟨p, hp⟩ | ⟨p, hp⟩ : (∃ p, Lib.BuilderAt 45 5 w1.heap.size w1.heap.size p bs wr) ∨ (∃ p, Lib.BuilderAt 45 5 w1.heap.size w1.heap.size p bs wr) := by
              rcases I.out with h | h
              · exact .inl ⟨_, h⟩
              · exact .inr ⟨_, h⟩
            · have := hp.lt; omega
            · have := hp.lt; omega
          clear I
          go_wp2_with fail
          refine (D.out _ (PW1.out.below QB.out hpl1)).mono ?_
          rintro _ w4 ⟨rfl, b4⟩
          have X4 := hide ((b4.block wr.heap.size (by rw [hz]; omega)).trans X0.out)
          have I4 := hide (IA.out.below b4)
          have Q4 := hide (QB.out.trans (b4.mono QB.out.size))
          clear b4 IA QB X0 QA D
          go_wp2_with fail
          refine (writeString_any w1.heap.size w1.heap.size bs d w4 I4.out (by omega) Q4.out.size).mono ?_
          rintro _ w5 ⟨rfl, i5, b5, kp5⟩
          have I5 := hide i5
          have Q5 := hide (Q4.out.trans b5)
          have X5 := hide (kp5 wr.heap.size _ _ _ ne1 X4.out (by decide))
          clear i5 b5 kp5 I4 Q4 X4
          go_wp2_with fail
          refine (writeByte_any w1.heap.size w1.heap.size _ 10 w5 I5.out (by rw [List.length_append, Lib.strCells_length]; omega) Q5.out.size).mono ?_
          rintro _ w6 ⟨rfl, i6, b6, kp6⟩
          have I6 := hide i6
          have Q6 := hide (Q5.out.trans b6)
          have X6 := hide (kp6 wr.heap.size _ _ _ ne1 X5.out (by decide))
          have x6 := cell_of_row _ _ 1 _ _ _ X6.out
          clear i6 b6 kp6 I5 Q5 X5
          go_wp2_with fail
          refine (writeString_any w1.heap.size w1.heap.size _ t w6 I6.out (by rw [List.length_append, List.length_append, Lib.strCells_length]; simp; omega) Q6.out.size).mono ?_
          rintro _ w7 ⟨rfl, i7, b7, _⟩
          rw [EB.out] at i7
          have I7 := hide i7
          have Q7 := hide (Q6.out.trans b7)
          clear i7 b7 I6 Q6 X6 x6
          go_wp2
          go_roundw
          case rel => exact ⟨k + 1, by omega, by go_num, I7, Q7⟩
          case measure => simp [intOf]; omega
        · have EE : Hid (packL (l.take k) = packL l) := hide (by rw [List.take_of_length_le (by rw [HN.out]; omega)])
          have I2 := hide I.out
          rw [EE.out] at I2
          have hgt : ¬ ((k : Int) < (n : Int)) := by omega
          clear hlt I
          go_wp2_with fail
          refine (string_some w1.heap.size w1.heap.size _ wr I2.out NE.out).mono ?_
          rintro _ w4 ⟨rfl, b4⟩
          have Q4 := hide (BB.out.trans ((Q.out.trans b4).mono h1))
          clear b4
          go_wp2
          go_ret
          exact ⟨ret_str (by rw [E.out]), Q4.out⟩
end Go.Proofs.YtlipefnaeblhfaaDoor
