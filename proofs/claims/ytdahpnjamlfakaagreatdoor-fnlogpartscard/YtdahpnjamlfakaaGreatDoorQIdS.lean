/-
  What spec.l2Id gives; both packages' Sha256 and IdOf at every text.
-/
import Derived.Test.YtdahpnjamlfakaaGreatDoorQShaS
import Derived.Test.YtdahpnjamlfakaaGreatDoorQIdI
namespace Go.Proofs.YtdahpnjamlfakaaGreatDoor
open Go.RowKit

theorem nums_append (a b : List Int) : strOfNums a ++ strOfNums b = strOfNums (a ++ b) := by
  apply ByteArray.ext
  simp [strOfNums, ByteArray.data_append]
theorem hex_cut (n : Nat) (h : n < 16) : (⟨#[48, 49, 50, 51, 52, 53, 54, 55, 56, 57, 97, 98, 99, 100, 101, 102]⟩ : ByteArray).extract n (n + 1) = strOfNums [hexD (n : Int)] := by
  rcases (show n = 0 ∨ n = 1 ∨ n = 2 ∨ n = 3 ∨ n = 4 ∨ n = 5 ∨ n = 6 ∨ n = 7 ∨ n = 8 ∨ n = 9 ∨ n = 10 ∨ n = 11 ∨ n = 12 ∨ n = 13 ∨ n = 14 ∨ n = 15 by omega) with e | e | e | e | e | e | e | e | e | e | e | e | e | e | e | e <;> subst e <;> rfl

set_option maxRecDepth 100000 in
set_option maxHeartbeats 2000000 in
theorem l2Id_any (s : ByteArray) (w : World) (hs : s.size ≤ 2000) :
    Calls Tryz.prog 56 #[.string s] w fun e w' => e = .returned (.string (idL s)) ∧ Below w.heap.size w w' := by
  have FIN : Hid (idL s = strOfNums (hexTo (shaL s) 8)) := hide rfl
  have hz := shaL_size s
  have SH := hide (l2Sha_any s w hs)
  generalize shaL s = d at *
  have hz1 : d.size ≤ 32 := by omega
  have hz2 : 32 ≤ d.size := by omega
  clear hz
  go_enter Tryz.func56, Tryz.ntmps56
  go_wp2_with fail
  refine SH.out.mono ?_
  rintro e w1 ⟨rfl, hb1⟩
  have B1 := hide hb1
  clear hb1
  go_wp2
  go_loopw [5, 6] (fun ov iv wr => ∃ k : Nat, k ≤ 8 ∧ ov = .string (strOfNums (hexTo d k)) ∧ iv = .int .i64 k ∧ Hid (Below w.heap.size w wr)) (fun _ i _ => 8 - (intOf i).toNat)
  case atStart => exact ⟨0, by omega, rfl, rfl, B1⟩
  case round =>
    obtain ⟨k, hk, rfl, rfl, Q⟩ := hrel
    by_cases hlt : k < 8
    · have SB := hide (sB_in (s := d) (j := k) (by omega))
      have hb := d[k].toNat_lt
      have hb2 : (d[k].toNat : Int) < 256 := by omega
      have p0 : (0 : Int) ≤ (k : Int) := by omega
      have p1 : (k : Int) < (d.size : Int) := by omega
      have x0 := hide (hex_cut (d[k].toNat / 16) (by omega))
      have x1 := hide (hex_cut (d[k].toNat % 16) (by omega))
      have ST := hide (hexTo_succ d k)
      have hl : (strOfNums (hexTo d k)).size ≤ 16 := by rw [strOfNums_size, hexTo_length]; omega
      go_wp2
      go_quiet (fail)
      go_wp2
      refine ⟨⟨k + 1, by omega, ?_, by go_num, hide ⟨Q.out.os, Q.out.tape, Q.out.output, Q.out.size, Q.out.block⟩⟩, by simp [intOf]; omega⟩
      rw [ST.out, SB.out, x0.out, x1.out, nums_append, nums_append, List.append_assoc]
      simp only [Int.natCast_ediv, Int.natCast_emod]
      rfl
    · have e8 : Hid (k = 8) := hide (by omega)
      have hgt : ¬ ((k : Int) < 8) := by omega
      clear hlt
      go_wp2
      go_ret
      exact ⟨ret_str (by rw [FIN.out, e8.out]), Q.out⟩

theorem shaB_in {s : ByteArray} (h : s.size ≤ 2000) : shaB s = shaL s := if_pos h
theorem shaB_out {s : ByteArray} (h : ¬ s.size ≤ 2000) : shaB s = ByteArray.empty := if_neg h
theorem idT_in {s : ByteArray} (h : s.size ≤ 2000) : idT s = idL s := if_pos h
theorem idT_out {s : ByteArray} (h : ¬ s.size ≤ 2000) : idT s = ByteArray.empty := if_neg h

theorem implSha (s : ByteArray) (w : World) (_hs : s.size ≤ maxLen) (hT : Tabs w) :
    Calls Tryz.prog 87 #[.string s] w fun e w' => e = .returned (.string (shaB s)) ∧ Below w.heap.size w w' := by
  by_cases h : s.size ≤ 2000
  · rw [shaB_in h]; exact shaI_any s w h hT
  · have E := hide (shaB_out h)
    have hb : (2000 : Int) < (s.size : Int) := by omega
    unfold maxLen at _hs
    go_enter Tryz.func87, Tryz.ntmps87
    go_wp2
    go_ret
    exact ⟨ret_str E.out.symm, Below.refl _ _⟩
theorem implId (s : ByteArray) (w : World) (hs : s.size ≤ maxLen) (hT : Tabs w) :
    Calls Tryz.prog 47 #[.string s] w fun e w' => e = .returned (.string (idT s)) ∧ Below w.heap.size w w' := by
  by_cases h : s.size ≤ 2000
  · rw [idT_in h]; exact idI_any s w h hT
  · have E := hide (idT_out h)
    have S := hide (implSha s w hs hT)
    rw [shaB_out h] at S
    have he : (ByteArray.empty.toList).isEmpty = true := by rw [Go.ByteArray.toList_eq]; rfl
    go_enter Tryz.func47, Tryz.ntmps47
    go_wp2_with fail
    refine S.out.mono ?_
    rintro e w1 ⟨rfl, hb1⟩
    have B1 := hide hb1
    clear hb1
    go_wp2
    go_ret
    exact ⟨ret_str E.out.symm, B1.out⟩
theorem specId (s : ByteArray) (w : World) (hs : s.size ≤ maxLen) :
    Calls Tryz.prog 79 #[.string s] w fun e w' => e = .returned (.string (idT s)) ∧ Below w.heap.size w w' := by
  unfold maxLen at hs
  by_cases h : s.size ≤ 2000
  · rw [idT_in h]
    have S := hide (l2Id_any s w h)
    have hb : ¬ ((2000 : Int) < (s.size : Int)) := by omega
    generalize idL s = d at *
    go_enter Tryz.func79, Tryz.ntmps79
    go_wp2_with fail
    refine S.out.mono ?_
    rintro e w1 ⟨rfl, hb1⟩
    have B1 := hide hb1
    clear hb1
    go_wp2
    go_ret
    exact ⟨rfl, B1.out⟩
  · have E := hide (idT_out h)
    have hb : (2000 : Int) < (s.size : Int) := by omega
    go_enter Tryz.func79, Tryz.ntmps79
    go_wp2
    go_ret
    exact ⟨ret_str E.out.symm, Below.refl _ _⟩
end Go.Proofs.YtdahpnjamlfakaaGreatDoor
