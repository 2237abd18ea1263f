/-
  What MapText writes, in the reference and in the program.
-/
import Derived.Test.YtmbajcppjhfpeaaPBld
import Derived.Test.YtmbajcppjhfpeaaHEdit
import Derived.Test.YtmbajcppjhfpeaaPMapOkS
import Derived.Test.YtmbajcppjhfpeaaPMapOkI
import Derived.BigQuiet
namespace Go.Proofs.Ytmbajcppjhfpeaa
open Go.RowKit

/-- the line of a pair -/
def lineS (p : Pr) : ByteArray := p.1 ++ ⟨#[61]⟩ ++ p.2 ++ ⟨#[10]⟩
/-- the lines of pairs, one behind the other -/
def textOf : List Pr → ByteArray
  | [] => ByteArray.empty
  | p :: r => lineS p ++ textOf r
theorem ba_assoc (a b c : ByteArray) : a ++ b ++ c = a ++ (b ++ c) := by
  apply Go.WideShapes.bytes_inj
  simp [ByteArray.data_append]
theorem ba_empty (a : ByteArray) : ByteArray.empty ++ a = a := by
  apply Go.WideShapes.bytes_inj
  simp
theorem ba_empty' (a : ByteArray) : a ++ ByteArray.empty = a := by
  apply Go.WideShapes.bytes_inj
  simp
theorem textOf_append (a b : List Pr) : textOf (a ++ b) = textOf a ++ textOf b := by
  induction a with
  | nil => rw [List.nil_append, textOf, ba_empty]
  | cons p r ih => rw [List.cons_append, textOf, textOf, ih, ba_assoc]
theorem textOf_succ {l : List Pr} {k : Nat} (h : k < l.length) : textOf (l.take (k + 1)) = textOf (l.take k) ++ l[k].1 ++ ⟨#[61]⟩ ++ l[k].2 ++ ⟨#[10]⟩ := by
  rw [List.take_succ_eq_append_getElem h, textOf_append]
  simp only [textOf, lineS, ba_empty', ba_assoc]
/-- right pairs have short lines -/
theorem textOf_size {l : List Pr} (h : pairsTo l l.length) : ∀ k, k ≤ l.length → (textOf (l.take k)).size ≤ 22 * k
  | 0, _ => by simp [textOf]
  | k + 1, hk => by
    have ih := textOf_size h k (by omega)
    rw [textOf_succ (by omega)]
    obtain ⟨h1, h2⟩ := h k (by omega) (by omega)
    have h1 := (okB_iff.1 h1).2.1
    have h2 := (okB_iff.1 h2).2.1
    have e1 : (ByteArray.mk #[61]).size = 1 := rfl
    have e2 : (ByteArray.mk #[10]).size = 1 := rfl
    simp only [ByteArray.size_append]
    omega
noncomputable def mapTextS (l : List Pr) : ByteArray := if mapB l = true then textOf l else ByteArray.empty

set_option maxRecDepth 100000 in
set_option maxHeartbeats 1000000 in
theorem l1Text_any (A : Option Addr) (l : List Pr) (cap : Nat) (w : World) (B : Nat) (hl : l.length ≤ 40) (hp : pairsTo l l.length) (hin : PIn w B A l) :
    Calls Try.prog 32 #[.slice A l.length cap] w fun e w' => e = .returned (.string (textOf l)) ∧ Quiet w w' := by
  have HP := hide hp
  clear hp
  generalize hn : l.length = n at hl ⊢
  have HN := hide hn
  clear hn
  go_enter Try.func32, Try.ntmps32
  go_wp2
  go_loopw [3, 4] (fun t i wr => ∃ (k : Nat) (s : ByteArray), k ≤ n ∧ i = .int .i64 k ∧ t = .string s ∧ Hid (s = textOf (l.take k)) ∧ Hid (Quiet w wr)) (fun _ i _ => n - (intOf i).toNat)
  case atStart => exact ⟨0, ByteArray.empty, Nat.zero_le _, rfl, rfl, by simp [Hid, textOf], Quiet.refl w⟩
  case round =>
    obtain ⟨k, s, hk, rfl, rfl, H, Q⟩ := hrel
    by_cases hlt : k < n
    · have hin2 := hin.quiet Q.out
      have hkl : k < l.length := by rw [HN.out]; omega
      obtain ⟨b, off, rfl, hbB, hc⟩ := hin2.2 (by omega)
      obtain ⟨c1, c2⟩ := hc k hkl
      obtain ⟨s1, s2⟩ := HP.out k hkl hkl
      have s1 := (okB_iff.1 s1).2.1
      have s2 := (okB_iff.1 s2).2.1
      have s0 : s.size ≤ 22 * k := by have := textOf_size HP.out k (by omega); rw [← H.out] at this; exact this
      have Z : Hid (s ++ (l[k]'hkl).1 ++ ⟨#[61]⟩ ++ (l[k]'hkl).2 ++ ⟨#[10]⟩ = textOf (l.take (k + 1))) := hide (by rw [textOf_succ hkl, H.out])
      generalize (l[k]'hkl).1 = x at *
      generalize (l[k]'hkl).2 = y at *
      clear hin hin2 hc
      have e1 : (ByteArray.mk #[61]).size = 1 := rfl
      have z1 : (s ++ x).size = s.size + x.size := ByteArray.size_append
      have z2 : (s ++ x ++ ByteArray.mk #[61]).size = s.size + x.size + 1 := by rw [ByteArray.size_append, z1, e1]
      have z3 : (s ++ x ++ ByteArray.mk #[61] ++ y).size = s.size + x.size + 1 + y.size := by rw [ByteArray.size_append, z2]
      go_wp2
      go_quiet (fail)
      go_wp2
      go_roundw
      case rel => exact ⟨k + 1, _, by omega, by go_num, rfl, Z, Q.out.drewN _⟩
      case measure => simp [intOf]; omega
    · have Z : Hid (s = textOf l) := hide (by rw [H.out, List.take_of_length_le (by rw [HN.out]; omega)])
      go_wp2
      go_ret
      exact ⟨ret_str Z.out, Q.out⟩

theorem mapText_no {l : List Pr} (h : mapB l = false) : mapTextS l = ByteArray.empty := by unfold mapTextS; rw [h]; rfl
theorem mapText_yes {l : List Pr} (h : mapB l = true) : mapTextS l = textOf l := by unfold mapTextS; rw [h]; rfl

set_option maxRecDepth 100000 in
set_option maxHeartbeats 1000000 in
theorem specMapText_any (A : Option Addr) (l : List Pr) (cap : Nat) (w : World) (B : Nat) (hl : l.length ≤ maxLen) (hin : PIn w B A l) :
    Calls Try.prog 10 #[.slice A l.length cap] w fun e w' => e = .returned (.string (mapTextS l)) ∧ Quiet w w' := by
  have R := hide (specMapOk_any A l cap w B hl hin)
  cases hm : mapB l
  · have Z := hide (mapText_no hm)
    go_enter Try.func10, Try.ntmps10
    go_wp2_with (go_at_call 21; refine R.out.mono ?_; rintro e w' ⟨rfl, q⟩)
    go_ret
    exact ⟨ret_str Z.out.symm, q⟩
  · have Z := hide (mapText_yes hm)
    have h40 := (mapB_iff.1 hm).1
    have HP := hide (mapB_iff.1 hm).2.1
    go_enter Try.func10, Try.ntmps10
    go_wp2_with fail
    refine R.out.mono ?_
    rintro e w1 ⟨rfl, q1⟩
    go_wp2_with fail
    refine (l1Text_any A l cap w1 B h40 HP.out (hin.quiet q1)).mono ?_
    rintro e w2 ⟨rfl, q2⟩
    have Q2 := hide (q1.trans q2)
    clear q1 q2
    go_wp2
    go_ret
    exact ⟨ret_str Z.out.symm, Q2.out⟩

theorem bytes_step {l : List Pr} {k : Nat} (h : k < l.length) : Lib.byteCells (textOf (l.take k)).data.toList ++ Lib.strCells (lineG ⟨#[]⟩ l[k].1 l[k].2) = Lib.byteCells (textOf (l.take (k + 1))).data.toList := by
  rw [textOf_succ h]
  unfold lineG
  simp [Lib.byteCells, Lib.strCells, ByteArray.data_append]

set_option maxRecDepth 100000 in
set_option maxHeartbeats 2000000 in
theorem implMapText_any (A : Option Addr) (l : List Pr) (cap : Nat) (w : World) (hl : l.length ≤ maxLen) (hin : PIn w w.heap.size A l) :
    Calls Try.prog 12 #[.slice A l.length cap] w fun e w' => e = .returned (.string (mapTextS l)) ∧ Below w.heap.size w w' := by
  have R := hide (implMapOk_any A l cap w hl hin)
  cases hm : mapB l
  · have Z := hide (mapText_no hm)
    go_enter Try.func12, Try.ntmps12
    go_wp2_with (go_at_call 20; refine R.out.mono ?_; rintro e w' ⟨rfl, q⟩)
    go_ret
    exact ⟨ret_str Z.out.symm, q⟩
  · have Z := hide (mapText_yes hm)
    have h40 := (mapB_iff.1 hm).1
    have HP : Hid (pairsTo l l.length) := hide (mapB_iff.1 hm).2.1
    by_cases h0 : l = []
    · subst h0
      go_enter Try.func12, Try.ntmps12
      go_wp2_with fail
      refine R.out.mono ?_
      rintro e w1 ⟨rfl, b1⟩
      have S1 := hide (string_none w1.heap.size w1.heap.size (.pointer none) (w1.alloc (.cells #[.pointer none, .slice none 0 0] 50)) (heap_alloc_new w1 _))
      have B1 := hide b1
      clear b1 hin
      go_wp2_with fail
      refine wp_loop_rounds 1 ?_
      rw [rounds_succ]
      go_wp2_with fail
      refine S1.out.mono ?_
      rintro e w2 ⟨rfl, b2⟩
      have B2 := hide (B1.out.trans ((((Below.refl w1.heap.size w1).alloc (Nat.le_refl _) _).trans b2).mono B1.out.size))
      clear b2
      go_wp2
      go_ret
      exact ⟨ret_str Z.out.symm, B2.out⟩
    · have hn0 : 0 < l.length := by cases l with | nil => exact absurd rfl h0 | cons _ _ => simp
      have IN := hide hin
      clear hin h0
      generalize hn : l.length = n at hn0 h40 hl R ⊢
      have HN := hide hn
      clear hn
      go_enter Try.func12, Try.ntmps12
      go_wp2_with fail
      refine R.out.mono ?_
      rintro e w1 ⟨rfl, b1⟩
      have B1 := hide b1
      have I0 := hide (Lib.fresh_isBuilder 50 5 w1)
      have BB0 := hide ((Below.refl w1.heap.size w1).alloc (Nat.le_refl _) (.cells #[.pointer none, .slice none 0 0] 50))
      clear b1 R
      go_wp2_with fail
      go_loopw [11] (fun i wr => ∃ k : Nat, k ≤ n ∧ i = .int .i64 k ∧ Hid (IsBld w1.heap.size w1.heap.size (Lib.byteCells (textOf (l.take k)).data.toList) wr) ∧ Hid (Below w1.heap.size w1 wr)) (fun i _ => n - (intOf i).toNat)
      case atStart => exact ⟨0, Nat.zero_le _, rfl, by simpa [textOf, Lib.byteCells] using I0, BB0⟩
      case round =>
        clear I0 BB0
        obtain ⟨k, hk, rfl, I, Q⟩ := hrel
        by_cases hlt : k < n
        · have hkl : k < l.length := by rw [HN.out]; omega
          have in1 := IN.out.below (B1.out.trans (Q.out.mono B1.out.size))
          obtain ⟨b, off, rfl, hbB, hc⟩ := in1.2 (by omega)
          obtain ⟨c1, c2⟩ := hc k hkl
          obtain ⟨s1, s2⟩ := HP.out k hkl hkl
          have s1 := (okB_iff.1 s1).2.1
          have s2 := (okB_iff.1 s2).2.1
          have s0 := textOf_size HP.out k (by omega)
          have s0' : (Lib.byteCells (textOf (l.take k)).data.toList).length ≤ 22 * k := by rw [Lib.byteCells_length]; exact s0
          have E := hide (bytes_step hkl)
          generalize (l[k]'hkl).1 = x at *
          generalize (l[k]'hkl).2 = y at *
          generalize Lib.byteCells (textOf (l.take k)).data.toList = bs at *
          have hblt : w1.heap.size < wr.heap.size := by
            rcases I.out with h | h <;> exact h.lt
          have hxs : x.size ≤ 8 := by omega
          have hys : y.size ≤ 12 := by omega
          have e0 : (ByteArray.mk #[]).size = 0 := rfl
          clear in1 hc s0
          have WP : Hid (∀ W, Below wr.heap.size wr W → Calls Try.prog 34 #[.pointer (some ⟨w1.heap.size, 0, none⟩), .string ⟨#[]⟩, .agg #[.string x, .string y]] W fun e w' => e = .returned (.tuple #[]) ∧ IsBld w1.heap.size w1.heap.size (bs ++ Lib.strCells (lineG ⟨#[]⟩ x y)) w' ∧ Below w1.heap.size W w') := hide fun W hW => (writePair_any w1.heap.size w1.heap.size bs ⟨#[]⟩ x y W (I.out.below hW) (by omega) (by have := hW.size; omega)).mono fun _ _ ⟨a1, a2, a3, _⟩ => ⟨a1, a2, a3⟩
          have A1 : Hid (Below wr.heap.size wr (wr.alloc (.cells #[.string x, .string y] 46))) := hide ((Below.refl _ wr).alloc (Nat.le_refl _) _)
          have A0 : Hid (Below wr.heap.size wr wr) := hide (Below.refl _ wr)
          go_wp2_with fail
          first
            | (refine (WP.out _ A1.out).mono ?_; rintro e w5 ⟨rfl, i5, b5⟩; have Q6 := hide ((Q.out.trans (A1.out.mono Q.out.size)).trans b5))
            | (refine (WP.out _ A0.out).mono ?_; rintro e w5 ⟨rfl, i5, b5⟩; have Q6 := hide (Q.out.trans b5))
          rw [E.out] at i5
          have I6 := hide i5
          clear i5 b5 WP A1 A0
          go_wp2
          go_roundw
          case rel => exact ⟨k + 1, by omega, by go_num, I6, Q6⟩
          case measure => simp [intOf]; omega
        · obtain rfl : k = n := by omega
          have F : Hid (l.take k = l) := hide (List.take_of_length_le (by rw [HN.out]; exact Nat.le_refl _))
          have I2 := I.out
          rw [F.out] at I2
          have hne : (textOf l).data.toList ≠ [] := by
            intro e
            have h1 := textOf_succ (l := l) (k := k - 1) (by rw [HN.out]; omega)
            rw [show k - 1 + 1 = k by omega, F.out] at h1
            have h2 : (textOf l).size = 0 := by
              show (textOf l).data.size = 0
              rw [← Array.length_toList, e]
              rfl
            rw [h1, ByteArray.size_append] at h2
            have e2 : (ByteArray.mk #[10]).size = 1 := rfl
            omega
          have S1 := hide (string_some w1.heap.size w1.heap.size (textOf l).data.toList wr I2 hne)
          clear I2 hne
          go_wp2_with fail
          refine S1.out.mono ?_
          rintro e w2 ⟨rfl, b2⟩
          have B2 := hide (B1.out.trans ((Q.out.trans b2).mono B1.out.size))
          clear b2 S1
          go_wp2
          go_ret
          exact ⟨ret_str Z.out.symm, B2.out⟩
end Go.Proofs.Ytmbajcppjhfpeaa
