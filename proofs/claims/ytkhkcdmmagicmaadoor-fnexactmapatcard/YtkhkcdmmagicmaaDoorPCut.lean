/-
  A text that is cut at its first byte of a kind: in the reference (spec.l1Cut) and in the library (strings.Cut at one byte).
-/
import Derived.Test.YtkhkcdmmagicmaaDoorPMem
import Derived.Test.YtkhkcdmmagicmaaDoorQRow
import Derived.Lib.IndexLaws
import Derived.Lib.Bytealg
import Derived.BigQuiet
namespace Go.Proofs.YtkhkcdmmagicmaaDoor
open Go.RowKit

/-- where the first byte c stands; the size where there is none -/
def posB (s : ByteArray) (c : UInt8) : Nat := s.data.toList.findIdx (· == c)
theorem posB_le (s : ByteArray) (c : UInt8) : posB s c ≤ s.size := by
  unfold posB
  exact List.findIdx_le_length
theorem posB_hit {s : ByteArray} {c : UInt8} {k : Nat} (h : k < s.size) (hc : s[k] = c) (hb : ∀ j (h : j < s.size), j < k → s[j] ≠ c) : posB s c = k := by
  unfold posB
  have hl : k < s.data.toList.length := h
  rw [List.findIdx_eq hl]
  refine ⟨beq_iff_eq.2 hc, fun j hj => ?_⟩
  have := hb j (by omega) hj
  exact beq_eq_false_iff_ne.2 this
theorem posB_miss {s : ByteArray} {c : UInt8} (hb : ∀ j (h : j < s.size), s[j] ≠ c) : posB s c = s.size := by
  unfold posB
  have : List.findIdx (fun x => x == c) s.data.toList = s.data.toList.length := by
    rw [List.findIdx_eq_length]
    intro x hx
    obtain ⟨i, hi, e⟩ := List.getElem_of_mem hx
    have := hb i hi
    rw [beq_eq_false_iff_ne]
    rw [← e]
    exact this
  rw [this]; rfl
theorem indexByte_pos : ∀ (l : List UInt8) (c : UInt8), Lib.indexByte l c = if l.findIdx (· == c) < l.length then (l.findIdx (· == c) : Int) else -1
  | [], c => by simp [Lib.indexByte]
  | b :: l, c => by
    have ih := indexByte_pos l c
    rw [Lib.indexByte, ih, List.findIdx_cons]
    cases hbc : b == c
    · by_cases h : l.findIdx (· == c) < l.length
      · rw [if_pos h]
        have : ((l.findIdx (· == c) : Int) == -1) = false := by rw [beq_eq_false_iff_ne]; omega
        simp [this, h]
      · rw [if_neg h]
        simp [h]
    · simp
/-- the two pieces, and whether it was cut -/
def cutS (s : ByteArray) (c : UInt8) : ByteArray × ByteArray × Bool := if posB s c < s.size then (s.extract 0 (posB s c), s.extract (posB s c + 1) s.size, true) else (s, ByteArray.empty, false)
theorem cutS_yes {s : ByteArray} {c : UInt8} (h : posB s c < s.size) : cutS s c = (s.extract 0 (posB s c), s.extract (posB s c + 1) s.size, true) := by unfold cutS; rw [if_pos h]
theorem cutS_no {s : ByteArray} {c : UInt8} (h : ¬ posB s c < s.size) : cutS s c = (s, ByteArray.empty, false) := by unfold cutS; rw [if_neg h]
def RetCut (s : ByteArray) (c : UInt8) (w : World) (e : Ending) (w' : World) : Prop := e = .returned (.tuple #[.string (cutS s c).1, .string (cutS s c).2.1, .bool (cutS s c).2.2]) ∧ Quiet w w'

set_option maxRecDepth 100000 in
set_option maxHeartbeats 1000000 in
theorem l1Cut_any (s : ByteArray) (c : UInt8) (ci : Int) (w : World) (hs : s.size ≤ maxLen) (hci : ci = (c.toNat : Int)) :
    Calls Tryd.prog 51 #[.string s, .int .u8 ci] w (RetCut s c w) := by
  unfold maxLen at hs
  have HC := hide hci
  clear hci
  go_enter Tryd.func51, Tryd.ntmps51
  go_wp2
  go_loop [7] (fun i => ∃ k : Nat, k ≤ s.size ∧ i = .int .i64 k ∧ Hid (∀ j (h : j < s.size), j < k → s[j] ≠ c)) (fun i => s.size - (intOf i).toNat)
  case atStart => exact ⟨0, Nat.zero_le _, rfl, fun j _ h => absurd h (by omega)⟩
  case round =>
    obtain ⟨k, hk, rfl, H⟩ := hrel
    by_cases hlt : k < s.size
    · have hb : (s[k].toNat : Int) < 256 := by have := s[k].toNat_lt; omega
      by_cases he : s[k] = c
      · have q1 : ((s[k].toNat : Int) == ci) = true := by rw [HC.out, he]; simp
        have Z := hide (posB_hit hlt he H.out)
        clear he
        go_wp2
        go_quiet (fail)
        go_wp2
        go_ret3
        have hz : posB s c < s.size := by rw [Z.out]; exact hlt
        refine ⟨?_, (Quiet.refl w).drewN _⟩
        rw [cutS_yes hz, Z.out]; rfl
      · have q1 : ((s[k].toNat : Int) == ci) = false := by
          rw [HC.out, beq_eq_false_iff_ne]
          intro h
          exact he (UInt8.toNat_inj.1 (by omega))
        have Z : Hid (∀ j (h : j < s.size), j < k + 1 → s[j] ≠ c) := hide (fun j h hj => by
          rcases Nat.lt_succ_iff_lt_or_eq.1 hj with h' | rfl
          · exact H.out j h h'
          · exact he)
        go_wp2
        go_round
        case rel => exact ⟨k + 1, by omega, by go_num, Z⟩
        case measure => simp [intOf]; omega
    · have Z := hide (posB_miss (s := s) (c := c) fun j h => H.out j h (by omega))
      go_wp2
      go_ret3
      have hz : ¬ posB s c < s.size := by rw [Z.out]; omega
      refine ⟨?_, Quiet.refl w⟩
      rw [cutS_no hz]; rfl

set_option maxRecDepth 100000 in
theorem indexByte_any (s : ByteArray) (c : Int) (w : World) :
    Calls Tryd.prog 127 #[.string s, .int .u8 c] w fun e w' => e = .returned (.int .i64 (Lib.indexByte s.data.toList c.toNat.toUInt8)) ∧ w = w' := by
  go_enter Tryd.func127, Tryd.ntmps127
  go_wp2
  rw [run_callFunc_extern Tryd.func137 (by kernel_rfl) (by kernel_rfl) (by kernel_rfl) (e := Extern.BytealgIndexByte.indexByte) (by kernel_rfl), Lib.run_indexByteString]
  simp only [Result.andThen]
  rw [Oper.upon_value]
  go_wp2
  go_ret
  exact ⟨rfl, rfl⟩

set_option maxRecDepth 100000 in
set_option maxHeartbeats 1000000 in
theorem index_any (s : ByteArray) (c : UInt8) (w : World) :
    Calls Tryd.prog 111 #[.string s, .string ⟨#[c]⟩] w fun e w' => e = .returned (.int .i64 (Lib.indexByte s.data.toList c)) ∧ w = w' := by
  have R := hide (indexByte_any s (c.toNat : Int) w)
  have e1 : ((c.toNat : Int)).toNat.toUInt8 = c := by simp
  rw [e1] at R
  have z1 : (ByteArray.mk #[c]).size = 1 := rfl
  cases q : ([c] == s.toList)
  · go_enter Tryd.func111, Tryd.ntmps111
    go_wp2_with fail
    refine R.out.mono ?_
    rintro e w' ⟨rfl, rfl⟩
    go_wp2
    go_ret
    exact ⟨rfl, rfl⟩
  · have Z : Hid (Lib.indexByte s.data.toList c = 0) := hide (by
      have h := beq_iff_eq.1 q
      rw [Go.ByteArray.toList_eq] at h
      rw [← h]
      simp [Lib.indexByte])
    clear R
    go_enter Tryd.func111, Tryd.ntmps111
    go_wp2_with fail
    go_ret
    refine ⟨?_, rfl⟩
    rw [Z.out]; rfl

set_option maxRecDepth 100000 in
set_option maxHeartbeats 1000000 in
theorem slCut_any (s : ByteArray) (c : UInt8) (w : World) (hs : s.size ≤ maxLen) :
    Calls Tryd.prog 92 #[.string s, .string ⟨#[c]⟩] w (RetCut s c w) := by
  unfold maxLen at hs
  have R := hide (index_any s c w)
  rw [indexByte_pos] at R
  have z1 : (ByteArray.mk #[c]).size = 1 := rfl
  by_cases h : posB s c < s.size
  · have E := hide (cutS_yes h)
    have R2 : Hid (Calls Tryd.prog 111 #[.string s, .string ⟨#[c]⟩] w fun e w' => e = .returned (.int .i64 (posB s c : Int)) ∧ w = w') := hide (by have := R.out; rw [if_pos (show List.findIdx (fun x => x == c) s.data.toList < s.data.toList.length from h)] at this; exact this)
    clear R
    generalize posB s c = k at *
    go_enter Tryd.func92, Tryd.ntmps92
    go_wp2_with fail
    refine R2.out.mono ?_
    rintro e w' ⟨rfl, rfl⟩
    go_wp2
    go_quiet (fail)
    go_wp2
    go_ret3
    refine ⟨?_, (Quiet.refl w).drewN _⟩
    rw [E.out]; rfl
  · have E := hide (cutS_no h)
    have R2 : Hid (Calls Tryd.prog 111 #[.string s, .string ⟨#[c]⟩] w fun e w' => e = .returned (.int .i64 (-1)) ∧ w = w') := hide (by have := R.out; rw [if_neg (show ¬ List.findIdx (fun x => x == c) s.data.toList < s.data.toList.length from h)] at this; exact this)
    clear R
    go_enter Tryd.func92, Tryd.ntmps92
    go_wp2_with fail
    refine R2.out.mono ?_
    rintro e w' ⟨rfl, rfl⟩
    go_wp2
    go_ret3
    refine ⟨?_, Quiet.refl w⟩
    rw [E.out]; rfl

set_option maxRecDepth 100000 in
theorem stringsCut_any (s : ByteArray) (c : UInt8) (w : World) (hs : s.size ≤ maxLen) :
    Calls Tryd.prog 70 #[.string s, .string ⟨#[c]⟩] w (RetCut s c w) := by
  go_enter Tryd.func70, Tryd.ntmps70
  go_wp2_with fail
  refine (slCut_any s c w hs).mono ?_
  rintro e w' ⟨rfl, q⟩
  go_wp2
  go_ret3
  exact ⟨rfl, q⟩
end Go.Proofs.YtkhkcdmmagicmaaDoor
