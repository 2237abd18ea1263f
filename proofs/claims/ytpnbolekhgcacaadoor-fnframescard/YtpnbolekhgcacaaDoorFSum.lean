/-
  What impl.crc32, impl.frameHead, impl.FrameOf, spec.l12Sum and spec.FrameOf answer.
-/
import Derived.Test.YtpnbolekhgcacaaDoorChecked
import Derived.Test.YtpnbolekhgcacaaDoorFTake
import Derived.Test.YtpnbolekhgcacaaDoorPCell
import Derived.Test.YtpnbolekhgcacaaDoorPQuiet
import Derived.Laws.BytesArg
import Derived.Below
import Derived.WalkKit
import Derived.WalkLawsBesides
import Derived.ProofKit
import Derived.Lib.Hide
import Derived.BigQuiet
import Derived.OwnWalk
namespace Go.Proofs.YtpnbolekhgcacaaDoor
open Go.RowKit

/-- the table lies in its block -/
def Rows16 (w : World) : Prop := 0 < w.heap.size ∧ ∀ j, j < 16 → w.cell? ⟨0, j, none⟩ = some (.int .u32 (rowN j : Int))
theorem Rows16.below {w w' : World} {B : Nat} (h : Rows16 w) (q : Below B w w') (hB : 0 < B) : Rows16 w' :=
  ⟨by have := q.size; have := h.1; omega, fun j hj => (q.cell (p := ⟨0, j, none⟩) hB).trans (h.2 j hj)⟩

theorem crc_bit (a b : Nat) (ha : a < 4294967296) : bits .xor .u32 ((a : Int) / 16) (rowN b : Int) = ((a / 16 ^^^ rowN b : Nat) : Int) := by
  have h := xor32 (a / 16) (rowN b) (by omega) (rowN_lt b)
  rw [← h]
  simp
set_option maxRecDepth 100000 in
set_option maxHeartbeats 1000000 in
theorem crc32_any (s : ByteArray) (w : World) (hs : s.size ≤ maxLen) (hT : Rows16 w) :
    Calls Tryd.prog 26 #[.string s] w fun e w' => e = .returned (.int .u32 (crcN s : Int)) ∧ Quiet w w' := by
  unfold maxLen at hs
  have HT := hide hT
  clear hT
  go_enter Tryd.func26, Tryd.ntmps26
  go_wp2
  go_loopw [3, 7] (fun cv iv wr => ∃ k : Nat, k ≤ s.size ∧ cv = .int .u32 (crcTo s k : Int) ∧ iv = .int .i64 k ∧ Hid (Quiet w wr)) (fun _ i _ => s.size - (intOf i).toNat)
  case atStart => exact ⟨0, Nat.zero_le _, rfl, rfl, Quiet.refl w⟩
  case round =>
    obtain ⟨k, hk, rfl, rfl, Q⟩ := hrel
    by_cases hlt : k < s.size
    · have hb := s[k].toNat_lt
      have E := hide (byN_in hlt)
      have hc := crcTo_lt s k
      have x1 : bits .xor .u32 (crcTo s k : Int) (s[k].toNat : Int) = ((crcTo s k ^^^ s[k].toNat : Nat) : Int) := xor32 _ _ hc (by omega)
      have ST : Hid (crcTo s (k + 1) = nibS (nibS (crcTo s k ^^^ s[k].toNat))) := hide (by rw [← E.out]; rfl)
      have h1 : crcTo s k ^^^ s[k].toNat < 4294967296 := xor_lt32 hc (by omega)
      generalize crcTo s k ^^^ s[k].toNat = c at *
      have h2 : nibS c < 4294967296 := nibS_lt h1
      have a1 := and15w c h1
      have a2 := and15w (nibS c) h2
      have b1 : bits .xor .u32 ((c : Int) / 16) (rowN (c % 16) : Int) = (nibS c : Int) := crc_bit c (c % 16) h1
      have b2 : bits .xor .u32 ((nibS c : Int) / 16) (rowN (nibS c % 16) : Int) = (nibS (nibS c) : Int) := crc_bit (nibS c) (nibS c % 16) h2
      have c1 := (Q.out.cell _).trans (HT.out.2 (c % 16) (Nat.mod_lt _ (by decide)))
      have c2 := (Q.out.cell _).trans (HT.out.2 (nibS c % 16) (Nat.mod_lt _ (by decide)))
      generalize nibS (nibS c) = d2 at *
      generalize nibS c = d at *
      have m1 : c % 16 < 16 := Nat.mod_lt _ (by decide)
      have m2 : d % 16 < 16 := Nat.mod_lt _ (by decide)
      have hb2 : (s[k].toNat : Int) < 4294967296 := by omega
      go_wp2
      exact ⟨⟨k + 1, by omega, by rw [ST.out], by go_num, Q⟩, by simp [intOf]; omega⟩
    · have ek : Hid (k = s.size) := hide (by omega)
      have hgt : ¬ ((k : Int) < (s.size : Int)) := by omega
      have x1 : bits .xor .u32 4294967295 (crcTo s k : Int) = ((4294967295 ^^^ crcTo s k : Nat) : Int) := xor32 4294967295 _ (by decide) (crcTo_lt s k)
      have Z : Hid (crcN s = 4294967295 ^^^ crcTo s k) := hide (by rw [ek.out]; rfl)
      clear hlt
      go_wp2
      go_ret
      refine ⟨ret_int ?_, Q.out⟩
      rw [Z.out, ← x1]
      rfl

theorem run_conv (W : World) (b cap : Nat) (xs : List Int) (n : Nat) (t : TypeId) (hn : xs.length = n) (hb : W.heap[b]? = some (.cells (xs.map (Value.int .u8)).toArray t (0, 0))) :
    (convert 29 9 (.slice (some ⟨b, 0, none⟩) n cap)).run Tryd.prog W = .ok (.string (strOfNums xs)) W :=
  run_convert_bytes_arg W 29 5 (by kernel_rfl) (by kernel_rfl) b 0 n cap xs hn (fun i hi => by
    rw [Nat.zero_add, cell_of_row W b i _ t (0, 0) hb]
    have hi' : i < xs.length := by omega
    simp [hi', List.getD]) 9 (by kernel_rfl)

set_option maxRecDepth 100000 in
set_option maxHeartbeats 1000000 in
theorem frameHead_any (s : ByteArray) (w : World) (hs : s.size ≤ maxLen) (hT : Rows16 w) :
    Calls Tryd.prog 18 #[.string s] w fun e w' => e = .returned (.string (headF s)) ∧ Below w.heap.size w w' := by
  have C := hide (crc32_any s w hs hT)
  have FIN : Hid (headF s = strOfNums (be4 s.size ++ le4 (crcN s))) := hide rfl
  have hc := crcN_lt s
  unfold maxLen at hs
  generalize crcN s = c at *
  go_enter Tryd.func18, Tryd.ntmps18
  go_wp2_with fail
  refine C.out.mono ?_
  rintro e w1 ⟨rfl, q1⟩
  have B1 := hide (q1.below w.heap.size)
  have hz : w1.heap.size = w.heap.size := by obtain ⟨n, rfl⟩ := q1; rfl
  clear q1 C
  go_wp2
  refine wp_loop_rounds 5 ?_
  rw [rounds_succ]
  go_wp2
  rw [rounds_succ]
  go_wp2
  rw [rounds_succ]
  go_wp2
  rw [rounds_succ]
  go_wp2
  rw [rounds_succ]
  go_wp2
  have E : be4 s.size ++ le4 c = [(s.size : Int) / 16777216 % 256, (s.size : Int) / 65536 % 256, (s.size : Int) / 256 % 256, (s.size : Int) % 256, (c : Int) % 256, (c : Int) / 256 % 256, (c : Int) / 65536 % 256, (c : Int) / 16777216] := by
    unfold be4 le4
    rw [show (c : Int) / 16777216 % 256 = (c : Int) / 16777216 by omega]
    rfl
  have K := run_conv (w1.alloc (.cells (([(s.size : Int) / 16777216 % 256, (s.size : Int) / 65536 % 256, (s.size : Int) / 256 % 256, (s.size : Int) % 256, (c : Int) % 256, (c : Int) / 256 % 256, (c : Int) / 65536 % 256, (c : Int) / 16777216] : List Int).map (Value.int .u8)).toArray 42)) w.heap.size 8 _ 8 42 rfl (by rw [← hz]; exact heap_alloc_new w1 _)
  have B : Hid (Below w.heap.size w (w1.alloc (.cells (([(s.size : Int) / 16777216 % 256, (s.size : Int) / 65536 % 256, (s.size : Int) / 256 % 256, (s.size : Int) % 256, (c : Int) % 256, (c : Int) / 256 % 256, (c : Int) / 65536 % 256, (c : Int) / 16777216] : List Int).map (Value.int .u8)).toArray 42))) := hide (B1.out.alloc B1.out.size _)
  simp only [List.map_cons, List.map_nil] at K B ⊢
  rw [K]
  simp only [Result.andThen]
  rw [Oper.upon_value]
  go_wp2
  go_ret
  exact ⟨ret_str (by rw [FIN.out, E]), B.out⟩

theorem implFrameOf_any (s : ByteArray) (w : World) (hs : s.size ≤ maxLen) (hT : Rows16 w) :
    Calls Tryd.prog 7 #[.string s] w fun e w' => e = .returned (.string (frameT s)) ∧ Below w.heap.size w w' := by
  by_cases h : s.size ≤ 100000
  · have C := hide (frameHead_any s w hs hT)
    have FIN : Hid (frameT s = headF s ++ s) := hide (by unfold frameT; rw [if_pos h]; rfl)
    have hh := headF_size s
    generalize headF s = d at *
    go_enter Tryd.func7, Tryd.ntmps7
    go_wp2_with fail
    refine C.out.mono ?_
    rintro e w1 ⟨rfl, b1⟩
    have B1 := hide b1
    clear b1 C
    go_wp2
    go_ret
    exact ⟨ret_str FIN.out.symm, B1.out⟩
  · have FIN : Hid (frameT s = ByteArray.empty) := hide (by unfold frameT; rw [if_neg h])
    unfold maxLen at hs
    have hb : (100000 : Int) < (s.size : Int) := by omega
    go_enter Tryd.func7, Tryd.ntmps7
    go_wp2
    go_ret
    exact ⟨ret_str FIN.out.symm, Below.refl _ _⟩

theorem bit_odd (c : Nat) (h : c < 4294967296) (ho : c % 2 = 1) : bits .xor .u32 ((c : Int) / 2) 3988292384 = (bitS c : Int) := by
  have := xor32 (c / 2) 3988292384 (by omega) (by decide)
  unfold bitS
  rw [if_pos ho, ← this]
  simp
theorem bit_even (c : Nat) (he : ¬ c % 2 = 1) : (c : Int) / 2 = (bitS c : Int) := by
  unfold bitS
  rw [if_neg he]
  simp
set_option maxRecDepth 100000 in
set_option maxHeartbeats 1000000 in
theorem l12Sum_any (s : ByteArray) (w : World) (hs : s.size ≤ maxLen) :
    Calls Tryd.prog 17 #[.string s] w fun e w' => e = .returned (.string (strOfNums (le4 (crcN s)))) ∧ Below w.heap.size w w' := by
  unfold maxLen at hs
  go_enter Tryd.func17, Tryd.ntmps17
  go_wp2
  go_loop [3, 4] (fun cv iv => ∃ k : Nat, k ≤ s.size ∧ cv = .int .u32 (crcTo s k : Int) ∧ iv = .int .i64 k) (fun _ i => s.size - (intOf i).toNat)
  case atStart => exact ⟨0, Nat.zero_le _, rfl, rfl⟩
  case round =>
    obtain ⟨k, hk, rfl, rfl⟩ := hrel
    by_cases hlt : k < s.size
    · have hb := s[k].toNat_lt
      have E := hide (byN_in hlt)
      have hc := crcTo_lt s k
      have x1 : bits .xor .u32 (crcTo s k : Int) (s[k].toNat : Int) = ((crcTo s k ^^^ s[k].toNat : Nat) : Int) := xor32 _ _ hc (by omega)
      have ST : Hid (crcTo s (k + 1) = bitsTo (crcTo s k ^^^ s[k].toNat) 8) := hide (by rw [← E.out]; exact crcTo_bits s k)
      have h1 : crcTo s k ^^^ s[k].toNat < 4294967296 := xor_lt32 hc (by omega)
      generalize crcTo s k ^^^ s[k].toNat = c at *
      have hb2 : (s[k].toNat : Int) < 4294967296 := by omega
      go_wp2
      go_loop [3, 5] (fun cv iv => ∃ j : Nat, j ≤ 8 ∧ cv = .int .u32 (bitsTo c j : Int) ∧ iv = .int .i64 j) (fun _ i => 8 - (intOf i).toNat)
      case atStart => exact ⟨0, Nat.zero_le _, rfl, rfl⟩
      case round =>
        obtain ⟨j, hj, rfl, rfl⟩ := hrel
        by_cases hj8 : j < 8
        · have h2 := bitsTo_lt h1 j
          have S1 : Hid (bitsTo c (j + 1) = bitS (bitsTo c j)) := hide rfl
          generalize bitsTo c j = d at *
          by_cases ho : d % 2 = 1
          · have b1 := bit_odd d h2 ho
            have o2 : ((d : Int) % 2 == 1) = true := by rw [beq_iff_eq]; omega
            clear ho
            generalize bitS d = d2 at *
            clear x1 h2 h1 hc hb hb2
            go_wp2
            go_round
            case rel => exact ⟨j + 1, by omega, by rw [S1.out], by go_num⟩
            case measure => simp [intOf]; omega
          · have b1 := bit_even d ho
            have o2 : ((d : Int) % 2 == 1) = false := by rw [beq_eq_false_iff_ne]; omega
            clear ho
            generalize bitS d = d2 at *
            clear x1 h2 h1 hc hb hb2
            go_wp2
            go_round
            case rel => exact ⟨j + 1, by omega, by rw [S1.out], by go_num⟩
            case measure => simp [intOf]; omega
        · have e8 : Hid (j = 8) := hide (by omega)
          have hgt : ¬ ((j : Int) < 8) := by omega
          clear hj8
          go_wp2
          go_round
          case rel => exact ⟨k + 1, by omega, by rw [ST.out, e8.out], by go_num⟩
          case measure => simp [intOf]; omega
    · have ek : Hid (k = s.size) := hide (by omega)
      have hgt : ¬ ((k : Int) < (s.size : Int)) := by omega
      have x1 : bits .xor .u32 4294967295 (crcTo s k : Int) = ((4294967295 ^^^ crcTo s k : Nat) : Int) := xor32 4294967295 _ (by decide) (crcTo_lt s k)
      have Z : Hid (crcN s = 4294967295 ^^^ crcTo s k) := hide (by rw [ek.out]; rfl)
      clear hlt
      have hc := crcN_lt s
      have x2 : Hid (bits .xor .u32 IntKind.u32.max (crcTo s k : Int) = (crcN s : Int)) := hide (by rw [Z.out, ← x1]; rfl)
      go_wp2
      rw [x2.out]
      generalize hcc : crcN s = c at *
      have EE := hide hcc
      have E : le4 c = [(c : Int) % 256, (c : Int) / 256 % 256, (c : Int) / 65536 % 256, (c : Int) / 16777216 % 256] := rfl
      have K := run_conv (w.alloc (.cells (([(c : Int) % 256, (c : Int) / 256 % 256, (c : Int) / 65536 % 256, (c : Int) / 16777216 % 256] : List Int).map (Value.int .u8)).toArray 5)) w.heap.size 4 _ 4 5 rfl (heap_alloc_new w _)
      have B : Hid (Below w.heap.size w (w.alloc (.cells (([(c : Int) % 256, (c : Int) / 256 % 256, (c : Int) / 65536 % 256, (c : Int) / 16777216 % 256] : List Int).map (Value.int .u8)).toArray 5))) := hide ((Below.refl _ _).alloc (Nat.le_refl _) _)
      simp only [List.map_cons, List.map_nil] at K B ⊢
      rw [K]
      simp only [Result.andThen]
      rw [Oper.upon_value]
      go_wp2
      go_ret
      exact ⟨ret_str (by rw [EE.out, E]), B.out⟩
end Go.Proofs.YtpnbolekhgcacaaDoor
