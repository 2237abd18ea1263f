/-
  Texts that this proof leans on, joined: part 1.
-/
import Derived.Test.YtkhkcdmmagicmaaDoorChecked
import Derived.Test.YtkhkcdmmagicmaaDoorPMath
import Derived.WalkKit
import Derived.WalkLawsBesides
import Derived.ProofKit
import Derived.Lib.Hide
import Derived.BigQuiet
import Derived.OwnWalk
import Derived.Laws.PanicsMore
import Derived.Laws.BytesArg
import Derived.Below
import Derived.StillTailTactics
import Derived.Laws.Rows
import Derived.Laws.Tables
import Derived.Test.YtkhkcdmmagicmaaDoorPQuiet
import Derived.Deep.WholeRow
import Derived.Lib.SlBuf
import Derived.Lib.BufferWrite
import Derived.Deep.RegionWith
import Derived.Deep.MidRow
import Derived.Maps.AppendAt
import Derived.Deep.RegionLaw
import Derived.WalkSpells
import Derived.Test.YtkhkcdmmagicmaaDoorPCell
import Derived.Deep.Quiet
import Derived.Deep.QuietTactic
import Derived.Test.YtkhkcdmmagicmaaDoorPMem
import Derived.IntWalk
import Derived.Test.YtkhkcdmmagicmaaDoorPOrd
import Derived.Test.YtkhkcdmmagicmaaDoorPStr0
import Derived.Test.YtkhkcdmmagicmaaDoorPRises
import Derived.Maps.Own
import Derived.Maps.OwnSet
import Derived.Maps.Views
import Derived.Maps.StringElems
import Derived.Test.YtkhkcdmmagicmaaDoorCSplit
import Derived.Test.YtkhkcdmmagicmaaDoorCRow
import Derived.Test.YtkhkcdmmagicmaaDoorCRdI
import Derived.Test.YtkhkcdmmagicmaaDoorCCom
import Derived.Deep.RegionHeld3
import Derived.RegionTactic
import Derived.RegionDies
import Derived.Test.YtkhkcdmmagicmaaDoorCComL
import Derived.Defers
import Derived.Recover
import Derived.Laws.Pointers
import Derived.Test.YtkhkcdmmagicmaaDoorCText
import Derived.Test.YtkhkcdmmagicmaaDoorCTree
import Derived.Test.YtkhkcdmmagicmaaDoorCards
import Derived.Test.YtkhkcdmmagicmaaDoorTie
import Derived.OpenShut
import Derived.ShutString
import Derived.Deep.DeepHandedRow
import Derived.Lib.LaidTab
import Derived.WalkSmall
import Derived.Carry
import Derived.LaidHandle
import Derived.Stop.LaidErr
/-
  Turned words: spec.l2Rot and math/bits.RotateLeft32 are one function of a word and a number.
-/
namespace Go.Proofs.YtkhkcdmmagicmaaDoor
open Go.RowKit

/-- a word -/
def isW (x : Int) : Prop := 0 ≤ x ∧ x < 4294967296
/-- a word, turned to the left by k -/
def rotI (x : Int) (k : Nat) : Int := bits BinOp.or IntKind.u32 (x * 2 ^ k % 4294967296) (x / 2 ^ (32 - k))

theorem l2Rot_any (x : Int) (k : Nat) (b : Int) (w : World) (hx : isW x) (hb : b = (k : Int)) (h : 0 < k) (h' : k < 32) :
    Calls Tryd.prog 99 #[.int .u32 x, .int .i64 b] w fun e w' => e = .returned (.int .u32 (rotI x k)) ∧ w = w' := by
  obtain ⟨h0, h1⟩ := hx
  subst hb
  go_enter Tryd.func99, Tryd.ntmps99
  go_wp2
  go_ret
  refine ⟨?_, rfl⟩
  unfold rotI
  rfl
theorem and31 : ∀ k : Fin 32, bits BinOp.and IntKind.u64 (IntKind.u64.wrap ((k.val : Int) - 32)) 31 = (k.val : Int) := by decide
theorem rotl_any (x : Int) (k : Nat) (b : Int) (w : World) (hx : isW x) (hb : b = (k : Int) - 32) (h : 0 < k) (h' : k < 32) :
    Calls Tryd.prog 115 #[.int .u32 x, .int .i64 b] w fun e w' => e = .returned (.int .u32 (rotI x k)) ∧ w = w' := by
  obtain ⟨h0, h1⟩ := hx
  have a := and31 ⟨k, h'⟩
  simp only at a
  subst hb
  go_enter Tryd.func115, Tryd.ntmps115
  go_wp2
  go_ret
  refine ⟨?_, rfl⟩
  unfold rotI
  rfl
end Go.Proofs.YtkhkcdmmagicmaaDoor
/-
  Arrays by value: a place of one.
-/
namespace Go.Proofs.YtkhkcdmmagicmaaDoor
open Go.RowKit
theorem run_index_agg8 (cs : Array Value) (hc : cs.size = 8) (i : Int) (h0 : 0 ≤ i) (hi : i < 8) (w : World) : (Instr.index 130 (.agg cs) (.int .i64 i)).run Tryd.prog w = .ok (cs.getD i.toNat undef) w := by
  have hu : Tryd.prog.underlying 130 = some (.array 8 124) := by kernel_rfl
  have hs : ((sizeOf 124).run Tryd.prog w) = .ok 1 w := by kernel_rfl
  have hlt : i.toNat < cs.size := by omega
  simp [Instr.index, run_underlying hu, asIntOf, h0, hi, part, hs, go_sem]
  rw [Array.getElem?_eq_getElem hlt]
  simp
end Go.Proofs.YtkhkcdmmagicmaaDoor
/-
  What impl.shaBytes makes of eight words.
-/
namespace Go.Proofs.YtkhkcdmmagicmaaDoor
open Go.RowKit

/-- the four bytes of a word, the highest first -/
def bytesI (x : Int) : List Int := [x / 16777216, x / 65536 % 256, x / 256 % 256, x % 256]
theorem run_conv (W : World) (b cap : Nat) (xs : List Int) (n : Nat) (t : TypeId) (hn : xs.length = n) (hb : W.heap[b]? = some (.cells (xs.map (Value.int .u8)).toArray t (0, 0))) :
    (convert 79 9 (.slice (some ⟨b, 0, none⟩) n cap)).run Tryd.prog W = .ok (.string (strOfNums xs)) W :=
  run_convert_bytes_arg W 79 5 (by kernel_rfl) (by kernel_rfl) b 0 n cap xs hn (fun i hi => by
    rw [Nat.zero_add, cell_of_row W b i _ t (0, 0) hb]
    have hi' : i < xs.length := by omega
    simp [hi', List.getD]) 9 (by kernel_rfl)

set_option maxRecDepth 100000 in
set_option maxHeartbeats 1000000 in
theorem shaBytes_any (x0 x1 x2 x3 x4 x5 x6 x7 : Int) (w : World) (h0 : isW x0) (h1 : isW x1) (h2 : isW x2) (h3 : isW x3) (h4 : isW x4) (h5 : isW x5) (h6 : isW x6) (h7 : isW x7) :
    Calls Tryd.prog 104 #[.agg #[.int .u32 x0, .int .u32 x1, .int .u32 x2, .int .u32 x3, .int .u32 x4, .int .u32 x5, .int .u32 x6, .int .u32 x7]] w fun e w' => e = .returned (.string (strOfNums ([x0, x1, x2, x3, x4, x5, x6, x7].flatMap bytesI))) ∧ Below w.heap.size w w' := by
  have k0 : ∀ w, (Instr.index 130 (.agg #[.int .u32 x0, .int .u32 x1, .int .u32 x2, .int .u32 x3, .int .u32 x4, .int .u32 x5, .int .u32 x6, .int .u32 x7]) (.int .i64 0)).run Tryd.prog w = .ok (.int .u32 x0) w := fun w => run_index_agg8 _ rfl 0 (by omega) (by omega) w
  obtain ⟨a0, b0⟩ := h0
  have k1 : ∀ w, (Instr.index 130 (.agg #[.int .u32 x0, .int .u32 x1, .int .u32 x2, .int .u32 x3, .int .u32 x4, .int .u32 x5, .int .u32 x6, .int .u32 x7]) (.int .i64 1)).run Tryd.prog w = .ok (.int .u32 x1) w := fun w => run_index_agg8 _ rfl 1 (by omega) (by omega) w
  obtain ⟨a1, b1⟩ := h1
  have k2 : ∀ w, (Instr.index 130 (.agg #[.int .u32 x0, .int .u32 x1, .int .u32 x2, .int .u32 x3, .int .u32 x4, .int .u32 x5, .int .u32 x6, .int .u32 x7]) (.int .i64 2)).run Tryd.prog w = .ok (.int .u32 x2) w := fun w => run_index_agg8 _ rfl 2 (by omega) (by omega) w
  obtain ⟨a2, b2⟩ := h2
  have k3 : ∀ w, (Instr.index 130 (.agg #[.int .u32 x0, .int .u32 x1, .int .u32 x2, .int .u32 x3, .int .u32 x4, .int .u32 x5, .int .u32 x6, .int .u32 x7]) (.int .i64 3)).run Tryd.prog w = .ok (.int .u32 x3) w := fun w => run_index_agg8 _ rfl 3 (by omega) (by omega) w
  obtain ⟨a3, b3⟩ := h3
  have k4 : ∀ w, (Instr.index 130 (.agg #[.int .u32 x0, .int .u32 x1, .int .u32 x2, .int .u32 x3, .int .u32 x4, .int .u32 x5, .int .u32 x6, .int .u32 x7]) (.int .i64 4)).run Tryd.prog w = .ok (.int .u32 x4) w := fun w => run_index_agg8 _ rfl 4 (by omega) (by omega) w
  obtain ⟨a4, b4⟩ := h4
  have k5 : ∀ w, (Instr.index 130 (.agg #[.int .u32 x0, .int .u32 x1, .int .u32 x2, .int .u32 x3, .int .u32 x4, .int .u32 x5, .int .u32 x6, .int .u32 x7]) (.int .i64 5)).run Tryd.prog w = .ok (.int .u32 x5) w := fun w => run_index_agg8 _ rfl 5 (by omega) (by omega) w
  obtain ⟨a5, b5⟩ := h5
  have k6 : ∀ w, (Instr.index 130 (.agg #[.int .u32 x0, .int .u32 x1, .int .u32 x2, .int .u32 x3, .int .u32 x4, .int .u32 x5, .int .u32 x6, .int .u32 x7]) (.int .i64 6)).run Tryd.prog w = .ok (.int .u32 x6) w := fun w => run_index_agg8 _ rfl 6 (by omega) (by omega) w
  obtain ⟨a6, b6⟩ := h6
  have k7 : ∀ w, (Instr.index 130 (.agg #[.int .u32 x0, .int .u32 x1, .int .u32 x2, .int .u32 x3, .int .u32 x4, .int .u32 x5, .int .u32 x6, .int .u32 x7]) (.int .i64 7)).run Tryd.prog w = .ok (.int .u32 x7) w := fun w => run_index_agg8 _ rfl 7 (by omega) (by omega) w
  obtain ⟨a7, b7⟩ := h7
  go_enter Tryd.func104, Tryd.ntmps104
  go_wp2
  refine wp_loop_rounds 9 ?_
  rw [rounds_succ]
  go_wp2
  rw [rounds_succ]
  go_wp2
  rw [rounds_succ]
  go_wp2
  rw [rounds_succ]
  go_wp2
  rw [rounds_succ]
  go_wp2
  rw [rounds_succ]
  go_wp2
  rw [rounds_succ]
  go_wp2
  rw [rounds_succ]
  go_wp2
  rw [rounds_succ]
  go_wp2
  have C := run_conv ((w.alloc (.cells #[.int .u32 x0, .int .u32 x1, .int .u32 x2, .int .u32 x3, .int .u32 x4, .int .u32 x5, .int .u32 x6, .int .u32 x7] 130)).alloc (.cells (([x0, x1, x2, x3, x4, x5, x6, x7].flatMap bytesI).map (Value.int .u8)).toArray 141)) (w.heap.size + 1) 32 ([x0, x1, x2, x3, x4, x5, x6, x7].flatMap bytesI) 32 141 rfl (by
    have h := heap_alloc_new (w.alloc (.cells #[.int .u32 x0, .int .u32 x1, .int .u32 x2, .int .u32 x3, .int .u32 x4, .int .u32 x5, .int .u32 x6, .int .u32 x7] 130)) (.cells (([x0, x1, x2, x3, x4, x5, x6, x7].flatMap bytesI).map (Value.int .u8)).toArray 141)
    have e : (w.alloc (.cells #[.int .u32 x0, .int .u32 x1, .int .u32 x2, .int .u32 x3, .int .u32 x4, .int .u32 x5, .int .u32 x6, .int .u32 x7] 130)).heap.size = w.heap.size + 1 := by simp
    rw [e] at h
    exact h)
  have B : Hid (Below w.heap.size w ((w.alloc (.cells #[.int .u32 x0, .int .u32 x1, .int .u32 x2, .int .u32 x3, .int .u32 x4, .int .u32 x5, .int .u32 x6, .int .u32 x7] 130)).alloc (.cells (([x0, x1, x2, x3, x4, x5, x6, x7].flatMap bytesI).map (Value.int .u8)).toArray 141))) := hide (((Below.refl w.heap.size w).alloc (Nat.le_refl _) _).alloc (by simp) _)
  simp only [List.flatMap_cons, List.flatMap_nil, bytesI, List.cons_append, List.nil_append, List.append_nil, List.map_cons, List.map_nil] at C B ⊢
  rw [C]
  simp only [Result.andThen]
  rw [Oper.upon_value]
  go_wp2
  go_ret
  exact ⟨rfl, B.out⟩
end Go.Proofs.YtkhkcdmmagicmaaDoor
/-
  The words of a block, and what impl.shaSchedule makes of its bytes.
-/
namespace Go.Proofs.YtkhkcdmmagicmaaDoor
open Go.RowKit

def xorI (a b : Int) : Int := bits BinOp.xor IntKind.u32 a b
def addI (a b : Int) : Int := (a + b) % 4294967296
/-- four bytes as a word -/
def beI (a b c d : Int) : Int := bits BinOp.or IntKind.u32 (bits BinOp.or IntKind.u32 (bits BinOp.or IntKind.u32 (a * 16777216) (b * 65536)) (c * 256)) d
def sig0 (x : Int) : Int := xorI (xorI (rotI x 25) (rotI x 14)) (x / 8)
def sig1 (x : Int) : Int := xorI (xorI (rotI x 15) (rotI x 13)) (x / 1024)
/-- the words of a block whose first 16 are m -/
def wAt (m : Nat → Int) (i : Nat) : Int :=
  if h : i < 16 then m i else addI (addI (addI (wAt m (i - 16)) (sig0 (wAt m (i - 15)))) (wAt m (i - 7))) (sig1 (wAt m (i - 2)))
termination_by i

/-- a block of 64 cells whose first k hold the words f -/
def Arr (w : World) (g : Nat) (t : TypeId) (f : Nat → Int) (k : Nat) : Prop := ∃ cs : Array Value, w.heap[g]? = some (.cells cs t (0, 0)) ∧ cs.size = 64 ∧ ∀ j, j < k → cs[j]? = some (.int .u32 (f j))
theorem Arr.zero {w : World} {g : Nat} {t : TypeId} {cs : Array Value} (f : Nat → Int) (h : w.heap[g]? = some (.cells cs t (0, 0))) (hs : cs.size = 64) : Arr w g t f 0 := ⟨cs, h, hs, fun _ h => absurd h (by omega)⟩
theorem Arr.cell {w : World} {g k : Nat} {t : TypeId} {f : Nat → Int} (h : Arr w g t f k) {j : Nat} (hj : j < k) : w.cell? ⟨g, j, none⟩ = some (.int .u32 (f j)) := by
  obtain ⟨cs, hh, _, hc⟩ := h
  rw [cell_of_row w g j cs t (0, 0) hh]
  exact hc j hj
theorem Arr.has {w : World} {g k : Nat} {t : TypeId} {f : Nat → Int} (h : Arr w g t f k) {j : Nat} (hj : j < 64) : ∃ v, w.cell? ⟨g, j, none⟩ = some v := by
  obtain ⟨cs, hh, hs, _⟩ := h
  rw [cell_of_row w g j cs t (0, 0) hh]
  exact ⟨cs[j]'(by omega), Array.getElem?_eq_getElem (by omega)⟩
theorem Arr.store {w : World} {g k : Nat} {t : TypeId} {f : Nat → Int} (h : Arr w g t f k) (hk : k < 64) : Arr (w.setCell ⟨g, k, none⟩ (.int .u32 (f k))) g t f (k + 1) := by
  obtain ⟨cs, hh, hs, hc⟩ := h
  refine ⟨cs.setIfInBounds k (.int .u32 (f k)), heap_setCell_same w g k cs t _ hh, by simp [hs], fun j hj => ?_⟩
  by_cases e : j = k
  · subst e; simp [hs, hk]
  · rw [Array.getElem?_setIfInBounds_ne (by omega)]; exact hc j (by omega)
theorem Arr.drew {w : World} {g k : Nat} {t : TypeId} {f : Nat → Int} (h : Arr w g t f k) : Arr w.drew g t f k := h
theorem Arr.drewN {w : World} {g k : Nat} {t : TypeId} {f : Nat → Int} (h : Arr w g t f k) (n : Nat) : Arr (w.drewN n) g t f k := h

/-- the words that the bytes y hold -/
def mOf (y : Nat → Int) (j : Nat) : Int := beI (y (4 * j)) (y (4 * j + 1)) (y (4 * j + 2)) (y (4 * j + 3))

theorem wAt_low (m : Nat → Int) {i : Nat} (h : i < 16) : wAt m i = m i := by rw [wAt, dif_pos h]
theorem wAt_high (m : Nat → Int) {i : Nat} (h : ¬ i < 16) : wAt m i = addI (addI (addI (wAt m (i - 16)) (sig0 (wAt m (i - 15)))) (wAt m (i - 7))) (sig1 (wAt m (i - 2))) := by rw [wAt, dif_neg h]
theorem wAt_word {m : Nat → Int} (hm : ∀ j, j < 16 → isW (m j)) (i : Nat) : isW (wAt m i) := by
  by_cases h : i < 16
  · rw [wAt_low m h]; exact hm i h
  · rw [wAt_high m h]; exact ⟨Int.emod_nonneg _ (by decide), Int.emod_lt_of_pos _ (by decide)⟩
theorem wrap_word (z : Int) : isW (IntKind.u32.wrap z) := by
  have e : IntKind.u32.wrap z = z % 4294967296 := by simp [IntKind.wrap, IntKind.signed, IntKind.bits]
  rw [e]
  exact ⟨Int.emod_nonneg _ (by decide), Int.emod_lt_of_pos _ (by decide)⟩
theorem or_word (a b : Int) : isW (bits BinOp.or IntKind.u32 a b) := wrap_word _
theorem addI4 (a b c d : Int) : addI (addI (addI a b) c) d = (a + b + c + d) % 4294967296 := by unfold addI; omega
end Go.Proofs.YtkhkcdmmagicmaaDoor
/-
  What impl.shaSchedule makes of a block's bytes.
-/
namespace Go.Proofs.YtkhkcdmmagicmaaDoor
open Go.RowKit

/-- n words as cells -/
def wordsA (f : Nat → Int) (n : Nat) : Array Value := ((List.range n).map fun j => Value.int .u32 (f j)).toArray
theorem wordsA_size (f : Nat → Int) (n : Nat) : (wordsA f n).size = n := by simp [wordsA]
theorem wordsA_get (f : Nat → Int) {n j : Nat} (h : j < n) : (wordsA f n)[j]? = some (.int .u32 (f j)) := by simp [wordsA, h]
theorem wordsA_one (f : Nat → Int) (n : Nat) : (wordsA f n).all (·.oneCell') = true := by
  refine Array.all_eq_true_iff_forall_mem.2 fun v hv => ?_
  simp [wordsA] at hv
  obtain ⟨a, _, rfl⟩ := hv
  rfl
theorem wordsA_eq {f : Nat → Int} {n : Nat} {cs : Array Value} (hs : cs.size = n) (h : ∀ j, j < n → cs[j]? = some (.int .u32 (f j))) : cs = wordsA f n := by
  apply Array.ext_getElem?
  intro j
  by_cases hj : j < n
  · rw [h j hj, wordsA_get f hj]
  · rw [Array.getElem?_eq_none (by omega), Array.getElem?_eq_none (by rw [wordsA_size]; omega)]
theorem Arr.full {w : World} {g : Nat} {t : TypeId} {f : Nat → Int} (h : Arr w g t f 64) : w.heap[g]? = some (.cells (wordsA f 64) t (0, 0)) := by
  obtain ⟨cs, hh, hs, hc⟩ := h
  rw [hh, wordsA_eq hs hc]
theorem Arr.other {w : World} {g k : Nat} {t : TypeId} {f : Nat → Int} (h : Arr w g t f k) (p : Addr) (v : Value) (hp : g ≠ p.block) : Arr (w.setCell p v) g t f k := by
  obtain ⟨cs, hh, hs, hc⟩ := h
  exact ⟨cs, by rw [heap_setCell_other w p g v hp]; exact hh, hs, hc⟩
theorem Below.setRow {B : Nat} {a w : World} (h : Below B a w) {g : Nat} (hg : B ≤ g) (cs : Array Value) : Below B a (w.setRow g cs) :=
  h.trans ⟨rfl, rfl, rfl, by simp, fun k hk => setRow_other w g k cs (by omega)⟩

set_option maxRecDepth 100000 in
set_option maxHeartbeats 1000000 in
theorem shaSchedule_any (b off cap : Nat) (y : Nat → Int) (w : World) (hb : b < w.heap.size) (hy : ∀ i, i < 64 → 0 ≤ y i ∧ y i < 256) (hc : ∀ i, i < 64 → w.cell? ⟨b, off + i, none⟩ = some (.int .u8 (y i))) :
    Calls Tryd.prog 103 #[.slice (some ⟨b, off, none⟩) 64 cap] w fun e w' => e = .returned (.agg (wordsA (wAt (mOf y)) 64)) ∧ Below w.heap.size w w' := by
  have HY := hide hy
  have HC := hide hc
  clear hy hc
  go_enter Tryd.func103, Tryd.ntmps103
  go_wp2
  have A0 : Hid (Arr (w.alloc (.cells (Array.replicate 64 (.int .u32 0)) 132) |>.alloc (.cells (Array.replicate 64 (.int .u32 0)) 132)) (w.heap.size + 1) 132 (wAt (mOf y)) 0) := hide (Arr.zero _ (by
    have h := heap_alloc_new (w.alloc (.cells (Array.replicate 64 (.int .u32 0)) 132)) (.cells (Array.replicate 64 (.int .u32 0)) 132)
    have e : (w.alloc (.cells (Array.replicate 64 (.int .u32 0)) 132)).heap.size = w.heap.size + 1 := by simp
    rw [e] at h
    exact h) (by simp))
  have B0 : Hid (Below w.heap.size w (w.alloc (.cells (Array.replicate 64 (.int .u32 0)) 132) |>.alloc (.cells (Array.replicate 64 (.int .u32 0)) 132))) := hide (((Below.refl w.heap.size w).alloc (Nat.le_refl _) _).alloc (by simp) _)
  have R0 : Hid (Arr (w.alloc (.cells (Array.replicate 64 (.int .u32 0)) 132) |>.alloc (.cells (Array.replicate 64 (.int .u32 0)) 132)) w.heap.size 132 (wAt (mOf y)) 0) := hide (Arr.zero _ (heap_alloc2_old w _ _) (by simp))
  go_loopw [10] (fun iv wr => ∃ k : Nat, k ≤ 16 ∧ iv = .int .i64 k ∧ Hid (Arr wr (w.heap.size + 1) 132 (wAt (mOf y)) k) ∧ Hid (Below w.heap.size w wr) ∧ Hid (Arr wr w.heap.size 132 (wAt (mOf y)) 0)) (fun i _ => 16 - (intOf i).toNat)
  case atStart => exact ⟨0, by omega, rfl, A0, B0, R0⟩
  case round =>
    clear A0 B0 R0
    obtain ⟨k, hk, rfl, A, Q, R⟩ := hrel
    by_cases hlt : k < 16
    · have cc : ∀ j, j < 64 → wr.cell? ⟨b, off + j, none⟩ = some (.int .u8 (y j)) := fun j hj => (Q.out.cell (p := ⟨b, off + j, none⟩) hb).trans (HC.out j hj)
      have c0 := cc (4 * k) (by omega)
      have c1 := cc (4 * k + 1) (by omega)
      have c2 := cc (4 * k + 2) (by omega)
      have c3 := cc (4 * k + 3) (by omega)
      obtain ⟨p0, q0⟩ := HY.out (4 * k) (by omega)
      obtain ⟨p1, q1⟩ := HY.out (4 * k + 1) (by omega)
      obtain ⟨p2, q2⟩ := HY.out (4 * k + 2) (by omega)
      obtain ⟨p3, q3⟩ := HY.out (4 * k + 3) (by omega)
      have Z := hide (A.out.store (k := k) (by omega))
      obtain ⟨v0, cv⟩ := A.out.has (j := k) (by omega)
      have hfr : wr.frozen? ⟨w.heap.size + 1, k, none⟩ = false := by
        obtain ⟨cs, hh, _, _⟩ := A.out
        exact frozen_of_row wr _ k cs _ hh
      have em : Hid (wAt (mOf y) k = beI (y (4 * k)) (y (4 * k + 1)) (y (4 * k + 2)) (y (4 * k + 3))) := hide (by rw [wAt_low _ hlt]; rfl)
      clear cc
      generalize y (4 * k) = y0 at *
      generalize y (4 * k + 1) = y1 at *
      generalize y (4 * k + 2) = y2 at *
      generalize y (4 * k + 3) = y3 at *
      go_wp2
      go_region
      go_wp2
      go_roundw
      case rel => exact ⟨k + 1, by omega, by go_num, by have h := Z.out; rw [em.out] at h; exact h, hide ((Q.out.setCell (p := ⟨w.heap.size + 1, k, none⟩) (by show w.heap.size ≤ w.heap.size + 1; omega) _).drew), hide (R.out.other ⟨w.heap.size + 1, k, none⟩ _ (by show w.heap.size ≠ w.heap.size + 1; omega)).drew⟩
      case measure => simp [intOf]; omega
    · have e16 : k = 16 := by omega
      have A16 : Hid (Arr wr (w.heap.size + 1) 132 (wAt (mOf y)) 16) := hide (by rw [← e16]; exact A.out)
      clear e16 A
      have WD : Hid (∀ j, isW (wAt (mOf y) j)) := hide (wAt_word fun j _ => or_word _ _)
      clear HC HY
      go_wp2
      go_loopw [5] (fun iv wr => ∃ k : Nat, 16 ≤ k ∧ k ≤ 64 ∧ iv = .int .i64 k ∧ Hid (Arr wr (w.heap.size + 1) 132 (wAt (mOf y)) k) ∧ Hid (Below w.heap.size w wr) ∧ Hid (Arr wr w.heap.size 132 (wAt (mOf y)) 0)) (fun i _ => 64 - (intOf i).toNat)
      case atStart => exact ⟨16, by omega, by omega, rfl, A16, Q, R⟩
      case round =>
        clear A16 Q R
        obtain ⟨k, hk16, hk2, rfl, A, Q, R⟩ := hrel
        by_cases hlt2 : k < 64
        · have Z := hide (A.out.store (k := k) (by omega))
          have em := hide (wAt_high (mOf y) (i := k) (by omega))
          have c16 := A.out.cell (j := k - 16) (by omega)
          have c15 := A.out.cell (j := k - 15) (by omega)
          have c7 := A.out.cell (j := k - 7) (by omega)
          have c2 := A.out.cell (j := k - 2) (by omega)
          have w15 := hide (WD.out (k - 15))
          have w2 := hide (WD.out (k - 2))
          obtain ⟨v0, cv⟩ := A.out.has (j := k) (by omega)
          have hfr : wr.frozen? ⟨w.heap.size + 1, k, none⟩ = false := by
            obtain ⟨cs, hh, _, _⟩ := A.out
            exact frozen_of_row wr _ k cs _ hh
          have t16 : ((k : Int) - 16).toNat = k - 16 := by omega
          have t15 : ((k : Int) - 15).toNat = k - 15 := by omega
          have t7 : ((k : Int) - 7).toNat = k - 7 := by omega
          have t2 : ((k : Int) - 2).toNat = k - 2 := by omega
          generalize wAt (mOf y) (k - 16) = a16 at *
          generalize wAt (mOf y) (k - 15) = a15 at *
          generalize wAt (mOf y) (k - 7) = a7 at *
          generalize wAt (mOf y) (k - 2) = a2 at *
          go_wp2
          go_region
          go_wp2_with fail
          refine (rotl_any a15 25 (-7) _ w15.out (by omega) (by omega) (by omega)).mono ?_
          rintro e w' ⟨rfl, rfl⟩
          go_wp2_with fail
          refine (rotl_any a15 14 (-18) _ w15.out (by omega) (by omega) (by omega)).mono ?_
          rintro e w' ⟨rfl, rfl⟩
          go_wp2_with fail
          refine (rotl_any a2 15 (-17) _ w2.out (by omega) (by omega) (by omega)).mono ?_
          rintro e w' ⟨rfl, rfl⟩
          go_wp2_with fail
          refine (rotl_any a2 13 (-19) _ w2.out (by omega) (by omega) (by omega)).mono ?_
          rintro e w' ⟨rfl, rfl⟩
          go_wp2
          go_region
          go_wp2
          go_roundw
          case rel => exact ⟨k + 1, by omega, by omega, by go_num, by have h := Z.out; rw [em.out, addI4] at h; exact h, hide ((Q.out.drew.setCell (p := ⟨w.heap.size + 1, k, none⟩) (by show w.heap.size ≤ w.heap.size + 1; omega) _).drew), hide (R.out.other ⟨w.heap.size + 1, k, none⟩ _ (by show w.heap.size ≠ w.heap.size + 1; omega)).drew⟩
          case measure => simp [intOf]; omega
        · have e64 : k = 64 := by omega
          have A64 : Hid (Arr wr (w.heap.size + 1) 132 (wAt (mOf y)) 64) := hide (by rw [← e64]; exact A.out)
          clear e64 A
          have h1 := hide A64.out.full
          obtain ⟨old, h2, h3, _⟩ := R.out
          have H2 := hide h2
          have H3 := hide h3
          clear h2 h3 R
          go_wp2_with (first
            | (refine wpList_load_row rfl 132 _ rfl (w.heap.size + 1) rfl _ _ _ _ h1.out Tryd.underlying132 rfl (by rw [wordsA_size]; kernel_rfl) ?_)
            | (refine wpList_store_row rfl 132 _ _ rfl w.heap.size (wordsA (wAt (mOf y)) 64) rfl rfl _ old H2.out (by rw [wordsA_size]; kernel_rfl) (by rw [wordsA_size]; exact H3.out) (wordsA_one _ _) ?_))
          refine bodyPost_ret (results_cell_row rfl _ _ w.heap.size _ (wordsA (wAt (mOf y)) 64) (0, 0) _ rfl (setRow_heap wr w.heap.size _ _ _ _ H2.out) Tryd.underlying132 rfl (by rw [wordsA_size]; kernel_rfl)) rfl ?_
          exact ⟨rfl, Below.setRow Q.out (Nat.le_refl _) _⟩
end Go.Proofs.YtkhkcdmmagicmaaDoor
/-
  The 64 words of the rounds and the eight of the first state, as lists.
-/
namespace Go.Proofs.YtkhkcdmmagicmaaDoor
open Go.RowKit

/-- the words of the rounds -/
def kTab : List Int := [1116352408, 1899447441, 3049323471, 3921009573, 961987163, 1508970993, 2453635748, 2870763221, 3624381080, 310598401, 607225278, 1426881987, 1925078388, 2162078206, 2614888103, 3248222580, 3835390401, 4022224774, 264347078, 604807628, 770255983, 1249150122, 1555081692, 1996064986, 2554220882, 2821834349, 2952996808, 3210313671, 3336571891, 3584528711, 113926993, 338241895, 666307205, 773529912, 1294757372, 1396182291, 1695183700, 1986661051, 2177026350, 2456956037, 2730485921, 2820302411, 3259730800, 3345764771, 3516065817, 3600352804, 4094571909, 275423344, 430227734, 506948616, 659060556, 883997877, 958139571, 1322822218, 1537002063, 1747873779, 1955562222, 2024104815, 2227730452, 2361852424, 2428436474, 2756734187, 3204031479, 3329325298]
/-- what a state begins with -/
def fTab : List Int := [1779033703, 3144134277, 1013904242, 2773480762, 1359893119, 2600822924, 528734635, 1541459225]
def ksI (i : Nat) : Int := kTab.getD i 0
end Go.Proofs.YtkhkcdmmagicmaaDoor
/-
  The digest as plain mathematics: a round on eight words, a block's step, the state behind n blocks, the padded text's bytes. No Go in it.
-/
namespace Go.Proofs.YtkhkcdmmagicmaaDoor
open Go.RowKit

def andI (a b : Int) : Int := bits BinOp.and IntKind.u32 a b
def notI (a : Int) : Int := bits BinOp.xor IntKind.u32 IntKind.u32.max a
def chI (e f g : Int) : Int := xorI (andI e f) (andI (notI e) g)
def maI (a b c : Int) : Int := xorI (xorI (andI a b) (andI a c)) (andI b c)
def bs1 (e : Int) : Int := xorI (xorI (rotI e 26) (rotI e 21)) (rotI e 7)
def bs0 (a : Int) : Int := xorI (xorI (rotI a 30) (rotI a 19)) (rotI a 10)
def t1I (v : Nat → Int) (k x : Int) : Int := (v 7 + bs1 (v 4) + chI (v 4) (v 5) (v 6) + k + x) % 4294967296
/-- one round -/
def rnd (v : Nat → Int) (k x : Int) : Nat → Int := fun j =>
  if j = 0 then (t1I v k x + bs0 (v 0) + maI (v 0) (v 1) (v 2)) % 4294967296
  else if j = 4 then (v 3 + t1I v k x) % 4294967296
  else v (j - 1)
/-- the first n rounds over the words x -/
def rndTo (v x : Nat → Int) : Nat → Nat → Int
  | 0 => v
  | i + 1 => rnd (rndTo v x i) (ksI i) (x i)
/-- a block's step -/
def mixI (v x : Nat → Int) : Nat → Int := fun j => (rndTo v x 64 j + v j) % 4294967296
/-- the state behind n blocks of the bytes y -/
def stTo (y : Nat → Int) : Nat → Nat → Int
  | 0 => fun j => fTab.getD j 0
  | n + 1 => mixI (stTo y n) (wAt (mOf fun i => y (64 * n + i)))

theorem mod_word (z : Int) : isW (z % 4294967296) := ⟨Int.emod_nonneg _ (by decide), Int.emod_lt_of_pos _ (by decide)⟩
theorem rnd_word {v : Nat → Int} (h : ∀ j, j < 8 → isW (v j)) (k x : Int) : ∀ j, j < 8 → isW (rnd v k x j) := by
  intro j hj
  unfold rnd
  split
  · exact mod_word _
  · split
    · exact mod_word _
    · exact h _ (by omega)
theorem rndTo_word {v x : Nat → Int} (h : ∀ j, j < 8 → isW (v j)) : ∀ i j, j < 8 → isW (rndTo v x i j)
  | 0, j, hj => h j hj
  | i + 1, j, hj => rnd_word (rndTo_word h i) _ _ j hj
theorem mixI_word (v x : Nat → Int) (j : Nat) : isW (mixI v x j) := mod_word _
theorem fTab_word : ∀ j, j < 8 → isW (fTab.getD j 0) := by
  intro j hj
  rcases (show j = 0 ∨ j = 1 ∨ j = 2 ∨ j = 3 ∨ j = 4 ∨ j = 5 ∨ j = 6 ∨ j = 7 by omega) with h | h | h | h | h | h | h | h <;> subst h <;> exact ⟨by decide, by decide⟩
theorem stTo_word (y : Nat → Int) : ∀ n j, j < 8 → isW (stTo y n j)
  | 0, j, hj => fTab_word j hj
  | _ + 1, _, _ => mixI_word _ _ _
theorem rnd0 (v : Nat → Int) (k x : Int) : rnd v k x 0 = (t1I v k x + bs0 (v 0) + maI (v 0) (v 1) (v 2)) % 4294967296 := rfl
theorem rnd1 (v : Nat → Int) (k x : Int) : rnd v k x 1 = v 0 := rfl
theorem rnd2 (v : Nat → Int) (k x : Int) : rnd v k x 2 = v 1 := rfl
theorem rnd3 (v : Nat → Int) (k x : Int) : rnd v k x 3 = v 2 := rfl
theorem rnd4 (v : Nat → Int) (k x : Int) : rnd v k x 4 = (v 3 + t1I v k x) % 4294967296 := rfl
theorem rnd5 (v : Nat → Int) (k x : Int) : rnd v k x 5 = v 4 := rfl
theorem rnd6 (v : Nat → Int) (k x : Int) : rnd v k x 6 = v 5 := rfl
theorem rnd7 (v : Nat → Int) (k x : Int) : rnd v k x 7 = v 6 := rfl
/-- words that are alike up to 64 give the same step -/
theorem rndTo_congr {v v' x x' : Nat → Int} (hv : ∀ j, j < 8 → v j = v' j) : ∀ i, (∀ k, k < i → x k = x' k) → ∀ j, j < 8 → rndTo v x i j = rndTo v' x' i j
  | 0, _, j, hj => hv j hj
  | i + 1, hx, j, hj => by
    have ih := rndTo_congr hv i (fun k hk => hx k (by omega))
    show rnd (rndTo v x i) (ksI i) (x i) j = rnd (rndTo v' x' i) (ksI i) (x' i) j
    rw [hx i (by omega)]
    unfold rnd t1I
    rw [ih 0 (by omega), ih 1 (by omega), ih 2 (by omega), ih 3 (by omega), ih 4 (by omega), ih 5 (by omega), ih 6 (by omega), ih 7 (by omega)]
    split
    · rfl
    · split
      · rfl
      · exact ih _ (by omega)
theorem wAt_congr {m m' : Nat → Int} (h : ∀ j, j < 16 → m j = m' j) (i : Nat) : wAt m i = wAt m' i := by
  induction i using Nat.strongRecOn with
  | _ i ih =>
    by_cases hi : i < 16
    · rw [wAt_low m hi, wAt_low m' hi, h i hi]
    · rw [wAt_high m hi, wAt_high m' hi, ih (i - 16) (by omega), ih (i - 15) (by omega), ih (i - 7) (by omega), ih (i - 2) (by omega)]
theorem mixI_congr {v v' m m' : Nat → Int} (hv : ∀ j, j < 8 → v j = v' j) (hm : ∀ j, j < 16 → m j = m' j) (j : Nat) (hj : j < 8) : mixI v (wAt m) j = mixI v' (wAt m') j := by
  unfold mixI
  rw [rndTo_congr hv 64 (fun k _ => wAt_congr hm k) j hj, hv j hj]
end Go.Proofs.YtkhkcdmmagicmaaDoor
/-
  The padded text, and what impl.shaPadded makes of a text.
-/
namespace Go.Proofs.YtkhkcdmmagicmaaDoor
open Go.RowKit

/-- a byte of a text, 0 behind it -/
def sB (s : ByteArray) (j : Nat) : Int := if h : j < s.size then (s[j].toNat : Int) else 0
theorem sB_in {s : ByteArray} {j : Nat} (h : j < s.size) : sB s j = (s[j].toNat : Int) := dif_pos h
theorem sB_byte (s : ByteArray) (j : Nat) : 0 ≤ sB s j ∧ sB s j < 256 := by
  unfold sB
  split
  · rename_i h; have := s[j].toNat_lt; omega
  · omega
/-- how many bytes the padded text has -/
def padN (n : Nat) : Nat := (n + 72) / 64 * 64
theorem padN_ge (n : Nat) : n + 9 ≤ padN n := by unfold padN; omega
theorem padN_le (n : Nat) : padN n ≤ n + 72 := by unfold padN; omega
/-- the padded text while the last k bytes are laid -/
def midP (s : ByteArray) (k : Nat) : Nat → Int := fun j =>
  if padN s.size - k ≤ j then (8 * s.size : Int) / 256 ^ (padN s.size - 1 - j) % 256 else if j = s.size then 128 else sB s j
def padY (s : ByteArray) : Nat → Int := midP s 8
theorem midP_byte (s : ByteArray) (k j : Nat) : 0 ≤ midP s k j ∧ midP s k j < 256 := by
  unfold midP
  split
  · exact ⟨Int.emod_nonneg _ (by decide), Int.emod_lt_of_pos _ (by decide)⟩
  · split
    · omega
    · exact sB_byte s j
theorem padY_byte (s : ByteArray) (j : Nat) : 0 ≤ padY s j ∧ padY s j < 256 := midP_byte s 8 j

/-- n bytes as cells -/
def bytesA (f : Nat → Int) (n : Nat) : Array Value := ((List.range n).map fun j => Value.int .u8 (f j)).toArray
theorem bytesA_size (f : Nat → Int) (n : Nat) : (bytesA f n).size = n := by simp [bytesA]
theorem bytesA_get (f : Nat → Int) {n j : Nat} (h : j < n) : (bytesA f n)[j]? = some (.int .u8 (f j)) := by simp [bytesA, h]
theorem bytesA_eq {f : Nat → Int} {n : Nat} {cs : Array Value} (hs : cs.size = n) (h : ∀ j, j < n → cs[j]? = some (.int .u8 (f j))) : cs = bytesA f n := by
  apply Array.ext_getElem?
  intro j
  by_cases hj : j < n
  · rw [h j hj, bytesA_get f hj]
  · rw [Array.getElem?_eq_none (by omega), Array.getElem?_eq_none (by rw [bytesA_size]; omega)]
theorem bytesA_congr {f f' : Nat → Int} {n : Nat} (h : ∀ j, j < n → f j = f' j) : bytesA f n = bytesA f' n := by
  refine bytesA_eq (bytesA_size f n) fun j hj => ?_
  rw [bytesA_get f hj, h j hj]
theorem bytesA_set (f : Nat → Int) (n k : Nat) (c : Int) : (bytesA f n).setIfInBounds k (.int .u8 c) = bytesA (fun j => if j = k then c else f j) n := by
  refine bytesA_eq (by simp [bytesA_size]) fun j hj => ?_
  by_cases e : j = k
  · subst e
    rw [Array.getElem?_setIfInBounds_self_of_lt (by rw [bytesA_size]; exact hj), if_pos rfl]
  · rw [Array.getElem?_setIfInBounds_ne (by omega), if_neg e, bytesA_get f hj]
theorem made_bytes (n : Nat) : madeCells #[.int .u8 0] n = bytesA (fun _ => 0) n := by
  refine bytesA_eq (size_madeCells _ _) fun j hj => ?_
  simp [madeCells, hj, Nat.mod_one]

theorem infoB : (Tryd.prog.info? 5).map (fun i => (i.zero, i.size, i.bytes)) = some (some (.int .u8 0), 1, 1) := by kernel_rfl
theorem run_mkb (w : World) (n : Nat) (hn : n ≤ 3000) : (Instr.makeSlice 79 (.int .i64 (n : Int)) (.int .i64 (n : Int))).run Tryd.prog w = .ok (.slice (some ⟨w.heap.size, 0, none⟩) n n) (w.alloc (.cells (bytesA (fun _ => 0) n) 5)) := by
  obtain ⟨i, hi, hz0, hz1, hz2⟩ := info_parts infoB
  have h := run_make (P := Tryd.prog) w 79 5 i _ Tryd.underlying79 hi hz0 .i64 .i64 (n : Int) (n : Int) (by omega) (by omega) (by rw [hz2]; omega) (by omega)
  rw [hz1, Int.toNat_natCast, Nat.mul_one] at h
  rw [h, ← made_bytes]
  rfl
theorem byteCells_get (s : ByteArray) (j : Nat) (h : j < s.size) : (Lib.byteCells s.data.toList)[j]? = some (.int .u8 (sB s j)) := by
  have h' : j < s.data.toList.length := by simpa using h
  rw [sB_in h]
  simp only [Lib.byteCells, List.getElem?_map, List.getElem?_eq_getElem h', Option.map_some]
  rfl
theorem copied (s : ByteArray) (n : Nat) (h : s.size ≤ n) : ((bytesA (fun _ => 0) n).toList.take 0 ++ Lib.byteCells s.data.toList ++ (bytesA (fun _ => 0) n).toList.drop (0 + s.size)).toArray = bytesA (sB s) n := by
  have hl : (Lib.byteCells s.data.toList).length = s.size := by rw [Lib.byteCells_length]; simp
  refine bytesA_eq ?_ fun j hj => ?_
  · simp [hl, bytesA_size]; omega
  · simp only [List.take_zero, List.nil_append, Nat.zero_add, List.getElem?_toArray]
    by_cases hj' : j < s.size
    · rw [List.getElem?_append_left (by omega), byteCells_get s j hj']
    · rw [List.getElem?_append_right (by omega), List.getElem?_drop, hl, show s.size + (j - s.size) = j by omega]
      have := bytesA_get (fun _ => (0 : Int)) hj
      rw [Array.getElem?_toList, this]
      unfold sB
      rw [dif_neg hj']

set_option maxRecDepth 100000 in
set_option maxHeartbeats 2000000 in
theorem shaPadded_any (s : ByteArray) (w : World) (hs : s.size ≤ 2000) :
    Calls Tryd.prog 101 #[.string s] w fun e w' => e = .returned (.slice (some ⟨w.heap.size, 0, none⟩) (padN s.size) (padN s.size)) ∧ Below w.heap.size w w' ∧ w'.heap[w.heap.size]? = some (.cells (bytesA (padY s) (padN s.size)) 5 (0, 0)) := by
  have hN1 := padN_ge s.size
  have hN2 := padN_le s.size
  have hmk : (Instr.makeSlice 79 (.int .i64 (((s.size : Int) + 1 + 8 + 64 - 1) / 64 * 64)) (.int .i64 (((s.size : Int) + 1 + 8 + 64 - 1) / 64 * 64))).run Tryd.prog w = .ok (.slice (some ⟨w.heap.size, 0, none⟩) (padN s.size) (padN s.size)) (w.alloc (.cells (bytesA (fun _ => 0) (padN s.size)) 5)) := by
    rw [show ((s.size : Int) + 1 + 8 + 64 - 1) / 64 * 64 = ((padN s.size : Nat) : Int) by unfold padN; omega]
    exact run_mkb w (padN s.size) (by omega)
  have hcp : ∃ w2, (∀ ty, (Builtin.copy_ #[79, 9] ty #[.slice (some ⟨w.heap.size, 0, none⟩) (padN s.size) (padN s.size), .string s]).run Tryd.prog (w.alloc (.cells (bytesA (fun _ => 0) (padN s.size)) 5)) = .ok (goInt s.size) w2) ∧ Below w.heap.size w w2 ∧ w2.heap[w.heap.size]? = some (.cells (bytesA (sB s) (padN s.size)) 5 (0, 0)) := by
    have hh := heap_alloc_new w (.cells (bytesA (fun _ => 0) (padN s.size)) 5)
    refine ⟨_, fun ty => Lib.run_copy_row_string (P := Tryd.prog) _ 79 9 ty 5 w.heap.size 0 (padN s.size) (padN s.size) s _ 5 Tryd.underlying79 (by kernel_rfl) hh (by omega) (by rw [bytesA_size]; omega), ?_, ?_⟩
    · exact Below.setRow ((Below.refl _ w).alloc (Nat.le_refl _) _) (Nat.le_refl _) _
    · rw [setRow_heap _ w.heap.size _ _ _ _ hh, copied s _ (by omega)]
  obtain ⟨w2, hcp, BL, RW⟩ := hcp
  have HCP := hide hcp
  have HB := hide BL
  have HR := hide RW
  clear hcp BL RW
  have M0 : Hid (bytesA (midP s 0) (padN s.size) = (bytesA (sB s) (padN s.size)).setIfInBounds s.size (.int .u8 128)) := hide (by
    rw [bytesA_set]
    refine bytesA_congr fun j hj => ?_
    unfold midP
    rw [if_neg (by omega)])
  have MS : Hid (∀ k, k < 8 → bytesA (midP s (k + 1)) (padN s.size) = (bytesA (midP s k) (padN s.size)).setIfInBounds (padN s.size - 1 - k) (.int .u8 ((8 * s.size : Int) / 256 ^ k % 256))) := hide fun k hk => by
    rw [bytesA_set]
    refine bytesA_congr fun j hj => ?_
    unfold midP
    by_cases e : j = padN s.size - 1 - k
    · rw [if_pos (by omega), if_pos e, show padN s.size - 1 - j = k by omega]
    · rw [if_neg e]
      by_cases h' : padN s.size - k ≤ j
      · rw [if_pos (by omega), if_pos h']
      · rw [if_neg (by omega), if_neg h']
  have FIN : Hid (padY s = midP s 8) := hide rfl
  generalize padN s.size = N at *
  have cs : w2.cell? ⟨w.heap.size, s.size, none⟩ = some (.int .u8 (sB s s.size)) := by rw [cell_of_row w2 _ _ _ _ _ HR.out, bytesA_get _ (by omega)]
  have fs : w2.frozen? ⟨w.heap.size, s.size, none⟩ = false := frozen_of_row w2 _ _ _ _ HR.out
  go_enter Tryd.func101, Tryd.ntmps101
  go_wp2_with (refine Lib.wpList_copy_run _ rfl _ _ 79 9 rfl _ _ rfl rfl (HCP.out _) ?_)
  have R0 : Hid ((w2.setCell ⟨w.heap.size, s.size, none⟩ (.int .u8 128)).heap[w.heap.size]? = some (.cells (bytesA (midP s 0) N) 5 (0, 0))) := hide (by rw [M0.out]; exact heap_setCell_same w2 _ _ _ _ _ HR.out)
  have B0 : Hid (Below w.heap.size w (w2.setCell ⟨w.heap.size, s.size, none⟩ (.int .u8 128))) := hide (HB.out.setCell (p := ⟨w.heap.size, s.size, none⟩) (Nat.le_refl _) _)
  clear cs fs
  go_loopw [30] (fun iv wr => ∃ k : Nat, k ≤ 8 ∧ iv = .int .i64 k ∧ Hid (wr.heap[w.heap.size]? = some (.cells (bytesA (midP s k) N) 5 (0, 0))) ∧ Hid (Below w.heap.size w wr)) (fun i _ => 8 - (intOf i).toNat)
  case atStart => exact ⟨0, by omega, rfl, R0, B0⟩
  case round =>
    clear R0 B0
    obtain ⟨k, hk, rfl, R, Q⟩ := hrel
    by_cases hlt : k < 8
    · have cs : wr.cell? ⟨w.heap.size, N - 1 - k, none⟩ = some (.int .u8 (midP s k (N - 1 - k))) := by rw [cell_of_row wr _ _ _ _ _ R.out, bytesA_get _ (by omega)]
      have fs : wr.frozen? ⟨w.heap.size, N - 1 - k, none⟩ = false := frozen_of_row wr _ _ _ _ R.out
      have tn : ((N : Int) - 1 - (k : Int)).toNat = N - 1 - k := by omega
      have ev : Hid ((s.size : Int) * 8 / 2 ^ (8 * k) % 256 = (8 * s.size : Int) / 256 ^ k % 256) := hide (by
        rw [Int.mul_comm (s.size : Int) 8, Int.pow_mul]
        rfl)
      go_wp2
      refine ⟨⟨k + 1, by omega, by go_num, hide ?_, hide (Q.out.setCell (p := ⟨w.heap.size, N - 1 - k, none⟩) (Nat.le_refl _) _)⟩, by simp [intOf]; omega⟩
      rw [MS.out k hlt, ev.out]
      exact heap_setCell_same wr _ _ _ _ _ R.out
    · have e8 : Hid (k = 8) := hide (by omega)
      have hgt : ¬ ((k : Int) < 8) := by omega
      clear hlt
      go_wp2
      go_ret
      refine ⟨rfl, Q.out, ?_⟩
      rw [FIN.out, ← e8.out]
      exact R.out
end Go.Proofs.YtkhkcdmmagicmaaDoor
/-
  What impl.shaMixed makes of a state and a block's words.
-/
namespace Go.Proofs.YtkhkcdmmagicmaaDoor
open Go.RowKit

/-- n words lie at the head of a block -/
def At (w : World) (g n : Nat) (f : Nat → Int) : Prop := ∀ j, j < n → w.cell? ⟨g, j, none⟩ = some (.int .u32 (f j))
theorem At.quiet {w w' : World} {g n : Nat} {f : Nat → Int} (h : At w g n f) (q : Quiet w w') : At w' g n f := fun j hj => (q.cell _).trans (h j hj)
theorem At.below {w w' : World} {g n B : Nat} {f : Nat → Int} (h : At w g n f) (q : Below B w w') (hg : g < B) : At w' g n f := fun j hj => (q.cell (p := ⟨g, j, none⟩) hg).trans (h j hj)
theorem At.of {w : World} {g n : Nat} {f : Nat → Int} {t : TypeId} {fr : Nat × Nat} (h : w.heap[g]? = some (.cells (wordsA f n) t fr)) : At w g n f := fun j hj => by
  rw [cell_of_row w g j _ t fr h, wordsA_get f hj]

theorem wordsA_congr {f f' : Nat → Int} {n : Nat} (h : ∀ j, j < n → f j = f' j) : wordsA f n = wordsA f' n := by
  refine wordsA_eq (wordsA_size f n) fun j hj => ?_
  rw [wordsA_get f hj, h j hj]
theorem wordsA_set (f : Nat → Int) (n k : Nat) (c : Int) : (wordsA f n).setIfInBounds k (.int .u32 c) = wordsA (fun j => if j = k then c else f j) n := by
  refine wordsA_eq (by simp [wordsA_size]) fun j hj => ?_
  by_cases e : j = k
  · subst e
    rw [Array.getElem?_setIfInBounds_self_of_lt (by rw [wordsA_size]; exact hj), if_pos rfl]
  · rw [Array.getElem?_setIfInBounds_ne (by omega), if_neg e, wordsA_get f hj]
theorem wordsA8 (f : Nat → Int) : #[Value.int .u32 (f 0), .int .u32 (f 1), .int .u32 (f 2), .int .u32 (f 3), .int .u32 (f 4), .int .u32 (f 5), .int .u32 (f 6), .int .u32 (f 7)] = wordsA f 8 := by
  simp [wordsA, List.range, List.range.loop]
/-- the state while the first i words are added -/
def midI (v x : Nat → Int) (k i : Nat) : Nat → Int := fun j => if j < i then mixI v x j else rndTo v x k j

set_option maxRecDepth 100000 in
set_option maxHeartbeats 2000000 in
theorem shaMixed_any (v x : Nat → Int) (w : World) (hv : ∀ j, j < 8 → isW (v j)) (hx : ∀ j, j < 64 → isW (x j)) (hg : 2 < w.heap.size) (hG : At w 2 64 ksI) :
    Calls Tryd.prog 102 #[.agg (wordsA v 8), .agg (wordsA x 64)] w fun e w' => e = .returned (.agg (wordsA (mixI v x) 8)) ∧ Below w.heap.size w w' := by
  have HV := hide hv
  have HX := hide hx
  have HG := hide hG
  clear hv hx hG
  go_enter Tryd.func102, Tryd.ntmps102
  go_wp2
  have SZ : Hid ((((w.alloc (.cells (wordsA v 8) 130)).alloc (.cells (wordsA x 64) 132)).alloc (.cells #[.int .u32 0, .int .u32 0, .int .u32 0, .int .u32 0, .int .u32 0, .int .u32 0, .int .u32 0, .int .u32 0] 130)).heap.size = w.heap.size + 3) := hide (by simp)
  have C8 : Hid (At (((w.alloc (.cells (wordsA v 8) 130)).alloc (.cells (wordsA x 64) 132)).alloc (.cells #[.int .u32 0, .int .u32 0, .int .u32 0, .int .u32 0, .int .u32 0, .int .u32 0, .int .u32 0, .int .u32 0] 130)) w.heap.size 8 v) := hide (At.of (t := 130) (fr := (0, 0)) (by
    rw [heap_alloc_old _ _ (by simp; omega), heap_alloc_old _ _ (by simp), heap_alloc_new]))
  have C64 : Hid (At (((w.alloc (.cells (wordsA v 8) 130)).alloc (.cells (wordsA x 64) 132)).alloc (.cells #[.int .u32 0, .int .u32 0, .int .u32 0, .int .u32 0, .int .u32 0, .int .u32 0, .int .u32 0, .int .u32 0] 130)) (w.heap.size + 1) 64 x) := hide (At.of (t := 132) (fr := (0, 0)) (by
    rw [heap_alloc_old _ _ (by simp), heap_alloc2_new]))
  have R8 : Hid ((((w.alloc (.cells (wordsA v 8) 130)).alloc (.cells (wordsA x 64) 132)).alloc (.cells #[.int .u32 0, .int .u32 0, .int .u32 0, .int .u32 0, .int .u32 0, .int .u32 0, .int .u32 0, .int .u32 0] 130)).heap[w.heap.size + 1 + 1]? = some (.cells #[.int .u32 0, .int .u32 0, .int .u32 0, .int .u32 0, .int .u32 0, .int .u32 0, .int .u32 0, .int .u32 0] 130 (0, 0))) := hide (by
    have h := heap_alloc_new ((w.alloc (.cells (wordsA v 8) 130)).alloc (.cells (wordsA x 64) 132)) (.cells #[.int .u32 0, .int .u32 0, .int .u32 0, .int .u32 0, .int .u32 0, .int .u32 0, .int .u32 0, .int .u32 0] 130)
    rw [show ((w.alloc (.cells (wordsA v 8) 130)).alloc (.cells (wordsA x 64) 132)).heap.size = w.heap.size + 1 + 1 by simp] at h
    exact h)
  have BL : Hid (Below w.heap.size w (((w.alloc (.cells (wordsA v 8) 130)).alloc (.cells (wordsA x 64) 132)).alloc (.cells #[.int .u32 0, .int .u32 0, .int .u32 0, .int .u32 0, .int .u32 0, .int .u32 0, .int .u32 0, .int .u32 0] 130))) := hide ((((Below.refl w.heap.size w).alloc (Nat.le_refl _) _).alloc (by simp) _).alloc (by simp; omega) _)
  generalize (((w.alloc (.cells (wordsA v 8) 130)).alloc (.cells (wordsA x 64) 132)).alloc (.cells #[.int .u32 0, .int .u32 0, .int .u32 0, .int .u32 0, .int .u32 0, .int .u32 0, .int .u32 0, .int .u32 0] 130)) = w1 at SZ C8 C64 R8 BL ⊢
  have G1 := hide (HG.out.below BL.out hg)
  have d0 := C8.out 0 (by omega)
  have d1 := C8.out 1 (by omega)
  have d2 := C8.out 2 (by omega)
  have d3 := C8.out 3 (by omega)
  have d4 := C8.out 4 (by omega)
  have d5 := C8.out 5 (by omega)
  have d6 := C8.out 6 (by omega)
  have d7 := C8.out 7 (by omega)
  go_region
  go_wp2
  go_region
  go_wp2
  clear d0 d1 d2 d3 d4 d5 d6 d7
  go_loopw [5, 6, 7, 8, 9, 10, 11, 12, 37] (fun a b c d e f g h iv wr => ∃ k : Nat, k ≤ 64 ∧ a = .int .u32 (rndTo v x k 0) ∧ b = .int .u32 (rndTo v x k 1) ∧ c = .int .u32 (rndTo v x k 2) ∧ d = .int .u32 (rndTo v x k 3) ∧ e = .int .u32 (rndTo v x k 4) ∧ f = .int .u32 (rndTo v x k 5) ∧ g = .int .u32 (rndTo v x k 6) ∧ h = .int .u32 (rndTo v x k 7) ∧ iv = .int .i64 k ∧ Hid (Quiet w1 wr)) (fun _ _ _ _ _ _ _ _ i _ => 64 - (intOf i).toNat)
  case atStart => exact ⟨0, by omega, rfl, rfl, rfl, rfl, rfl, rfl, rfl, rfl, rfl, hide ⟨2, rfl⟩⟩
  case round =>
    obtain ⟨k, hk, rfl, rfl, rfl, rfl, rfl, rfl, rfl, rfl, rfl, Q⟩ := hrel
    by_cases hlt : k < 64
    · have cx := (Q.out.cell _).trans (C64.out k hlt)
      have ck := (Q.out.cell _).trans (G1.out k hlt)
      have W := rndTo_word (x := x) HV.out k
      have h0 := hide (W 0 (by omega))
      have h4 := hide (W 4 (by omega))
      clear W
      have e0 := hide (rnd0 (rndTo v x k) (ksI k) (x k))
      have e4 := hide (rnd4 (rndTo v x k) (ksI k) (x k))
      have Z : Hid (∀ j, rndTo v x (k + 1) j = rnd (rndTo v x k) (ksI k) (x k) j) := hide fun _ => rfl
      have T : Hid (t1I (rndTo v x k) (ksI k) (x k) = (rndTo v x k 7 + bs1 (rndTo v x k 4) + chI (rndTo v x k 4) (rndTo v x k 5) (rndTo v x k 6) + ksI k + x k) % 4294967296) := hide rfl
      go_wp2_with fail
      refine (rotl_any (rndTo v x k 4) 26 (-6) _ h4.out (by omega) (by omega) (by omega)).mono ?_
      rintro e w' ⟨rfl, rfl⟩
      go_wp2_with fail
      refine (rotl_any (rndTo v x k 4) 21 (-11) _ h4.out (by omega) (by omega) (by omega)).mono ?_
      rintro e w' ⟨rfl, rfl⟩
      go_wp2_with fail
      refine (rotl_any (rndTo v x k 4) 7 (-25) _ h4.out (by omega) (by omega) (by omega)).mono ?_
      rintro e w' ⟨rfl, rfl⟩
      go_wp2
      go_region
      go_wp2_with fail
      refine (rotl_any (rndTo v x k 0) 30 (-2) _ h0.out (by omega) (by omega) (by omega)).mono ?_
      rintro e w' ⟨rfl, rfl⟩
      go_wp2_with fail
      refine (rotl_any (rndTo v x k 0) 19 (-13) _ h0.out (by omega) (by omega) (by omega)).mono ?_
      rintro e w' ⟨rfl, rfl⟩
      go_wp2_with fail
      refine (rotl_any (rndTo v x k 0) 10 (-22) _ h0.out (by omega) (by omega) (by omega)).mono ?_
      rintro e w' ⟨rfl, rfl⟩
      go_wp2
      go_roundw
      case rel =>
        refine ⟨k + 1, by omega, ?_, ?_, ?_, ?_, ?_, ?_, ?_, ?_, by go_num, hide Q.out.drew⟩
        · rw [Z.out, e0.out, T.out]
          unfold bs1 bs0 chI maI xorI andI notI
          refine congrArg (Value.int IntKind.u32) ?_
          omega
        · exact congrArg _ (rnd1 (rndTo v x k) (ksI k) (x k)).symm
        · exact congrArg _ (rnd2 (rndTo v x k) (ksI k) (x k)).symm
        · exact congrArg _ (rnd3 (rndTo v x k) (ksI k) (x k)).symm
        · rw [Z.out, e4.out, T.out]
          unfold bs1 chI xorI andI notI
          refine congrArg (Value.int IntKind.u32) ?_
          omega
        · exact congrArg _ (rnd5 (rndTo v x k) (ksI k) (x k)).symm
        · exact congrArg _ (rnd6 (rndTo v x k) (ksI k) (x k)).symm
        · exact congrArg _ (rnd7 (rndTo v x k) (ksI k) (x k)).symm
      case measure => simp [intOf]; omega
    · obtain ⟨wo, rfl⟩ : ∃ y : World, y = wr := ⟨wr, rfl⟩
      have e64 : Hid (k = 64) := hide (by omega)
      clear hlt
      have hgt : ¬ ((k : Int) < 64) := by have := e64.out; omega
      have U8 := hide (C8.out.quiet Q.out)
      have SZ2 := hide ((congrArg Array.size Q.out.heap).trans SZ.out)
      have RR : Hid (wo.heap[w.heap.size + 1 + 1]? = some (.cells #[.int .u32 0, .int .u32 0, .int .u32 0, .int .u32 0, .int .u32 0, .int .u32 0, .int .u32 0, .int .u32 0] 130 (0, 0))) := hide (by rw [Q.out.heap]; exact R8.out)
      have BB := hide (BL.out.trans (Q.out.below w.heap.size))
      clear Q C8 C64 R8 BL G1 SZ HG
      go_wp2
      have M0 : Hid ((wo.alloc (.cells #[.int .u32 (rndTo v x k 0), .int .u32 (rndTo v x k 1), .int .u32 (rndTo v x k 2), .int .u32 (rndTo v x k 3), .int .u32 (rndTo v x k 4), .int .u32 (rndTo v x k 5), .int .u32 (rndTo v x k 6), .int .u32 (rndTo v x k 7)] 130)).heap[wo.heap.size]? = some (.cells (wordsA (midI v x k 0) 8) 130 (0, 0))) := hide (by
        rw [heap_alloc_new, wordsA8 (rndTo v x k), wordsA_congr (f := midI v x k 0) (f' := rndTo v x k) (fun j _ => if_neg (by omega))])
      have L0 : Hid (Below wo.heap.size wo (wo.alloc (.cells #[.int .u32 (rndTo v x k 0), .int .u32 (rndTo v x k 1), .int .u32 (rndTo v x k 2), .int .u32 (rndTo v x k 3), .int .u32 (rndTo v x k 4), .int .u32 (rndTo v x k 5), .int .u32 (rndTo v x k 6), .int .u32 (rndTo v x k 7)] 130))) := hide ((Below.refl _ _).alloc (Nat.le_refl _) _)
      have S0 : Hid ((wo.alloc (.cells #[.int .u32 (rndTo v x k 0), .int .u32 (rndTo v x k 1), .int .u32 (rndTo v x k 2), .int .u32 (rndTo v x k 3), .int .u32 (rndTo v x k 4), .int .u32 (rndTo v x k 5), .int .u32 (rndTo v x k 6), .int .u32 (rndTo v x k 7)] 130)).heap.size = wo.heap.size + 1) := hide (by simp)
      generalize wo.alloc (.cells #[.int .u32 (rndTo v x k 0), .int .u32 (rndTo v x k 1), .int .u32 (rndTo v x k 2), .int .u32 (rndTo v x k 3), .int .u32 (rndTo v x k 4), .int .u32 (rndTo v x k 5), .int .u32 (rndTo v x k 6), .int .u32 (rndTo v x k 7)] 130) = w2 at M0 L0 S0 ⊢
      go_loopw [112] (fun iv wr => ∃ i : Nat, i ≤ 8 ∧ iv = .int .i64 i ∧ Hid (wr.heap[wo.heap.size]? = some (.cells (wordsA (midI v x k i) 8) 130 (0, 0))) ∧ Hid (Below wo.heap.size wo wr)) (fun i _ => 8 - (intOf i).toNat)
      case atStart => exact ⟨0, by omega, rfl, M0, L0⟩
      case round =>
        clear M0 L0 S0
        obtain ⟨i, hi, rfl, M, L⟩ := hrel
        by_cases hlt : i < 8
        · have ca : wr.cell? ⟨wo.heap.size, i, none⟩ = some (.int .u32 (rndTo v x k i)) := by
            rw [cell_of_row wr _ i _ _ _ M.out, wordsA_get _ hlt]
            unfold midI
            rw [if_neg (by omega)]
          have cb : wr.cell? ⟨w.heap.size, i, none⟩ = some (.int .u32 (v i)) := (L.out.cell (p := ⟨w.heap.size, i, none⟩) (by show w.heap.size < wo.heap.size; have := SZ2.out; omega)).trans (U8.out i hlt)
          have fz : wr.frozen? ⟨wo.heap.size, i, none⟩ = false := frozen_of_row wr _ i _ _ M.out
          have ms : Hid (wordsA (midI v x k (i + 1)) 8 = (wordsA (midI v x k i) 8).setIfInBounds i (.int .u32 ((rndTo v x k i + v i) % 4294967296))) := hide (by
            rw [wordsA_set]
            refine wordsA_congr fun j hj => ?_
            unfold midI
            by_cases e : j = i
            · subst e
              rw [if_pos (by omega), if_pos rfl, e64.out]
              rfl
            · rw [if_neg e]
              by_cases h' : j < i
              · rw [if_pos (by omega), if_pos h']
              · rw [if_neg (by omega), if_neg h'])
          go_wp2
          go_region
          go_wp2
          go_roundw
          case rel => exact ⟨i + 1, by omega, by go_num, hide (by rw [ms.out]; exact heap_setCell_same wr wo.heap.size i _ _ _ M.out), hide ((L.out.setCell (p := ⟨wo.heap.size, i, none⟩) (Nat.le_refl _) _).drew)⟩
          case measure => simp [intOf]; omega
        · have h8 : Hid (i = 8) := hide (by omega)
          have hgt8 : ¬ ((i : Int) < 8) := by omega
          clear hlt
          have h1 : Hid (wr.heap[wo.heap.size]? = some (.cells (wordsA (mixI v x) 8) 130 (0, 0))) := hide (by
            rw [M.out, wordsA_congr (f := midI v x k i) (f' := mixI v x) (fun j hj => if_pos (by have := h8.out; omega))])
          have h2 : Hid (wr.heap[w.heap.size + 1 + 1]? = some (.cells #[.int .u32 0, .int .u32 0, .int .u32 0, .int .u32 0, .int .u32 0, .int .u32 0, .int .u32 0, .int .u32 0] 130 (0, 0))) := hide ((L.out.block _ (by have := SZ2.out; omega)).trans RR.out)
          clear M
          go_wp2_with (first
            | (refine wpList_load_row rfl 130 _ rfl wo.heap.size rfl _ _ _ _ h1.out Tryd.underlying130 rfl (by rw [wordsA_size]; kernel_rfl) ?_)
            | (refine wpList_store_row rfl 130 _ _ rfl (w.heap.size + 1 + 1) (wordsA (mixI v x) 8) rfl rfl _ _ h2.out (by rw [wordsA_size]; kernel_rfl) (by rw [wordsA_size]; rfl) (wordsA_one _ _) ?_))
          refine bodyPost_ret (results_cell_row rfl _ _ (w.heap.size + 1 + 1) _ (wordsA (mixI v x) 8) (0, 0) _ rfl (setRow_heap wr (w.heap.size + 1 + 1) _ _ _ _ h2.out) Tryd.underlying130 rfl (by rw [wordsA_size]; kernel_rfl)) rfl ?_
          exact ⟨rfl, Below.setRow (BB.out.trans (L.out.mono (by have := SZ2.out; omega))) (by omega) _⟩
end Go.Proofs.YtkhkcdmmagicmaaDoor
/-
  What impl.Sha256 gives.
-/
namespace Go.Proofs.YtkhkcdmmagicmaaDoor
open Go.RowKit

/-- eight words as a string -/
def digB (v : Nat → Int) : ByteArray := strOfNums ([v 0, v 1, v 2, v 3, v 4, v 5, v 6, v 7].flatMap bytesI)
/-- the digest of a text, without the bound -/
def shaL (s : ByteArray) : ByteArray := digB (stTo (padY s) (padN s.size / 64))
/-- the digest of a text; nothing for more than 2000 bytes -/
def shaB (s : ByteArray) : ByteArray := if s.size ≤ 2000 then shaL s else ByteArray.empty
/-- what the package-level tables hold -/
def Tabs (w : World) : Prop := 2 < w.heap.size ∧ At w 1 8 (fun j => fTab.getD j 0) ∧ At w 2 64 ksI
theorem Tabs.below {w w' : World} {B : Nat} (h : Tabs w) (q : Below B w w') (hB : 2 < B) : Tabs w' := ⟨by have := q.size; have := h.1; omega, h.2.1.below q (by omega), h.2.2.below q hB⟩

theorem row8 {w : World} {g : Nat} {t : TypeId} {v : Nat → Int} (u : Nat → Int) (h : w.heap[g]? = some (.cells (wordsA v 8) t (0, 0))) :
    ((((((((w.setCell ⟨g, 0, none⟩ (.int .u32 (u 0))).setCell ⟨g, 1, none⟩ (.int .u32 (u 1))).setCell ⟨g, 2, none⟩ (.int .u32 (u 2))).setCell ⟨g, 3, none⟩ (.int .u32 (u 3))).setCell ⟨g, 4, none⟩ (.int .u32 (u 4))).setCell ⟨g, 5, none⟩ (.int .u32 (u 5))).setCell ⟨g, 6, none⟩ (.int .u32 (u 6))).setCell ⟨g, 7, none⟩ (.int .u32 (u 7))).heap[g]? = some (.cells (wordsA u 8) t (0, 0)) := by
  have h0 := heap_setCell_same w g 0 _ t (.int .u32 (u 0)) h
  have h1 := heap_setCell_same _ g 1 _ t (.int .u32 (u 1)) h0
  have h2 := heap_setCell_same _ g 2 _ t (.int .u32 (u 2)) h1
  have h3 := heap_setCell_same _ g 3 _ t (.int .u32 (u 3)) h2
  have h4 := heap_setCell_same _ g 4 _ t (.int .u32 (u 4)) h3
  have h5 := heap_setCell_same _ g 5 _ t (.int .u32 (u 5)) h4
  have h6 := heap_setCell_same _ g 6 _ t (.int .u32 (u 6)) h5
  have h7 := heap_setCell_same _ g 7 _ t (.int .u32 (u 7)) h6
  rw [h7]
  simp only [wordsA_set]
  rw [wordsA_congr (f' := u) (fun j hj => by
    rcases (show j = 0 ∨ j = 1 ∨ j = 2 ∨ j = 3 ∨ j = 4 ∨ j = 5 ∨ j = 6 ∨ j = 7 by omega) with e | e | e | e | e | e | e | e <;> subst e <;> simp)]
theorem below8 {B : Nat} {a w : World} (h : Below B a w) {g : Nat} (hg : B ≤ g) (c0 c1 c2 c3 c4 c5 c6 c7 : Value) :
    Below B a ((((((((w.setCell ⟨g, 0, none⟩ c0).setCell ⟨g, 1, none⟩ c1).setCell ⟨g, 2, none⟩ c2).setCell ⟨g, 3, none⟩ c3).setCell ⟨g, 4, none⟩ c4).setCell ⟨g, 5, none⟩ c5).setCell ⟨g, 6, none⟩ c6).setCell ⟨g, 7, none⟩ c7) :=
  (((((((h.setCell (p := ⟨g, 0, none⟩) hg _).setCell (p := ⟨g, 1, none⟩) hg _).setCell (p := ⟨g, 2, none⟩) hg _).setCell (p := ⟨g, 3, none⟩) hg _).setCell (p := ⟨g, 4, none⟩) hg _).setCell (p := ⟨g, 5, none⟩) hg _).setCell (p := ⟨g, 6, none⟩) hg _).setCell (p := ⟨g, 7, none⟩) hg _

/-- shaMixed_any, the state written out -/
theorem shaMixed_lit (v x : Nat → Int) (w : World) (hv : ∀ j, j < 8 → isW (v j)) (hx : ∀ j, j < 64 → isW (x j)) (hg : 2 < w.heap.size) (hG : At w 2 64 ksI) :
    Calls Tryd.prog 102 #[.agg #[.int .u32 (v 0), .int .u32 (v 1), .int .u32 (v 2), .int .u32 (v 3), .int .u32 (v 4), .int .u32 (v 5), .int .u32 (v 6), .int .u32 (v 7)], .agg (wordsA x 64)] w fun e w' => e = .returned (.agg #[.int .u32 (mixI v x 0), .int .u32 (mixI v x 1), .int .u32 (mixI v x 2), .int .u32 (mixI v x 3), .int .u32 (mixI v x 4), .int .u32 (mixI v x 5), .int .u32 (mixI v x 6), .int .u32 (mixI v x 7)]) ∧ Below w.heap.size w w' := by
  rw [wordsA8 v, wordsA8 (mixI v x)]
  exact shaMixed_any v x w hv hx hg hG

set_option maxRecDepth 100000 in
set_option maxHeartbeats 2000000 in
theorem shaI_any (s : ByteArray) (w : World) (hs : s.size ≤ 2000) (hT : Tabs w) :
    Calls Tryd.prog 78 #[.string s] w fun e w' => e = .returned (.string (shaL s)) ∧ Below w.heap.size w w' := by
  have HT := hide hT
  clear hT
  go_enter Tryd.func78, Tryd.ntmps78
  go_wp2_with fail
  refine (shaPadded_any s _ hs).mono ?_
  rintro e w1 ⟨rfl, hb1, hr1⟩
  have B1 := hide hb1
  have R1 := hide hr1
  clear hb1 hr1
  have T1 := hide (HT.out.below B1.out HT.out.1)
  obtain ⟨hg1, f0, _⟩ := T1.out
  have g0 := f0 0 (by omega)
  have g1 := f0 1 (by omega)
  have g2 := f0 2 (by omega)
  have g3 := f0 3 (by omega)
  have g4 := f0 4 (by omega)
  have g5 := f0 5 (by omega)
  have g6 := f0 6 (by omega)
  have g7 := f0 7 (by omega)
  clear f0
  go_wp2
  have M0 : Hid ((w1.alloc (.cells #[.int .u32 (fTab[0]?.getD 0), .int .u32 (fTab[1]?.getD 0), .int .u32 (fTab[2]?.getD 0), .int .u32 (fTab[3]?.getD 0), .int .u32 (fTab[4]?.getD 0), .int .u32 (fTab[5]?.getD 0), .int .u32 (fTab[6]?.getD 0), .int .u32 (fTab[7]?.getD 0)] 130)).heap[w1.heap.size]? = some (.cells (wordsA (stTo (padY s) 0) 8) 130 (0, 0))) := hide (by
    rw [heap_alloc_new, ← wordsA8]
    simp [stTo])
  have L0 : Hid (Below w1.heap.size w1 (w1.alloc (.cells #[.int .u32 (fTab[0]?.getD 0), .int .u32 (fTab[1]?.getD 0), .int .u32 (fTab[2]?.getD 0), .int .u32 (fTab[3]?.getD 0), .int .u32 (fTab[4]?.getD 0), .int .u32 (fTab[5]?.getD 0), .int .u32 (fTab[6]?.getD 0), .int .u32 (fTab[7]?.getD 0)] 130))) := hide ((Below.refl _ _).alloc (Nat.le_refl _) _)
  clear g0 g1 g2 g3 g4 g5 g6 g7
  generalize w1.alloc (.cells #[.int .u32 (fTab[0]?.getD 0), .int .u32 (fTab[1]?.getD 0), .int .u32 (fTab[2]?.getD 0), .int .u32 (fTab[3]?.getD 0), .int .u32 (fTab[4]?.getD 0), .int .u32 (fTab[5]?.getD 0), .int .u32 (fTab[6]?.getD 0), .int .u32 (fTab[7]?.getD 0)] 130) = w2 at M0 L0 ⊢
  have hw01 : w.heap.size < w1.heap.size := (Array.getElem?_eq_some_iff.1 R1.out).1
  have hN : Hid (padN s.size = 64 * (padN s.size / 64)) := hide (by unfold padN; omega)
  have hN2 : padN s.size ≤ 2072 := by have := padN_le s.size; omega
  have Y := hide (padY_byte s)
  have FIN : Hid (shaL s = digB (stTo (padY s) (padN s.size / 64))) := hide rfl
  generalize padN s.size / 64 = M at *
  generalize padN s.size = N at *
  generalize padY s = y at *
  have hN3 : N ≤ 64 * M := by have := hN.out; omega
  have hN4 : 64 * M ≤ N := by have := hN.out; omega
  clear hN
  go_loopw [5] (fun iv wr => ∃ n q : Nat, n ≤ M ∧ q ≤ 64 * n ∧ 64 * n ≤ q ∧ iv = .int .i64 (q : Int) ∧ Hid (wr.heap[w1.heap.size]? = some (.cells (wordsA (stTo y n) 8) 130 (0, 0))) ∧ Hid (Below w1.heap.size w1 wr)) (fun i _ => N - (intOf i).toNat)
  case atStart => exact ⟨0, 0, by omega, by omega, by omega, rfl, M0, L0⟩
  case round =>
    clear M0 L0
    obtain ⟨n, q, hn, hq1, hq2, rfl, R, Q⟩ := hrel
    have V := hide (stTo_word y n)
    have cc := fun j (hj : j < 8) => (cell_of_row wr w1.heap.size j _ _ _ R.out).trans (wordsA_get (stTo y n) hj)
    have d0 := cc 0 (by omega)
    have d1 := cc 1 (by omega)
    have d2 := cc 2 (by omega)
    have d3 := cc 3 (by omega)
    have d4 := cc 4 (by omega)
    have d5 := cc 5 (by omega)
    have d6 := cc 6 (by omega)
    have d7 := cc 7 (by omega)
    clear cc
    by_cases hlt : q < N
    · have X := hide (wAt_word (m := mOf fun i => y (64 * n + i)) fun j _ => or_word _ _)
      have ST : Hid (stTo y (n + 1) = mixI (stTo y n) (wAt (mOf fun i => y (64 * n + i)))) := hide rfl
      have pad : Hid (∀ i, i < 64 → wr.cell? ⟨w.heap.size, q + i, none⟩ = some (.int .u8 (y (64 * n + i)))) := hide fun i hi => by
        rw [Q.out.cell (p := ⟨w.heap.size, q + i, none⟩) hw01, cell_of_row w1 w.heap.size _ _ _ _ R1.out, bytesA_get _ (by omega), show q + i = 64 * n + i by omega]
      have TT := hide (T1.out.below Q.out hg1)
      have hgr : w1.heap.size < wr.heap.size := (Array.getElem?_eq_some_iff.1 R.out).1
      have SCH : Hid (Calls Tryd.prog 103 #[.slice (some ⟨w.heap.size, q, none⟩) 64 (N - q)] wr.drew fun e w' => e = .returned (.agg (wordsA (wAt (mOf fun i => y (64 * n + i))) 64)) ∧ Below wr.heap.size wr w') := hide ((shaSchedule_any w.heap.size q (N - q) (fun i => y (64 * n + i)) wr.drew (by show w.heap.size < wr.heap.size; omega) (fun i _ => Y.out _) (fun i hi => pad.out i hi)).mono fun e w' h => ⟨h.1, ((Below.refl _ wr).drew).trans h.2⟩)
      generalize hv : stTo y n = v at *
      generalize (wAt (mOf fun i => y (64 * n + i))) = x at *
      have w64 : IntKind.i64.wrap ((q : Int) + 64) = (q : Int) + 64 := by rw [IntKind.wrap_i64]; omega
      have HV := hide hv
      clear hv
      have p0 : (0 : Int) ≤ (q : Int) := by omega
      have p1 : (q : Int) ≤ (q : Int) + 64 := by omega
      have p2 : (q : Int) + 64 ≤ (N : Int) := by omega
      have p3 : ((q : Int) + 64).toNat = q + 64 := by omega
      have p4 : ¬ N = q := by omega
      have p5 : q + 64 - q = 64 := by omega
      go_wp2
      go_region_with (first
        | (go_at_call 103; refine SCH.out.mono ?_; rintro e w3 ⟨rfl, hb3⟩; have H3 := hide hb3; clear hb3; have e0 := (H3.out.cell (p := ⟨w1.heap.size, 0, none⟩) (by exact hgr)).trans d0; have e1 := (H3.out.cell (p := ⟨w1.heap.size, 1, none⟩) (by exact hgr)).trans d1; have e2 := (H3.out.cell (p := ⟨w1.heap.size, 2, none⟩) (by exact hgr)).trans d2; have e3 := (H3.out.cell (p := ⟨w1.heap.size, 3, none⟩) (by exact hgr)).trans d3; have e4 := (H3.out.cell (p := ⟨w1.heap.size, 4, none⟩) (by exact hgr)).trans d4; have e5 := (H3.out.cell (p := ⟨w1.heap.size, 5, none⟩) (by exact hgr)).trans d5; have e6 := (H3.out.cell (p := ⟨w1.heap.size, 6, none⟩) (by exact hgr)).trans d6; have e7 := (H3.out.cell (p := ⟨w1.heap.size, 7, none⟩) (by exact hgr)).trans d7)
        | (go_at_call 102; refine (shaMixed_lit v x _ V.out (fun j _ => X.out j) (TT.out.below H3.out (by omega)).1 (TT.out.below H3.out (by omega)).2.2).mono ?_; rintro e w4 ⟨rfl, hb4⟩; have H4 := hide hb4; clear hb4; have hs3 := H3.out.size; have R4 := hide ((H4.out.block w1.heap.size (by omega)).trans ((H3.out.block w1.heap.size hgr).trans R.out)); have i0 := (cell_of_row w4 w1.heap.size 0 _ _ _ R4.out).trans (wordsA_get v (show 0 < 8 by omega)); have f0 := frozen_of_row w4 w1.heap.size 0 _ _ R4.out; have i1 := (cell_of_row w4 w1.heap.size 1 _ _ _ R4.out).trans (wordsA_get v (show 1 < 8 by omega)); have f1 := frozen_of_row w4 w1.heap.size 1 _ _ R4.out; have i2 := (cell_of_row w4 w1.heap.size 2 _ _ _ R4.out).trans (wordsA_get v (show 2 < 8 by omega)); have f2 := frozen_of_row w4 w1.heap.size 2 _ _ R4.out; have i3 := (cell_of_row w4 w1.heap.size 3 _ _ _ R4.out).trans (wordsA_get v (show 3 < 8 by omega)); have f3 := frozen_of_row w4 w1.heap.size 3 _ _ R4.out; have i4 := (cell_of_row w4 w1.heap.size 4 _ _ _ R4.out).trans (wordsA_get v (show 4 < 8 by omega)); have f4 := frozen_of_row w4 w1.heap.size 4 _ _ R4.out; have i5 := (cell_of_row w4 w1.heap.size 5 _ _ _ R4.out).trans (wordsA_get v (show 5 < 8 by omega)); have f5 := frozen_of_row w4 w1.heap.size 5 _ _ R4.out; have i6 := (cell_of_row w4 w1.heap.size 6 _ _ _ R4.out).trans (wordsA_get v (show 6 < 8 by omega)); have f6 := frozen_of_row w4 w1.heap.size 6 _ _ R4.out; have i7 := (cell_of_row w4 w1.heap.size 7 _ _ _ R4.out).trans (wordsA_get v (show 7 < 8 by omega)); have f7 := frozen_of_row w4 w1.heap.size 7 _ _ R4.out))
      all_goals
        clear d0 d1 d2 d3 d4 d5 d6 d7 e0 e1 e2 e3 e4 e5 e6 e7 i0 i1 i2 i3 i4 i5 i6 i7 f0 f1 f2 f3 f4 f5 f6 f7
        go_wp2
        refine ⟨⟨n + 1, q + 64, by omega, by omega, by omega, by go_num, hide ?_, hide ?_⟩, by simp [intOf]; omega⟩
        · rw [ST.out]; exact row8 (mixI v x) R4.out
        · exact below8 (Q.out.trans ((H3.out.mono (by omega)).trans (H4.out.mono (by omega)))) (Nat.le_refl _) _ _ _ _ _ _ _ _
    · have hgt : ¬ ((q : Int) < (N : Int)) := by omega
      have en : Hid (n = M) := hide (by omega)
      clear hlt
      go_wp2_with fail
      refine (shaBytes_any (stTo y n 0) (stTo y n 1) (stTo y n 2) (stTo y n 3) (stTo y n 4) (stTo y n 5) (stTo y n 6) (stTo y n 7) _ (V.out 0 (by omega)) (V.out 1 (by omega)) (V.out 2 (by omega)) (V.out 3 (by omega)) (V.out 4 (by omega)) (V.out 5 (by omega)) (V.out 6 (by omega)) (V.out 7 (by omega))).mono ?_
      rintro e w3 ⟨rfl, hb3⟩
      have H3 := hide hb3
      clear hb3
      go_wp2
      go_ret
      have hq := Q.out.size
      refine ⟨ret_str ?_, B1.out.trans ((Q.out.mono (by omega)).trans (H3.out.mono (by omega)))⟩
      rw [FIN.out, ← en.out]
      rfl
end Go.Proofs.YtkhkcdmmagicmaaDoor
/-
  Slices of integers of the call's own, appended to; what spec.l2Be makes of a text.
-/
namespace Go.Proofs.YtkhkcdmmagicmaaDoor
open Go.RowKit

def icells (k : IntKind) (l : List Int) : List Value := l.map (Value.int k)
/-- the slice at A is the call's own, lies from block B on, and holds the numbers l -/
def IOwn (k : IntKind) (e : TypeId) (w : World) (B : Nat) (A : Option Addr) (cap : Nat) (l : List Int) : Prop := w.ownsRow B e 1 (.slice A l.length cap) l.length (icells k l)
def blockOf (A : Option Addr) : Option Nat := A.map (·.block)
theorem blockOf_own (A : Option Addr) (n cap : Nat) : (Value.slice A n cap).ownBlock = blockOf A := by cases A <;> rfl
theorem below_grown {w w' : World} (h : Below w.heap.size w w') (row : Option Nat) : w.grownBy w' row := ⟨h.os, h.tape, h.output, h.size, fun i hi _ => h.block i hi⟩
theorem IOwn.built (k : IntKind) (e : TypeId) (w : World) (B : Nat) (hB : B ≤ w.heap.size) : IOwn k e (w.alloc (.cells #[] e)) B (some ⟨w.heap.size, 0, none⟩) 0 [] :=
  World.ownsRow_made w #[] 0 hB (by simp [maxLen]) rfl
theorem IOwn.below {k : IntKind} {e : TypeId} {w w' : World} {B : Nat} {A : Option Addr} {cap : Nat} {l : List Int} (h : IOwn k e w B A cap l) (hb : Below w.heap.size w w') : IOwn k e w' B A cap l := by
  refine h.kept (below_grown hb none) ?_
  cases hv : (Value.slice A l.length cap).ownBlock <;> simp
theorem IOwn.alloc {k : IntKind} {e : TypeId} {w : World} {B : Nat} {A : Option Addr} {cap : Nat} {l : List Int} (h : IOwn k e w B A cap l) (o : Obj) : IOwn k e (w.alloc o) B A cap l := h.below ((Below.refl _ _).alloc (Nat.le_refl _) o)
theorem IOwn.grownBelow {k : IntKind} {e : TypeId} {w w' : World} {B : Nat} {A : Option Addr} {cap : Nat} {l : List Int} (h : IOwn k e w B A cap l) (hg : w.grownBy w' (blockOf A)) (hB : B ≤ w.heap.size) : Below B w w' :=
  (Below.refl B w).grown (by rw [← blockOf_own A l.length cap] at hg; exact hg) hB (fun j hj => (h.lt j hj).1)
theorem IOwn.cell {k : IntKind} {e : TypeId} {w : World} {B : Nat} {A : Option Addr} {cap : Nat} {l : List Int} (h : IOwn k e w B A cap l) (hl : 0 < l.length) : ∃ g, A = some ⟨g, 0, none⟩ ∧ B ≤ g ∧ g < w.heap.size ∧ ∀ i, i < l.length → w.cell? ⟨g, i, none⟩ = some (.int k (l.getD i 0)) := by
  rcases h.2 with ⟨e, e'⟩ | ⟨g, c, cur, e, hb, hg, _⟩
  · omega
  · injection e with e1 e2 e3
    subst e1
    refine ⟨g, rfl, hb, (Array.getElem?_eq_some_iff.1 hg).1, fun i hi => ?_⟩
    have h1 := h.cellAt i (by simp; omega)
    refine h1.trans ?_
    simp [icells, hi]
theorem run_iapp {k : IntKind} {e st : TypeId} {z : Value} {nb : Nat} {w : World} {B : Nat} {A : Option Addr} {cap c m : Nat} {l : List Int} {news : List Int} {g : Nat} (ty : TypeId)
    (hu : Tryd.prog.underlying st = some (.slice e)) (hinfo : (Tryd.prog.info? e).map (fun i => (i.zero, i.size, i.bytes)) = some (some z, 1, nb)) (hz : z.cells.size = 1) (hby : nb ≤ 16)
    (hown : IOwn k e w B A cap l) (hm : news.length = m) (hin : ∀ j, j < m → w.cell? ⟨g, j, none⟩ = some (.int k (news.getD j 0))) (hB : B ≤ w.heap.size) (hb : l.length + m ≤ 3000000) :
    ∃ A2 cap2 w', (Builtin.append_ #[st, st] ty #[.slice A l.length cap, .slice (some ⟨g, 0, none⟩) m c]).run Tryd.prog w = .ok (.slice A2 (l.length + m) cap2) w' ∧ IOwn k e w' B A2 cap2 (l ++ news) ∧ w.grownBy w' (blockOf A) ∧ (blockOf A2 = blockOf A ∨ blockOf A2 = some w.heap.size) := by
  obtain ⟨i, hi, hz0, hz1, hz2⟩ := info_parts hinfo
  have hcells : ∀ j u, (icells k news)[j]? = some u → w.cell? ((⟨g, 0, none⟩ : Addr).add j) = some u := by
    intro j u hu
    have hj : j < (icells k news).length := (List.getElem?_eq_some_iff.1 hu).1
    have hj' : j < news.length := by simpa [icells] using hj
    rw [Addr.add_mid, Nat.zero_add, hin j (by omega), ← hu]
    simp [icells, hj']
  obtain ⟨v', w', hrun, h2, h3, _, h5⟩ := run_append_own_at (P := Tryd.prog) w B st ty e i _ 1 nb hu hi hz0 hz1 hz2 hz (by omega) (.slice A l.length cap) l.length (icells k l) hown ⟨g, 0, none⟩ m c (icells k news) (by simp [icells, hm]) hcells (by intro u hu; simp [icells] at hu; obtain ⟨_, _, rfl⟩ := hu; rfl)
    (by simp only [maxLen]; omega) (by have := Nat.mul_le_mul hb hby; omega) hB
  have hv : ∃ A2 cap2, v' = .slice A2 (l.length + m) cap2 := by
    rcases h2.2 with ⟨e, e'⟩ | ⟨g, cap', cur, e, _⟩
    · exact ⟨none, 0, by rw [e, e']⟩
    · exact ⟨_, _, e⟩
  obtain ⟨A2, cap2, rfl⟩ := hv
  refine ⟨A2, cap2, w', hrun, ?_, by rw [← blockOf_own A l.length cap]; exact h3, ?_⟩
  · show w'.ownsRow B e 1 (.slice A2 (l ++ news).length cap2) (l ++ news).length (icells k (l ++ news))
    rw [List.length_append, hm, show icells k (l ++ news) = icells k l ++ icells k news by simp [icells]]
    exact h2
  · rw [blockOf_own, blockOf_own] at h5
    exact h5
theorem wp_iapp {k : IntKind} {e st : TypeId} {z : Value} {nb : Nat} {w : World} {o : Oper} {a : Act} {K : Act → World → Prop} {Q : Exit → Act → World → Prop} (s x : Operand)
    (ho : o.op = .call { callee := .builtin .append, args := #[s, x], argTypes := #[st, st] })
    (hu : Tryd.prog.underlying st = some (.slice e)) (hinfo : (Tryd.prog.info? e).map (fun i => (i.zero, i.size, i.bytes)) = some (some z, 1, nb)) (hz : z.cells.size = 1) (hby : nb ≤ 16)
    {B : Nat} {A : Option Addr} {cap c m : Nat} {l news : List Int} {g : Nat} (hs : a.eval s = .slice A l.length cap) (hx : a.eval x = .slice (some ⟨g, 0, none⟩) m c)
    (hown : IOwn k e w B A cap l) (hm : news.length = m) (hin : ∀ j, j < m → w.cell? ⟨g, j, none⟩ = some (.int k (news.getD j 0))) (hB : B ≤ w.heap.size) (hb : l.length + m ≤ 3000000)
    (h : ∀ A2 cap2 w', IOwn k e w' B A2 cap2 (l ++ news) → w.grownBy w' (blockOf A) → (blockOf A2 = blockOf A ∨ blockOf A2 = some w.heap.size) → K (a.put o.dst (.slice A2 (l.length + m) cap2)) w') : o.wp Tryd.prog a w K Q := by
  obtain ⟨A2, cap2, w', hrun, h2, h3, h4⟩ := run_iapp (c := c) o.type hu hinfo hz hby hown hm hin hB hb
  unfold Oper.wp execOp
  simp only [ho, resolve, invoke, builtin, Sem.run_bind, Sem.run_pure, Result.andThen_ok, List.map_toArray, List.map_cons, List.map_nil, hs, hx, hrun]
  exact h A2 cap2 w' h2 h3 h4
theorem wpList_iapp {k : IntKind} {e st : TypeId} {z : Value} {nb : Nat} {w : World} {ops : Array Oper} {rest : List Oper} {o : Oper} {a : Act} {Q : Exit → Act → World → Prop} (hgd : o.guard = none) (s x : Operand)
    (ho : o.op = .call { callee := .builtin .append, args := #[s, x], argTypes := #[st, st] })
    (hu : Tryd.prog.underlying st = some (.slice e)) (hinfo : (Tryd.prog.info? e).map (fun i => (i.zero, i.size, i.bytes)) = some (some z, 1, nb)) (hz : z.cells.size = 1) (hby : nb ≤ 16)
    {B : Nat} {A : Option Addr} {cap c m : Nat} {l news : List Int} {g : Nat} (hs : a.eval s = .slice A l.length cap) (hx : a.eval x = .slice (some ⟨g, 0, none⟩) m c)
    (hown : IOwn k e w B A cap l) (hm : news.length = m) (hin : ∀ j, j < m → w.cell? ⟨g, j, none⟩ = some (.int k (news.getD j 0))) (hB : B ≤ w.heap.size) (hb : l.length + m ≤ 3000000)
    (h : ∀ A2 cap2 w', IOwn k e w' B A2 cap2 (l ++ news) → w.grownBy w' (blockOf A) → (blockOf A2 = blockOf A ∨ blockOf A2 = some w.heap.size) → wpList Tryd.prog ops Q rest (a.put o.dst (.slice A2 (l.length + m) cap2)) w') : wpList Tryd.prog ops Q (o :: rest) a w :=
  wpList_plain hgd fun _ hK => wp_iapp s x ho hu hinfo hz hby hs hx hown hm hin hB hb fun A2 cap2 w' h2 h3 h4 => hK _ _ (h A2 cap2 w' h2 h3 h4)
theorem step_iapp {k : IntKind} {e st : TypeId} {z : Value} {nb : Nat} {ops : Array Oper} {w : World} {o : Oper} {a : Act} {K : Act → World → Prop} {Q : Exit → Act → World → Prop} {E : Prop} (hgd : o.guard = none) (s x : Operand)
    (ho : o.op = .call { callee := .builtin .append, args := #[s, x], argTypes := #[st, st] })
    (hu : Tryd.prog.underlying st = some (.slice e)) (hinfo : (Tryd.prog.info? e).map (fun i => (i.zero, i.size, i.bytes)) = some (some z, 1, nb)) (hz : z.cells.size = 1) (hby : nb ≤ 16)
    {B : Nat} {A : Option Addr} {cap c m : Nat} {l news : List Int} {g : Nat} (hs : a.eval s = .slice A l.length cap) (hx : a.eval x = .slice (some ⟨g, 0, none⟩) m c)
    (hown : IOwn k e w B A cap l) (hm : news.length = m) (hin : ∀ j, j < m → w.cell? ⟨g, j, none⟩ = some (.int k (news.getD j 0))) (hB : B ≤ w.heap.size) (hb : l.length + m ≤ 3000000)
    (h : ∀ A2 cap2 w', IOwn k e w' B A2 cap2 (l ++ news) → w.grownBy w' (blockOf A) → (blockOf A2 = blockOf A ∨ blockOf A2 = some w.heap.size) → K (a.put o.dst (.slice A2 (l.length + m) cap2)) w') :
    if Region.wanted o (yielded ops a.tmps) = true then Oper.wp Tryd.prog o a w K Q else E := by
  have hw : Region.wanted o (yielded ops a.tmps) = true := by simp [Region.wanted, hgd]
  rw [if_pos hw]
  exact wp_iapp s x ho hu hinfo hz hby hs hx hown hm hin hB hb h

theorem infoU : (Tryd.prog.info? 124).map (fun i => (i.zero, i.size, i.bytes)) = some (some (.int .u32 0), 1, 4) := by kernel_rfl
/-- the first n words of a text -/
def beL (s : ByteArray) (n : Nat) : List Int := (List.range n).map (mOf (sB s))
theorem beL_length (s : ByteArray) (n : Nat) : (beL s n).length = n := by simp [beL]
theorem beL_succ (s : ByteArray) (n : Nat) : beL s (n + 1) = beL s n ++ [mOf (sB s) n] := by simp [beL, List.range_succ]
theorem beL_get (s : ByteArray) {n j : Nat} (h : j < n) : (beL s n).getD j 0 = mOf (sB s) j := by simp [beL, h]

theorem wrap_u32 (z : Int) : IntKind.u32.wrap z = z % 4294967296 := by simp [IntKind.wrap, IntKind.signed, IntKind.bits]
theorem be_word {a b c d : Int} (ha : 0 ≤ a ∧ a < 256) (hb : 0 ≤ b ∧ b < 256) (hc : 0 ≤ c ∧ c < 256) (hd : 0 ≤ d ∧ d < 256) :
    bits BinOp.or IntKind.u32 (bits BinOp.or IntKind.u32 (bits BinOp.or IntKind.u32 (IntKind.u32.wrap (IntKind.u32.wrap a * 16777216)) (IntKind.u32.wrap (IntKind.u32.wrap b * 65536))) (IntKind.u32.wrap (IntKind.u32.wrap c * 256))) (IntKind.u32.wrap d) = beI a b c d := by
  unfold beI
  simp only [wrap_u32]
  rw [show a % 4294967296 * 16777216 % 4294967296 = a * 16777216 by omega, show b % 4294967296 * 65536 % 4294967296 = b * 65536 by omega, show c % 4294967296 * 256 % 4294967296 = c * 256 by omega, show d % 4294967296 = d by omega]
theorem cell_one_at (w : World) (x : Value) (t : TypeId) (k : IntKind) (y : Int) (h : x = .int k y) : ∀ j, j < 1 → (w.alloc (.cells #[x] t)).cell? ⟨w.heap.size, j, none⟩ = some (.int k ([y].getD j 0)) := by
  intro j hj
  obtain rfl : j = 0 := by omega
  subst h
  rw [cell_of_row _ _ 0 _ _ _ (heap_alloc_new w _)]
  rfl
theorem byte_lt (s : ByteArray) (j : Nat) (h : j < s.size) : 0 ≤ (s[j].toNat : Int) ∧ (s[j].toNat : Int) < 256 := by have := s[j].toNat_lt; omega

set_option maxRecDepth 100000 in
set_option maxHeartbeats 2000000 in
theorem l2Be_any (s : ByteArray) (n : Nat) (w : World) (hs : s.size = 4 * n) (hn : n ≤ 16) :
    Calls Tryd.prog 98 #[.string s] w fun e w' => (∃ A cap, e = .returned (.slice A n cap) ∧ IOwn .u32 124 w' w.heap.size A cap (beL s n)) ∧ Below w.heap.size w w' := by
  have HS := hide hs
  have hs1 : s.size ≤ 64 := by omega
  have hs2 : 4 * n ≤ s.size := by omega
  have hs3 : s.size ≤ 4 * n := by omega
  clear hs
  go_enter Tryd.func98, Tryd.ntmps98
  go_wp2
  have O0 := hide (IOwn.built .u32 124 w w.heap.size (Nat.le_refl _))
  have B0 : Hid (Below w.heap.size w (w.alloc (.cells #[] 124))) := hide ((Below.refl w.heap.size w).alloc (Nat.le_refl _) _)
  go_loopw [3, 4] (fun ov iv wr => ∃ (k q : Nat) (A : Option Addr) (cap : Nat), k ≤ n ∧ q ≤ 4 * k ∧ 4 * k ≤ q ∧ ov = .slice A k cap ∧ iv = .int .i64 (q : Int) ∧ Hid (IOwn .u32 124 wr w.heap.size A cap (beL s k)) ∧ Hid (Below w.heap.size w wr)) (fun _ i _ => 65 - (intOf i).toNat)
  case atStart => exact ⟨0, 0, _, _, by omega, by omega, by omega, rfl, rfl, O0, B0⟩
  case round =>
    clear O0 B0
    obtain ⟨k, q, A, cap, hk, hq1, hq2, rfl, rfl, O, Q⟩ := hrel
    by_cases hlt : k < n
    · have w4 : IntKind.i64.wrap ((q : Int) + 4) = (q : Int) + 4 := by rw [IntKind.wrap_i64]; omega
      have w1 : IntKind.i64.wrap ((q : Int) + 1) = (q : Int) + 1 := by rw [IntKind.wrap_i64]; omega
      have w2 : IntKind.i64.wrap ((q : Int) + 2) = (q : Int) + 2 := by rw [IntKind.wrap_i64]; omega
      have w3 : IntKind.i64.wrap ((q : Int) + 3) = (q : Int) + 3 := by rw [IntKind.wrap_i64]; omega
      have p0 : (0 : Int) ≤ (q : Int) := by omega
      have p1 : (0 : Int) ≤ (q : Int) + 1 := by omega
      have p2 : (0 : Int) ≤ (q : Int) + 2 := by omega
      have p3 : (0 : Int) ≤ (q : Int) + 3 := by omega
      have r0 : (q : Int) < (s.size : Int) := by omega
      have r1 : (q : Int) + 1 < (s.size : Int) := by omega
      have r2 : (q : Int) + 2 < (s.size : Int) := by omega
      have r3 : (q : Int) + 3 < (s.size : Int) := by omega
      have t1 : ((q : Int) + 1).toNat = q + 1 := by omega
      have t2 : ((q : Int) + 2).toNat = q + 2 := by omega
      have t3 : ((q : Int) + 3).toNat = q + 3 := by omega
      have hle : (q : Int) + 4 ≤ (s.size : Int) := by omega
      have hsz : w.heap.size ≤ wr.heap.size := Q.out.size
      have EQ : Hid (bits BinOp.or IntKind.u32 (bits BinOp.or IntKind.u32 (bits BinOp.or IntKind.u32 (IntKind.u32.wrap (IntKind.u32.wrap (s[q].toNat : Int) * 16777216)) (IntKind.u32.wrap (IntKind.u32.wrap (s[q + 1].toNat : Int) * 65536))) (IntKind.u32.wrap (IntKind.u32.wrap (s[q + 2].toNat : Int) * 256))) (IntKind.u32.wrap (s[q + 3].toNat : Int)) = mOf (sB s) k) := hide (by
        rw [be_word (byte_lt s q (by omega)) (byte_lt s (q + 1) (by omega)) (byte_lt s (q + 2) (by omega)) (byte_lt s (q + 3) (by omega))]
        unfold mOf
        rw [show 4 * k = q by omega, sB_in (by omega), sB_in (by omega), sB_in (by omega), sB_in (by omega)])
      go_wp2
      go_region_law (refine step_iapp (k := .u32) (e := 124) (z := .int .u32 0) (nb := 4) (B := w.heap.size) (A := A) (cap := cap) (l := beL s k) (news := [mOf (sB s) k]) (g := wr.heap.size) (m := 1) (c := 1) rfl (.tmp 13) (.tmp 39) rfl Tryd.underlying122 infoU rfl (by omega) (by rw [beL_length]; rfl) rfl (by exact O.out.alloc _) rfl (by exact cell_one_at wr _ _ _ _ (congrArg (Value.int .u32) EQ.out)) (by simp; omega) (by rw [beL_length]; omega) ?_; intro A2 cap2 w' o2 g2 _; rw [beL_length])
      all_goals
        have O2 := hide o2
        have G2 := hide g2
        clear o2 g2
        go_wp2
        refine ⟨⟨k + 1, q + 4, A2, cap2, by omega, by omega, by omega, rfl, by go_num, hide ?_, hide ?_⟩, by simp [intOf]; omega⟩
        · rw [beL_succ]; exact O2.out
        · exact ((Q.out.alloc hsz _).drew).trans (IOwn.grownBelow (k := .u32) (e := 124) (cap := cap) (l := beL s k) (by exact O.out.alloc _) G2.out (by simp; omega))
    · have hgt : ¬ ((q : Int) + 4 ≤ (s.size : Int)) := by omega
      have ek : Hid (k = n) := hide (by omega)
      have w4 : IntKind.i64.wrap ((q : Int) + 4) = (q : Int) + 4 := by rw [IntKind.wrap_i64]; omega
      clear hlt
      go_wp2
      go_ret
      refine ⟨⟨A, cap, ?_, ?_⟩, Q.out⟩
      · exact congrArg (fun m => Ending.returned (Value.slice A m cap)) ek.out
      · rw [← ek.out]; exact O.out
end Go.Proofs.YtkhkcdmmagicmaaDoor
/-
  What spec.l2Pad makes of a text: its bytes are the padded text's.
-/
namespace Go.Proofs.YtkhkcdmmagicmaaDoor
open Go.RowKit

theorem sB_append (a b : ByteArray) (j : Nat) : sB (a ++ b) j = if j < a.size then sB a j else sB b (j - a.size) := by
  have hsz : (a ++ b).size = a.size + b.size := ByteArray.size_append
  unfold sB
  by_cases h : j < a.size
  · rw [if_pos h, dif_pos (by omega), dif_pos h, ByteArray.getElem_append_left h]
  · rw [if_neg h]
    by_cases h2 : j - a.size < b.size
    · rw [dif_pos (by omega), dif_pos h2, ByteArray.getElem_append_right (by omega)]
    · rw [dif_neg (by omega), dif_neg h2]
theorem sB_nums (xs : List Int) (hx : ∀ z ∈ xs, 0 ≤ z ∧ z < 256) (j : Nat) : sB (strOfNums xs) j = xs.getD j 0 := by
  have hsz := strOfNums_size xs
  unfold sB
  by_cases h : j < xs.length
  · rw [dif_pos (by omega)]
    have hm := hx xs[j] (List.getElem_mem h)
    have e : (strOfNums xs)[j]'(by omega) = UInt8.ofNat (xs[j].toNat) := by simp [strOfNums, ByteArray.getElem_eq_getElem_data]
    rw [e]
    have : (UInt8.ofNat xs[j].toNat).toNat = xs[j].toNat := by simp; omega
    rw [this]
    simp [h]
    omega
  · rw [dif_neg (by omega)]
    simp [h]

/-- the text, a byte 128, k noughts -/
def padS (s : ByteArray) : Nat → ByteArray
  | 0 => s ++ ⟨#[128]⟩
  | k + 1 => padS s k ++ ⟨#[0]⟩
theorem padS_size (s : ByteArray) : ∀ k, (padS s k).size = s.size + 1 + k
  | 0 => by show (s ++ (⟨#[128]⟩ : ByteArray)).size = _; rw [ByteArray.size_append]; rfl
  | k + 1 => by show (padS s k ++ (⟨#[0]⟩ : ByteArray)).size = _; rw [ByteArray.size_append, padS_size s k]; rfl
theorem one_byte (c : UInt8) (j : Nat) : sB ⟨#[c]⟩ j = if j = 0 then (c.toNat : Int) else 0 := by
  unfold sB
  by_cases h : j = 0
  · subst h; rfl
  · rw [if_neg h, dif_neg (by show ¬ j < 1; omega)]
theorem padS_byte (s : ByteArray) : ∀ k j, sB (padS s k) j = if j = s.size then 128 else sB s j
  | 0, j => by
    show sB (s ++ (⟨#[128]⟩ : ByteArray)) j = _
    rw [sB_append, one_byte]
    by_cases h : j = s.size
    · rw [if_pos h, if_neg (by omega), if_pos (by omega)]; rfl
    · rw [if_neg h]
      by_cases h2 : j < s.size
      · rw [if_pos h2]
      · rw [if_neg h2, if_neg (by omega)]
        unfold sB
        rw [dif_neg h2]
  | k + 1, j => by
    show sB (padS s k ++ (⟨#[0]⟩ : ByteArray)) j = _
    rw [sB_append, padS_byte s k, one_byte, padS_size]
    by_cases h2 : j < s.size + 1 + k
    · rw [if_pos h2]
    · rw [if_neg h2, if_neg (show ¬ j = s.size by omega)]
      unfold sB
      rw [dif_neg (show ¬ j < s.size by omega)]
      split <;> rfl
/-- the whole of it -/
def padT (s : ByteArray) : ByteArray := padS s (padN s.size - 9 - s.size) ++ ⟨#[0, 0, 0, 0]⟩ ++ strOfNums [(8 * s.size : Int) / 16777216 % 256, (8 * s.size : Int) / 65536 % 256, (8 * s.size : Int) / 256 % 256, (8 * s.size : Int) % 256]
theorem padT_size (s : ByteArray) : (padT s).size = padN s.size := by
  have := padN_ge s.size
  unfold padT
  rw [ByteArray.size_append, ByteArray.size_append, padS_size, strOfNums_size]
  show s.size + 1 + (padN s.size - 9 - s.size) + 4 + 4 = _
  omega
theorem padT_byte (s : ByteArray) (hs : s.size ≤ 2000) (j : Nat) (hj : j < padN s.size) : sB (padT s) j = padY s j := by
  have hN := padN_ge s.size
  unfold padT padY midP
  rw [sB_append, ByteArray.size_append, padS_size]
  show (if j < s.size + 1 + (padN s.size - 9 - s.size) + 4 then _ else sB _ (j - (s.size + 1 + (padN s.size - 9 - s.size) + 4))) = _
  by_cases h : j < padN s.size - 4
  · rw [if_pos (by omega), sB_append, padS_size, padS_byte]
    by_cases h2 : padN s.size - 8 ≤ j
    · rw [if_neg (by omega), if_pos h2]
      have hz : sB (⟨#[0, 0, 0, 0]⟩ : ByteArray) (j - (s.size + 1 + (padN s.size - 9 - s.size))) = 0 := by
        unfold sB
        split
        · rename_i hh
          have hh' : j - (s.size + 1 + (padN s.size - 9 - s.size)) < 4 := hh
          generalize j - (s.size + 1 + (padN s.size - 9 - s.size)) = i at *
          rcases (show i = 0 ∨ i = 1 ∨ i = 2 ∨ i = 3 by omega) with e | e | e | e <;> subst e <;> rfl
        · rfl
      rw [hz]
      have e4 : (256 : Int) ^ (padN s.size - 1 - j) = 4294967296 * 256 ^ (padN s.size - 5 - j) := by
        rw [show padN s.size - 1 - j = 4 + (padN s.size - 5 - j) by omega, Int.pow_add]; rfl
      have hp : (0 : Int) < 256 ^ (padN s.size - 5 - j) := Int.pow_pos (by decide)
      rw [Int.ediv_eq_zero_of_lt (by omega) (by rw [e4]; omega)]
      rfl
    · rw [if_pos (by omega), if_neg h2]
  · rw [if_neg (by omega), if_pos (by omega), sB_nums _ (by
      intro z hz
      simp only [List.mem_cons, List.not_mem_nil, or_false] at hz
      rcases hz with e | e | e | e <;> subst e <;> omega)]
    rcases (show j = padN s.size - 4 ∨ j = padN s.size - 3 ∨ j = padN s.size - 2 ∨ j = padN s.size - 1 by omega) with e | e | e | e
    · rw [show j - (s.size + 1 + (padN s.size - 9 - s.size) + 4) = 0 by omega, show padN s.size - 1 - j = 3 by omega]; rfl
    · rw [show j - (s.size + 1 + (padN s.size - 9 - s.size) + 4) = 1 by omega, show padN s.size - 1 - j = 2 by omega]; rfl
    · rw [show j - (s.size + 1 + (padN s.size - 9 - s.size) + 4) = 2 by omega, show padN s.size - 1 - j = 1 by omega]; rfl
    · rw [show j - (s.size + 1 + (padN s.size - 9 - s.size) + 4) = 3 by omega, show padN s.size - 1 - j = 0 by omega]
      show (8 * s.size : Int) % 256 = (8 * s.size : Int) / 1 % 256
      rw [Int.ediv_one]

/-- the text in a slot -/
def strOf : Value → ByteArray | .string s => s | _ => ByteArray.empty

set_option maxRecDepth 100000 in
set_option maxHeartbeats 2000000 in
theorem l2Pad_any (s : ByteArray) (w : World) (hs : s.size ≤ 2000) :
    Calls Tryd.prog 76 #[.string s] w fun e w' => e = .returned (.string (padT s)) ∧ Below w.heap.size w w' := by
  go_enter Tryd.func76, Tryd.ntmps76
  go_wp2
  have hN1 := padN_ge s.size
  have hN2 := padN_le s.size
  have hN3 : Hid (padN s.size % 64 = 0) := hide (by unfold padN; omega)
  have FIN : Hid (padT s = padS s (padN s.size - 9 - s.size) ++ ⟨#[0, 0, 0, 0]⟩ ++ strOfNums [(8 * s.size : Int) / 16777216 % 256, (8 * s.size : Int) / 65536 % 256, (8 * s.size : Int) / 256 % 256, (8 * s.size : Int) % 256]) := hide rfl
  generalize padN s.size = N at *
  go_loop [3] (fun sv => ∃ k : Nat, k + 9 + s.size ≤ N ∧ sv = .string (padS s k)) (fun v => 3000 - (strOf v).size)
  case atStart => exact ⟨0, by omega, rfl⟩
  case round =>
    obtain ⟨k, hk, rfl⟩ := hrel
    have hz := padS_size s k
    have hz1 : (padS s k).size ≤ 2072 := by omega
    have ST : Hid (padS s (k + 1) = padS s k ++ ⟨#[0]⟩) := hide rfl
    by_cases hlt : k + 9 + s.size < N
    · have ht : (((padS s k).size : Int) % 64 != 56) = true := by rw [hz, bne_iff_ne]; have := hN3.out; omega
      have HZ := hide hz
      clear hz
      go_wp2
      refine ⟨⟨k + 1, by omega, by rw [ST.out]⟩, ?_⟩
      show 3000 - (padS s k ++ (⟨#[0]⟩ : ByteArray)).size < 3000 - (padS s k).size
      rw [← ST.out, padS_size, padS_size]
      omega
    · have ht : (((padS s k).size : Int) % 64 != 56) = false := by
        rw [hz, bne_eq_false_iff_eq]; have := hN3.out; omega
      have HK : Hid (k = N - 9 - s.size) := hide (by omega)
      have HZ := hide hz
      clear hz
      have EV : Hid ((8 * s.size : Int) / 16777216 % 256 = 8 * s.size / 16777216 ∧ (8 * s.size : Int) / 65536 % 256 = 8 * s.size / 65536 ∧ (8 * s.size : Int) / 256 % 256 = 8 * s.size / 256) := hide (by omega)
      have HC := run_conv (w.alloc (.cells (([(8 * s.size : Int) / 16777216, (8 * s.size : Int) / 65536, (8 * s.size : Int) / 256, (8 * s.size : Int) % 256]).map (Value.int .u8)).toArray 5)) w.heap.size 4 [(8 * s.size : Int) / 16777216, (8 * s.size : Int) / 65536, (8 * s.size : Int) / 256, (8 * s.size : Int) % 256] 4 5 rfl (heap_alloc_new w _)
      simp only [List.map_cons, List.map_nil] at HC
      have hz2 : (padS s k ++ (⟨#[0, 0, 0, 0]⟩ : ByteArray)).size ≤ 2076 := by rw [ByteArray.size_append]; show _ + 4 ≤ _; omega
      have hz3 : (strOfNums [(8 * s.size : Int) / 16777216, (8 * s.size : Int) / 65536, (8 * s.size : Int) / 256, (8 * s.size : Int) % 256]).size ≤ 4 := by rw [strOfNums_size]; exact Nat.le_refl _
      go_wp2
      go_ret
      refine ⟨ret_str ?_, (Below.refl _ w).alloc (Nat.le_refl _) _⟩
      rw [FIN.out, ← HK.out, EV.out.1, EV.out.2.1, EV.out.2.2]
end Go.Proofs.YtkhkcdmmagicmaaDoor
/-
  Plain mathematics of the digest's steps: the state that goes up by one place, words and their bytes, a block's step on strings.
-/
namespace Go.Proofs.YtkhkcdmmagicmaaDoor
open Go.RowKit

/-- the state while its words from the last one down to i + 1 have gone up by one place -/
def shI (V : Nat → Int) (i : Nat) : Nat → Int := fun j => if i < j then V (j - 1) else V j
theorem shI_last (V : Nat → Int) : wordsA (shI V 7) 8 = wordsA V 8 := wordsA_congr fun j hj => if_neg (by omega)
theorem shI_step (V : Nat → Int) (i : Nat) (hi : 0 < i) : wordsA (shI V (i - 1)) 8 = (wordsA (shI V i) 8).setIfInBounds i (.int .u32 (V (i - 1))) := by
  rw [wordsA_set]
  refine wordsA_congr fun j hj => ?_
  unfold shI
  by_cases e : j = i
  · subst e; rw [if_pos (by omega), if_pos rfl]
  · rw [if_neg e]
    by_cases h' : i < j
    · rw [if_pos (by omega), if_pos h']
    · rw [if_neg (by omega), if_neg h']
theorem rnd_row (V : Nat → Int) (k x : Int) : wordsA (rnd V k x) 8 = ((wordsA (shI V 0) 8).setIfInBounds 4 (.int .u32 (rnd V k x 4))).setIfInBounds 0 (.int .u32 (rnd V k x 0)) := by
  rw [wordsA_set, wordsA_set]
  refine wordsA_congr fun j hj => ?_
  rcases (show j = 0 ∨ j = 1 ∨ j = 2 ∨ j = 3 ∨ j = 4 ∨ j = 5 ∨ j = 6 ∨ j = 7 by omega) with e | e | e | e | e | e | e | e <;> subst e <;> simp [rnd, shI]

/-- the bytes of the first n words -/
def bytesTo (u : Nat → Int) (n : Nat) : List Int := (List.range n).flatMap fun j => bytesI (u j)
theorem bytesTo_succ (u : Nat → Int) (n : Nat) : bytesTo u (n + 1) = bytesTo u n ++ bytesI (u n) := by simp [bytesTo, List.range_succ]
theorem bytesTo_length (u : Nat → Int) : ∀ n, (bytesTo u n).length = 4 * n
  | 0 => rfl
  | n + 1 => by rw [bytesTo_succ, List.length_append, bytesTo_length u n]; show 4 * n + 4 = _; omega
theorem bytesTo_8 (u : Nat → Int) : strOfNums (bytesTo u 8) = digB u := by
  unfold digB bytesTo
  simp [List.range, List.range.loop]

/-- four bytes, put together and taken apart again -/
theorem or_disj (a b k : Nat) (hb : b < 2 ^ k) : a * 2 ^ k ||| b = a * 2 ^ k + b := by
  rw [← Nat.shiftLeft_eq, ← Nat.shiftLeft_add_eq_or_of_lt hb]
theorem bits_or (a b : Nat) (ha : a < 4294967296) (hb : b < 4294967296) : bits BinOp.or IntKind.u32 (a : Int) (b : Int) = ((a ||| b : Nat) : Int) := by
  have h : a ||| b < 4294967296 := Nat.or_lt_two_pow (n := 32) ha hb
  unfold bits
  simp only [show IntKind.u32.bits = 32 from rfl, BitVec.ofInt_natCast, wrap_u32, BitVec.toNat_or, BitVec.toNat_ofNat]
  rw [Nat.mod_eq_of_lt (by simpa using ha), Nat.mod_eq_of_lt (by simpa using hb)]
  omega
theorem be_bytes (x : Int) (hx : isW x) : beI (x / 16777216) (x / 65536 % 256) (x / 256 % 256) (x % 256) = x := by
  obtain ⟨h0, h1⟩ := hx
  obtain ⟨n, rfl⟩ := Int.eq_ofNat_of_zero_le h0
  have hn : n < 4294967296 := by omega
  unfold beI
  have e1 : ((n : Int) / 16777216 * 16777216) = ((n / 16777216 * 2 ^ 24 : Nat) : Int) := by omega
  have e2 : ((n : Int) / 65536 % 256 * 65536) = ((n / 65536 % 256 * 2 ^ 16 : Nat) : Int) := by omega
  have e3 : ((n : Int) / 256 % 256 * 256) = ((n / 256 % 256 * 2 ^ 8 : Nat) : Int) := by omega
  have e4 : ((n : Int) % 256) = ((n % 256 : Nat) : Int) := by omega
  rw [e1, e2, e3, e4, bits_or _ _ (by omega) (by omega), or_disj _ _ 24 (by omega),
    show n / 16777216 * 2 ^ 24 + n / 65536 % 256 * 2 ^ 16 = (n / 65536) * 2 ^ 16 by omega, bits_or _ _ (by omega) (by omega), or_disj _ _ 16 (by omega),
    show n / 65536 * 2 ^ 16 + n / 256 % 256 * 2 ^ 8 = (n / 256) * 2 ^ 8 by omega, bits_or _ _ (by omega) (by omega), or_disj _ _ 8 (by omega)]
  omega
theorem bytesI_byte {x : Int} (h : isW x) : ∀ z ∈ bytesI x, 0 ≤ z ∧ z < 256 := by
  obtain ⟨h0, h1⟩ := h
  intro z hz
  simp only [bytesI, List.mem_cons, List.not_mem_nil, or_false] at hz
  rcases hz with e | e | e | e <;> subst e <;> omega
theorem bytesTo_get (u : Nat → Int) : ∀ (n j r : Nat), j < n → r < 4 → (bytesTo u n).getD (4 * j + r) 0 = (bytesI (u j)).getD r 0
  | 0, j, _, h, _ => absurd h (by omega)
  | n + 1, j, r, h, hr => by
    rw [bytesTo_succ]
    have hl := bytesTo_length u n
    by_cases hj : j < n
    · have ih := bytesTo_get u n j r hj hr
      simp only [List.getD_eq_getElem?_getD] at ih ⊢
      rw [List.getElem?_append_left (by omega)]
      exact ih
    · obtain rfl : j = n := by omega
      simp only [List.getD_eq_getElem?_getD]
      rw [List.getElem?_append_right (by omega), show 4 * j + r - (bytesTo u j).length = r by omega]
/-- the words of eight words' string are those words -/
theorem mOf_dig {u : Nat → Int} (hu : ∀ j, j < 8 → isW (u j)) (j : Nat) (hj : j < 8) : mOf (sB (digB u)) j = u j := by
  have hb : ∀ z ∈ bytesTo u 8, 0 ≤ z ∧ z < 256 := by
    intro z hz
    simp only [bytesTo, List.mem_flatMap, List.mem_range] at hz
    obtain ⟨i, hi, hz⟩ := hz
    exact bytesI_byte (hu i hi) z hz
  unfold mOf
  rw [← bytesTo_8, sB_nums _ hb, sB_nums _ hb, sB_nums _ hb, sB_nums _ hb, show 4 * j = 4 * j + 0 from rfl, bytesTo_get u 8 j 0 hj (by omega), show 4 * j + 0 + 1 = 4 * j + 1 from rfl, bytesTo_get u 8 j 1 hj (by omega), show 4 * j + 0 + 2 = 4 * j + 2 from rfl, bytesTo_get u 8 j 2 hj (by omega), show 4 * j + 0 + 3 = 4 * j + 3 from rfl, bytesTo_get u 8 j 3 hj (by omega)]
  exact be_bytes _ (hu j hj)
theorem digB_size (u : Nat → Int) : (digB u).size = 32 := by rw [← bytesTo_8, strOfNums_size, bytesTo_length]
theorem digB_congr {u u' : Nat → Int} (h : ∀ j, j < 8 → u j = u' j) : digB u = digB u' := by
  unfold digB
  rw [h 0 (by omega), h 1 (by omega), h 2 (by omega), h 3 (by omega), h 4 (by omega), h 5 (by omega), h 6 (by omega), h 7 (by omega)]
theorem sB_extract (t : ByteArray) (a b j : Nat) (hj : a + j < b) (hb : b ≤ t.size) : sB (t.extract a b) j = sB t (a + j) := by
  have hsz : (t.extract a b).size = b - a := by rw [ByteArray.size_extract]; omega
  rw [sB_in (by omega), sB_in (by omega)]
  rw [ByteArray.getElem_extract]
/-- a step on the state's string and a block of the padded text -/
theorem step_st (s : ByteArray) (hs : s.size ≤ 2000) (n : Nat) (hn : 64 * n + 64 ≤ padN s.size) :
    digB (mixI (mOf (sB (digB (stTo (padY s) n)))) (wAt (mOf (sB ((padT s).extract (64 * n) (64 * n + 64)))))) = digB (stTo (padY s) (n + 1)) := by
  refine digB_congr fun j hj => ?_
  refine mixI_congr (fun i hi => mOf_dig (stTo_word (padY s) n) i hi) (fun i hi => ?_) j hj
  have hz := padT_size s
  unfold mOf
  rw [sB_extract _ _ _ _ (by omega) (by omega), sB_extract _ _ _ _ (by omega) (by omega), sB_extract _ _ _ _ (by omega) (by omega), sB_extract _ _ _ _ (by omega) (by omega), padT_byte s hs _ (by omega), padT_byte s hs _ (by omega), padT_byte s hs _ (by omega), padT_byte s hs _ (by omega)]
theorem dig_first : (⟨#[106, 9, 230, 103, 187, 103, 174, 133, 60, 110, 243, 114, 165, 79, 245, 58, 81, 14, 82, 127, 155, 5, 104, 140, 31, 131, 217, 171, 91, 224, 205, 25]⟩ : ByteArray) = digB (fun j => fTab.getD j 0) := by decide +kernel

end Go.Proofs.YtkhkcdmmagicmaaDoor
/-
  The 64 words of the rounds: what spec.l2K gives at each place.
-/
namespace Go.Proofs.YtkhkcdmmagicmaaDoor
open Go.RowKit

set_option maxRecDepth 100000 in
theorem l2K_0 (w : World) : Calls Tryd.prog 100 #[.int .i64 0] w fun e w' => e = .returned (.int .u32 1116352408) ∧ ∃ n, w' = w.drewN n := by
  go_enter Tryd.func100, Tryd.ntmps100
  go_wp2
  go_quiet (fail)
  go_wp2
  go_ret
  exact ⟨by rfl, _, rfl⟩
set_option maxRecDepth 100000 in
theorem l2K_1 (w : World) : Calls Tryd.prog 100 #[.int .i64 1] w fun e w' => e = .returned (.int .u32 1899447441) ∧ ∃ n, w' = w.drewN n := by
  go_enter Tryd.func100, Tryd.ntmps100
  go_wp2
  go_quiet (fail)
  go_wp2
  go_ret
  exact ⟨by rfl, _, rfl⟩
set_option maxRecDepth 100000 in
theorem l2K_2 (w : World) : Calls Tryd.prog 100 #[.int .i64 2] w fun e w' => e = .returned (.int .u32 3049323471) ∧ ∃ n, w' = w.drewN n := by
  go_enter Tryd.func100, Tryd.ntmps100
  go_wp2
  go_quiet (fail)
  go_wp2
  go_ret
  exact ⟨by rfl, _, rfl⟩
set_option maxRecDepth 100000 in
theorem l2K_3 (w : World) : Calls Tryd.prog 100 #[.int .i64 3] w fun e w' => e = .returned (.int .u32 3921009573) ∧ ∃ n, w' = w.drewN n := by
  go_enter Tryd.func100, Tryd.ntmps100
  go_wp2
  go_quiet (fail)
  go_wp2
  go_ret
  exact ⟨by rfl, _, rfl⟩
set_option maxRecDepth 100000 in
theorem l2K_4 (w : World) : Calls Tryd.prog 100 #[.int .i64 4] w fun e w' => e = .returned (.int .u32 961987163) ∧ ∃ n, w' = w.drewN n := by
  go_enter Tryd.func100, Tryd.ntmps100
  go_wp2
  go_quiet (fail)
  go_wp2
  go_ret
  exact ⟨by rfl, _, rfl⟩
set_option maxRecDepth 100000 in
theorem l2K_5 (w : World) : Calls Tryd.prog 100 #[.int .i64 5] w fun e w' => e = .returned (.int .u32 1508970993) ∧ ∃ n, w' = w.drewN n := by
  go_enter Tryd.func100, Tryd.ntmps100
  go_wp2
  go_quiet (fail)
  go_wp2
  go_ret
  exact ⟨by rfl, _, rfl⟩
set_option maxRecDepth 100000 in
theorem l2K_6 (w : World) : Calls Tryd.prog 100 #[.int .i64 6] w fun e w' => e = .returned (.int .u32 2453635748) ∧ ∃ n, w' = w.drewN n := by
  go_enter Tryd.func100, Tryd.ntmps100
  go_wp2
  go_quiet (fail)
  go_wp2
  go_ret
  exact ⟨by rfl, _, rfl⟩
set_option maxRecDepth 100000 in
theorem l2K_7 (w : World) : Calls Tryd.prog 100 #[.int .i64 7] w fun e w' => e = .returned (.int .u32 2870763221) ∧ ∃ n, w' = w.drewN n := by
  go_enter Tryd.func100, Tryd.ntmps100
  go_wp2
  go_quiet (fail)
  go_wp2
  go_ret
  exact ⟨by rfl, _, rfl⟩
set_option maxRecDepth 100000 in
theorem l2K_8 (w : World) : Calls Tryd.prog 100 #[.int .i64 8] w fun e w' => e = .returned (.int .u32 3624381080) ∧ ∃ n, w' = w.drewN n := by
  go_enter Tryd.func100, Tryd.ntmps100
  go_wp2
  go_quiet (fail)
  go_wp2
  go_ret
  exact ⟨by rfl, _, rfl⟩
set_option maxRecDepth 100000 in
theorem l2K_9 (w : World) : Calls Tryd.prog 100 #[.int .i64 9] w fun e w' => e = .returned (.int .u32 310598401) ∧ ∃ n, w' = w.drewN n := by
  go_enter Tryd.func100, Tryd.ntmps100
  go_wp2
  go_quiet (fail)
  go_wp2
  go_ret
  exact ⟨by rfl, _, rfl⟩
set_option maxRecDepth 100000 in
theorem l2K_10 (w : World) : Calls Tryd.prog 100 #[.int .i64 10] w fun e w' => e = .returned (.int .u32 607225278) ∧ ∃ n, w' = w.drewN n := by
  go_enter Tryd.func100, Tryd.ntmps100
  go_wp2
  go_quiet (fail)
  go_wp2
  go_ret
  exact ⟨by rfl, _, rfl⟩
set_option maxRecDepth 100000 in
theorem l2K_11 (w : World) : Calls Tryd.prog 100 #[.int .i64 11] w fun e w' => e = .returned (.int .u32 1426881987) ∧ ∃ n, w' = w.drewN n := by
  go_enter Tryd.func100, Tryd.ntmps100
  go_wp2
  go_quiet (fail)
  go_wp2
  go_ret
  exact ⟨by rfl, _, rfl⟩
set_option maxRecDepth 100000 in
theorem l2K_12 (w : World) : Calls Tryd.prog 100 #[.int .i64 12] w fun e w' => e = .returned (.int .u32 1925078388) ∧ ∃ n, w' = w.drewN n := by
  go_enter Tryd.func100, Tryd.ntmps100
  go_wp2
  go_quiet (fail)
  go_wp2
  go_ret
  exact ⟨by rfl, _, rfl⟩
set_option maxRecDepth 100000 in
theorem l2K_13 (w : World) : Calls Tryd.prog 100 #[.int .i64 13] w fun e w' => e = .returned (.int .u32 2162078206) ∧ ∃ n, w' = w.drewN n := by
  go_enter Tryd.func100, Tryd.ntmps100
  go_wp2
  go_quiet (fail)
  go_wp2
  go_ret
  exact ⟨by rfl, _, rfl⟩
set_option maxRecDepth 100000 in
theorem l2K_14 (w : World) : Calls Tryd.prog 100 #[.int .i64 14] w fun e w' => e = .returned (.int .u32 2614888103) ∧ ∃ n, w' = w.drewN n := by
  go_enter Tryd.func100, Tryd.ntmps100
  go_wp2
  go_quiet (fail)
  go_wp2
  go_ret
  exact ⟨by rfl, _, rfl⟩
set_option maxRecDepth 100000 in
theorem l2K_15 (w : World) : Calls Tryd.prog 100 #[.int .i64 15] w fun e w' => e = .returned (.int .u32 3248222580) ∧ ∃ n, w' = w.drewN n := by
  go_enter Tryd.func100, Tryd.ntmps100
  go_wp2
  go_quiet (fail)
  go_wp2
  go_ret
  exact ⟨by rfl, _, rfl⟩
set_option maxRecDepth 100000 in
theorem l2K_16 (w : World) : Calls Tryd.prog 100 #[.int .i64 16] w fun e w' => e = .returned (.int .u32 3835390401) ∧ ∃ n, w' = w.drewN n := by
  go_enter Tryd.func100, Tryd.ntmps100
  go_wp2
  go_quiet (fail)
  go_wp2
  go_ret
  exact ⟨by rfl, _, rfl⟩
set_option maxRecDepth 100000 in
theorem l2K_17 (w : World) : Calls Tryd.prog 100 #[.int .i64 17] w fun e w' => e = .returned (.int .u32 4022224774) ∧ ∃ n, w' = w.drewN n := by
  go_enter Tryd.func100, Tryd.ntmps100
  go_wp2
  go_quiet (fail)
  go_wp2
  go_ret
  exact ⟨by rfl, _, rfl⟩
set_option maxRecDepth 100000 in
theorem l2K_18 (w : World) : Calls Tryd.prog 100 #[.int .i64 18] w fun e w' => e = .returned (.int .u32 264347078) ∧ ∃ n, w' = w.drewN n := by
  go_enter Tryd.func100, Tryd.ntmps100
  go_wp2
  go_quiet (fail)
  go_wp2
  go_ret
  exact ⟨by rfl, _, rfl⟩
set_option maxRecDepth 100000 in
theorem l2K_19 (w : World) : Calls Tryd.prog 100 #[.int .i64 19] w fun e w' => e = .returned (.int .u32 604807628) ∧ ∃ n, w' = w.drewN n := by
  go_enter Tryd.func100, Tryd.ntmps100
  go_wp2
  go_quiet (fail)
  go_wp2
  go_ret
  exact ⟨by rfl, _, rfl⟩
set_option maxRecDepth 100000 in
theorem l2K_20 (w : World) : Calls Tryd.prog 100 #[.int .i64 20] w fun e w' => e = .returned (.int .u32 770255983) ∧ ∃ n, w' = w.drewN n := by
  go_enter Tryd.func100, Tryd.ntmps100
  go_wp2
  go_quiet (fail)
  go_wp2
  go_ret
  exact ⟨by rfl, _, rfl⟩
set_option maxRecDepth 100000 in
theorem l2K_21 (w : World) : Calls Tryd.prog 100 #[.int .i64 21] w fun e w' => e = .returned (.int .u32 1249150122) ∧ ∃ n, w' = w.drewN n := by
  go_enter Tryd.func100, Tryd.ntmps100
  go_wp2
  go_quiet (fail)
  go_wp2
  go_ret
  exact ⟨by rfl, _, rfl⟩
set_option maxRecDepth 100000 in
theorem l2K_22 (w : World) : Calls Tryd.prog 100 #[.int .i64 22] w fun e w' => e = .returned (.int .u32 1555081692) ∧ ∃ n, w' = w.drewN n := by
  go_enter Tryd.func100, Tryd.ntmps100
  go_wp2
  go_quiet (fail)
  go_wp2
  go_ret
  exact ⟨by rfl, _, rfl⟩
set_option maxRecDepth 100000 in
theorem l2K_23 (w : World) : Calls Tryd.prog 100 #[.int .i64 23] w fun e w' => e = .returned (.int .u32 1996064986) ∧ ∃ n, w' = w.drewN n := by
  go_enter Tryd.func100, Tryd.ntmps100
  go_wp2
  go_quiet (fail)
  go_wp2
  go_ret
  exact ⟨by rfl, _, rfl⟩
set_option maxRecDepth 100000 in
theorem l2K_24 (w : World) : Calls Tryd.prog 100 #[.int .i64 24] w fun e w' => e = .returned (.int .u32 2554220882) ∧ ∃ n, w' = w.drewN n := by
  go_enter Tryd.func100, Tryd.ntmps100
  go_wp2
  go_quiet (fail)
  go_wp2
  go_ret
  exact ⟨by rfl, _, rfl⟩
set_option maxRecDepth 100000 in
theorem l2K_25 (w : World) : Calls Tryd.prog 100 #[.int .i64 25] w fun e w' => e = .returned (.int .u32 2821834349) ∧ ∃ n, w' = w.drewN n := by
  go_enter Tryd.func100, Tryd.ntmps100
  go_wp2
  go_quiet (fail)
  go_wp2
  go_ret
  exact ⟨by rfl, _, rfl⟩
set_option maxRecDepth 100000 in
theorem l2K_26 (w : World) : Calls Tryd.prog 100 #[.int .i64 26] w fun e w' => e = .returned (.int .u32 2952996808) ∧ ∃ n, w' = w.drewN n := by
  go_enter Tryd.func100, Tryd.ntmps100
  go_wp2
  go_quiet (fail)
  go_wp2
  go_ret
  exact ⟨by rfl, _, rfl⟩
set_option maxRecDepth 100000 in
theorem l2K_27 (w : World) : Calls Tryd.prog 100 #[.int .i64 27] w fun e w' => e = .returned (.int .u32 3210313671) ∧ ∃ n, w' = w.drewN n := by
  go_enter Tryd.func100, Tryd.ntmps100
  go_wp2
  go_quiet (fail)
  go_wp2
  go_ret
  exact ⟨by rfl, _, rfl⟩
set_option maxRecDepth 100000 in
theorem l2K_28 (w : World) : Calls Tryd.prog 100 #[.int .i64 28] w fun e w' => e = .returned (.int .u32 3336571891) ∧ ∃ n, w' = w.drewN n := by
  go_enter Tryd.func100, Tryd.ntmps100
  go_wp2
  go_quiet (fail)
  go_wp2
  go_ret
  exact ⟨by rfl, _, rfl⟩
set_option maxRecDepth 100000 in
theorem l2K_29 (w : World) : Calls Tryd.prog 100 #[.int .i64 29] w fun e w' => e = .returned (.int .u32 3584528711) ∧ ∃ n, w' = w.drewN n := by
  go_enter Tryd.func100, Tryd.ntmps100
  go_wp2
  go_quiet (fail)
  go_wp2
  go_ret
  exact ⟨by rfl, _, rfl⟩
set_option maxRecDepth 100000 in
theorem l2K_30 (w : World) : Calls Tryd.prog 100 #[.int .i64 30] w fun e w' => e = .returned (.int .u32 113926993) ∧ ∃ n, w' = w.drewN n := by
  go_enter Tryd.func100, Tryd.ntmps100
  go_wp2
  go_quiet (fail)
  go_wp2
  go_ret
  exact ⟨by rfl, _, rfl⟩
set_option maxRecDepth 100000 in
theorem l2K_31 (w : World) : Calls Tryd.prog 100 #[.int .i64 31] w fun e w' => e = .returned (.int .u32 338241895) ∧ ∃ n, w' = w.drewN n := by
  go_enter Tryd.func100, Tryd.ntmps100
  go_wp2
  go_quiet (fail)
  go_wp2
  go_ret
  exact ⟨by rfl, _, rfl⟩
set_option maxRecDepth 100000 in
theorem l2K_32 (w : World) : Calls Tryd.prog 100 #[.int .i64 32] w fun e w' => e = .returned (.int .u32 666307205) ∧ ∃ n, w' = w.drewN n := by
  go_enter Tryd.func100, Tryd.ntmps100
  go_wp2
  go_quiet (fail)
  go_wp2
  go_ret
  exact ⟨by rfl, _, rfl⟩
set_option maxRecDepth 100000 in
theorem l2K_33 (w : World) : Calls Tryd.prog 100 #[.int .i64 33] w fun e w' => e = .returned (.int .u32 773529912) ∧ ∃ n, w' = w.drewN n := by
  go_enter Tryd.func100, Tryd.ntmps100
  go_wp2
  go_quiet (fail)
  go_wp2
  go_ret
  exact ⟨by rfl, _, rfl⟩
set_option maxRecDepth 100000 in
theorem l2K_34 (w : World) : Calls Tryd.prog 100 #[.int .i64 34] w fun e w' => e = .returned (.int .u32 1294757372) ∧ ∃ n, w' = w.drewN n := by
  go_enter Tryd.func100, Tryd.ntmps100
  go_wp2
  go_quiet (fail)
  go_wp2
  go_ret
  exact ⟨by rfl, _, rfl⟩
set_option maxRecDepth 100000 in
theorem l2K_35 (w : World) : Calls Tryd.prog 100 #[.int .i64 35] w fun e w' => e = .returned (.int .u32 1396182291) ∧ ∃ n, w' = w.drewN n := by
  go_enter Tryd.func100, Tryd.ntmps100
  go_wp2
  go_quiet (fail)
  go_wp2
  go_ret
  exact ⟨by rfl, _, rfl⟩
set_option maxRecDepth 100000 in
theorem l2K_36 (w : World) : Calls Tryd.prog 100 #[.int .i64 36] w fun e w' => e = .returned (.int .u32 1695183700) ∧ ∃ n, w' = w.drewN n := by
  go_enter Tryd.func100, Tryd.ntmps100
  go_wp2
  go_quiet (fail)
  go_wp2
  go_ret
  exact ⟨by rfl, _, rfl⟩
set_option maxRecDepth 100000 in
theorem l2K_37 (w : World) : Calls Tryd.prog 100 #[.int .i64 37] w fun e w' => e = .returned (.int .u32 1986661051) ∧ ∃ n, w' = w.drewN n := by
  go_enter Tryd.func100, Tryd.ntmps100
  go_wp2
  go_quiet (fail)
  go_wp2
  go_ret
  exact ⟨by rfl, _, rfl⟩
set_option maxRecDepth 100000 in
theorem l2K_38 (w : World) : Calls Tryd.prog 100 #[.int .i64 38] w fun e w' => e = .returned (.int .u32 2177026350) ∧ ∃ n, w' = w.drewN n := by
  go_enter Tryd.func100, Tryd.ntmps100
  go_wp2
  go_quiet (fail)
  go_wp2
  go_ret
  exact ⟨by rfl, _, rfl⟩
set_option maxRecDepth 100000 in
theorem l2K_39 (w : World) : Calls Tryd.prog 100 #[.int .i64 39] w fun e w' => e = .returned (.int .u32 2456956037) ∧ ∃ n, w' = w.drewN n := by
  go_enter Tryd.func100, Tryd.ntmps100
  go_wp2
  go_quiet (fail)
  go_wp2
  go_ret
  exact ⟨by rfl, _, rfl⟩
set_option maxRecDepth 100000 in
theorem l2K_40 (w : World) : Calls Tryd.prog 100 #[.int .i64 40] w fun e w' => e = .returned (.int .u32 2730485921) ∧ ∃ n, w' = w.drewN n := by
  go_enter Tryd.func100, Tryd.ntmps100
  go_wp2
  go_quiet (fail)
  go_wp2
  go_ret
  exact ⟨by rfl, _, rfl⟩
set_option maxRecDepth 100000 in
theorem l2K_41 (w : World) : Calls Tryd.prog 100 #[.int .i64 41] w fun e w' => e = .returned (.int .u32 2820302411) ∧ ∃ n, w' = w.drewN n := by
  go_enter Tryd.func100, Tryd.ntmps100
  go_wp2
  go_quiet (fail)
  go_wp2
  go_ret
  exact ⟨by rfl, _, rfl⟩
set_option maxRecDepth 100000 in
theorem l2K_42 (w : World) : Calls Tryd.prog 100 #[.int .i64 42] w fun e w' => e = .returned (.int .u32 3259730800) ∧ ∃ n, w' = w.drewN n := by
  go_enter Tryd.func100, Tryd.ntmps100
  go_wp2
  go_quiet (fail)
  go_wp2
  go_ret
  exact ⟨by rfl, _, rfl⟩
set_option maxRecDepth 100000 in
theorem l2K_43 (w : World) : Calls Tryd.prog 100 #[.int .i64 43] w fun e w' => e = .returned (.int .u32 3345764771) ∧ ∃ n, w' = w.drewN n := by
  go_enter Tryd.func100, Tryd.ntmps100
  go_wp2
  go_quiet (fail)
  go_wp2
  go_ret
  exact ⟨by rfl, _, rfl⟩
set_option maxRecDepth 100000 in
theorem l2K_44 (w : World) : Calls Tryd.prog 100 #[.int .i64 44] w fun e w' => e = .returned (.int .u32 3516065817) ∧ ∃ n, w' = w.drewN n := by
  go_enter Tryd.func100, Tryd.ntmps100
  go_wp2
  go_quiet (fail)
  go_wp2
  go_ret
  exact ⟨by rfl, _, rfl⟩
set_option maxRecDepth 100000 in
theorem l2K_45 (w : World) : Calls Tryd.prog 100 #[.int .i64 45] w fun e w' => e = .returned (.int .u32 3600352804) ∧ ∃ n, w' = w.drewN n := by
  go_enter Tryd.func100, Tryd.ntmps100
  go_wp2
  go_quiet (fail)
  go_wp2
  go_ret
  exact ⟨by rfl, _, rfl⟩
set_option maxRecDepth 100000 in
theorem l2K_46 (w : World) : Calls Tryd.prog 100 #[.int .i64 46] w fun e w' => e = .returned (.int .u32 4094571909) ∧ ∃ n, w' = w.drewN n := by
  go_enter Tryd.func100, Tryd.ntmps100
  go_wp2
  go_quiet (fail)
  go_wp2
  go_ret
  exact ⟨by rfl, _, rfl⟩
set_option maxRecDepth 100000 in
theorem l2K_47 (w : World) : Calls Tryd.prog 100 #[.int .i64 47] w fun e w' => e = .returned (.int .u32 275423344) ∧ ∃ n, w' = w.drewN n := by
  go_enter Tryd.func100, Tryd.ntmps100
  go_wp2
  go_quiet (fail)
  go_wp2
  go_ret
  exact ⟨by rfl, _, rfl⟩
set_option maxRecDepth 100000 in
theorem l2K_48 (w : World) : Calls Tryd.prog 100 #[.int .i64 48] w fun e w' => e = .returned (.int .u32 430227734) ∧ ∃ n, w' = w.drewN n := by
  go_enter Tryd.func100, Tryd.ntmps100
  go_wp2
  go_quiet (fail)
  go_wp2
  go_ret
  exact ⟨by rfl, _, rfl⟩
set_option maxRecDepth 100000 in
theorem l2K_49 (w : World) : Calls Tryd.prog 100 #[.int .i64 49] w fun e w' => e = .returned (.int .u32 506948616) ∧ ∃ n, w' = w.drewN n := by
  go_enter Tryd.func100, Tryd.ntmps100
  go_wp2
  go_quiet (fail)
  go_wp2
  go_ret
  exact ⟨by rfl, _, rfl⟩
set_option maxRecDepth 100000 in
theorem l2K_50 (w : World) : Calls Tryd.prog 100 #[.int .i64 50] w fun e w' => e = .returned (.int .u32 659060556) ∧ ∃ n, w' = w.drewN n := by
  go_enter Tryd.func100, Tryd.ntmps100
  go_wp2
  go_quiet (fail)
  go_wp2
  go_ret
  exact ⟨by rfl, _, rfl⟩
set_option maxRecDepth 100000 in
theorem l2K_51 (w : World) : Calls Tryd.prog 100 #[.int .i64 51] w fun e w' => e = .returned (.int .u32 883997877) ∧ ∃ n, w' = w.drewN n := by
  go_enter Tryd.func100, Tryd.ntmps100
  go_wp2
  go_quiet (fail)
  go_wp2
  go_ret
  exact ⟨by rfl, _, rfl⟩
set_option maxRecDepth 100000 in
theorem l2K_52 (w : World) : Calls Tryd.prog 100 #[.int .i64 52] w fun e w' => e = .returned (.int .u32 958139571) ∧ ∃ n, w' = w.drewN n := by
  go_enter Tryd.func100, Tryd.ntmps100
  go_wp2
  go_quiet (fail)
  go_wp2
  go_ret
  exact ⟨by rfl, _, rfl⟩
set_option maxRecDepth 100000 in
theorem l2K_53 (w : World) : Calls Tryd.prog 100 #[.int .i64 53] w fun e w' => e = .returned (.int .u32 1322822218) ∧ ∃ n, w' = w.drewN n := by
  go_enter Tryd.func100, Tryd.ntmps100
  go_wp2
  go_quiet (fail)
  go_wp2
  go_ret
  exact ⟨by rfl, _, rfl⟩
set_option maxRecDepth 100000 in
theorem l2K_54 (w : World) : Calls Tryd.prog 100 #[.int .i64 54] w fun e w' => e = .returned (.int .u32 1537002063) ∧ ∃ n, w' = w.drewN n := by
  go_enter Tryd.func100, Tryd.ntmps100
  go_wp2
  go_quiet (fail)
  go_wp2
  go_ret
  exact ⟨by rfl, _, rfl⟩
set_option maxRecDepth 100000 in
theorem l2K_55 (w : World) : Calls Tryd.prog 100 #[.int .i64 55] w fun e w' => e = .returned (.int .u32 1747873779) ∧ ∃ n, w' = w.drewN n := by
  go_enter Tryd.func100, Tryd.ntmps100
  go_wp2
  go_quiet (fail)
  go_wp2
  go_ret
  exact ⟨by rfl, _, rfl⟩
set_option maxRecDepth 100000 in
theorem l2K_56 (w : World) : Calls Tryd.prog 100 #[.int .i64 56] w fun e w' => e = .returned (.int .u32 1955562222) ∧ ∃ n, w' = w.drewN n := by
  go_enter Tryd.func100, Tryd.ntmps100
  go_wp2
  go_quiet (fail)
  go_wp2
  go_ret
  exact ⟨by rfl, _, rfl⟩
set_option maxRecDepth 100000 in
theorem l2K_57 (w : World) : Calls Tryd.prog 100 #[.int .i64 57] w fun e w' => e = .returned (.int .u32 2024104815) ∧ ∃ n, w' = w.drewN n := by
  go_enter Tryd.func100, Tryd.ntmps100
  go_wp2
  go_quiet (fail)
  go_wp2
  go_ret
  exact ⟨by rfl, _, rfl⟩
set_option maxRecDepth 100000 in
theorem l2K_58 (w : World) : Calls Tryd.prog 100 #[.int .i64 58] w fun e w' => e = .returned (.int .u32 2227730452) ∧ ∃ n, w' = w.drewN n := by
  go_enter Tryd.func100, Tryd.ntmps100
  go_wp2
  go_quiet (fail)
  go_wp2
  go_ret
  exact ⟨by rfl, _, rfl⟩
set_option maxRecDepth 100000 in
theorem l2K_59 (w : World) : Calls Tryd.prog 100 #[.int .i64 59] w fun e w' => e = .returned (.int .u32 2361852424) ∧ ∃ n, w' = w.drewN n := by
  go_enter Tryd.func100, Tryd.ntmps100
  go_wp2
  go_quiet (fail)
  go_wp2
  go_ret
  exact ⟨by rfl, _, rfl⟩
set_option maxRecDepth 100000 in
theorem l2K_60 (w : World) : Calls Tryd.prog 100 #[.int .i64 60] w fun e w' => e = .returned (.int .u32 2428436474) ∧ ∃ n, w' = w.drewN n := by
  go_enter Tryd.func100, Tryd.ntmps100
  go_wp2
  go_quiet (fail)
  go_wp2
  go_ret
  exact ⟨by rfl, _, rfl⟩
set_option maxRecDepth 100000 in
theorem l2K_61 (w : World) : Calls Tryd.prog 100 #[.int .i64 61] w fun e w' => e = .returned (.int .u32 2756734187) ∧ ∃ n, w' = w.drewN n := by
  go_enter Tryd.func100, Tryd.ntmps100
  go_wp2
  go_quiet (fail)
  go_wp2
  go_ret
  exact ⟨by rfl, _, rfl⟩
set_option maxRecDepth 100000 in
theorem l2K_62 (w : World) : Calls Tryd.prog 100 #[.int .i64 62] w fun e w' => e = .returned (.int .u32 3204031479) ∧ ∃ n, w' = w.drewN n := by
  go_enter Tryd.func100, Tryd.ntmps100
  go_wp2
  go_quiet (fail)
  go_wp2
  go_ret
  exact ⟨by rfl, _, rfl⟩
set_option maxRecDepth 100000 in
theorem l2K_63 (w : World) : Calls Tryd.prog 100 #[.int .i64 63] w fun e w' => e = .returned (.int .u32 3329325298) ∧ ∃ n, w' = w.drewN n := by
  go_enter Tryd.func100, Tryd.ntmps100
  go_wp2
  go_quiet (fail)
  go_wp2
  go_ret
  exact ⟨by rfl, _, rfl⟩
theorem l2K_any : ∀ (i : Nat) (_ : i < 64) (w : World), Calls Tryd.prog 100 #[.int .i64 i] w fun e w' => e = .returned (.int .u32 (ksI i)) ∧ ∃ n, w' = w.drewN n
  | 0, _, w => l2K_0 w
  | 1, _, w => l2K_1 w
  | 2, _, w => l2K_2 w
  | 3, _, w => l2K_3 w
  | 4, _, w => l2K_4 w
  | 5, _, w => l2K_5 w
  | 6, _, w => l2K_6 w
  | 7, _, w => l2K_7 w
  | 8, _, w => l2K_8 w
  | 9, _, w => l2K_9 w
  | 10, _, w => l2K_10 w
  | 11, _, w => l2K_11 w
  | 12, _, w => l2K_12 w
  | 13, _, w => l2K_13 w
  | 14, _, w => l2K_14 w
  | 15, _, w => l2K_15 w
  | 16, _, w => l2K_16 w
  | 17, _, w => l2K_17 w
  | 18, _, w => l2K_18 w
  | 19, _, w => l2K_19 w
  | 20, _, w => l2K_20 w
  | 21, _, w => l2K_21 w
  | 22, _, w => l2K_22 w
  | 23, _, w => l2K_23 w
  | 24, _, w => l2K_24 w
  | 25, _, w => l2K_25 w
  | 26, _, w => l2K_26 w
  | 27, _, w => l2K_27 w
  | 28, _, w => l2K_28 w
  | 29, _, w => l2K_29 w
  | 30, _, w => l2K_30 w
  | 31, _, w => l2K_31 w
  | 32, _, w => l2K_32 w
  | 33, _, w => l2K_33 w
  | 34, _, w => l2K_34 w
  | 35, _, w => l2K_35 w
  | 36, _, w => l2K_36 w
  | 37, _, w => l2K_37 w
  | 38, _, w => l2K_38 w
  | 39, _, w => l2K_39 w
  | 40, _, w => l2K_40 w
  | 41, _, w => l2K_41 w
  | 42, _, w => l2K_42 w
  | 43, _, w => l2K_43 w
  | 44, _, w => l2K_44 w
  | 45, _, w => l2K_45 w
  | 46, _, w => l2K_46 w
  | 47, _, w => l2K_47 w
  | 48, _, w => l2K_48 w
  | 49, _, w => l2K_49 w
  | 50, _, w => l2K_50 w
  | 51, _, w => l2K_51 w
  | 52, _, w => l2K_52 w
  | 53, _, w => l2K_53 w
  | 54, _, w => l2K_54 w
  | 55, _, w => l2K_55 w
  | 56, _, w => l2K_56 w
  | 57, _, w => l2K_57 w
  | 58, _, w => l2K_58 w
  | 59, _, w => l2K_59 w
  | 60, _, w => l2K_60 w
  | 61, _, w => l2K_61 w
  | 62, _, w => l2K_62 w
  | 63, _, w => l2K_63 w
  | n + 64, h, _ => absurd h (by omega)
theorem ksI_word : ∀ i : Fin 64, 0 ≤ ksI i.val ∧ ksI i.val < 4294967296 := by decide
end Go.Proofs.YtkhkcdmmagicmaaDoor
/-
  What spec.l2Step makes of a state and a block.
-/
namespace Go.Proofs.YtkhkcdmmagicmaaDoor
open Go.RowKit

theorem built64 : Tryd.prog.built 125 [] = some (wordsA (fun _ => 0) 64) := by kernel_rfl
theorem built8 : Tryd.prog.built 127 [] = some (wordsA (fun _ => 0) 8) := by kernel_rfl

theorem wpList_zeros {t : TypeId} {n : Nat} (hb : Tryd.prog.built t [] = some (wordsA (fun _ => 0) n)) {ops : Array Oper} {rest : List Oper} {o : Oper} {a : Act} {w : World} {Q : Exit → Act → World → Prop} (hg : o.guard = none) (ho : o.op = .build t #[])
    (h : wpList Tryd.prog ops Q rest (a.put o.dst (.agg (wordsA (fun _ => 0) n))) w) : wpList Tryd.prog ops Q (o :: rest) a w := by
  refine wpList_build hg t #[] ho ?_ ?_
  · simp [hb]
  · simpa [hb] using h
/-- a whole array stored into the block that was made last; what is left of the world is a letter -/
theorem wpList_store_abs {P : Program} {ops : Array Oper} {rest : List Oper} {o : Oper} {a : Act} {w2 : World} {Q : Exit → Act → World → Prop} (hgd : o.guard = none) (ty : TypeId) (x y : Operand) (ho : o.op = .store ty x y)
    (cells : Array Value) {t : TypeId} {old : Array Value} (hx : a.eval x = .pointer (some ⟨w2.heap.size, 0, none⟩)) (hy : a.eval y = .agg cells) (hi : (P.info? ty).map (·.size) = some cells.size)
    (hold : old.size = cells.size) (h1 : cells.all (·.oneCell') = true)
    (h : ∀ w3 : World, w3.heap[w2.heap.size]? = some (.cells cells t (0, 0)) → Below w2.heap.size w2 w3 → wpList P ops Q rest (a.put o.dst undef) w3) : wpList P ops Q (o :: rest) a (w2.alloc (.cells old t)) :=
  wpList_store_row hgd ty x y ho w2.heap.size cells hx hy t old (heap_alloc_new w2 _) hi hold h1 (h _ (setRow_heap _ _ _ _ _ _ (heap_alloc_new w2 _)) (Below.setRow ((Below.refl _ w2).alloc (Nat.le_refl _) _) (Nat.le_refl _) _))

theorem cell_four_at (w : World) (x : Int) (t : TypeId) : ∀ j, j < 4 → (w.alloc (.cells #[.int .u8 (x / 16777216), .int .u8 (x / 65536 % 256), .int .u8 (x / 256 % 256), .int .u8 (x % 256)] t)).cell? ⟨w.heap.size, j, none⟩ = some (.int .u8 ((bytesI x).getD j 0)) := by
  intro j hj
  rw [cell_of_row _ _ j _ _ _ (heap_alloc_new w _)]
  rcases (show j = 0 ∨ j = 1 ∨ j = 2 ∨ j = 3 by omega) with e | e | e | e <;> subst e <;> rfl
theorem set2_eq {t : TypeId} {fr : Nat × Nat} (A : Array Value) {a a' b b' : Int} (h : a = a') (h' : b = b') :
    some (Obj.cells ((A.setIfInBounds 4 (.int .u32 a)).setIfInBounds 0 (.int .u32 b)) t fr) = some (Obj.cells ((A.setIfInBounds 4 (.int .u32 a')).setIfInBounds 0 (.int .u32 b')) t fr) := by rw [h, h']

set_option maxRecDepth 100000 in
set_option maxHeartbeats 20000000 in
theorem l2Step_any (st bl : ByteArray) (w : World) (hs : st.size = 32) (hb : bl.size = 64) :
    Calls Tryd.prog 77 #[.string st, .string bl] w fun e w' => e = .returned (.string (digB (mixI (mOf (sB st)) (wAt (mOf (sB bl)))))) ∧ Below w.heap.size w w' := by
  have HS := hide hs
  have HB := hide hb
  clear hs hb
  go_enter Tryd.func77, Tryd.ntmps77
  go_wp2_with fail
  refine (l2Be_any st 8 _ HS.out (by omega)).mono ?_
  rintro e w1 ⟨⟨A1, cap1, rfl, o1⟩, b1⟩
  have B1 := hide b1
  obtain ⟨g1, rfl, hg1, hg1', k1⟩ := o1.cell (by rw [beL_length]; omega)
  rw [beL_length] at k1
  have K1 := hide k1
  clear b1 o1 k1
  go_wp2_with fail
  refine (l2Be_any bl 16 _ HB.out (by omega)).mono ?_
  rintro e w2 ⟨⟨A2, cap2, rfl, o2⟩, b2⟩
  have B2 := hide b2
  obtain ⟨g2, rfl, hg2, hg2', k2⟩ := o2.cell (by rw [beL_length]; omega)
  rw [beL_length] at k2
  have C2 : Hid (At w2 g2 16 (mOf (sB bl))) := hide fun j hj => by rw [k2 j hj, beL_get bl hj]
  have C1 : Hid (At w2 g1 8 (mOf (sB st))) := hide fun j hj => by rw [(B2.out.cell (p := ⟨g1, j, none⟩) hg1'), K1.out j hj, beL_get st hj]
  have sz2 := B2.out.size
  have BB : Hid (Below w.heap.size w w2) := hide (B1.out.trans (B2.out.mono (by have := B1.out.size; omega)))
  clear o2 k2 K1 b2 B1 B2
  have WD : Hid (∀ j, isW (wAt (mOf (sB bl)) j)) := hide (wAt_word fun j _ => or_word _ _)
  have WV : Hid (∀ j, isW (mOf (sB st) j)) := hide fun j => or_word _ _
  generalize hve : mOf (sB st) = v at *
  generalize hme : mOf (sB bl) = m at *
  have HVE := hide hve
  have HME := hide hme
  clear hve hme
  go_wp2_with (first
    | (refine wpList_zeros built64 rfl rfl ?_)
    | (refine wpList_store_abs rfl 125 _ _ rfl (wordsA (fun _ => 0) 64) rfl rfl (by rw [wordsA_size]; kernel_rfl) (by rw [wordsA_size]; kernel_rfl) (wordsA_one _ _) ?_; intro w3 r3 b3))
  have R3 := hide r3
  have B3 := hide b3
  clear r3 b3
  have H0 : Hid (Arr w3 w2.heap.size 125 (wAt m) 0) := hide (Arr.zero _ R3.out (wordsA_size _ _))
  go_loopw [8] (fun iv wr => ∃ k : Nat, k ≤ 64 ∧ iv = .int .i64 k ∧ Hid (Arr wr w2.heap.size 125 (wAt m) k) ∧ Hid (Below w2.heap.size w2 wr)) (fun i _ => 64 - (intOf i).toNat)
  case atStart => exact ⟨0, by omega, rfl, H0, B3⟩
  case round =>
    clear H0 B3 R3
    obtain ⟨k, hk, rfl, A, Q⟩ := hrel
    have hgw : w2.heap.size < wr.heap.size := by obtain ⟨cs, hh, _, _⟩ := A.out; exact (Array.getElem?_eq_some_iff.1 hh).1
    by_cases hlt : k < 64
    · have Z := hide (A.out.store (k := k) (by omega))
      obtain ⟨v0, cv⟩ := A.out.has (j := k) (by omega)
      have hfr : wr.frozen? ⟨w2.heap.size, k, none⟩ = false := by
        obtain ⟨cs, hh, _, _⟩ := A.out
        exact frozen_of_row wr _ k cs _ hh
      by_cases h16 : k < 16
      · have cm := (Q.out.cell (p := ⟨g2, k, none⟩) hg2').trans (C2.out k h16)
        have em := hide (wAt_low m h16)
        go_wp2
        refine ⟨⟨k + 1, by omega, by go_num, hide ?_, hide (Q.out.setCell (p := ⟨w2.heap.size, k, none⟩) (Nat.le_refl _) _)⟩, by simp [intOf]; omega⟩
        have h := Z.out
        rw [em.out] at h
        exact h
      · have em := hide (wAt_high m h16)
        have c16 := A.out.cell (j := k - 16) (by omega)
        have c15 := A.out.cell (j := k - 15) (by omega)
        have c7 := A.out.cell (j := k - 7) (by omega)
        have c2 := A.out.cell (j := k - 2) (by omega)
        have w15 := hide (WD.out (k - 15))
        have w2' := hide (WD.out (k - 2))
        have t16 : ((k : Int) - 16).toNat = k - 16 := by omega
        have t15 : ((k : Int) - 15).toNat = k - 15 := by omega
        have t7 : ((k : Int) - 7).toNat = k - 7 := by omega
        have t2 : ((k : Int) - 2).toNat = k - 2 := by omega
        generalize wAt m (k - 16) = a16 at *
        generalize wAt m (k - 15) = a15 at *
        generalize wAt m (k - 7) = a7 at *
        generalize wAt m (k - 2) = a2 at *
        go_wp2_with fail
        refine (l2Rot_any a15 25 25 _ w15.out (by omega) (by omega) (by omega)).mono ?_
        rintro e w' ⟨rfl, rfl⟩
        go_wp2_with fail
        refine (l2Rot_any a15 14 14 _ w15.out (by omega) (by omega) (by omega)).mono ?_
        rintro e w' ⟨rfl, rfl⟩
        go_wp2_with fail
        refine (l2Rot_any a2 15 15 _ w2'.out (by omega) (by omega) (by omega)).mono ?_
        rintro e w' ⟨rfl, rfl⟩
        go_wp2_with fail
        refine (l2Rot_any a2 13 13 _ w2'.out (by omega) (by omega) (by omega)).mono ?_
        rintro e w' ⟨rfl, rfl⟩
        go_wp2
        go_region
        go_wp2
        refine ⟨⟨k + 1, by omega, by go_num, hide ?_, hide ((Q.out.setCell (p := ⟨w2.heap.size, k, none⟩) (Nat.le_refl _) _).drew)⟩, by simp [intOf]; omega⟩
        have h := Z.out
        rw [em.out, addI4] at h
        exact h
    · obtain ⟨wa, rfl⟩ : ∃ z : World, z = wr := ⟨wr, rfl⟩
      have hgt : ¬ ((k : Int) < 64) := by omega
      have AX : Hid (At wa w2.heap.size 64 (wAt m)) := hide fun j hj => A.out.cell (by omega)
      have D1 : Hid (At wa g1 8 v) := hide (C1.out.below Q.out (by omega))
      have BA : Hid (Below w.heap.size w wa) := hide (BB.out.trans (Q.out.mono (by have := BB.out.size; omega)))
      have hwa : w.heap.size ≤ wa.heap.size := BA.out.size
      have hg1a : g1 < wa.heap.size := by omega
      clear hlt A Q C1 C2 BB
      generalize hxe : wAt m = x at *
      have HXE := hide hxe
      clear hxe
      go_wp2_with (first
        | (refine wpList_zeros built8 rfl rfl ?_)
        | (refine wpList_store_abs rfl 127 _ _ rfl (wordsA (fun _ => 0) 8) rfl rfl (by rw [wordsA_size]; kernel_rfl) (by rw [wordsA_size]; kernel_rfl) (wordsA_one _ _) ?_; intro w4 r4 b4))
      have R4 : Hid (w4.heap[wa.heap.size]? = some (.cells (wordsA (fun j => if j < 0 then v j else 0) 8) 127 (0, 0))) := hide (by rw [r4, wordsA_congr (f := fun j => if j < 0 then v j else 0) (f' := fun _ => 0) (fun j _ => if_neg (by omega))])
      have B4 := hide b4
      clear r4 b4
      go_loopw [14] (fun iv wr => ∃ i : Nat, i ≤ 8 ∧ iv = .int .i64 i ∧ Hid (wr.heap[wa.heap.size]? = some (.cells (wordsA (fun j => if j < i then v j else 0) 8) 127 (0, 0))) ∧ Hid (Below wa.heap.size wa wr)) (fun i _ => 8 - (intOf i).toNat)
      case atStart => exact ⟨0, by omega, rfl, R4, B4⟩
      case round =>
        clear R4 B4
        obtain ⟨i, hi, rfl, R, Q⟩ := hrel
        by_cases hlt : i < 8
        · have ch := (Q.out.cell (p := ⟨g1, i, none⟩) hg1a).trans (D1.out i hlt)
          have cv := (cell_of_row wr wa.heap.size i _ _ _ R.out).trans (wordsA_get _ hlt)
          have fz := frozen_of_row wr wa.heap.size i _ _ R.out
          have ms : Hid (wordsA (fun j => if j < i + 1 then v j else 0) 8 = (wordsA (fun j => if j < i then v j else 0) 8).setIfInBounds i (.int .u32 (v i))) := hide (by
            rw [wordsA_set]
            refine wordsA_congr fun j hj => ?_
            by_cases e : j = i
            · subst e; rw [if_pos (by omega), if_pos rfl]
            · rw [if_neg e]
              by_cases h' : j < i
              · rw [if_pos (by omega), if_pos h']
              · rw [if_neg (by omega), if_neg h'])
          have ci : wr.cell? ⟨wa.heap.size, i, none⟩ = some (.int .u32 0) := by rw [cv, if_neg (by omega)]
          clear cv
          go_wp2
          exact ⟨⟨i + 1, by omega, by go_num, hide (by rw [ms.out]; exact heap_setCell_same wr wa.heap.size i _ _ _ R.out), hide (Q.out.setCell (p := ⟨wa.heap.size, i, none⟩) (Nat.le_refl _) _)⟩, by simp [intOf]; omega⟩
        · obtain ⟨wb, rfl⟩ : ∃ z : World, z = wr := ⟨wr, rfl⟩
          have hgt8 : ¬ ((i : Int) < 8) := by omega
          have R0 : Hid (wb.heap[wa.heap.size]? = some (.cells (wordsA (rndTo v x 0) 8) 127 (0, 0))) := hide (by rw [R.out, wordsA_congr (f := fun j => if j < i then v j else 0) (f' := rndTo v x 0) (fun j hj => if_pos (by omega))])
          have Q0 := Q
          clear hlt R Q
          go_wp2
          go_loopw [15] (fun iv wr => ∃ k : Nat, k ≤ 64 ∧ iv = .int .i64 k ∧ Hid (wr.heap[wa.heap.size]? = some (.cells (wordsA (rndTo v x k) 8) 127 (0, 0))) ∧ Hid (Below wa.heap.size wa wr)) (fun i _ => 64 - (intOf i).toNat)
          case atStart => exact ⟨0, by omega, rfl, R0, Q0⟩
          case round =>
            clear R0 Q0
            obtain ⟨k, hk, rfl, R, Q⟩ := hrel
            by_cases hlt : k < 64
            · have cx := (Q.out.cell (p := ⟨w2.heap.size, k, none⟩) (by show w2.heap.size < wa.heap.size; omega)).trans (AX.out k hlt)
              have d0 := (cell_of_row wr wa.heap.size 0 _ _ _ R.out).trans (wordsA_get (rndTo v x k) (show 0 < 8 by omega))
              have d1 := (cell_of_row wr wa.heap.size 1 _ _ _ R.out).trans (wordsA_get (rndTo v x k) (show 1 < 8 by omega))
              have d2 := (cell_of_row wr wa.heap.size 2 _ _ _ R.out).trans (wordsA_get (rndTo v x k) (show 2 < 8 by omega))
              have d3 := (cell_of_row wr wa.heap.size 3 _ _ _ R.out).trans (wordsA_get (rndTo v x k) (show 3 < 8 by omega))
              have d4 := (cell_of_row wr wa.heap.size 4 _ _ _ R.out).trans (wordsA_get (rndTo v x k) (show 4 < 8 by omega))
              have d5 := (cell_of_row wr wa.heap.size 5 _ _ _ R.out).trans (wordsA_get (rndTo v x k) (show 5 < 8 by omega))
              have d6 := (cell_of_row wr wa.heap.size 6 _ _ _ R.out).trans (wordsA_get (rndTo v x k) (show 6 < 8 by omega))
              have d7 := (cell_of_row wr wa.heap.size 7 _ _ _ R.out).trans (wordsA_get (rndTo v x k) (show 7 < 8 by omega))
              have W := rndTo_word (v := v) (x := x) (fun j _ => WV.out j) k
              have h0 := hide (W 0 (by omega))
              have h4 := hide (W 4 (by omega))
              clear W
              have Z : Hid (rndTo v x (k + 1) = rnd (rndTo v x k) (ksI k) (x k)) := hide rfl
              have T : Hid (t1I (rndTo v x k) (ksI k) (x k) = (rndTo v x k 7 + bs1 (rndTo v x k 4) + chI (rndTo v x k 4) (rndTo v x k 5) (rndTo v x k 6) + ksI k + x k) % 4294967296) := hide rfl
              generalize rndTo v x k = V at *
              go_wp2_with fail
              refine (l2Rot_any (V 4) 26 26 _ h4.out (by omega) (by omega) (by omega)).mono ?_
              rintro e w' ⟨rfl, rfl⟩
              go_wp2_with fail
              refine (l2Rot_any (V 4) 21 21 _ h4.out (by omega) (by omega) (by omega)).mono ?_
              rintro e w' ⟨rfl, rfl⟩
              go_wp2_with fail
              refine (l2Rot_any (V 4) 7 7 _ h4.out (by omega) (by omega) (by omega)).mono ?_
              rintro e w' ⟨rfl, rfl⟩
              go_wp2_with fail
              go_quiet (first
                | (go_at_call 100; exact Calls.quiet_of (l2K_any k hlt _)))
              go_wp2_with fail
              refine (l2Rot_any (V 0) 30 30 _ h0.out (by omega) (by omega) (by omega)).mono ?_
              rintro e w' ⟨rfl, rfl⟩
              go_wp2_with fail
              refine (l2Rot_any (V 0) 19 19 _ h0.out (by omega) (by omega) (by omega)).mono ?_
              rintro e w' ⟨rfl, rfl⟩
              go_wp2_with fail
              refine (l2Rot_any (V 0) 10 10 _ h0.out (by omega) (by omega) (by omega)).mono ?_
              rintro e w' ⟨rfl, rfl⟩
              go_wp2
              obtain ⟨wd, hwd⟩ : ∃ z : World, z = wr.drewN nq := ⟨_, rfl⟩
              have RD : Hid (wd.heap[wa.heap.size]? = some (.cells (wordsA (shI V 7) 8) 127 (0, 0))) := hide (by rw [hwd, shI_last]; exact R.out)
              have QD : Hid (Below wa.heap.size wa wd) := hide (by rw [hwd]; exact ⟨Q.out.os, Q.out.tape, Q.out.output, Q.out.size, Q.out.block⟩)
              rw [← hwd]
              clear hwd R Q d0 d1 d2 d3 d4 d5 d6 d7 cx
              go_loopw [22] (fun iv wr => ∃ i : Nat, i ≤ 7 ∧ iv = .int .i64 i ∧ Hid (wr.heap[wa.heap.size]? = some (.cells (wordsA (shI V i) 8) 127 (0, 0))) ∧ Hid (Below wa.heap.size wa wr)) (fun i _ => (intOf i).toNat)
              case atStart => exact ⟨7, by omega, rfl, RD, QD⟩
              case round =>
                clear RD QD
                obtain ⟨i, hi, rfl, R, Q⟩ := hrel
                by_cases h0 : 0 < i
                · have t1 : ((i : Int) - 1).toNat = i - 1 := by omega
                  have ca : wr.cell? ⟨wa.heap.size, i - 1, none⟩ = some (.int .u32 (V (i - 1))) := by
                    rw [cell_of_row wr wa.heap.size (i - 1) _ _ _ R.out, wordsA_get _ (by omega)]
                    unfold shI
                    rw [if_neg (by omega)]
                  have cb := (cell_of_row wr wa.heap.size i _ _ _ R.out).trans (wordsA_get _ (show i < 8 by omega))
                  have fz := frozen_of_row wr wa.heap.size i _ _ R.out
                  have ms := hide (shI_step V i h0)
                  generalize shI V i i = old at cb
                  have hi0 : (0 : Int) < (i : Int) := by omega
                  go_wp2
                  exact ⟨⟨i - 1, by omega, by go_num, hide (by rw [ms.out]; exact heap_setCell_same wr wa.heap.size i _ _ _ R.out), hide (Q.out.setCell (p := ⟨wa.heap.size, i, none⟩) (Nat.le_refl _) _)⟩, by simp [intOf]; omega⟩
                · have e0 : Hid (i = 0) := hide (by omega)
                  have hi0 : ¬ ((0 : Int) < (i : Int)) := by omega
                  have R0 : Hid (wr.heap[wa.heap.size]? = some (.cells (wordsA (shI V 0) 8) 127 (0, 0))) := hide (by have h := R.out; rw [e0.out] at h; exact h)
                  have c4 : wr.cell? ⟨wa.heap.size, 4, none⟩ = some (.int .u32 (V 3)) := (cell_of_row wr wa.heap.size 4 _ _ _ R0.out).trans (wordsA_get _ (by omega))
                  have c0 : wr.cell? ⟨wa.heap.size, 0, none⟩ = some (.int .u32 (V 0)) := (cell_of_row wr wa.heap.size 0 _ _ _ R0.out).trans (wordsA_get _ (by omega))
                  have f4 := frozen_of_row wr wa.heap.size 4 _ _ R0.out
                  have f0 := frozen_of_row wr wa.heap.size 0 _ _ R0.out
                  clear h0 R
                  go_wp2
                  refine ⟨⟨k + 1, by omega, by go_num, hide ?_, hide ((Q.out.setCell (p := ⟨wa.heap.size, 4, none⟩) (Nat.le_refl _) _).setCell (p := ⟨wa.heap.size, 0, none⟩) (Nat.le_refl _) _)⟩, by simp [intOf]; omega⟩
                  refine (heap_setCell_same _ wa.heap.size 0 _ _ _ (heap_setCell_same wr wa.heap.size 4 _ _ _ R0.out)).trans ?_
                  rw [Z.out, rnd_row]
                  refine set2_eq _ ?_ ?_
                  · rw [rnd4, T.out]
                    unfold bs1 chI xorI andI notI
                    omega
                  · rw [rnd0, T.out]
                    unfold bs1 bs0 chI maI xorI andI notI
                    omega
            · obtain ⟨wc, rfl⟩ : ∃ z : World, z = wr := ⟨wr, rfl⟩
              have hgt64 : ¬ ((k : Int) < 64) := by omega
              have e64 : Hid (k = 64) := hide (by omega)
              have DV : Hid (At wc wa.heap.size 8 (rndTo v x k)) := hide (At.of R.out)
              have DH : Hid (At wc g1 8 v) := hide (D1.out.below Q.out hg1a)
              have BC : Hid (Below w.heap.size w wc) := hide (BA.out.trans (Q.out.mono hwa))
              have hgv : wa.heap.size < wc.heap.size := (Array.getElem?_eq_some_iff.1 R.out).1
              have UM : Hid (∀ j, (v j + rndTo v x k j) % 4294967296 = mixI v x j) := hide fun j => by rw [e64.out]; unfold mixI; rw [Int.add_comm]
              clear hlt R Q AX D1 BA
              go_wp2
              have O0 := hide (IOwn.built .u8 5 wc wc.heap.size (Nat.le_refl _))
              have L0 : Hid (Below wc.heap.size wc (wc.alloc (.cells #[] 5))) := hide ((Below.refl _ _).alloc (Nat.le_refl _) _)
              go_loopw [23, 24] (fun bv iv wr => ∃ (i : Nat) (A : Option Addr) (cap : Nat), i ≤ 8 ∧ bv = .slice A (4 * i) cap ∧ iv = .int .i64 i ∧ Hid (IOwn .u8 5 wr wc.heap.size A cap (bytesTo (mixI v x) i)) ∧ Hid (Below wc.heap.size wc wr)) (fun _ i _ => 8 - (intOf i).toNat)
              case atStart => exact ⟨0, _, _, by omega, rfl, rfl, O0, L0⟩
              case round =>
                clear O0 L0
                obtain ⟨i, A, cap, hi, rfl, rfl, O, Q⟩ := hrel
                have hwc := Q.out.size
                by_cases hlt : i < 8
                · have ch := (Q.out.cell (p := ⟨g1, i, none⟩) (by show g1 < wc.heap.size; omega)).trans (DH.out i hlt)
                  have cv := (Q.out.cell (p := ⟨wa.heap.size, i, none⟩) hgv).trans (DV.out i hlt)
                  have MW := hide (mixI_word v x i)
                  have um := hide (UM.out i)
                  go_wp2
                  go_region
                  rw [um.out]
                  obtain ⟨m0, m1⟩ := MW.out
                  have bl4 : Hid ((bytesTo (mixI v x) i).length = 4 * i) := hide (bytesTo_length _ _)
                  have bs4 := hide (bytesTo_succ (mixI v x) i)
                  generalize mixI v x i = nn at *
                  go_wp2_with (at_builtin; refine wpList_iapp (k := .u8) (e := 5) (z := .int .u8 0) (nb := 1) (B := wc.heap.size) (A := A) (cap := cap) (l := bytesTo (mixI v x) i) (news := bytesI nn) (g := wr.heap.size) (m := 4) (c := 4) rfl (.tmp 188) (.tmp 200) rfl Tryd.underlying79 infoB rfl (by omega) (by rw [bl4.out]; rfl) rfl (by exact O.out.alloc _) rfl (by exact cell_four_at wr nn _) (by simp; omega) (by rw [bl4.out]; omega) ?_; intro A2 cap2 w5 o5 g5 _; rw [bl4.out])
                  refine ⟨⟨i + 1, A2, cap2, by omega, by rw [show 4 * (i + 1) = 4 * i + 4 by omega], by go_num, hide ?_, hide ?_⟩, by simp [intOf]; omega⟩
                  · rw [bs4.out]; exact o5
                  · exact ((Q.out.alloc hwc _).drew).trans (IOwn.grownBelow (k := .u8) (e := 5) (cap := cap) (l := bytesTo (mixI v x) i) (by exact O.out.alloc _) g5 (by simp; omega))
                · have hgt8' : ¬ ((i : Int) < 8) := by omega
                  have e8 : Hid (i = 8) := hide (by omega)
                  obtain ⟨g5, rfl, hg5, hg5', c5⟩ := O.out.cell (by rw [bytesTo_length]; omega)
                  have HC : (convert 79 9 (.slice (some ⟨g5, 0, none⟩) (4 * i) cap)).run Tryd.prog wr = .ok (.string (strOfNums (bytesTo (mixI v x) i))) wr :=
                    run_convert_bytes_arg wr 79 5 (by kernel_rfl) (by kernel_rfl) g5 0 (4 * i) cap (bytesTo (mixI v x) i) (bytesTo_length _ _) (fun j hj => by
                      rw [Nat.zero_add, c5 j (by rw [bytesTo_length]; exact hj)]) 9 (by kernel_rfl)
                  have FIN : Hid (strOfNums (bytesTo (mixI v x) i) = digB (mixI v x)) := hide (by rw [e8.out, bytesTo_8])
                  clear c5
                  go_wp2
                  go_ret
                  refine ⟨ret_str ?_, BC.out.trans (Q.out.mono (by have := BC.out.size; omega))⟩
                  rw [HVE.out, HME.out, HXE.out, FIN.out]
end Go.Proofs.YtkhkcdmmagicmaaDoor
/-
  What spec.l2Sha and spec.Sha256 give.
-/
namespace Go.Proofs.YtkhkcdmmagicmaaDoor
open Go.RowKit

set_option maxRecDepth 100000 in
set_option maxHeartbeats 2000000 in
theorem l2Sha_any (s : ByteArray) (w : World) (hs : s.size ≤ 2000) :
    Calls Tryd.prog 57 #[.string s] w fun e w' => e = .returned (.string (shaL s)) ∧ Below w.heap.size w w' := by
  go_enter Tryd.func57, Tryd.ntmps57
  go_wp2_with fail
  refine (l2Pad_any s _ hs).mono ?_
  rintro e w1 ⟨rfl, hb1⟩
  have B1 := hide hb1
  clear hb1
  have hz := padT_size s
  have HZ := hide hz
  have hN2 := padN_le s.size
  have hN : Hid (padN s.size = 64 * (padN s.size / 64)) := hide (by unfold padN; omega)
  have STP := hide (step_st s hs)
  have FIN : Hid (shaL s = digB (stTo (padY s) (padN s.size / 64))) := hide rfl
  have S0 : Hid ((⟨#[106, 9, 230, 103, 187, 103, 174, 133, 60, 110, 243, 114, 165, 79, 245, 58, 81, 14, 82, 127, 155, 5, 104, 140, 31, 131, 217, 171, 91, 224, 205, 25]⟩ : ByteArray) = digB (stTo (padY s) 0)) := hide dig_first
  have DZ : Hid (∀ n, (digB (stTo (padY s) n)).size = 32) := hide fun n => digB_size _
  generalize padN s.size / 64 = M at *
  generalize padN s.size = N at *
  generalize padY s = y at *
  have ht1 : (padT s).size ≤ 2072 := by omega
  have hN3 : (padT s).size ≤ 64 * M := by have := hN.out; omega
  have hN4 : 64 * M ≤ (padT s).size := by have := hN.out; omega
  clear hz hN
  generalize padT s = t at *
  go_wp2_with fail
  go_loopw [4, 5] (fun sv iv wr => ∃ n q : Nat, n ≤ M ∧ q ≤ 64 * n ∧ 64 * n ≤ q ∧ sv = .string (digB (stTo y n)) ∧ iv = .int .i64 (q : Int) ∧ Hid (Below w.heap.size w wr)) (fun _ i _ => 2073 - (intOf i).toNat)
  case atStart => exact ⟨0, 0, by omega, by omega, by omega, by rw [← S0.out], rfl, B1⟩
  case round =>
    obtain ⟨n, q, hn, hq1, hq2, rfl, rfl, Q⟩ := hrel
    clear B1 S0
    by_cases hlt : n < M
    · have w64 : IntKind.i64.wrap ((q : Int) + 64) = (q : Int) + 64 := by rw [IntKind.wrap_i64]; omega
      have p0 : (q : Int) < (t.size : Int) := by omega
      have p2 : (q : Int) + 64 ≤ (t.size : Int) := by omega
      have p5 : (0 : Int) ≤ (q : Int) := by omega
      have p6 : (q : Int) ≤ (q : Int) + 64 := by omega
      have p3 : ((q : Int) + 64).toNat = q + 64 := by omega
      have ste : Hid (digB (mixI (mOf (sB (digB (stTo y n)))) (wAt (mOf (sB (t.extract q (q + 64)))))) = digB (stTo y (n + 1))) := hide (by rw [show q = 64 * n by omega]; exact STP.out n (by have := HZ.out; omega))
      have z1 := hide (DZ.out n)
      have z2 : Hid ((t.extract q (q + 64)).size = 64) := hide (by rw [ByteArray.size_extract]; omega)
      go_wp2_with fail
      refine (l2Step_any (digB (stTo y n)) (t.extract q (q + 64)) _ z1.out z2.out).mono ?_
      rintro e w3 ⟨rfl, hb3⟩
      have H3 := hide hb3
      clear hb3
      have hq := Q.out.size
      rw [ste.out]
      go_wp2
      exact ⟨⟨n + 1, q + 64, by omega, by omega, by omega, rfl, by go_num, hide (Q.out.trans (H3.out.mono (by omega)))⟩, by simp [intOf]; omega⟩
    · have p0 : ¬ ((q : Int) < (t.size : Int)) := by omega
      have en : Hid (n = M) := hide (by omega)
      clear hlt
      go_wp2
      go_ret
      exact ⟨ret_str (by rw [FIN.out, en.out]), Q.out⟩
end Go.Proofs.YtkhkcdmmagicmaaDoor
/-
  What impl.IdOf gives.
-/
namespace Go.Proofs.YtkhkcdmmagicmaaDoor
open Go.RowKit

/-- a digit 0 .. 9, a .. f -/
def hexD (n : Int) : Int := if n < 10 then 48 + n else 87 + n
/-- the digits of the first n bytes -/
def hexTo (d : ByteArray) (n : Nat) : List Int := (List.range n).flatMap fun j => [hexD (sB d j / 16), hexD (sB d j % 16)]
theorem hexTo_succ (d : ByteArray) (n : Nat) : hexTo d (n + 1) = hexTo d n ++ [hexD (sB d n / 16), hexD (sB d n % 16)] := by simp [hexTo, List.range_succ]
theorem hexTo_length (d : ByteArray) : ∀ n, (hexTo d n).length = 2 * n
  | 0 => rfl
  | n + 1 => by rw [hexTo_succ, List.length_append, hexTo_length d n]; show 2 * n + 2 = _; omega
theorem hexTo_get (d : ByteArray) : ∀ (n j r : Nat), j < n → r < 2 → (hexTo d n).getD (2 * j + r) 0 = [hexD (sB d j / 16), hexD (sB d j % 16)].getD r 0
  | 0, j, _, h, _ => absurd h (by omega)
  | n + 1, j, r, h, hr => by
    rw [hexTo_succ]
    have hl := hexTo_length d n
    by_cases hj : j < n
    · have ih := hexTo_get d n j r hj hr
      simp only [List.getD_eq_getElem?_getD] at ih ⊢
      rw [List.getElem?_append_left (by omega)]
      exact ih
    · obtain rfl : j = n := by omega
      simp only [List.getD_eq_getElem?_getD]
      rw [List.getElem?_append_right (by omega), show 2 * j + r - (hexTo d j).length = r by omega]
/-- the digits while the first k bytes are done -/
def hexF (d : ByteArray) (k : Nat) : Nat → Int := fun j => if j < 2 * k then (hexTo d 8).getD j 0 else 0
theorem hexF_zero (d : ByteArray) : bytesA (hexF d 0) 16 = bytesA (fun _ => 0) 16 := bytesA_congr fun j _ => if_neg (by omega)
theorem hexF_step (d : ByteArray) (k : Nat) (hk : k < 8) : bytesA (hexF d (k + 1)) 16 = ((bytesA (hexF d k) 16).setIfInBounds (2 * k) (.int .u8 (hexD (sB d k / 16)))).setIfInBounds (2 * k + 1) (.int .u8 (hexD (sB d k % 16))) := by
  rw [bytesA_set, bytesA_set]
  refine bytesA_congr fun j hj => ?_
  have g0 := hexTo_get d 8 k 0 hk (by omega)
  have g1 := hexTo_get d 8 k 1 hk (by omega)
  unfold hexF
  by_cases e1 : j = 2 * k + 1
  · rw [if_pos e1, if_pos (by omega), e1, g1]; rfl
  · rw [if_neg e1]
    by_cases e0 : j = 2 * k
    · rw [if_pos e0, if_pos (by omega), e0]; exact g0
    · rw [if_neg e0]
      by_cases h : j < 2 * k
      · rw [if_pos (by omega), if_pos h]
      · rw [if_neg (by omega), if_neg h]
theorem hexF_all (d : ByteArray) : bytesA (hexF d 8) 16 = ((hexTo d 8).map (Value.int .u8)).toArray := by
  symm
  refine bytesA_eq (by simp [hexTo_length]) fun j hj => ?_
  have hl := hexTo_length d 8
  unfold hexF
  rw [if_pos (by omega)]
  simp [show j < (hexTo d 8).length by omega]
theorem zeros16 : #[Value.int .u8 0, .int .u8 0, .int .u8 0, .int .u8 0, .int .u8 0, .int .u8 0, .int .u8 0, .int .u8 0, .int .u8 0, .int .u8 0, .int .u8 0, .int .u8 0, .int .u8 0, .int .u8 0, .int .u8 0, .int .u8 0] = bytesA (fun _ => 0) 16 := by simp [bytesA, List.range, List.range.loop]
theorem and15 : ∀ n : Fin 256, bits BinOp.and IntKind.u8 (n.val : Int) 15 = (n.val : Int) % 16 := by decide +kernel
/-- sixteen digits of a digest -/
def hexB (d : ByteArray) : ByteArray := strOfNums (hexTo d 8)
/-- the id of a text, without the bound -/
def idL (s : ByteArray) : ByteArray := hexB (shaL s)
/-- the id of a text; nothing for more than 2000 bytes -/
def idT (s : ByteArray) : ByteArray := if s.size ≤ 2000 then idL s else ByteArray.empty
theorem shaL_size (s : ByteArray) : (shaL s).size = 32 := digB_size _
theorem hexB_size (d : ByteArray) : (hexB d).size = 16 := by unfold hexB; rw [strOfNums_size, hexTo_length]
theorem idL_size (s : ByteArray) : (idL s).size = 16 := hexB_size _
theorem hexD_byte {n : Int} (h : 0 ≤ n) (h' : n < 16) : 0 ≤ hexD n ∧ hexD n < 256 := by unfold hexD; split <;> omega
/-- a digit out of the table -/
theorem hex_tab (n : Nat) (h : n < 16) : (((⟨#[48, 49, 50, 51, 52, 53, 54, 55, 56, 57, 97, 98, 99, 100, 101, 102]⟩ : ByteArray)[n]'h).toNat : Int) = hexD (n : Int) := by
  rcases (show n = 0 ∨ n = 1 ∨ n = 2 ∨ n = 3 ∨ n = 4 ∨ n = 5 ∨ n = 6 ∨ n = 7 ∨ n = 8 ∨ n = 9 ∨ n = 10 ∨ n = 11 ∨ n = 12 ∨ n = 13 ∨ n = 14 ∨ n = 15 by omega) with e | e | e | e | e | e | e | e | e | e | e | e | e | e | e | e <;> subst e <;> rfl

set_option maxRecDepth 100000 in
set_option maxHeartbeats 2000000 in
theorem idI_any (s : ByteArray) (w : World) (hs : s.size ≤ 2000) (hT : Tabs w) :
    Calls Tryd.prog 59 #[.string s] w fun e w' => e = .returned (.string (idL s)) ∧ Below w.heap.size w w' := by
  have FIN : Hid (idL s = strOfNums (hexTo (shaL s) 8)) := hide rfl
  have hz := shaL_size s
  have SH := hide (shaI_any s w hs hT)
  generalize shaL s = d at *
  have hne : (d.toList == []) = false := by
    rw [beq_eq_false_iff_ne]
    intro e
    have hl : d.toList.length = d.size := by rw [Go.ByteArray.toList_eq]; simp
    rw [e] at hl
    simp at hl
    omega
  have he : d.toList.isEmpty = false := by
    cases h : d.toList with
    | nil => rw [h] at hne; cases hne
    | cons _ _ => rfl
  have hz1 : d.size ≤ 32 := by omega
  have hz2 : 32 ≤ d.size := by omega
  clear hz
  go_enter Tryd.func59, Tryd.ntmps59
  go_wp2_with fail
  refine SH.out.mono ?_
  rintro e w1 ⟨rfl, hb1⟩
  have B1 := hide hb1
  clear hb1
  go_wp2
  have R0 : Hid ((w1.alloc (.cells #[.int .u8 0, .int .u8 0, .int .u8 0, .int .u8 0, .int .u8 0, .int .u8 0, .int .u8 0, .int .u8 0, .int .u8 0, .int .u8 0, .int .u8 0, .int .u8 0, .int .u8 0, .int .u8 0, .int .u8 0, .int .u8 0] 108)).heap[w1.heap.size]? = some (.cells (bytesA (hexF d 0) 16) 108 (0, 0))) := hide (by rw [heap_alloc_new, hexF_zero, zeros16])
  have L0 : Hid (Below w1.heap.size w1 (w1.alloc (.cells #[.int .u8 0, .int .u8 0, .int .u8 0, .int .u8 0, .int .u8 0, .int .u8 0, .int .u8 0, .int .u8 0, .int .u8 0, .int .u8 0, .int .u8 0, .int .u8 0, .int .u8 0, .int .u8 0, .int .u8 0, .int .u8 0] 108))) := hide ((Below.refl _ _).alloc (Nat.le_refl _) _)
  generalize w1.alloc (.cells #[.int .u8 0, .int .u8 0, .int .u8 0, .int .u8 0, .int .u8 0, .int .u8 0, .int .u8 0, .int .u8 0, .int .u8 0, .int .u8 0, .int .u8 0, .int .u8 0, .int .u8 0, .int .u8 0, .int .u8 0, .int .u8 0] 108) = w2 at R0 L0 ⊢
  go_loopw [10] (fun iv wr => ∃ k : Nat, k ≤ 8 ∧ iv = .int .i64 k ∧ Hid (wr.heap[w1.heap.size]? = some (.cells (bytesA (hexF d k) 16) 108 (0, 0))) ∧ Hid (Below w1.heap.size w1 wr)) (fun i _ => 8 - (intOf i).toNat)
  case atStart => exact ⟨0, by omega, rfl, R0, L0⟩
  case round =>
    clear R0 L0
    obtain ⟨k, hk, rfl, R, Q⟩ := hrel
    by_cases hlt : k < 8
    · have c0 := (cell_of_row wr w1.heap.size (2 * k) _ _ _ R.out).trans (bytesA_get _ (show 2 * k < 16 by omega))
      have c1 := (cell_of_row wr w1.heap.size (2 * k + 1) _ _ _ R.out).trans (bytesA_get _ (show 2 * k + 1 < 16 by omega))
      have f0 := frozen_of_row wr w1.heap.size (2 * k) _ _ R.out
      have f1 := frozen_of_row wr w1.heap.size (2 * k + 1) _ _ R.out
      have ST := hide (hexF_step d k hlt)
      have SB := hide (sB_in (s := d) (j := k) (by omega))
      have hb := d[k].toNat_lt
      have hb2 : (d[k].toNat : Int) < 256 := by omega
      have ha := and15 ⟨d[k].toNat, by omega⟩
      simp only at ha
      have t0 : (2 * (k : Int)).toNat = 2 * k := by omega
      have t1 : (2 * (k : Int) + 1).toNat = 2 * k + 1 := by omega
      generalize hexF d k (2 * k) = o0 at c0
      generalize hexF d k (2 * k + 1) = o1 at c1
      have x0 := hide (hex_tab (d[k].toNat / 16) (by omega))
      have x1 := hide (hex_tab (d[k].toNat % 16) (by omega))
      go_wp2
      refine ⟨⟨k + 1, by omega, by go_num, hide ?_, hide ((Q.out.setCell (p := ⟨w1.heap.size, 2 * k, none⟩) (Nat.le_refl _) _).setCell (p := ⟨w1.heap.size, 2 * k + 1, none⟩) (Nat.le_refl _) _)⟩, by simp [intOf]; omega⟩
      refine (heap_setCell_same _ w1.heap.size (2 * k + 1) _ _ _ (heap_setCell_same wr w1.heap.size (2 * k) _ _ _ R.out)).trans ?_
      rw [ST.out, SB.out, x0.out, x1.out]
      rfl
    · have e8 : Hid (k = 8) := hide (by omega)
      have hgt : ¬ ((k : Int) < 8) := by omega
      have R8 : Hid (wr.heap[w1.heap.size]? = some (.cells ((hexTo d 8).map (Value.int .u8)).toArray 108 (0, 0))) := hide (by rw [R.out, e8.out, hexF_all])
      have HC := run_conv wr w1.heap.size 16 (hexTo d 8) 16 108 (hexTo_length d 8) R8.out
      clear hlt
      go_wp2
      go_ret
      have hq := B1.out.size
      refine ⟨ret_str ?_, B1.out.trans (Q.out.mono hq)⟩
      rw [FIN.out]
end Go.Proofs.YtkhkcdmmagicmaaDoor
/-
  What spec.l2Id gives; both packages' Sha256 and IdOf at every text.
-/
namespace Go.Proofs.YtkhkcdmmagicmaaDoor
open Go.RowKit

theorem nums_append (a b : List Int) : strOfNums a ++ strOfNums b = strOfNums (a ++ b) := by
  apply ByteArray.ext
  simp [strOfNums, ByteArray.data_append]
theorem hex_cut (n : Nat) (h : n < 16) : (⟨#[48, 49, 50, 51, 52, 53, 54, 55, 56, 57, 97, 98, 99, 100, 101, 102]⟩ : ByteArray).extract n (n + 1) = strOfNums [hexD (n : Int)] := by
  rcases (show n = 0 ∨ n = 1 ∨ n = 2 ∨ n = 3 ∨ n = 4 ∨ n = 5 ∨ n = 6 ∨ n = 7 ∨ n = 8 ∨ n = 9 ∨ n = 10 ∨ n = 11 ∨ n = 12 ∨ n = 13 ∨ n = 14 ∨ n = 15 by omega) with e | e | e | e | e | e | e | e | e | e | e | e | e | e | e | e <;> subst e <;> rfl

set_option maxRecDepth 100000 in
set_option maxHeartbeats 2000000 in
theorem l2Id_any (s : ByteArray) (w : World) (hs : s.size ≤ 2000) :
    Calls Tryd.prog 39 #[.string s] w fun e w' => e = .returned (.string (idL s)) ∧ Below w.heap.size w w' := by
  have FIN : Hid (idL s = strOfNums (hexTo (shaL s) 8)) := hide rfl
  have hz := shaL_size s
  have SH := hide (l2Sha_any s w hs)
  generalize shaL s = d at *
  have hz1 : d.size ≤ 32 := by omega
  have hz2 : 32 ≤ d.size := by omega
  clear hz
  go_enter Tryd.func39, Tryd.ntmps39
  go_wp2_with fail
  refine SH.out.mono ?_
  rintro e w1 ⟨rfl, hb1⟩
  have B1 := hide hb1
  clear hb1
  go_wp2
  go_loopw [5, 6] (fun ov iv wr => ∃ k : Nat, k ≤ 8 ∧ ov = .string (strOfNums (hexTo d k)) ∧ iv = .int .i64 k ∧ Hid (Below w.heap.size w wr)) (fun _ i _ => 8 - (intOf i).toNat)
  case atStart => exact ⟨0, by omega, rfl, rfl, B1⟩
  case round =>
    obtain ⟨k, hk, rfl, rfl, Q⟩ := hrel
    by_cases hlt : k < 8
    · have SB := hide (sB_in (s := d) (j := k) (by omega))
      have hb := d[k].toNat_lt
      have hb2 : (d[k].toNat : Int) < 256 := by omega
      have p0 : (0 : Int) ≤ (k : Int) := by omega
      have p1 : (k : Int) < (d.size : Int) := by omega
      have x0 := hide (hex_cut (d[k].toNat / 16) (by omega))
      have x1 := hide (hex_cut (d[k].toNat % 16) (by omega))
      have ST := hide (hexTo_succ d k)
      have hl : (strOfNums (hexTo d k)).size ≤ 16 := by rw [strOfNums_size, hexTo_length]; omega
      go_wp2
      go_quiet (fail)
      go_wp2
      refine ⟨⟨k + 1, by omega, ?_, by go_num, hide ⟨Q.out.os, Q.out.tape, Q.out.output, Q.out.size, Q.out.block⟩⟩, by simp [intOf]; omega⟩
      rw [ST.out, SB.out, x0.out, x1.out, nums_append, nums_append, List.append_assoc]
      simp only [Int.natCast_ediv, Int.natCast_emod]
      rfl
    · have e8 : Hid (k = 8) := hide (by omega)
      have hgt : ¬ ((k : Int) < 8) := by omega
      clear hlt
      go_wp2
      go_ret
      exact ⟨ret_str (by rw [FIN.out, e8.out]), Q.out⟩

theorem shaB_in {s : ByteArray} (h : s.size ≤ 2000) : shaB s = shaL s := if_pos h
theorem shaB_out {s : ByteArray} (h : ¬ s.size ≤ 2000) : shaB s = ByteArray.empty := if_neg h
theorem idT_in {s : ByteArray} (h : s.size ≤ 2000) : idT s = idL s := if_pos h
theorem idT_out {s : ByteArray} (h : ¬ s.size ≤ 2000) : idT s = ByteArray.empty := if_neg h

theorem implSha (s : ByteArray) (w : World) (_hs : s.size ≤ maxLen) (hT : Tabs w) :
    Calls Tryd.prog 78 #[.string s] w fun e w' => e = .returned (.string (shaB s)) ∧ Below w.heap.size w w' := by
  by_cases h : s.size ≤ 2000
  · rw [shaB_in h]; exact shaI_any s w h hT
  · have E := hide (shaB_out h)
    have hb : (2000 : Int) < (s.size : Int) := by omega
    unfold maxLen at _hs
    go_enter Tryd.func78, Tryd.ntmps78
    go_wp2
    go_ret
    exact ⟨ret_str E.out.symm, Below.refl _ _⟩
theorem implId (s : ByteArray) (w : World) (hs : s.size ≤ maxLen) (hT : Tabs w) :
    Calls Tryd.prog 59 #[.string s] w fun e w' => e = .returned (.string (idT s)) ∧ Below w.heap.size w w' := by
  by_cases h : s.size ≤ 2000
  · rw [idT_in h]; exact idI_any s w h hT
  · have E := hide (idT_out h)
    have S := hide (implSha s w hs hT)
    rw [shaB_out h] at S
    have he : (ByteArray.empty.toList).isEmpty = true := by rw [Go.ByteArray.toList_eq]; rfl
    go_enter Tryd.func59, Tryd.ntmps59
    go_wp2_with fail
    refine S.out.mono ?_
    rintro e w1 ⟨rfl, hb1⟩
    have B1 := hide hb1
    clear hb1
    go_wp2
    go_ret
    exact ⟨ret_str E.out.symm, B1.out⟩
end Go.Proofs.YtkhkcdmmagicmaaDoor
/-
  A region that draws its order, whose operations read and whose callees only make memory of their own: walked once. The class of worlds: those that are as w was below block B.
-/
namespace Go.Proofs.YtkhkcdmmagicmaaDoor
open Go.RowKit

/-- the worlds that are as w was below block B -/
def Cls (B : Nat) (w : World) : Type := { x : World // Below B w x }
def Cls.wo {B : Nat} {w : World} (u : Cls B w) : World := u.val
theorem Cls.below {B : Nat} {w : World} (u : Cls B w) : Below B w u.wo := u.property
def Cls.mk' {B : Nat} {w : World} (x : World) (h : Below B w x) : Cls B w := ⟨x, h⟩
instance clsNonempty {B : Nat} {w : World} : Nonempty (Cls B w) := ⟨Cls.mk' w (Below.refl B w)⟩
theorem wp_region_cls {P : Program} {id : Nat} {Q : Exit → Act → World → Prop} {a : Act} {w : World} {l : List Oper} (hm : P.follows .mixedOrders = true) (hB : Region.lexB .any l.toArray = true) (B : Nat)
    (h : wpQuiet P l.toArray (fun w' => ∃ u : Cls B w, w' = u.wo) (fun a' => ∀ w', (∃ u : Cls B w, w' = u.wo) → Q .normal a' w') l a) : (Code.region id l.toArray true).wp P Q a w :=
  wp_region_quiet (C := fun w' => ∃ u : Cls B w, w' = u.wo) hm hB ⟨Cls.mk' w.drew (Below.refl B w).drew, rfl⟩ (by simpa using h)
theorem cls_cell {B : Nat} {w : World} {p : Addr} {v : Value} (hp : p.block < B) (h : w.cell? p = some v) : ∀ u : Cls B w, u.wo.cell? p = some v := fun u => (u.below.cell hp).trans h
theorem cls_call {P : Program} {f : FuncId} {args : Array Value} {B : Nat} {w : World} {v : Value} {u : Cls B w} (hB : B ≤ w.heap.size) (h : Calls P f args u.wo fun e w' => e = .returned v ∧ Below u.wo.heap.size u.wo w') :
    Calls P f args u.wo fun e w'' => e = .returned v ∧ ∃ u' : Cls B w, w'' = u'.wo :=
  h.mono fun _ w' ⟨he, hb⟩ => ⟨he, Cls.mk' w' (u.below.trans (hb.mono (Nat.le_trans hB u.below.size))), rfl⟩
end Go.Proofs.YtkhkcdmmagicmaaDoor
/-
  Right objects as a list, and what spec.ObjsOk answers.
-/
namespace Go.Proofs.YtkhkcdmmagicmaaDoor
open Go.RowKit

/-- the first k objects are right: short texts, each with its id -/
def textsTo (l : List Pr) (k : Nat) : Prop := ∀ i (h : i < l.length), i < k → l[i].2.size ≤ 2000 ∧ idL l[i].2 = l[i].1
theorem textsTo_zero (l : List Pr) : textsTo l 0 := fun _ _ h => absurd h (by omega)
theorem textsTo_succ {l : List Pr} {k : Nat} (hk : k < l.length) (h : textsTo l k) (h1 : l[k].2.size ≤ 2000) (h2 : idL l[k].2 = l[k].1) : textsTo l (k + 1) := by
  intro i hi hik
  rcases Nat.lt_or_ge i k with g | g
  · exact h i hi g
  · obtain rfl : i = k := by omega
    exact ⟨h1, h2⟩
theorem risesTo_zero (l : List Pr) : risesTo l 0 := fun _ _ h => absurd h (by omega)
theorem risesTo_next {l : List Pr} {k : Nat} (hk : k < l.length) (h : risesTo l k) (h3 : ∀ (hp : 0 < k), ltB (l[k - 1]'(by omega)).1 l[k].1 = true) : risesTo l (k + 1) := by
  intro i hi hik
  rcases Nat.lt_or_ge (i + 1) k with g | g
  · exact h i hi g
  · obtain rfl : k = i + 1 := by omega
    simpa using h3 (by omega)
open Classical in
/-- right objects -/
noncomputable def objsB (l : List Pr) : Bool := decide (l.length ≤ 60 ∧ textsTo l l.length ∧ risesTo l l.length)
open Classical in
theorem objsB_iff {l : List Pr} : objsB l = true ↔ l.length ≤ 60 ∧ textsTo l l.length ∧ risesTo l l.length := by unfold objsB; exact decide_eq_true_iff
theorem objsB_yes {l : List Pr} (h : l.length ≤ 60) (h1 : textsTo l l.length) (h2 : risesTo l l.length) : objsB l = true := objsB_iff.2 ⟨h, h1, h2⟩
theorem objsB_len {l : List Pr} (h : 60 < l.length) : objsB l = false := by
  cases e : objsB l
  · rfl
  · have := (objsB_iff.1 e).1; omega
theorem objsB_text {l : List Pr} {k : Nat} (hk : k < l.length) (h : 2000 < l[k].2.size) : objsB l = false := by
  cases e : objsB l
  · rfl
  · have := ((objsB_iff.1 e).2.1 k hk hk).1; omega
theorem objsB_id {l : List Pr} {k : Nat} (hk : k < l.length) (h : ¬ idL l[k].2 = l[k].1) : objsB l = false := by
  cases e : objsB l
  · rfl
  · exact absurd ((objsB_iff.1 e).2.1 k hk hk).2 h
theorem objsB_rise {l : List Pr} {k : Nat} (hk : k + 1 < l.length) (h : ltB l[k].1 l[k + 1].1 = false) : objsB l = false := by
  cases e : objsB l
  · rfl
  · have := (objsB_iff.1 e).2.2 k hk hk; rw [h] at this; cases this
theorem neS_yes {a b : ByteArray} (h : ¬ a = b) : (a.toList != b.toList) = true := by rw [bne, eqS_no h]; rfl
theorem neS_no {a b : ByteArray} (h : a = b) : (a.toList != b.toList) = false := by rw [bne, eqS_yes h]; rfl

set_option maxRecDepth 100000 in
set_option maxHeartbeats 4000000 in
theorem specObjsOk_any (A : Option Addr) (l : List Pr) (cap : Nat) (w : World) (hl : l.length ≤ maxLen) (hin : PIn w w.heap.size A l) :
    Calls Tryd.prog 34 #[.slice A l.length cap] w fun e w' => e = .returned (.bool (objsB l)) ∧ Below w.heap.size w w' := by
  unfold maxLen at hl
  generalize hn : l.length = n at *
  have HN := hide hn
  clear hn
  go_enter Tryd.func34, Tryd.ntmps34
  go_wp2
  go_loopw [3] (fun i wr => ∃ k : Nat, k ≤ n ∧ i = .int .i64 k ∧ Hid (textsTo l k) ∧ Hid (risesTo l k) ∧ Hid (Below w.heap.size w wr)) (fun i _ => n - (intOf i).toNat)
  case atStart => exact ⟨0, Nat.zero_le _, rfl, textsTo_zero l, risesTo_zero l, Below.refl _ w⟩
  case round =>
    obtain ⟨k, hk, rfl, H, R, Q⟩ := hrel
    by_cases hlt : k < n
    · have hin2 := hin.below Q.out
      obtain ⟨b, off, rfl, hbB, hc⟩ := hin2.2 (by rw [HN.out]; omega)
      have hkl : k < l.length := by rw [HN.out]; omega
      have hbw : b < wr.heap.size := by have := Q.out.size; omega
      obtain ⟨c1, c2⟩ := hc k hkl
      obtain ⟨s1, s2⟩ := hin2.1 k hkl
      have hqs := Q.out.size
      by_cases htx : (l[k]'hkl).2.size ≤ 2000
      · have L2 := hide (fun W => l2Id_any (l[k]'hkl).2 W htx)
        have ht : decide ((2000 : Int) < ((l[k]'hkl).2.size : Int)) = false := decide_eq_false (by omega)
        by_cases hid : idL (l[k]'hkl).2 = (l[k]'hkl).1
        · have ne := eqS_yes hid
          by_cases h0 : 0 < k
          · obtain ⟨c3, _⟩ := hc (k - 1) (by omega)
            have q1 : IntKind.i64.wrap ((k : Int) - 1) = (k : Int) - 1 := IntWalk.i64_in _ (by omega)
            have q2 : (0 : Int) ≤ (k : Int) - 1 := by omega
            have q3 : (1 : Int) ≤ (k : Int) := by omega
            have q4 : ((k : Int) - 1).toNat = k - 1 := by omega
            have q5 : (k : Int) - 1 < (n : Int) := by omega
            have q6 : decide (0 < k) = true := decide_eq_true h0
            cases hrise : ltB (l[k - 1]'(by omega)).1 (l[k]'hkl).1
            · have Z := hide (objsB_rise (l := l) (k := k - 1) (by omega) (by simpa [show k - 1 + 1 = k by omega] using hrise))
              have hrise2 : Op.bytesLess (l[k - 1]'(by omega)).1.toList (l[k]'hkl).1.toList = false := hrise
              generalize idL (l[k]'hkl).2 = dd at *
              generalize (l[k]'hkl).1 = s at *
              generalize (l[k]'hkl).2 = v at *
              generalize (l[k - 1]'(by omega)).1 = s0 at *
              have HI := hide hid
              clear hin hin2 hc hrise hid
              have y1 := cls_cell (B := wr.heap.size) hbw c1
              have y2 := cls_cell (B := wr.heap.size) hbw c2
              have y3 := cls_cell (B := wr.heap.size) hbw c3
              clear c1 c2 c3
              go_wp2
              refine wp_region_cls (by kernel_rfl) (by kernel_rfl) wr.heap.size ?_
              repeat (go_big_quiet_step ((go_at_call 39; exact cls_call (Nat.le_refl _) (L2.out _))))
              refine wpQuiet_nil ?_
              intro _ hw'
              obtain ⟨u, hw''⟩ := hw'
              subst hw''
              clear q1 q4
              go_wp2
              go_ret
              exact ⟨ret_bool Z.out.symm, Q.out.trans (u.below.mono hqs)⟩
            · have Z1 := hide (textsTo_succ hkl H.out htx hid)
              have Z2 := hide (risesTo_next hkl R.out (fun _ => hrise))
              have hrise2 : Op.bytesLess (l[k - 1]'(by omega)).1.toList (l[k]'hkl).1.toList = true := hrise
              generalize idL (l[k]'hkl).2 = dd at *
              generalize (l[k]'hkl).1 = s at *
              generalize (l[k]'hkl).2 = v at *
              generalize (l[k - 1]'(by omega)).1 = s0 at *
              have HI := hide hid
              clear hin hin2 hc hrise hid
              have y1 := cls_cell (B := wr.heap.size) hbw c1
              have y2 := cls_cell (B := wr.heap.size) hbw c2
              have y3 := cls_cell (B := wr.heap.size) hbw c3
              clear c1 c2 c3
              go_wp2
              refine wp_region_cls (by kernel_rfl) (by kernel_rfl) wr.heap.size ?_
              repeat (go_big_quiet_step ((go_at_call 39; exact cls_call (Nat.le_refl _) (L2.out _))))
              refine wpQuiet_nil ?_
              intro _ hw'
              obtain ⟨u, hw''⟩ := hw'
              subst hw''
              clear q1 q4
              go_wp2
              exact ⟨⟨k + 1, by omega, by go_num, Z1, Z2, hide (Q.out.trans (u.below.mono hqs))⟩, by simp [intOf]; omega⟩
          · have Z1 := hide (textsTo_succ hkl H.out htx hid)
            have Z2 := hide (risesTo_next hkl R.out (fun h => absurd h h0))
            have q6 : decide (0 < k) = false := decide_eq_false h0
            generalize idL (l[k]'hkl).2 = dd at *
            generalize (l[k]'hkl).1 = s at *
            generalize (l[k]'hkl).2 = v at *
            have HI := hide hid
            clear hin hin2 hc hid
            have y1 := cls_cell (B := wr.heap.size) hbw c1
            have y2 := cls_cell (B := wr.heap.size) hbw c2
            clear c1 c2
            go_wp2
            refine wp_region_cls (by kernel_rfl) (by kernel_rfl) wr.heap.size ?_
            repeat (go_big_quiet_step ((go_at_call 39; exact cls_call (Nat.le_refl _) (L2.out _))))
            refine wpQuiet_nil ?_
            intro _ hw'
            obtain ⟨u, hw''⟩ := hw'
            subst hw''
            go_wp2
            exact ⟨⟨k + 1, by omega, by go_num, Z1, Z2, hide (Q.out.trans (u.below.mono hqs))⟩, by simp [intOf]; omega⟩
        · have Z := hide (objsB_id hkl hid)
          have ne := eqS_no hid
          generalize idL (l[k]'hkl).2 = dd at *
          generalize (l[k]'hkl).1 = s at *
          generalize (l[k]'hkl).2 = v at *
          clear hin hin2 hc hid
          have y1 := cls_cell (B := wr.heap.size) hbw c1
          have y2 := cls_cell (B := wr.heap.size) hbw c2
          clear c1 c2
          go_wp2
          refine wp_region_cls (by kernel_rfl) (by kernel_rfl) wr.heap.size ?_
          repeat (go_big_quiet_step ((go_at_call 39; exact cls_call (Nat.le_refl _) (L2.out _))))
          refine wpQuiet_nil ?_
          intro _ hw'
          obtain ⟨u, hw''⟩ := hw'
          subst hw''
          go_wp2
          go_ret
          exact ⟨ret_bool Z.out.symm, Q.out.trans (u.below.mono hqs)⟩
      · have Z := hide (objsB_text hkl (by omega))
        generalize (l[k]'hkl).1 = s at *
        generalize (l[k]'hkl).2 = v at *
        have ht : decide ((2000 : Int) < (v.size : Int)) = true := decide_eq_true (by omega)
        clear hin hin2 hc
        go_wp2
        go_quiet (fail)
        go_wp2
        go_ret
        exact ⟨ret_bool Z.out.symm, ⟨Q.out.os, Q.out.tape, Q.out.output, Q.out.size, Q.out.block⟩⟩
    · obtain rfl : k = n := by omega
      by_cases h60 : k ≤ 60
      · have Z : Hid (objsB l = true) := hide (objsB_yes (by rw [HN.out]; omega) (by rw [HN.out]; exact H.out) (by rw [HN.out]; exact R.out))
        have d : decide ((k : Int) ≤ 60) = true := decide_eq_true (by omega)
        go_wp2
        go_ret
        exact ⟨ret_bool Z.out.symm, Q.out⟩
      · have Z : Hid (objsB l = false) := hide (objsB_len (by rw [HN.out]; omega))
        have d : decide ((k : Int) ≤ 60) = false := decide_eq_false (by omega)
        go_wp2
        go_ret
        exact ⟨ret_bool Z.out.symm, Q.out⟩
end Go.Proofs.YtkhkcdmmagicmaaDoor
/-
  Where an id stands among objects: spec.l3At, spec.l3Find.
-/
namespace Go.Proofs.YtkhkcdmmagicmaaDoor
open Go.RowKit

set_option maxRecDepth 100000 in
set_option maxHeartbeats 1000000 in
theorem l3At_any (A : Option Addr) (l : List Pr) (cap : Nat) (key : ByteArray) (w : World) (B : Nat) (hl : l.length ≤ maxLen) (hin : PIn w B A l) :
    Calls Tryd.prog 54 #[.slice A l.length cap, .string key] w fun e w' => e = .returned (.int .i64 (atN l key : Nat)) ∧ w = w' := by
  unfold maxLen at hl
  generalize hn : l.length = n at *
  have HN := hide hn
  clear hn
  go_enter Tryd.func54, Tryd.ntmps54
  go_wp2
  go_loop [5] (fun i => ∃ k : Nat, k ≤ n ∧ i = .int .i64 k ∧ Hid (∀ t (h : t < l.length), t < k → ltB l[t].1 key = true)) (fun i => n - (intOf i).toNat)
  case atStart => exact ⟨0, Nat.zero_le _, rfl, hide fun t _ h => absurd h (by omega)⟩
  case round =>
    obtain ⟨k, hk, rfl, H⟩ := hrel
    by_cases hlt : k < n
    · have hkl : k < l.length := by rw [HN.out]; omega
      obtain ⟨b, off, rfl, hbB, hc⟩ := hin.2 (by omega)
      obtain ⟨c1, _⟩ := hc k hkl
      cases hs : ltB (l[k]'hkl).1 key
      · have E : Hid (atN l key = k) := hide (atN_eq (by omega) H.out (fun _ => hs))
        have hs2 : Op.bytesLess (l[k]'hkl).1.toList key.toList = false := hs
        generalize (l[k]'hkl).1 = s at *
        clear hin hc hs
        go_wp2
        go_ret
        exact ⟨ret_int (by rw [E.out]), rfl⟩
      · have Z : Hid (∀ t (h : t < l.length), t < k + 1 → ltB l[t].1 key = true) := hide (fun t h h' => by
          rcases Nat.lt_or_ge t k with g | g
          · exact H.out t h g
          · obtain rfl : t = k := by omega
            exact hs)
        have hs2 : Op.bytesLess (l[k]'hkl).1.toList key.toList = true := hs
        generalize (l[k]'hkl).1 = s at *
        clear hin hc hs
        go_wp2
        go_round
        case rel => exact ⟨k + 1, by omega, by go_num, Z⟩
        case measure => simp [intOf]; omega
    · obtain rfl : k = n := by omega
      have E : Hid (atN l key = k) := hide (atN_eq (by rw [HN.out]; exact Nat.le_refl _) H.out (fun h => absurd h (by rw [HN.out]; omega)))
      have hk2 : ¬ (k : Int) < (k : Int) := by omega
      clear hlt
      go_wp2
      go_ret
      exact ⟨ret_int (by rw [E.out]), rfl⟩

set_option maxRecDepth 100000 in
set_option maxHeartbeats 1000000 in
theorem l3Find_any (A : Option Addr) (l : List Pr) (cap : Nat) (key : ByteArray) (w : World) (B : Nat) (hl : l.length ≤ maxLen) (hin : PIn w B A l) :
    Calls Tryd.prog 36 #[.slice A l.length cap, .string key] w fun e w' => e = .returned (.tuple #[.string (valOf l key), .bool (hasB l key)]) ∧ w = w' := by
  have R := hide (l3At_any A l cap key w B hl hin)
  have hle := atN_le l key
  unfold maxLen at hl
  by_cases hlt : atN l key < l.length
  · obtain ⟨b, off, rfl, hbB, hc⟩ := hin.2 (by omega)
    obtain ⟨c1, c2⟩ := hc (atN l key) hlt
    have ne : ((atN l key : Int) == (l.length : Int)) = false := by rw [beq_eq_false_iff_ne]; omega
    by_cases he : (l[atN l key]'hlt).1 = key
    · have Z := hide (ret_sb (valOf_yes hlt he) (hasB_yes hlt he))
      have d1 := eqS_yes he
      generalize (l[atN l key]'hlt).1 = s at *
      generalize (l[atN l key]'hlt).2 = v at *
      generalize atN l key = m at *
      clear hin hc he
      generalize l.length = n at *
      go_enter Tryd.func36, Tryd.ntmps36
      go_wp2_with (go_at_call 54; refine R.out.mono ?_; rintro e w' ⟨rfl, rfl⟩)
      go_ret2
      exact ⟨Z.out.symm, rfl⟩
    · have Z := hide (ret_sb (valOf_no (hasB_no hlt he)) (hasB_no hlt he))
      have d1 := eqS_no he
      generalize (l[atN l key]'hlt).1 = s at *
      generalize (l[atN l key]'hlt).2 = v at *
      generalize atN l key = m at *
      clear hin hc he
      generalize l.length = n at *
      go_enter Tryd.func36, Tryd.ntmps36
      go_wp2_with (go_at_call 54; refine R.out.mono ?_; rintro e w' ⟨rfl, rfl⟩)
      go_ret2
      exact ⟨Z.out.symm, rfl⟩
  · have Z := hide (ret_sb (valOf_no (hasB_end hlt)) (hasB_end hlt))
    have ne : ((atN l key : Int) == (l.length : Int)) = true := by rw [beq_iff_eq]; omega
    generalize atN l key = m at *
    clear hin
    generalize l.length = n at *
    go_enter Tryd.func36, Tryd.ntmps36
    go_wp2_with (go_at_call 54; refine R.out.mono ?_; rintro e w' ⟨rfl, rfl⟩)
    go_ret2
    exact ⟨Z.out.symm, rfl⟩

end Go.Proofs.YtkhkcdmmagicmaaDoor
/-
  What impl.textsOf and impl.ObjsOk make of a list of objects.
-/
namespace Go.Proofs.YtkhkcdmmagicmaaDoor
open Go.RowKit Go.Maps

theorem lawS : Keyed Tryd.prog 9 := string_keyed Tryd.underlying9
/-- a text as a key -/
def keyL (s : ByteArray) : Lit := .string s.data.toList
/-- a text as an element -/
def elD (s : ByteArray) : DataW Unit := .lit (.string s.data.toList)
/-- the map that objects fill, one behind the other -/
def mapD (l : List Pr) : DataW Unit := l.foldl (fun D p => D.put (keyL p.1) (elD p.2)) (.map [])
theorem mapD_nil : mapD [] = .map [] := rfl
theorem mapD_step (l : List Pr) (k : Nat) (h : k < l.length) : mapD (l.take (k + 1)) = (mapD (l.take k)).put (keyL l[k].1) (elD l[k].2) := by
  unfold mapD
  rw [List.take_succ_eq_append_getElem h, List.foldl_append]
  rfl
/-- the block bm is the map that the objects l make -/
def TMap (w : World) (bm : Nat) (n : Nat) (l : List Pr) : Prop := w.ownsMap Tryd.prog 9 (plainElem Tryd.prog 9) bm n (mapD l)
theorem run_mkMap (w : World) (n : Nat) : (Instr.makeMap 60 (some (.int .i64 (n : Int)))).run Tryd.prog w = .ok (.map (some w.heap.size)) (w.alloc (.map #[] 0)) := by
  simp [Instr.makeMap, run_underlying Tryd.underlying60, asInt, asIntOf, go_sem]

set_option maxRecDepth 100000 in
set_option maxHeartbeats 4000000 in
theorem textsOf_any (A : Option Addr) (l : List Pr) (cap : Nat) (w : World) (hl : l.length ≤ maxLen) (hin : PIn w w.heap.size A l) (hT : Tabs w) :
    Calls Tryd.prog 40 #[.slice A l.length cap] w fun e w' => Below w.heap.size w w' ∧ ((objsB l = false ∧ e = .returned (.tuple #[.map none, .bool false])) ∨ (objsB l = true ∧ ∃ bm, e = .returned (.tuple #[.map (some bm), .bool true]) ∧ w.heap.size ≤ bm ∧ TMap w' bm l.length l)) := by
  have hlm := hl
  unfold maxLen at hl
  have HT := hide hT
  have IN := hide hin
  have HM := hide hlm
  have RS := hide (rises_any A l cap w hlm hin)
  clear hT hin hlm
  generalize hn : l.length = n at *
  have HN := hide hn
  clear hn
  by_cases h60 : n ≤ 60
  · have c60 : ¬ ((60 : Int) < (n : Int)) := by omega
    go_enter Tryd.func40, Tryd.ntmps40
    go_wp2_with fail
    refine RS.out.mono ?_
    rintro e w1 ⟨rfl, b1⟩
    have B1 := hide b1
    clear b1 RS
    cases hr : risesB l
    · have Z : Hid (objsB l = false) := hide (by
        cases e : objsB l
        · rfl
        · have := risesB_yes (objsB_iff.1 e).2.2; rw [hr] at this; cases this)
      clear hr
      go_wp2
      go_ret2
      exact ⟨B1.out, .inl ⟨Z.out, rfl⟩⟩
    · have HR := hide (risesB_iff.1 hr)
      clear hr
      have hmk := run_mkMap w1 n
      go_wp2
      have M0 : Hid (TMap (w1.alloc (.map #[] 0)) w1.heap.size 0 (l.take 0)) := hide (World.ownsMap_made w1 _ _ _)
      have L0 : Hid (Below w1.heap.size w1 (w1.alloc (.map #[] 0))) := hide ((Below.refl _ _).alloc (Nat.le_refl _) _)
      have T1 := hide (HT.out.below B1.out HT.out.1)
      have I1 := hide ((IN.out.below B1.out).more B1.out.size)
      have hg1 := T1.out.1
      go_loopw [20] (fun iv wr => ∃ k : Nat, k ≤ n ∧ iv = .int .i64 k ∧ Hid (textsTo l k) ∧ Hid (TMap wr w1.heap.size k (l.take k)) ∧ Hid (Below w1.heap.size w1 wr)) (fun i _ => n - (intOf i).toNat)
      case atStart => exact ⟨0, Nat.zero_le _, rfl, textsTo_zero l, M0, L0⟩
      case round =>
        clear M0 L0
        obtain ⟨k, hk, rfl, H, M, Q⟩ := hrel
        have hqs := Q.out.size
        by_cases hlt : k < n
        · have hin2 := I1.out.below Q.out
          obtain ⟨b, off, rfl, hbB, hc⟩ := hin2.2 (by rw [HN.out]; omega)
          have hkl : k < l.length := by rw [HN.out]; omega
          have hbw : b < wr.heap.size := by omega
          obtain ⟨c1, c2⟩ := hc k hkl
          obtain ⟨s1, s2⟩ := hin2.1 k hkl
          have TW := hide (T1.out.below Q.out hg1)
          have MS := hide (mapD_step l k hkl)
          by_cases htx : (l[k]'hkl).2.size ≤ 2000
          · have ht : decide ((2000 : Int) < ((l[k]'hkl).2.size : Int)) = false := decide_eq_false (by omega)
            by_cases hid : idL (l[k]'hkl).2 = (l[k]'hkl).1
            · have ne := eqS_yes hid.symm
              have Z1 := hide (textsTo_succ hkl H.out htx hid)
              have L2 : Hid (∀ W, Tabs W → Calls Tryd.prog 59 #[.string (l[k]'hkl).2] W fun e w' => e = .returned (.string (idL (l[k]'hkl).2)) ∧ Below W.heap.size W w') := hide fun W hW => idI_any _ W htx hW
              generalize idL (l[k]'hkl).2 = dd at *
              generalize (l[k]'hkl).1 = s at *
              generalize (l[k]'hkl).2 = v at *
              have HI := hide hid
              clear hin2 hc hid
              go_wp2
              have y1 := cls_cell (B := wr.heap.size + 1) (w := wr.alloc (.cells #[.string s, .string v] 51)) (p := ⟨wr.heap.size, 0, none⟩) (by exact Nat.lt_succ_self _) (by rw [cell_of_row _ _ 0 _ _ _ (heap_alloc_new wr _)]; rfl : _ = some (.string s))
              have y2 := cls_cell (B := wr.heap.size + 1) (w := wr.alloc (.cells #[.string s, .string v] 51)) (p := ⟨wr.heap.size, 1, none⟩) (by exact Nat.lt_succ_self _) (by rw [cell_of_row _ _ 1 _ _ _ (heap_alloc_new wr _)]; rfl : _ = some (.string v))
              refine wp_region_cls (by kernel_rfl) (by kernel_rfl) (wr.heap.size + 1) ?_
              repeat (go_big_quiet_step ((go_at_call 59; exact cls_call (by simp) (L2.out _ (TW.out.below ((Below.refl wr.heap.size wr).alloc (Nat.le_refl _) (.cells #[.string s, .string v] 51) |>.trans (Cls.below _ |>.mono (Nat.le_succ _))) (by omega))))))
              refine wpQuiet_nil ?_
              intro _ hw'
              obtain ⟨u, hw''⟩ := hw'
              subst hw''
              have MU : Hid (TMap u.wo w1.heap.size k (l.take k)) := hide ((M.out.alloc _).kept (Below.toGrown (by rw [show (wr.alloc (.cells #[.string s, .string v] 51)).heap.size = wr.heap.size + 1 by simp]; exact u.below) none) (by simp))
              have g1 := y1 u
              have g2 := y2 u
              clear y1 y2
              go_wp2_with (at_mapUpdate; refine wpList_mapUpdate_own _ rfl _ _ _ 60 rfl 9 9 lawS Tryd.underlying60 _ w1.heap.size k (mapD (l.take k)) rfl MU.out (by unfold maxLen; omega) _ _ (keyL s) rfl rfl (Go.WideMaps.keyOf_string_mk Tryd.underlying9 s1) (elD v) [] (plainElem_string Tryd.underlying9 s2) ?_; intro w5 o5 g5)
              have O5 : Hid (TMap w5 w1.heap.size (k + 1) (l.take (k + 1))) := hide (by unfold TMap; rw [MS.out]; exact o5)
              have B5 : Hid (Below w1.heap.size w1 w5) := hide (((Q.out.alloc hqs _).trans (u.below.mono (by omega))).grown g5 (by have := u.below.size; simp at this; omega) (fun j hj => by injection hj with hj; omega))
              clear o5 g5
              go_wp2
              exact ⟨⟨k + 1, by omega, by go_num, Z1, O5, B5⟩, by simp [intOf]; omega⟩
            · have ne := eqS_no (fun h => hid h.symm)
              have Z := hide (objsB_id hkl hid)
              have L2 : Hid (∀ W, Tabs W → Calls Tryd.prog 59 #[.string (l[k]'hkl).2] W fun e w' => e = .returned (.string (idL (l[k]'hkl).2)) ∧ Below W.heap.size W w') := hide fun W hW => idI_any _ W htx hW
              generalize idL (l[k]'hkl).2 = dd at *
              generalize (l[k]'hkl).1 = s at *
              generalize (l[k]'hkl).2 = v at *
              clear hin2 hc hid
              go_wp2
              have y1 := cls_cell (B := wr.heap.size + 1) (w := wr.alloc (.cells #[.string s, .string v] 51)) (p := ⟨wr.heap.size, 0, none⟩) (by exact Nat.lt_succ_self _) (by rw [cell_of_row _ _ 0 _ _ _ (heap_alloc_new wr _)]; rfl : _ = some (.string s))
              have y2 := cls_cell (B := wr.heap.size + 1) (w := wr.alloc (.cells #[.string s, .string v] 51)) (p := ⟨wr.heap.size, 1, none⟩) (by exact Nat.lt_succ_self _) (by rw [cell_of_row _ _ 1 _ _ _ (heap_alloc_new wr _)]; rfl : _ = some (.string v))
              refine wp_region_cls (by kernel_rfl) (by kernel_rfl) (wr.heap.size + 1) ?_
              repeat (go_big_quiet_step ((go_at_call 59; exact cls_call (by simp) (L2.out _ (TW.out.below ((Below.refl wr.heap.size wr).alloc (Nat.le_refl _) (.cells #[.string s, .string v] 51) |>.trans (Cls.below _ |>.mono (Nat.le_succ _))) (by omega))))))
              refine wpQuiet_nil ?_
              intro _ hw'
              obtain ⟨u, hw''⟩ := hw'
              subst hw''
              go_wp2
              go_ret2
              exact ⟨B1.out.trans (((Q.out.alloc hqs _).trans (u.below.mono (by omega))).mono B1.out.size), .inl ⟨Z.out, rfl⟩⟩
          · have ht : decide ((2000 : Int) < ((l[k]'hkl).2.size : Int)) = true := decide_eq_true (by omega)
            have Z := hide (objsB_text hkl (by omega))
            generalize (l[k]'hkl).1 = s at *
            generalize (l[k]'hkl).2 = v at *
            clear hin2 hc
            go_wp2
            have y1 := cls_cell (B := wr.heap.size + 1) (w := wr.alloc (.cells #[.string s, .string v] 51)) (p := ⟨wr.heap.size, 0, none⟩) (by exact Nat.lt_succ_self _) (by rw [cell_of_row _ _ 0 _ _ _ (heap_alloc_new wr _)]; rfl : _ = some (.string s))
            have y2 := cls_cell (B := wr.heap.size + 1) (w := wr.alloc (.cells #[.string s, .string v] 51)) (p := ⟨wr.heap.size, 1, none⟩) (by exact Nat.lt_succ_self _) (by rw [cell_of_row _ _ 1 _ _ _ (heap_alloc_new wr _)]; rfl : _ = some (.string v))
            refine wp_region_cls (by kernel_rfl) (by kernel_rfl) (wr.heap.size + 1) ?_
            repeat (go_big_quiet_step (fail))
            refine wpQuiet_nil ?_
            intro _ hw'
            obtain ⟨u, hw''⟩ := hw'
            subst hw''
            go_wp2
            go_ret2
            exact ⟨B1.out.trans (((Q.out.alloc hqs _).trans (u.below.mono (by omega))).mono B1.out.size), .inl ⟨Z.out, rfl⟩⟩
        · have ek : Hid (k = n) := hide (by omega)
          have hgt : ¬ ((k : Int) < (n : Int)) := by omega
          clear hlt
          go_wp2
          go_ret2
          refine ⟨B1.out.trans (Q.out.mono B1.out.size), .inr ⟨objsB_yes (by rw [HN.out]; exact h60) (by rw [HN.out, ← ek.out]; exact H.out) HR.out, w1.heap.size, rfl, B1.out.size, ?_⟩⟩
          have h := M.out
          rw [ek.out, ← HN.out, List.take_length] at h
          rw [← HN.out]
          exact h
  · have Z : Hid (objsB l = false) := hide (objsB_len (by rw [HN.out]; omega))
    have c60 : (60 : Int) < (n : Int) := by omega
    go_enter Tryd.func40, Tryd.ntmps40
    go_wp2
    go_ret2
    exact ⟨Below.refl _ _, .inl ⟨Z.out, rfl⟩⟩

end Go.Proofs.YtkhkcdmmagicmaaDoor
/-
  What Find tells, in the reference and in the program.
-/
namespace Go.Proofs.YtkhkcdmmagicmaaDoor
open Go.RowKit Go.Maps

theorem keyL_inj {a b : ByteArray} (h : keyL a = keyL b) : a = b := by
  unfold keyL at h
  injection h with h
  exact Go.WideShapes.bytes_inj h
theorem keyL_key (s : ByteArray) : WideAt.IsKeyLit (keyL s) := trivial
theorem mapF_isMap : ∀ (l : List Pr) (D : DataW Unit), IsMap D → IsMap (l.foldl (fun D p => D.put (keyL p.1) (elD p.2)) D)
  | [], _, h => h
  | _ :: r, _, h => mapF_isMap r _ (h.put _ _)
theorem mapF_miss (k : ByteArray) : ∀ (l : List Pr) (D : DataW Unit), (∀ p ∈ l, p.1 ≠ k) → (has (l.foldl (fun D p => D.put (keyL p.1) (elD p.2)) D) (keyL k) = has D (keyL k)) ∧ ∀ z, (l.foldl (fun D p => D.put (keyL p.1) (elD p.2)) D).atKey (keyL k) z = D.atKey (keyL k) z
  | [], _, _ => ⟨rfl, fun _ => rfl⟩
  | p :: r, D, h => by
    have ih := mapF_miss k r (D.put (keyL p.1) (elD p.2)) (fun q hq => h q (List.mem_cons_of_mem _ hq))
    have hne : keyL k ≠ keyL p.1 := fun e => h p (List.mem_cons_self ..) (keyL_inj e).symm
    refine ⟨ih.1.trans (has_put_other hne _), fun z => (ih.2 z).trans (atKey_put_other hne _ z)⟩
/-- what the map of right objects tells at an id -/
theorem mapD_look {l : List Pr} (hr : risesTo l l.length) (k : ByteArray) : has (mapD l) (keyL k) = hasB l k ∧ (mapD l).atKey (keyL k) (elD ByteArray.empty) = elD (valOf l k) := by
  by_cases hh : ∃ i, ∃ h : i < l.length, l[i].1 = k
  · obtain ⟨i, h, e⟩ := hh
    have hat : atN l k = i := atN_eq (by omega) (fun j hj hji => by rw [← e]; exact rises_lt hr i h j hji) (fun _ => by rw [e]; exact ltB_irrefl k)
    have hs : l = l.take i ++ l[i] :: l.drop (i + 1) := by rw [List.getElem_cons_drop, List.take_append_drop]
    have hm : ∀ p ∈ l.drop (i + 1), p.1 ≠ k := by
      intro p hp ep
      obtain ⟨j, hj, rfl⟩ := List.getElem_of_mem hp
      rw [List.getElem_drop] at ep
      have hj' : i + 1 + j < l.length := by simp at hj; omega
      have := rises_lt hr (i + 1 + j) hj' i (by omega)
      rw [e, ep, ltB_irrefl] at this
      cases this
    have hD : mapD l = (l.drop (i + 1)).foldl (fun D p => D.put (keyL p.1) (elD p.2)) ((mapD (l.take i)).put (keyL l[i].1) (elD l[i].2)) := by
      conv => lhs; rw [hs]
      unfold mapD
      rw [List.foldl_append]
      rfl
    have hmiss := mapF_miss k _ ((mapD (l.take i)).put (keyL l[i].1) (elD l[i].2)) hm
    have hmap : IsMap (mapD (l.take i)) := mapF_isMap _ _ isMap_empty
    have h1 : hasB l k = true := hasB_iff.2 ⟨by rw [hat]; exact h, by simp only [hat]; exact e⟩
    have h2 : valOf l k = l[i].2 := by
      rw [valOf_yes (by rw [hat]; exact h) (by simp only [hat]; exact e)]
      simp only [hat]
    rw [hD, h1, h2, hmiss.1, hmiss.2, e]
    exact ⟨has_put_same hmap (keyL_key k) _, atKey_put_same hmap (keyL_key k) _ _⟩
  · have hm : ∀ p ∈ l, p.1 ≠ k := by
      intro p hp ep
      obtain ⟨j, hj, rfl⟩ := List.getElem_of_mem hp
      exact hh ⟨j, hj, ep⟩
    have hmiss := mapF_miss k l (.map []) hm
    have h1 : hasB l k = false := by
      cases e : hasB l k
      · rfl
      · obtain ⟨h, e'⟩ := hasB_iff.1 e
        exact absurd ⟨_, h, e'⟩ hh
    refine ⟨hmiss.1.trans ?_, (hmiss.2 _).trans ?_⟩
    · rw [h1]; rfl
    · rw [valOf_no h1]; rfl

/-- whether Find finds, and what -/
noncomputable def findB (l : List Pr) (k : ByteArray) : Bool := objsB l && hasB l k
noncomputable def findV (l : List Pr) (k : ByteArray) : ByteArray := if objsB l = true then valOf l k else ByteArray.empty
theorem findB_no {l : List Pr} {k : ByteArray} (h : objsB l = false) : findB l k = false := by unfold findB; rw [h]; rfl
theorem findB_yes {l : List Pr} {k : ByteArray} (h : objsB l = true) : findB l k = hasB l k := by unfold findB; rw [h]; rfl
theorem findV_no {l : List Pr} {k : ByteArray} (h : objsB l = false) : findV l k = ByteArray.empty := by unfold findV; rw [h]; rfl
theorem findV_yes {l : List Pr} {k : ByteArray} (h : objsB l = true) : findV l k = valOf l k := by unfold findV; rw [h]; rfl

set_option maxRecDepth 100000 in
set_option maxHeartbeats 1000000 in
theorem specFind_any (A : Option Addr) (l : List Pr) (cap : Nat) (key : ByteArray) (w : World) (hl : l.length ≤ maxLen) (hin : PIn w w.heap.size A l) :
    Calls Tryd.prog 25 #[.slice A l.length cap, .string key] w fun e w' => e = .returned (.tuple #[.string (findV l key), .bool (findB l key)]) ∧ Below w.heap.size w w' := by
  have R := hide (specObjsOk_any A l cap w hl hin)
  have IN := hide hin
  have HL := hide hl
  clear hin hl
  go_enter Tryd.func25, Tryd.ntmps25
  go_wp2_with fail
  refine R.out.mono ?_
  rintro e w1 ⟨rfl, b1⟩
  have B1 := hide b1
  clear b1 R
  cases hm : objsB l
  · have Z := hide (ret_sb (findV_no (k := key) hm) (findB_no (k := key) hm))
    clear hm
    go_wp2
    go_ret2
    exact ⟨Z.out.symm, B1.out⟩
  · have Z := hide (ret_sb (findV_yes (k := key) hm) (findB_yes (k := key) hm))
    have F := hide (l3Find_any A l cap key w1 w.heap.size HL.out (IN.out.below B1.out))
    clear hm
    generalize valOf l key = vv at Z F
    generalize hasB l key = hb at Z F
    go_wp2_with fail
    refine F.out.mono ?_
    rintro e w2 ⟨rfl, rfl⟩
    go_wp2
    go_ret2
    exact ⟨Z.out.symm, B1.out⟩

theorem zeroS (w : World) : (zeroValue 9).run Tryd.prog w = .ok (.string ByteArray.empty) w := by kernel_rfl

set_option maxRecDepth 100000 in
set_option maxHeartbeats 1000000 in
theorem implFind_any (A : Option Addr) (l : List Pr) (cap : Nat) (key : ByteArray) (w : World) (hk : key.size ≤ maxLen) (hl : l.length ≤ maxLen) (hin : PIn w w.heap.size A l) (hT : Tabs w) :
    Calls Tryd.prog 29 #[.slice A l.length cap, .string key] w fun e w' => e = .returned (.tuple #[.string (findV l key), .bool (findB l key)]) ∧ Below w.heap.size w w' := by
  have T := hide (textsOf_any A l cap w hl hin hT)
  clear hin hT hl
  go_enter Tryd.func29, Tryd.ntmps29
  go_wp2_with fail
  refine T.out.mono ?_
  rintro e w1 ⟨b1, ⟨hf, rfl⟩ | ⟨hf, bm, rfl, _, tm⟩⟩
  · have B1 := hide b1
    have Z := hide (ret_sb (findV_no (k := key) hf) (findB_no (k := key) hf))
    clear b1 hf T
    go_wp2
    go_ret2
    exact ⟨Z.out.symm, B1.out⟩
  · have B1 := hide b1
    obtain ⟨q1, q2⟩ := mapD_look (objsB_iff.1 hf).2.2 key
    obtain ⟨v, ps, hrun, hv⟩ := World.ownsMap.look_ok tm lawS Tryd.underlying60 (zeroS w1) (zd := elD ByteArray.empty) (zp := []) (plainElem_string Tryd.underlying9 (by simp [maxLen])) (Go.WideMaps.keyOf_string_mk Tryd.underlying9 hk)
    obtain ⟨c, rfl, hc, _⟩ := plainElem_string_inv Tryd.underlying9 hv
    have q2' : (mapD l).atKey (keyL key) (elD ByteArray.empty) = elD c := by injection hc
    have ec : c = valOf l key := by
      rw [q2] at q2'
      unfold elD at q2'
      injection q2' with q2'
      injection q2' with q2'
      exact (Go.WideShapes.bytes_inj q2').symm
    have q1' : Maps.has (mapD l) (.string key.data.toList) = hasB l key := q1
    rw [q1', ec] at hrun
    have Z := hide (ret_sb (findV_yes (k := key) hf) (findB_yes (k := key) hf))
    clear b1 hf T tm hv hc q1 q1' q2 q2' ec
    generalize valOf l key = vv at *
    generalize hasB l key = hb at *
    go_wp2
    go_ret2
    exact ⟨Z.out.symm, B1.out⟩
end Go.Proofs.YtkhkcdmmagicmaaDoor
/-
  What spec.l1Split does: what stands between blanks, in a row of the call's own.
-/
namespace Go.Proofs.YtkhkcdmmagicmaaDoor
open Go.RowKit

def more (sv bv : Value) : Nat := match sv, bv with
  | .string r, .bool true => r.size + 1
  | _, _ => 0
theorem more_t (r : ByteArray) : more (.string r) (.bool true) = r.size + 1 := rfl
theorem more_f (r : ByteArray) : more (.string r) (.bool false) = 0 := rfl

set_option maxRecDepth 100000 in
set_option maxHeartbeats 1000000 in
theorem l1Split_any (s : ByteArray) (w : World) (hs : s.size ≤ 1048576) :
    Calls Tryd.prog 52 #[.string s] w fun e w' => ∃ A cap, e = .returned (.slice A (splitF (s.size + 1) s).length cap) ∧ ZOwn w' w.heap.size A cap (splitF (s.size + 1) s) ∧ Below w.heap.size w w' ∧ (splitF (s.size + 1) s).length ≤ s.size + 1 := by
  have O0 := hide (ZOwn.built w w.heap.size (Nat.le_refl _))
  have B0 := hide ((Below.refl w.heap.size w).alloc (Nat.le_refl _) (.cells #[] 9))
  have E0 : Hid (splitF (s.size + 1) s = [] ++ splitF (s.size + 1) s) := hide (by simp)
  go_enter Tryd.func52, Tryd.ntmps52
  go_wp2
  go_loopw [0, 3, 4] (fun sv ov bv wr => ∃ (r : ByteArray) (d : List ByteArray) (A : Option Addr) (cap k : Nat) (b : Bool), sv = .string r ∧ ov = .slice A d.length cap ∧ bv = .bool b ∧ d.length + k ≤ s.size + 1 ∧ (b = true → r.size + 1 ≤ k) ∧ Hid (splitF (s.size + 1) s = if b then d ++ splitF k r else d) ∧ Hid (ZOwn wr w.heap.size A cap d) ∧ Hid (Below w.heap.size w wr)) (fun sv _ bv _ => more sv bv)
  case atStart => exact ⟨s, [], _, 0, s.size + 1, true, rfl, rfl, rfl, by simp, fun _ => Nat.le_refl _, E0, O0, B0⟩
  case round =>
    clear O0 B0 E0
    obtain ⟨r, d, A, cap, k, b, rfl, rfl, rfl, hd, hk, E, O, Q⟩ := hrel
    cases b
    · have Z : Hid (splitF (s.size + 1) s = d) := hide E.out
      clear E hk
      go_wp2
      go_ret
      exact ⟨A, cap, by rw [Z.out]; rfl, by rw [Z.out]; exact O.out, Q.out, by rw [Z.out]; omega⟩
    · obtain ⟨k, rfl⟩ : ∃ j, k = j + 1 := ⟨k - 1, by have := hk rfl; omega⟩
      have hk' : r.size ≤ k := by have := hk rfl; omega
      have hE : splitF (s.size + 1) s = d ++ splitF (k + 1) r := E.out
      have HE := hide hE
      clear E hk hE
      go_wp2_with fail
      refine (l1Cut_any r 32 32 wr (by unfold maxLen; omega) rfl).mono ?_
      rintro e w1 ⟨rfl, q1⟩
      have O1 := hide (O.out.below (q1.below _))
      have Q1 := hide (Q.out.trans (q1.below _))
      have hq1 := Q1.out.size
      clear q1 O Q
      cases hc : (cutS r 32).2.2
      · have Z : Hid (splitF (s.size + 1) s = d ++ [(cutS r 32).1]) := hide (by rw [HE.out, splitF_last hc])
        generalize (cutS r 32).1 = x at *
        generalize (cutS r 32).2.1 = y at *
        have hl1 : (d ++ [x]).length = d.length + 1 := by simp
        go_wp2_with (at_builtin; refine wpList_appZ (l := d) (l' := [x]) 43 Tryd.underlying43 rfl (.tmp 14) (.tmp 16) rfl rfl rfl rfl rfl (O1.out.alloc _) (ZIn.one x _ rfl) (Nat.le_trans hq1 (by simp)) (by simp; omega) ?_; intro A3 cap3 w3 own3 g3 r3; have B3 := hide (Q1.out.trans (((Below.refl _ w1).alloc hq1 (.cells #[Value.string x] 9)).trans ((O1.out.alloc (.cells #[Value.string x] 9)).grownBelow g3 (Nat.le_trans hq1 (by simp))))); have O3 := hide own3; clear own3 g3 r3)
        go_roundw
        case rel => exact ⟨y, d ++ [x], A3, cap3, 0, false, rfl, by rw [hl1], rfl, by rw [hl1]; omega, fun h => (Bool.noConfusion h), Z, O3, B3⟩
        case measure => simp only [more_t, more_f]; omega
      · have Z : Hid (splitF (s.size + 1) s = (d ++ [(cutS r 32).1]) ++ splitF k (cutS r 32).2.1) := hide (by rw [HE.out, splitF_more hc]; simp)
        have hrr := cutA_rest hc
        generalize (cutS r 32).1 = x at *
        generalize (cutS r 32).2.1 = y at *
        have hl1 : (d ++ [x]).length = d.length + 1 := by simp
        go_wp2_with (at_builtin; refine wpList_appZ (l := d) (l' := [x]) 43 Tryd.underlying43 rfl (.tmp 14) (.tmp 16) rfl rfl rfl rfl rfl (O1.out.alloc _) (ZIn.one x _ rfl) (Nat.le_trans hq1 (by simp)) (by simp; omega) ?_; intro A3 cap3 w3 own3 g3 r3; have B3 := hide (Q1.out.trans (((Below.refl _ w1).alloc hq1 (.cells #[Value.string x] 9)).trans ((O1.out.alloc (.cells #[Value.string x] 9)).grownBelow g3 (Nat.le_trans hq1 (by simp))))); have O3 := hide own3; clear own3 g3 r3)
        go_roundw
        case rel => exact ⟨y, d ++ [x], A3, cap3, k, true, rfl, by rw [hl1], rfl, by rw [hl1]; omega, fun _ => by omega, Z, O3, B3⟩
        case measure => simp only [more_t]; omega
end Go.Proofs.YtkhkcdmmagicmaaDoor
/-
  What impl's commitReader.commit does: it returns the right commit whose text is read, or panics with the sentinel where there is none.
-/
namespace Go.Proofs.YtkhkcdmmagicmaaDoor
open Go.RowKit

def C3 (t : ByteArray) (A : Option Addr) (n cap : Nat) (m : ByteArray) : Obj := .cells #[.string t, .slice A n cap, .string m] 45 (0, 0)
/-- the reader at work: what is left, the result's block, the commit that is made, its parents' row -/
structure St (w wr : World) (rb g : Nat) (r t : ByteArray) (A : Option Addr) (cap : Nat) (ps : List ByteArray) (m : ByteArray) : Prop where
  rd : RdR wr rb r
  c1 : wr.heap[g]? = some (C3 ByteArray.empty none 0 0 ByteArray.empty)
  c2 : wr.heap[g + 1]? = some (C3 t A ps.length cap m)
  own : ZOwn wr (g + 1 + 1) A cap ps
  bl : Below rb w wr
  lt : rb < g
  sz : g + 1 + 1 ≤ wr.heap.size
theorem St.drew {w wr : World} {rb g : Nat} {r t : ByteArray} {A : Option Addr} {cap : Nat} {ps : List ByteArray} {m : ByteArray} (h : St w wr rb g r t A cap ps m) : St w wr.drew rb g r t A cap ps m :=
  ⟨h.rd, h.c1, h.c2, h.own.below (Below.refl _ _).drew, h.bl.drew, h.lt, h.sz⟩
theorem St.below {w wr w' : World} {rb g : Nat} {r t : ByteArray} {A : Option Addr} {cap : Nat} {ps : List ByteArray} {m : ByteArray} (h : St w wr rb g r t A cap ps m) (q : Below wr.heap.size wr w') : St w w' rb g r t A cap ps m := by
  have h1 := h.lt
  have h2 := h.sz
  exact ⟨(q.block _ (by omega)).trans h.rd, (q.block _ (by omega)).trans h.c1, (q.block _ (by omega)).trans h.c2, h.own.below q, h.bl.trans (q.mono (by omega)), h1, Nat.le_trans h2 q.size⟩
theorem St.setR {w wr : World} {rb g : Nat} {r t : ByteArray} {A : Option Addr} {cap : Nat} {ps : List ByteArray} {m : ByteArray} (h : St w wr rb g r t A cap ps m) (r' : ByteArray) : St w (wr.setCell ⟨rb, 0, none⟩ (.string r')) rb g r' t A cap ps m := by
  have h1 := h.lt
  exact ⟨rd_set h.rd r', (Below.heap_setCell _ _ _ _ (by show g ≠ rb; omega)).trans h.c1, (Below.heap_setCell _ _ _ _ (by show g + 1 ≠ rb; omega)).trans h.c2, ownsRow_setCell_below h.own (by show rb < _; omega) _, h.bl.setCell (Nat.le_refl _) _, h1, Nat.le_trans h.sz ((Below.refl rb wr).setCell (p := ⟨rb, 0, none⟩) (Nat.le_refl _) (.string r')).size⟩
theorem St.setT {w wr : World} {rb g : Nat} {r t : ByteArray} {A : Option Addr} {cap : Nat} {ps : List ByteArray} {m : ByteArray} (h : St w wr rb g r t A cap ps m) (t' : ByteArray) : St w (wr.setCell ⟨g + 1, 0, none⟩ (.string t')) rb g r t' A cap ps m := by
  have h1 := h.lt
  exact ⟨(Below.heap_setCell _ _ _ _ (by show rb ≠ g + 1; omega)).trans h.rd, (Below.heap_setCell _ _ _ _ (by show g ≠ g + 1; omega)).trans h.c1, heap_setCell_same wr (g + 1) 0 _ _ _ h.c2, ownsRow_setCell_below h.own (by show g + 1 < _; omega) _, h.bl.setCell (by show rb ≤ g + 1; omega) _, h1, Nat.le_trans h.sz ((Below.refl rb wr).setCell (p := ⟨g + 1, 0, none⟩) (by show rb ≤ g + 1; omega) (.string t')).size⟩
theorem St.setM {w wr : World} {rb g : Nat} {r t : ByteArray} {A : Option Addr} {cap : Nat} {ps : List ByteArray} {m : ByteArray} (h : St w wr rb g r t A cap ps m) (m' : ByteArray) : St w (wr.setCell ⟨g + 1, 2, none⟩ (.string m')) rb g r t A cap ps m' := by
  have h1 := h.lt
  exact ⟨(Below.heap_setCell _ _ _ _ (by show rb ≠ g + 1; omega)).trans h.rd, (Below.heap_setCell _ _ _ _ (by show g ≠ g + 1; omega)).trans h.c1, heap_setCell_same wr (g + 1) 2 _ _ _ h.c2, ownsRow_setCell_below h.own (by show g + 1 < _; omega) _, h.bl.setCell (by show rb ≤ g + 1; omega) _, h1, Nat.le_trans h.sz ((Below.refl rb wr).setCell (p := ⟨g + 1, 2, none⟩) (by show rb ≤ g + 1; omega) (.string m')).size⟩
/-- the row has grown by one, and the cell takes it -/
theorem St.more {w wr w' : World} {rb g : Nat} {r t : ByteArray} {A A' : Option Addr} {cap cap' : Nat} {ps : List ByteArray} {m p : ByteArray} (h : St w wr rb g r t A cap ps m) (q : Below (g + 1 + 1) wr w') (o : ZOwn w' (g + 1 + 1) A' cap' (ps ++ [p])) : St w (w'.setCell ⟨g + 1, 1, none⟩ (.slice A' (ps ++ [p]).length cap')) rb g r t A' cap' (ps ++ [p]) m := by
  have h1 := h.lt
  have e2 : w'.heap[g + 1]? = some (C3 t A ps.length cap m) := (q.block _ (by omega)).trans h.c2
  exact ⟨(Below.heap_setCell _ _ _ _ (by show rb ≠ g + 1; omega)).trans ((q.block _ (by omega)).trans h.rd), (Below.heap_setCell _ _ _ _ (by show g ≠ g + 1; omega)).trans ((q.block _ (by omega)).trans h.c1), heap_setCell_same w' (g + 1) 1 _ _ _ e2, ownsRow_setCell_below o (by show g + 1 < _; omega) _, (h.bl.trans (q.mono (by omega))).setCell (by show rb ≤ g + 1; omega) _, h1, Nat.le_trans (Nat.le_trans h.sz q.size) ((Below.refl rb w').setCell (p := ⟨g + 1, 1, none⟩) (by show rb ≤ g + 1; omega) _).size⟩
theorem St.cells {w wr : World} {rb g : Nat} {r t : ByteArray} {A : Option Addr} {cap : Nat} {ps : List ByteArray} {m : ByteArray} (h : St w wr rb g r t A cap ps m) :
    wr.cell? ⟨rb, 0, none⟩ = some (.string r) ∧ wr.cell? ⟨g + 1, 0, none⟩ = some (.string t) ∧ wr.cell? ⟨g + 1, 1, none⟩ = some (.slice A ps.length cap) ∧ wr.cell? ⟨g + 1, 2, none⟩ = some (.string m) ∧ wr.frozen? ⟨g + 1, 0, none⟩ = false ∧ wr.frozen? ⟨g + 1, 1, none⟩ = false ∧ wr.frozen? ⟨g + 1, 2, none⟩ = false :=
  ⟨cell_of_row _ _ 0 _ _ _ h.rd, cell_of_row _ _ 0 _ _ _ h.c2, cell_of_row _ _ 1 _ _ _ h.c2, cell_of_row _ _ 2 _ _ _ h.c2, frozen_of_row _ _ 0 _ _ h.c2, frozen_of_row _ _ 1 _ _ h.c2, frozen_of_row _ _ 2 _ _ h.c2⟩
theorem St.cells1 {w wr : World} {rb g : Nat} {r t : ByteArray} {A : Option Addr} {cap : Nat} {ps : List ByteArray} {m : ByteArray} (h : St w wr rb g r t A cap ps m) :
    wr.cell? ⟨g, 0, none⟩ = some (.string ByteArray.empty) ∧ wr.cell? ⟨g, 1, none⟩ = some (.slice none 0 0) ∧ wr.cell? ⟨g, 2, none⟩ = some (.string ByteArray.empty) ∧ wr.frozen? ⟨g, 0, none⟩ = false ∧ wr.frozen? ⟨g, 1, none⟩ = false ∧ wr.frozen? ⟨g, 2, none⟩ = false :=
  ⟨cell_of_row _ _ 0 _ _ _ h.c1, cell_of_row _ _ 1 _ _ _ h.c1, cell_of_row _ _ 2 _ _ _ h.c1, frozen_of_row _ _ 0 _ _ h.c1, frozen_of_row _ _ 1 _ _ h.c1, frozen_of_row _ _ 2 _ _ h.c1⟩
theorem St.start {w : World} {rb : Nat} {r : ByteArray} (h : RdR w rb r) (hb : rb < w.heap.size) : St w ((w.alloc (.cells #[.string ByteArray.empty, .slice none 0 0, .string ByteArray.empty] 45)).alloc (.cells #[.string ByteArray.empty, .slice none 0 0, .string ByteArray.empty] 45)) rb w.heap.size r ByteArray.empty none 0 [] ByteArray.empty :=
  ⟨(Below.heap_alloc _ _ _ (by simp; omega)).trans ((Below.heap_alloc _ _ _ hb).trans h), heap_alloc2_old w _ _, heap_alloc2_new w _ _, ZOwn.nil _ _, ((Below.refl rb w).alloc (by omega) _).alloc (by simp; omega) _, hb, by simp⟩
def lenAt (w : World) (p : Addr) : Nat := match w.cell? p with
  | some (.slice _ n _) => n
  | _ => 0
theorem lenAt_of {w : World} {p : Addr} {A : Option Addr} {n cap : Nat} (h : w.cell? p = some (.slice A n cap)) : lenAt w p = n := by unfold lenAt; rw [h]
section
variable (t ty : TypeId) (ht : Tryd.prog.underlying t = some (.slice 9))
include ht
theorem step_appZ {w : World} {ops : Array Oper} {o : Oper} {a : Act} {K : Act → World → Prop} {Q : Exit → Act → World → Prop} {E : Prop} (hgd : o.guard = none) (s x : Operand)
    (ho : o.op = .call { callee := .builtin .append, args := #[s, x], argTypes := #[t, t] })
    {B B' : Nat} {A A' : Option Addr} {cap c n m : Nat} {l l' : List ByteArray} (hs : a.eval s = .slice A n cap) (hx : a.eval x = .slice A' m c) (hn : n = l.length) (hm : m = l'.length)
    (hown : ZOwn w B A cap l) (hin : ZIn w B' A' l') (hB : B ≤ w.heap.size) (hb : l.length + l'.length ≤ 3000000)
    (h : ∀ A2 cap2 w', ZOwn w' B A2 cap2 (l ++ l') → w.grownBy w' (rowOf A) → (rowOf A2 = rowOf A ∨ rowOf A2 = some w.heap.size) → K (a.put o.dst (.slice A2 (l ++ l').length cap2)) w') :
    if Region.wanted o (yielded ops a.tmps) = true then Oper.wp Tryd.prog o a w K Q else E := by
  have hw : Region.wanted o (yielded ops a.tmps) = true := by simp [Region.wanted, hgd]
  rw [if_pos hw]
  exact wp_appZ t ht s x ho hs hx hn hm hown hin hB hb h
end
end Go.Proofs.YtkhkcdmmagicmaaDoor
/-
  The walk of impl's commitReader.commit.
-/
namespace Go.Proofs.YtkhkcdmmagicmaaDoor
open Go.RowKit

def RetRd (s : ByteArray) (rb : Nat) (a : Addr) (w : World) (e : Ending) (w' : World) : Prop :=
  Below rb w w' ∧ ((∃ A cap t ps m, isCom s (t, ps, m) ∧ e = .returned (.agg #[.string t, .slice A ps.length cap, .string m]) ∧ ZOwn w' (w.heap.size + 1 + 1) A cap ps) ∨ ((¬ ∃ c, isCom s c) ∧ e = pan a))
theorem split_at {r : ByteArray} {n : Nat} (h : n ≤ r.size) : ∃ x r' : ByteArray, x.size = n ∧ r.data.toList = x.data.toList ++ r'.data.toList :=
  ⟨⟨(r.data.toList.take n).toArray⟩, ⟨(r.data.toList.drop n).toArray⟩, by
    show (r.data.toList.take n).toArray.size = n
    have h2 : r.data.toList.length = r.size := by simp
    rw [List.size_toArray, List.length_take, h2]
    omega, by simp⟩
theorem pre_rest {r : ByteArray} {l : List UInt8} (h : l <+: r.data.toList) : ∃ r' : ByteArray, r.data.toList = l ++ r'.data.toList := by
  obtain ⟨x, hx⟩ := h
  exact ⟨⟨x.toArray⟩, by simp [hx]⟩
theorem head_rest {r : ByteArray} {c : UInt8} (h : r.data.toList.head? = some c) : ∃ r' : ByteArray, r.data.toList = c :: r'.data.toList := by
  cases hl : r.data.toList with
  | nil => rw [hl] at h; cases h
  | cons x y => rw [hl] at h; simp at h; subst h; exact ⟨⟨y.toArray⟩, by simp⟩
theorem head_not {r : ByteArray} {c : UInt8} (h : ¬ r.data.toList.head? = some c) : ¬ (ByteArray.mk #[c]).data.toList <+: r.data.toList := by
  rintro ⟨x, hx⟩
  exact h (by rw [← hx]; rfl)
theorem left_len {s t m : ByteArray} {ps : List ByteArray} {x : UInt8} (h : Left s t ps (x :: m.data.toList)) : m.size ≤ s.size := by
  have := congrArg List.length h.1
  simp at this
  omega
theorem ZOwn.sin16 {w : World} {B : Nat} {A : Option Addr} {cap : Nat} {l : List ByteArray} (h : ZOwn w B A cap l) (hs : ∀ p ∈ l, p.size = 16) : SIn w w.heap.size A l := ⟨fun i hi => by have := hs _ (List.getElem_mem hi); unfold maxLen; omega, h.zin⟩

set_option maxRecDepth 100000 in
set_option maxHeartbeats 4000000 in
theorem commit_any (rb : Nat) (s : ByteArray) (a : Addr) (w : World) (hs : s.size ≤ maxLen) (hb : rb < w.heap.size) (hG : 0 < rb) (hw : RdR w rb s) (hE : ErrC w a) :
    Calls Tryd.prog 68 #[.pointer (some ⟨rb, 0, none⟩)] w (RetRd s rb a w) := by
  have S0 := hide (St.start hw hb)
  have EE := hide hE
  clear hw hE
  go_enter Tryd.func68, Tryd.ntmps68
  go_wp2_with fail
  by_cases h1 : comW <+: s.data.toList
  case neg =>
    refine (skip_no rb s _ a _ S0.out.rd (EE.out.belowB S0.out.bl hG) h1).mono ?_
    rintro e w1 ⟨rfl, rfl⟩
    exact ⟨rfl, S0.out.bl, .inr ⟨no_start h1, rfl⟩⟩
  obtain ⟨r1, hr1⟩ := pre_rest h1
  refine (skip_yes rb s _ r1 _ S0.out.rd hr1).mono ?_
  rintro e w1 ⟨rfl, hw1⟩
  have S1 : Hid (St w w1 rb w.heap.size r1 ByteArray.empty none 0 [] ByteArray.empty) := hide (hw1 ▸ S0.out.setR r1)
  have R1 := hide hr1
  clear hw1 hr1 S0 h1
  go_wp2_with fail
  by_cases h2 : 16 ≤ r1.size
  case neg =>
    refine (id_no rb r1 a _ S1.out.rd (EE.out.belowB S1.out.bl hG) (by show r1.size < 16; omega)).mono ?_
    rintro e w2 ⟨rfl, rfl⟩
    exact ⟨rfl, S1.out.bl, .inr ⟨no_tree R1.out (by show r1.size < 16; omega), rfl⟩⟩
  obtain ⟨t, r2, ht, hr2⟩ := split_at h2
  refine (id_yes rb r1 t r2 _ S1.out.rd ht hr2).mono ?_
  rintro e w2 ⟨rfl, hw2⟩
  have S2 : Hid (St w w2 rb w.heap.size r2 ByteArray.empty none 0 [] ByteArray.empty) := hide (hw2 ▸ S1.out.setR r2)
  have L2 : Hid (Left s t [] r2.data.toList) := hide (left_tree (by rw [R1.out, hr2]) ht)
  clear hw2 hr2 h2 S1 R1
  obtain ⟨-, x0, -, -, f0, -, -⟩ := S2.out.cells
  have S3 := hide (S2.out.setT t)
  clear S2
  go_wp2
  go_loopw [] (fun wr => ∃ (r : ByteArray) (ps : List ByteArray) (A : Option Addr) (cap : Nat), ps.length ≤ 2 ∧ Hid (Left s t ps r.data.toList) ∧ Hid (St w wr rb w.heap.size r t A cap ps ByteArray.empty)) (fun wr => 2 - lenAt wr ⟨w.heap.size + 1, 1, none⟩)
  case atStart => exact ⟨r2, [], none, 0, by simp, L2, S3⟩
  case round =>
    clear L2 S3 x0 f0
    obtain ⟨r, ps, A, cap, hps, L, S⟩ := hrel
    obtain ⟨y0, -, y1, -, -, f1, -⟩ := S.out.cells
    have Y := hide (lenAt_of y1)
    by_cases hlt : ps.length < 2
    · have hlti : (ps.length : Int) < 2 := by omega
      by_cases hh : r.data.toList.head? = some 32
      · obtain ⟨r3, hr3⟩ := head_rest hh
        have hd := decide_eq_true hh
        have HP := hide (hasPrefix_any r 32)
        rw [hd] at HP
        go_wp2_with (go_at_call 89; refine (HP.out wr).mono ?_; rintro e w' ⟨rfl, rfl⟩)
        refine (skip_yes rb r ⟨#[32]⟩ r3 _ S.out.rd hr3).mono ?_
        rintro e w3 ⟨rfl, hw3⟩
        have S3 : Hid (St w w3 rb w.heap.size r3 t A cap ps ByteArray.empty) := hide (hw3 ▸ S.out.setR r3)
        have L3 : Hid (Left s t ps (32 :: r3.data.toList)) := hide (hr3 ▸ L.out)
        clear hw3 hr3 S L y0 y1 f1 hd HP hh
        by_cases h16 : 16 ≤ r3.size
        · obtain ⟨p, r4, hp, hr4⟩ := split_at h16
          have L4 : Hid (Left s t (ps ++ [p]) r4.data.toList) := hide (left_parent (by rw [← hr4]; exact L3.out) hp)
          have S3d := hide S3.out.drew
          have y1 := S3d.out.cells.2.2.1
          have hl1 : (ps ++ [p]).length = ps.length + 1 := by simp
          clear S3 L3 h16
          go_wp2_with fail
          go_region_law (first
            | (refine step_appZ (n := ps.length) (m := 1) (A := A) (cap := cap) (A' := some ⟨w4.heap.size, 0, none⟩) (c := 1) (l := ps) (l' := [p]) 43 Tryd.underlying43 rfl (.tmp 23) (.tmp 26) rfl (by simp [Act.eval]) (by simp [Act.eval]) rfl rfl (S4.out.own.alloc _) (ZIn.one p _ rfl) (Nat.le_trans S4.out.sz (by simp)) (by simp; omega) ?_; intro A5 cap5 w5 own5 g5 r5; have B5 := hide (((Below.refl (w.heap.size + 1 + 1) w4).alloc S4.out.sz (.cells #[Value.string p] 9)).trans ((S4.out.own.alloc (.cells #[Value.string p] 9)).grownBelow g5 (Nat.le_trans S4.out.sz (by simp)))); have O5 := hide own5; have z5 := cellB B5.out (show w.heap.size + 1 < w.heap.size + 1 + 1 by omega) S4.out.cells.2.2.1; have zf5 : w5.frozen? ⟨w.heap.size + 1, 1, none⟩ = false := (B5.out.frozen (p := ⟨w.heap.size + 1, 1, none⟩) (by show w.heap.size + 1 < w.heap.size + 1 + 1; omega)).trans S4.out.cells.2.2.2.2.2.1; clear own5 g5 r5)
            | (go_simp; go_at_call 88; refine (id_yes rb r3 p r4 _ S3d.out.rd hp hr4).mono ?_; rintro e w4 ⟨rfl, hw4⟩; have S4 : Hid (St w w4 rb w.heap.size r4 t A cap ps ByteArray.empty) := hide (hw4 ▸ S3d.out.setR r4); have z4 := S4.out.cells.2.2.1; have z4a := cellB ((Below.refl w4.heap.size w4).alloc (Nat.le_refl _) (.cells #[Value.string p] 9)) (show w.heap.size + 1 < w4.heap.size by have := S4.out.sz; omega) S4.out.cells.2.2.1; clear hw4))
          all_goals
            have S6 := hide (S4.out.more B5.out O5.out)
            have y6 := lenAt_of S6.out.cells.2.2.1
            rw [hl1] at S6 y6
            go_wp2
            exact ⟨⟨r4, ps ++ [p], A5, cap5, by rw [hl1]; omega, L4, S6⟩, by rw [y6, Y.out]; omega⟩
        · have S3d := hide S3.out.drew
          have y1 := S3d.out.cells.2.2.1
          have h16' : r3.data.toList.length < 16 := by show r3.size < 16; omega
          go_wp2_with fail
          go_region_dies
          all_goals
            go_at_call 88
            refine (id_no rb r3 a _ S3d.out.rd (EE.out.belowB S3d.out.bl hG) h16').mono ?_
            rintro e w4 ⟨rfl, rfl⟩
            exact ⟨rfl, S3d.out.bl, .inr ⟨left_short L3.out h16', rfl⟩⟩
      · have HP := hide (hasPrefix_any r 32)
        rw [decide_eq_false hh] at HP
        go_wp2_with (go_at_call 89; refine (HP.out wr).mono ?_; rintro e w' ⟨rfl, rfl⟩)
        by_cases h10 : r.data.toList.head? = some 10
        case neg =>
          refine (skip_no rb r ⟨#[10]⟩ a _ S.out.rd (EE.out.belowB S.out.bl hG) (head_not h10)).mono ?_
          rintro e w3 ⟨rfl, rfl⟩
          exact ⟨rfl, S.out.bl, .inr ⟨left_end L.out (.inr hh) h10, rfl⟩⟩
        obtain ⟨m, hm⟩ := head_rest h10
        refine (skip_yes rb r ⟨#[10]⟩ m _ S.out.rd hm).mono ?_
        rintro e w3 ⟨rfl, hw3⟩
        have S3 : Hid (St w w3 rb w.heap.size m t A cap ps ByteArray.empty) := hide (hw3 ▸ S.out.setR m)
        have L3 : Hid (Left s t ps (10 :: m.data.toList)) := hide (hm ▸ L.out)
        have hms : m.size ≤ maxLen := Nat.le_trans (left_len L3.out) hs
        clear hw3 hm S L y0 y1 f1 h10 Y
        obtain ⟨z0, z1, z2, z3, -, -, f2⟩ := S3.out.cells
        have S4 := hide (S3.out.setM m)
        clear S3
        go_wp2_with fail
        refine (implCommitOk_any t m A ps cap _ (by rw [ht]; unfold maxLen; omega) hms (by unfold maxLen; omega) (S4.out.own.sin16 L3.out.2.2.1)).mono ?_
        rintro e w5 ⟨rfl, q5⟩
        have S5 := hide (S4.out.below q5)
        clear q5 S4 z0 z1 z2 z3 f2
        cases hc : comB t ps m
        · have x0 := (EE.out.belowB S5.out.bl hG).1
          go_wp2
          exact ⟨rfl, S5.out.bl, .inr ⟨(left_note L3.out).2 hc, rfl⟩⟩
        · obtain ⟨-, z1, z2, z3, -, -, -⟩ := S5.out.cells
          obtain ⟨g1, g2, g3, k1, k2, k3⟩ := S5.out.cells1
          have hrb : rb ≤ w.heap.size := by omega
          have O5 := hide (ownsRow_setCell_below (ownsRow_setCell_below (ownsRow_setCell_below S5.out.own (a := ⟨w.heap.size, 0, none⟩) (by show w.heap.size < _; omega) (.string t)) (a := ⟨w.heap.size, 1, none⟩) (by show w.heap.size < _; omega) (.slice A ps.length cap)) (a := ⟨w.heap.size, 2, none⟩) (by show w.heap.size < _; omega) (.string m))
          have B5 := hide (((S5.out.bl.setCell (p := ⟨w.heap.size, 0, none⟩) hrb (.string t)).setCell (p := ⟨w.heap.size, 1, none⟩) hrb (.slice A ps.length cap)).setCell (p := ⟨w.heap.size, 2, none⟩) hrb (.string m))
          go_wp2
          exact bodyPost_ret (v := .agg #[.string t, .slice A ps.length cap, .string m]) (by simp [results, Tryd.results68, go_sem, g1, g2, g3]) rfl ⟨B5.out, .inl ⟨A, cap, t, ps, m, (left_note L3.out).1 hc, rfl, O5.out⟩⟩
    · have hlti : ¬ (ps.length : Int) < 2 := by omega
      go_wp2_with fail
      by_cases h10 : r.data.toList.head? = some 10
      case neg =>
        refine (skip_no rb r ⟨#[10]⟩ a _ S.out.rd (EE.out.belowB S.out.bl hG) (head_not h10)).mono ?_
        rintro e w3 ⟨rfl, rfl⟩
        exact ⟨rfl, S.out.bl, .inr ⟨left_end L.out (.inl (by omega)) h10, rfl⟩⟩
      obtain ⟨m, hm⟩ := head_rest h10
      refine (skip_yes rb r ⟨#[10]⟩ m _ S.out.rd hm).mono ?_
      rintro e w3 ⟨rfl, hw3⟩
      have S3 : Hid (St w w3 rb w.heap.size m t A cap ps ByteArray.empty) := hide (hw3 ▸ S.out.setR m)
      have L3 : Hid (Left s t ps (10 :: m.data.toList)) := hide (hm ▸ L.out)
      have hms : m.size ≤ maxLen := Nat.le_trans (left_len L3.out) hs
      clear hw3 hm S L y0 y1 f1 h10 Y
      obtain ⟨z0, z1, z2, z3, -, -, f2⟩ := S3.out.cells
      have S4 := hide (S3.out.setM m)
      clear S3
      go_wp2_with fail
      refine (implCommitOk_any t m A ps cap _ (by rw [ht]; unfold maxLen; omega) hms (by unfold maxLen; omega) (S4.out.own.sin16 L3.out.2.2.1)).mono ?_
      rintro e w5 ⟨rfl, q5⟩
      have S5 := hide (S4.out.below q5)
      clear q5 S4 z0 z1 z2 z3 f2
      cases hc : comB t ps m
      · have x0 := (EE.out.belowB S5.out.bl hG).1
        go_wp2
        exact ⟨rfl, S5.out.bl, .inr ⟨(left_note L3.out).2 hc, rfl⟩⟩
      · obtain ⟨-, z1, z2, z3, -, -, -⟩ := S5.out.cells
        obtain ⟨g1, g2, g3, k1, k2, k3⟩ := S5.out.cells1
        have hrb : rb ≤ w.heap.size := by omega
        have O5 := hide (ownsRow_setCell_below (ownsRow_setCell_below (ownsRow_setCell_below S5.out.own (a := ⟨w.heap.size, 0, none⟩) (by show w.heap.size < _; omega) (.string t)) (a := ⟨w.heap.size, 1, none⟩) (by show w.heap.size < _; omega) (.slice A ps.length cap)) (a := ⟨w.heap.size, 2, none⟩) (by show w.heap.size < _; omega) (.string m))
        have B5 := hide (((S5.out.bl.setCell (p := ⟨w.heap.size, 0, none⟩) hrb (.string t)).setCell (p := ⟨w.heap.size, 1, none⟩) hrb (.slice A ps.length cap)).setCell (p := ⟨w.heap.size, 2, none⟩) hrb (.string m))
        go_wp2
        exact bodyPost_ret (v := .agg #[.string t, .slice A ps.length cap, .string m]) (by simp [results, Tryd.results68, go_sem, g1, g2, g3]) rfl ⟨B5.out, .inl ⟨A, cap, t, ps, m, (left_note L3.out).1 hc, rfl, O5.out⟩⟩
end Go.Proofs.YtkhkcdmmagicmaaDoor
/-
  The walk of impl.ReadCommit: what the reader's panic, caught, and its answer come to.
-/
namespace Go.Proofs.YtkhkcdmmagicmaaDoor
open Go.RowKit

def RetCom (s : ByteArray) (w : World) (e : Ending) (w' : World) : Prop :=
  ∃ A cap, e = .returned (.tuple #[.agg #[.string (rdC s).1, .slice A (rdC s).2.1.length cap, .string (rdC s).2.2], .bool (rdOk s)]) ∧ ZOwn w' w.heap.size A cap (rdC s).2.1 ∧ Below w.heap.size w w'
theorem rc_panicking (g : Nat) (u : TypeId) (pv : Value) (older : List PanicEntry) (w : World) (t m : ByteArray) (A : Option Addr) (n cap : Nat) (b : Bool) (h0 : w.heap[g]? = some (C3 t A n cap m)) (h1 : w.heap[g + 1]? = some (.cells #[.bool b] 4 (0, 0))) :
    CallsD Tryd.prog 67 #[.pointer (some ⟨g, 0, none⟩), .pointer (some ⟨g + 1, 0, none⟩)] (.panicking ({ v := .iface u pv, recovered := false } :: older)) w fun e u' w' =>
      e = .returned (.tuple #[]) ∧ u' = .panicking ({ v := .iface u pv, recovered := true } :: older) ∧ w' = (((w.setCell ⟨g, 0, none⟩ (.string ByteArray.empty)).setCell ⟨g, 1, none⟩ (.slice none 0 0)).setCell ⟨g, 2, none⟩ (.string ByteArray.empty)).setCell ⟨g + 1, 0, none⟩ (.bool false) := by
  have c0 := cell_of_row _ _ 0 _ _ _ h0
  have c1 := cell_of_row _ _ 1 _ _ _ h0
  have c2 := cell_of_row _ _ 2 _ _ _ h0
  have c3 := cell_of_row _ _ 0 _ _ _ h1
  have f0 := frozen_of_row _ _ 0 _ _ h0
  have f1 := frozen_of_row _ _ 1 _ _ h0
  have f2 := frozen_of_row _ _ 2 _ _ h0
  have f3 := frozen_of_row _ _ 0 _ _ h1
  refine callsD_of_wpS Tryd.func67 rfl fun c₀ cs hu => ?_
  apply wpS_seq
  apply wpS_region
  simp [wpOpsS, go_sem, recoverD, hu, Tryd.ntmps67, Exit.thenS]
  refine wpS_cond (t := true) (by simp [Act.eval, Array.replicate]) ?_
  simp only [if_true]
  apply wpS_region
  simp [wpOpsS, go_sem, c0, c1, c2, c3, f0, f1, f2, f3, bodyPostS, results, Tryd.results67]
  rfl

theorem rc_idle (p q : Addr) (w : World) :
    CallsD Tryd.prog 67 #[.pointer (some p), .pointer (some q)] .returning w fun e u' w' => e = .returned (.tuple #[]) ∧ u' = .returning ∧ w' = w := by
  refine callsD_of_wpS Tryd.func67 rfl fun c₀ cs hu => ?_
  apply wpS_seq
  apply wpS_region
  simp [wpOpsS, go_sem, recoverD, hu, Tryd.ntmps67, Exit.thenS]
  refine wpS_cond (t := false) (by simp [Act.eval, Array.replicate]) ?_
  simp only [Bool.false_eq_true, if_false]
  refine wpS_of_wp (wp_skip ?_)
  cases c₀
  simp_all [bodyPostS, results, Tryd.results67]
set_option maxRecDepth 100000 in
set_option maxHeartbeats 2000000 in
theorem implReadCommit_any (s : ByteArray) (a : Addr) (w : World) (hs : s.size ≤ maxLen) (hE : ErrC w a) :
    Calls Tryd.prog 48 #[.string s] w (RetCom s w) := by
  have hmf : ∀ (fn : Fn) (first cap : Array Value) (w : World), (Instr.makeFunc fn first cap).run Tryd.prog w = .ok (.func fn first cap) w := fun _ _ _ _ => rfl
  have A3 := hide (alloc3 w (.cells #[.string ByteArray.empty, .slice none 0 0, .string ByteArray.empty] 45) (.cells #[.bool false] 4) (.cells #[.string s] 101))
  have B3 := hide (((((Below.refl w.heap.size w).alloc (Nat.le_refl _) (.cells #[.string ByteArray.empty, .slice none 0 0, .string ByteArray.empty] 45)).alloc (by simp) (.cells #[.bool false] 4))).alloc (by simp; omega) (.cells #[.string s] 101))
  have hz3 : (((w.alloc (.cells #[.string ByteArray.empty, .slice none 0 0, .string ByteArray.empty] 45)).alloc (.cells #[.bool false] 4)).alloc (.cells #[.string s] 101)).heap.size = w.heap.size + 1 + 1 + 1 := by simp
  have C := hide (commit_any (w.heap.size + 1 + 1) s a _ hs (by rw [hz3]; omega) (by have := hE.2; omega) A3.out.2.2 (hE.below B3.out))
  go_enter_defers Tryd.func48, Tryd.ntmps48
  go_wp2_with fail
  refine C.out.mono ?_
  rintro e w1 ⟨q1, hh⟩
  have X0 := (q1.block w.heap.size (by omega)).trans A3.out.1
  have X1 := (q1.block (w.heap.size + 1) (by omega)).trans A3.out.2.1
  have BB := hide (B3.out.trans (q1.mono (by omega)))
  rcases hh with ⟨A, cap, t, ps, m, hc, rfl, own⟩ | ⟨hn, rfl⟩
  · obtain ⟨e1, e2⟩ := rd_yes hc
    have O := hide (own.more (B' := w.heap.size + 1 + 1) (by rw [hz3]; omega))
    clear own
    have c0 := cell_of_row _ _ 0 _ _ _ X0
    have c1 := cell_of_row _ _ 1 _ _ _ X0
    have c2 := cell_of_row _ _ 2 _ _ _ X0
    have c3 := cell_of_row _ _ 0 _ _ _ X1
    have f0 := frozen_of_row _ _ 0 _ _ X0
    have f1 := frozen_of_row _ _ 1 _ _ X0
    have f2 := frozen_of_row _ _ 2 _ _ X0
    have f3 := frozen_of_row _ _ 0 _ _ X1
    clear X0 X1 A3 B3 q1 C hz3
    go_wp2
    refine leaves_cons (f := 67) (args := #[.pointer (some ⟨w.heap.size, 0, none⟩), .pointer (some ⟨w.heap.size + 1, 0, none⟩)]) (by simp) (by simp [go_sem]) ?_
    refine (rc_idle ⟨w.heap.size, 0, none⟩ ⟨w.heap.size + 1, 0, none⟩ _).mono ?_
    rintro e u' w'' ⟨rfl, rfl, rfl⟩
    simp [Leaves, settle, results, Tryd.results48, go_sem, c0, c1, c2, c3]
    refine ⟨A, cap, by rw [e2, e1], ?_, (((BB.out.setCell (p := ⟨w.heap.size, 0, none⟩) (Nat.le_refl _) _).setCell (p := ⟨w.heap.size, 1, none⟩) (Nat.le_refl _) _).setCell (p := ⟨w.heap.size, 2, none⟩) (Nat.le_refl _) _).setCell (p := ⟨w.heap.size + 1, 0, none⟩) (Nat.le_succ _) _⟩
    rw [e2]
    have O2 : ZOwn _ (w.heap.size + 1 + 1) A cap ps := ownsRow_setCell_below (ownsRow_setCell_below (ownsRow_setCell_below (ownsRow_setCell_below O.out (a := ⟨w.heap.size, 0, none⟩) (by show w.heap.size < _; omega) (.string t)) (a := ⟨w.heap.size, 1, none⟩) (by show w.heap.size < _; omega) (.slice A ps.length cap)) (a := ⟨w.heap.size, 2, none⟩) (by show w.heap.size < _; omega) (.string m)) (a := ⟨w.heap.size + 1, 0, none⟩) (by show w.heap.size + 1 < _; omega) (.bool true)
    exact O2.more (by omega)
  · obtain ⟨e1, e2⟩ := rd_no hn
    clear A3 B3 q1 C hz3
    refine leaves_cons (f := 67) (args := #[.pointer (some ⟨w.heap.size, 0, none⟩), .pointer (some ⟨w.heap.size + 1, 0, none⟩)]) (by simp) (by simp [go_sem]) ?_
    refine (rc_panicking w.heap.size _ _ [] _ _ _ _ _ _ _ X0 X1).mono ?_
    rintro e u' w'' ⟨rfl, rfl, rfl⟩
    have c0 := cell_of_row _ _ 0 _ _ _ X0
    have c1 := cell_of_row _ _ 1 _ _ _ X0
    have c2 := cell_of_row _ _ 2 _ _ _ X0
    have c3 := cell_of_row _ _ 0 _ _ _ X1
    simp [Leaves, settle, results, Tryd.results48, go_sem, c0, c1, c2, c3]
    exact ⟨none, 0, by rw [e2, e1]; rfl, by rw [e2]; exact ZOwn.nil _ _, (((BB.out.setCell (p := ⟨w.heap.size, 0, none⟩) (Nat.le_refl _) _).setCell (p := ⟨w.heap.size, 1, none⟩) (Nat.le_refl _) _).setCell (p := ⟨w.heap.size, 2, none⟩) (Nat.le_refl _) _).setCell (p := ⟨w.heap.size + 1, 0, none⟩) (Nat.le_succ _) _⟩
end Go.Proofs.YtkhkcdmmagicmaaDoor
/-
  The walk of spec.ReadCommit.
-/
namespace Go.Proofs.YtkhkcdmmagicmaaDoor
open Go.RowKit

theorem ZOwn.setOther {w : World} {B : Nat} {A : Option Addr} {cap : Nat} {l : List ByteArray} (h : ZOwn w B A cap l) {p : Addr} (hp : rowOf A ≠ some p.block) (u : Value) : ZOwn (w.setCell p u) B A cap l :=
  h.kept (r := p.block) (by
    have b := (Below.refl p.block w).setCell (p := p) (Nat.le_refl _) u
    exact ⟨b.os, b.tape, b.output, b.size, fun i _ hne => Below.heap_setCell _ _ _ _ (fun e => hne (by rw [e]))⟩) hp
theorem split_size : ∀ (n : Nat) (s x : ByteArray), x ∈ splitF n s → x.size ≤ s.size
  | 0, s, x, h => by simp [splitF] at h; rw [h]; exact Nat.le_refl _
  | n + 1, s, x, h => by
    have hc := cutA_one (s := s) (c := 32)
    cases hb : (cutS s 32).2.2
    · rw [splitF_last hb] at h; simp at h; rw [h]; exact hc.1
    · rw [splitF_more hb] at h
      rcases List.mem_cons.1 h with rfl | h
      · exact hc.1
      · exact Nat.le_trans (split_size n _ x h) hc.2
/-- what a right commit's text looks like, cut and parted -/
theorem com_seen {s : ByteArray} {c : Com} (h : isCom s c) : (cutS s 10).2.2 = true ∧ (cutS s 10).2.1 = c.2.2 ∧ splitF ((cutS s 10).1.size + 1) (cutS s 10).1 = ⟨#[99, 111, 109, 109, 105, 116]⟩ :: c.1 :: c.2.1 := by
  obtain ⟨h1, h2⟩ := com_head h.1
  rw [h.2] at h1
  rw [h1]
  refine ⟨rfl, rfl, h2 _ ?_⟩
  have : 6 ≤ ((⟨#[99, 111, 109, 109, 105, 116]⟩ : ByteArray) ++ blanks (c.1 :: c.2.1)).size := by
    rw [ByteArray.size_append]
    show 6 ≤ 6 + _
    omega
  show 3 ≤ ((⟨#[99, 111, 109, 109, 105, 116]⟩ : ByteArray) ++ blanks (c.1 :: c.2.1)).size + 1
  omega
theorem com_text {s t m : ByteArray} {l : List ByteArray} (hc : (cutS s 10).2.2 = true) (h : comTextS t l m = s) : isCom s (t, l, m) := by
  cases hb : comB t l m
  · rw [comText_no hb] at h
    subst h
    have := cutA_rest hc
    simp at this
  · rw [comText_yes hb] at h
    exact ⟨hb, h⟩
theorem com_text_no {s t m : ByteArray} {l : List ByteArray} (hm : (cutS s 10).2.1 = m) (hp : splitF ((cutS s 10).1.size + 1) (cutS s 10).1 = ⟨#[99, 111, 109, 109, 105, 116]⟩ :: t :: l) (h : comTextS t l m ≠ s) : ¬ ∃ c, isCom s c := by
  rintro ⟨c, hc⟩
  obtain ⟨_, h2, h3⟩ := com_seen hc
  rw [hp] at h3
  simp only [List.cons.injEq, true_and] at h3
  refine h ?_
  rw [h3.1, h3.2, ← hm, h2, comText_yes hc.1]
  exact hc.2
theorem row_top {w : World} {B : Nat} {A : Option Addr} {cap : Nat} {l : List ByteArray} (h : ZOwn w B A cap l) : rowOf A ≠ some w.heap.size := fun e => by have := (h.row _ e).2; omega
theorem row_low {w : World} {B : Nat} {A : Option Addr} {cap : Nat} {l : List ByteArray} (h : ZOwn w (B + 1) A cap l) : rowOf A ≠ some B := fun e => by have := (h.row _ e).1; omega
theorem row_ne (K : Nat) : some (K + 1) ≠ rowOf (some (⟨K, 0, none⟩ : Addr)) := by simp [rowOf]
theorem row_mid {w : World} {C E : Obj} {A : Option Addr} (h : rowOf A = rowOf (some (⟨w.heap.size, 0, none⟩ : Addr)) ∨ rowOf A = some ((w.alloc E).alloc C).drew.heap.size) : rowOf A ≠ some (w.heap.size + 1) := fun e => by
  rcases h with r | r <;> rw [e] at r <;> simp [rowOf, World.drew] at r
theorem grown_other {w w' : World} {r : Option Nat} {i : Nat} (h : w.grownBy w' r) (hi : i < w.heap.size) (hne : some i ≠ r) : w'.heap[i]? = w.heap[i]? := h.block i hi hne
theorem keep3 {w : World} {b g o : Nat} {u0 u1 u2 v : Value} (hc : w.cell? ⟨g, o, none⟩ = some v) (h : g ≠ b) : (((w.setCell ⟨b, 0, none⟩ u0).setCell ⟨b, 1, none⟩ u1).setCell ⟨b, 2, none⟩ u2).cell? ⟨g, o, none⟩ = some v :=
  (World.cell?_of_block (a := ⟨g, o, none⟩) ((Below.heap_setCell _ _ _ _ h).trans ((Below.heap_setCell _ _ _ _ h).trans (Below.heap_setCell _ _ _ _ h)))).trans hc
/-- a commit stored in a block of its own -/
theorem put3 {w : World} {b : Nat} {t m t0 m0 : ByteArray} {A A0 : Option Addr} {n n0 cap cap0 : Nat} (h : w.heap[b]? = some (C3 t0 A0 n0 cap0 m0)) : (((w.setCell ⟨b, 0, none⟩ (.string t)).setCell ⟨b, 1, none⟩ (.slice A n cap)).setCell ⟨b, 2, none⟩ (.string m)).heap[b]? = some (C3 t A n cap m) :=
  heap_setCell_same _ b 2 _ _ _ (heap_setCell_same _ b 1 _ _ _ (heap_setCell_same w b 0 _ _ _ h))
theorem own3 {w : World} {B b : Nat} {A : Option Addr} {cap : Nat} {l : List ByteArray} {u0 u1 u2 : Value} (h : ZOwn w B A cap l) (hr : rowOf A ≠ some b) : ZOwn (((w.setCell ⟨b, 0, none⟩ u0).setCell ⟨b, 1, none⟩ u1).setCell ⟨b, 2, none⟩ u2) B A cap l := ((h.setOther (p := ⟨b, 0, none⟩) hr u0).setOther (p := ⟨b, 1, none⟩) hr u1).setOther (p := ⟨b, 2, none⟩) hr u2
theorem bel3 {w0 w : World} {B b : Nat} {u0 u1 u2 : Value} (h : Below B w0 w) (hb : B ≤ b) : Below B w0 (((w.setCell ⟨b, 0, none⟩ u0).setCell ⟨b, 1, none⟩ u1).setCell ⟨b, 2, none⟩ u2) := ((h.setCell (p := ⟨b, 0, none⟩) hb u0).setCell (p := ⟨b, 1, none⟩) hb u1).setCell (p := ⟨b, 2, none⟩) hb u2
def Zero (s : ByteArray) (w : World) (e : Ending) (w' : World) : Prop := (¬ ∃ c, isCom s c) → RetCom s w e w'

set_option maxRecDepth 100000 in
set_option maxHeartbeats 4000000 in
theorem specReadCommit_any (s : ByteArray) (w : World) (hs : s.size ≤ 1048576) :
    Calls Tryd.prog 35 #[.string s] w (RetCom s w) := by
  have B0 := hide ((Below.refl w.heap.size w).alloc (Nat.le_refl _) (.cells #[.string ByteArray.empty, .slice none 0 0, .string ByteArray.empty] 45))
  have X0 : Hid ((w.alloc (.cells #[.string ByteArray.empty, .slice none 0 0, .string ByteArray.empty] 45)).heap[w.heap.size]? = some (C3 ByteArray.empty none 0 0 ByteArray.empty)) := hide (heap_alloc_new w _)
  have hz0 : (w.alloc (.cells #[.string ByteArray.empty, .slice none 0 0, .string ByteArray.empty] 45)).heap.size = w.heap.size + 1 := by simp
  have hcs := (cutA_one (s := s) (c := 10))
  go_enter Tryd.func35, Tryd.ntmps35
  go_wp2_with fail
  refine (l1Cut_any s 10 10 _ (by unfold maxLen; omega) rfl).mono ?_
  rintro e w1 ⟨rfl, q1⟩
  go_wp2_with fail
  refine (l1Split_any (cutS s 10).1 w1 (by omega)).mono ?_
  rintro e w2 ⟨A1, cap1, rfl, own1, b2, hlen⟩
  have hz1 : w1.heap.size = w.heap.size + 1 := by
    obtain ⟨k, rfl⟩ := q1
    exact hz0
  have B2 := hide (B0.out.trans ((q1.below w.heap.size).trans (b2.mono (by omega))))
  have X2 := hide ((b2.block w.heap.size (by omega)).trans (((q1.below (w.heap.size + 1)).block w.heap.size (by omega)).trans X0.out))
  have O := hide own1
  rw [hz1] at O
  have hz2 : w.heap.size + 1 ≤ w2.heap.size := by have := b2.size; omega
  have g0 := cell_of_row _ _ 0 _ _ _ X2.out
  have g1 := cell_of_row _ _ 1 _ _ _ X2.out
  have g2 := cell_of_row _ _ 2 _ _ _ X2.out
  have k0 := frozen_of_row _ _ 0 _ _ X2.out
  have k1 := frozen_of_row _ _ 1 _ _ X2.out
  have k2 := frozen_of_row _ _ 2 _ _ X2.out
  have NO : Hid ((¬ ∃ c, isCom s c) → ∀ e, e = Ending.returned (.tuple #[.agg #[.string ByteArray.empty, .slice none 0 0, .string ByteArray.empty], .bool false]) → ∀ w3, Below w.heap.size w2 w3 → RetCom s w e (((w3.setCell ⟨w.heap.size, 0, none⟩ (.string ByteArray.empty)).setCell ⟨w.heap.size, 1, none⟩ (.slice none 0 0)).setCell ⟨w.heap.size, 2, none⟩ (.string ByteArray.empty))) := hide (by
    rintro hn e rfl w3 b3
    obtain ⟨e1, e2⟩ := rd_no hn
    exact ⟨none, 0, by rw [e2, e1]; rfl, by rw [e2]; exact ZOwn.nil _ _, (((B2.out.trans b3).setCell (p := ⟨w.heap.size, 0, none⟩) (Nat.le_refl _) _).setCell (p := ⟨w.heap.size, 1, none⟩) (Nat.le_refl _) _).setCell (p := ⟨w.heap.size, 2, none⟩) (Nat.le_refl _) _⟩)
  clear q1 b2 own1 hz0 hz1 X0 B0
  cases hcut : (cutS s 10).2.2
  · have N := hide (NO.out (fun ⟨c, hc⟩ => by have := (com_seen hc).1; rw [hcut] at this; cases this) _ rfl w2 (Below.refl _ _))
    clear hlen
    generalize splitF ((cutS s 10).1.size + 1) (cutS s 10).1 = p at *
    generalize (cutS s 10).1 = x at *
    generalize (cutS s 10).2.1 = m at *
    go_wp2
    exact bodyPost_ret (v := .tuple #[.agg #[.string ByteArray.empty, .slice none 0 0, .string ByteArray.empty], .bool false]) (by simp [results, Tryd.results35, go_sem, g0, g1, g2]; rfl) rfl N.out
  · generalize hp : splitF ((cutS s 10).1.size + 1) (cutS s 10).1 = p at *
    have hszp : Hid (∀ x ∈ p, x.size ≤ maxLen) := hide (fun x hx => by rw [← hp] at hx; have := split_size _ _ x hx; unfold maxLen; omega)
    have HP := hide hp
    have HC := hide hcut
    have hms : (cutS s 10).2.1.size ≤ 1048576 := by omega
    generalize hm : (cutS s 10).2.1 = m at *
    have HM := hide hm
    generalize hx : (cutS s 10).1 = x at *
    clear hp hm hcut
    have RET0 : ∀ (w3 : World) (a : Act), True := fun _ _ => trivial
    rcases p with _ | ⟨x0, _ | ⟨t, l⟩⟩
    · have N := hide (NO.out (fun ⟨c, hc⟩ => by have := (com_seen hc).2.2; rw [hx, HP.out] at this; cases this) _ rfl w2 (Below.refl _ _))
      go_wp2
      exact bodyPost_ret (v := .tuple #[.agg #[.string ByteArray.empty, .slice none 0 0, .string ByteArray.empty], .bool false]) (by simp [results, Tryd.results35, go_sem, g0, g1, g2]; rfl) rfl N.out
    · have N := hide (NO.out (fun ⟨c, hc⟩ => by have := (com_seen hc).2.2; rw [hx, HP.out] at this; cases this) _ rfl w2 (Below.refl _ _))
      go_wp2
      exact bodyPost_ret (v := .tuple #[.agg #[.string ByteArray.empty, .slice none 0 0, .string ByteArray.empty], .bool false]) (by simp [results, Tryd.results35, go_sem, g0, g1, g2]; rfl) rfl N.out
    · obtain ⟨gb, rfl, hgB, hgs⟩ : ∃ g, A1 = some ⟨g, 0, none⟩ ∧ w.heap.size + 1 ≤ g ∧ g < w2.heap.size := by
        rcases O.out.form with ⟨_, _, h⟩ | h
        · cases h
        · exact h
      obtain ⟨b, off, heq, hb, hc⟩ := O.out.zin (by simp)
      cases heq
      have c0 : w2.cell? ⟨gb, 0, none⟩ = some (.string x0) := hc 0 (by simp)
      have c1 : w2.cell? ⟨gb, 1, none⟩ = some (.string t) := hc 1 (by simp)
      have hcap := O.out.cap_le
      have IN := hide (O.out.zin.drop (cap := cap1) O.out.cap_le 2)
      clear hc
      have hln : (x0 :: t :: l).length = l.length + 2 := rfl
      generalize hn : (x0 :: t :: l).length = n at *
      have n2 : ¬ (n : Int) < 2 := by omega
      have n0 : (0 : Int) < (n : Int) := by omega
      have n1 : (1 : Int) < (n : Int) := by omega
      have HLN := hide hln
      have hl0 : l.length = n - 2 := by omega
      have HL0 := hide hl0
      have hn3 : n ≤ 1048577 := by omega
      clear hn hln hl0
      by_cases hx0 : x0 = ⟨#[99, 111, 109, 109, 105, 116]⟩
      case neg =>
        have d2 := eqS_no hx0
        have d4 : (x0.toList == [99, 111, 109, 109, 105, 116]) = false := by
          have e : (ByteArray.mk #[99, 111, 109, 109, 105, 116]).toList = [99, 111, 109, 109, 105, 116] := by rw [Go.ByteArray.toList_eq]
          rw [← e]; exact d2
        have N := hide (NO.out (fun ⟨c, hc⟩ => by have := (com_seen hc).2.2; rw [hx, HP.out] at this; simp only [List.cons.injEq] at this; exact hx0 this.1) _ rfl w2 (Below.refl _ _))
        go_wp2
        exact bodyPost_ret (v := .tuple #[.agg #[.string ByteArray.empty, .slice none 0 0, .string ByteArray.empty], .bool false]) (by simp [results, Tryd.results35, go_sem, g0, g1, g2]; rfl) rfl N.out
      subst hx0
      have K2 := run_cutZ_l 43 Tryd.underlying43 (some ⟨gb, 0, none⟩) n cap1 2 (by omega)
      have hb0 := hide ((Below.refl w2.heap.size w2).alloc (Nat.le_refl _) (Obj.cells #[] 9))
      have hb1 := hide ((Below.refl w2.heap.size w2).alloc (Nat.le_refl _) (Obj.cells #[Value.string { data := #[] }, Value.slice none 0 0, Value.string { data := #[] }] 45))
      have BC : Hid (Below w2.heap.size w2 (w2.alloc (Obj.cells #[] 9)).drew) := hide hb0.out.drew
      have BB : Hid (Below w2.heap.size w2 ((w2.alloc (Obj.cells #[] 9)).alloc (Obj.cells #[Value.string { data := #[] }, Value.slice none 0 0, Value.string { data := #[] }] 45)).drew) := hide (hb0.out.alloc hb0.out.size _).drew
      have BA1 : Hid (Below w2.heap.size w2 (w2.alloc (Obj.cells #[Value.string { data := #[] }, Value.slice none 0 0, Value.string { data := #[] }] 45)).drew) := hide hb1.out.drew
      have BA : Hid (Below w2.heap.size w2 ((w2.alloc (Obj.cells #[Value.string { data := #[] }, Value.slice none 0 0, Value.string { data := #[] }] 45)).alloc (Obj.cells #[] 9)).drew) := hide (hb1.out.alloc hb1.out.size _).drew
      have OC : Hid (ZOwn (w2.alloc (Obj.cells #[] 9)).drew w2.heap.size (some ⟨w2.heap.size, 0, none⟩) 0 []) := hide ((ZOwn.built w2 w2.heap.size (Nat.le_refl _)).below (Below.refl _ _).drew)
      have OB : Hid (ZOwn ((w2.alloc (Obj.cells #[] 9)).alloc (Obj.cells #[Value.string { data := #[] }, Value.slice none 0 0, Value.string { data := #[] }] 45)).drew w2.heap.size (some ⟨w2.heap.size, 0, none⟩) 0 []) := hide (((ZOwn.built w2 w2.heap.size (Nat.le_refl _)).alloc _).below (Below.refl _ _).drew)
      have OA : Hid (ZOwn ((w2.alloc (Obj.cells #[Value.string { data := #[] }, Value.slice none 0 0, Value.string { data := #[] }] 45)).alloc (Obj.cells #[] 9)).drew (w2.heap.size + 1) (some ⟨w2.heap.size + 1, 0, none⟩) 0 []) := hide (by
        have h := (ZOwn.built (w2.alloc (Obj.cells #[Value.string { data := #[] }, Value.slice none 0 0, Value.string { data := #[] }] 45)) (w2.heap.size + 1) (by simp)).below (Below.refl _ _).drew
        rw [show (w2.alloc (Obj.cells #[Value.string { data := #[] }, Value.slice none 0 0, Value.string { data := #[] }] 45)).heap.size = w2.heap.size + 1 by simp] at h
        exact h)
      have IC : Hid (ZIn (w2.alloc (Obj.cells #[] 9)).drew w2.heap.size (cutZ (some ⟨gb, 0, none⟩) cap1 2) l) := hide (IN.out.below BC.out)
      have IB : Hid (ZIn ((w2.alloc (Obj.cells #[] 9)).alloc (Obj.cells #[Value.string { data := #[] }, Value.slice none 0 0, Value.string { data := #[] }] 45)).drew w2.heap.size (cutZ (some ⟨gb, 0, none⟩) cap1 2) l) := hide (IN.out.below BB.out)
      have IA : Hid (ZIn ((w2.alloc (Obj.cells #[Value.string { data := #[] }, Value.slice none 0 0, Value.string { data := #[] }] 45)).alloc (Obj.cells #[] 9)).drew w2.heap.size (cutZ (some ⟨gb, 0, none⟩) cap1 2) l) := hide (IN.out.below BA.out)
      have YB : Hid ((((w2.alloc (Obj.cells #[] 9)).alloc (Obj.cells #[Value.string { data := #[] }, Value.slice none 0 0, Value.string { data := #[] }] 45)).drew).heap[w2.heap.size + 1]? = some (C3 ByteArray.empty none 0 0 ByteArray.empty)) := hide (heap_alloc2_new w2 _ _)
      have YA : Hid ((((w2.alloc (Obj.cells #[Value.string { data := #[] }, Value.slice none 0 0, Value.string { data := #[] }] 45)).alloc (Obj.cells #[] 9)).drew).heap[w2.heap.size]? = some (C3 ByteArray.empty none 0 0 ByteArray.empty)) := hide (heap_alloc2_old w2 _ _)
      have sB : w2.heap.size + 1 < (((w2.alloc (Obj.cells #[] 9)).alloc (Obj.cells #[Value.string { data := #[] }, Value.slice none 0 0, Value.string { data := #[] }] 45)).drew).heap.size := by simp [World.drew]
      have sA : w2.heap.size + 1 ≤ (((w2.alloc (Obj.cells #[Value.string { data := #[] }, Value.slice none 0 0, Value.string { data := #[] }] 45)).alloc (Obj.cells #[] 9)).drew).heap.size := by simp [World.drew]
      have hlb : ([] : List ByteArray).length + l.length ≤ 3000000 := by rw [HL0.out]; simp; omega
      have hgs' := hgs
      clear hb0 hb1
      go_wp2_with fail
      have hcut2 : (if cap1 = 2 then some (⟨gb, 0, none⟩ : Addr) else some ⟨gb, 2, none⟩) = cutZ (some ⟨gb, 0, none⟩) cap1 2 := by simp [cutZ, Addr.add]
      go_region_held3 (fun w' => w'.cell? ⟨gb, 1, none⟩ = some (.string t)) (first | go_keep | exact cellB BC.out hgs' c1 | exact cellB BB.out hgs' c1 | exact cellB BA1.out hgs' c1 | exact cellB BA.out hgs' c1 | exact z1 | exact keep3 z1 (by omega)) (first
        | (refine step_appZ (w := (w2.alloc (Obj.cells #[] 9)).drew) (n := 0) (m := n - 2) (A := some ⟨w2.heap.size, 0, none⟩) (cap := 0) (A' := cutZ (some ⟨gb, 0, none⟩) cap1 2) (c := cap1 - 2) (l := []) (l' := l) 43 Tryd.underlying43 rfl (.tmp 34) (.tmp 36) rfl (by simp [Act.eval]) (by simp [Act.eval, cutZ, Addr.add]) rfl HL0.out.symm OC.out IC.out BC.out.size hlb ?_; intro A5 cap5 w5 own5 g5 r5; have B5 := hide (BC.out.trans (OC.out.grownBelow g5 BC.out.size)); have ROW := hide (row_top own5); have O5 := hide own5; have z1 := cellB B5.out hgs' c1; have MC := trivial; clear own5 g5 r5)
        | (refine step_appZ (w := ((w2.alloc (Obj.cells #[] 9)).alloc (Obj.cells #[Value.string { data := #[] }, Value.slice none 0 0, Value.string { data := #[] }] 45)).drew) (n := 0) (m := n - 2) (A := some ⟨w2.heap.size, 0, none⟩) (cap := 0) (A' := cutZ (some ⟨gb, 0, none⟩) cap1 2) (c := cap1 - 2) (l := []) (l' := l) 43 Tryd.underlying43 rfl (.tmp 34) (.tmp 36) rfl (by simp [Act.eval]) (by simp [Act.eval, cutZ, Addr.add]) rfl HL0.out.symm OB.out IB.out BB.out.size hlb ?_; intro A5 cap5 w5 own5 g5 r5; have B5 := hide (BB.out.trans (OB.out.grownBelow g5 BB.out.size)); have X5 := hide ((grown_other g5 sB (row_ne _)).trans YB.out); have ROW := hide (row_mid r5); have c50 := cell_of_row _ _ 0 _ _ _ X5.out; have f50 := frozen_of_row _ _ 0 _ _ X5.out; have c51 := cell_of_row _ _ 1 _ _ _ X5.out; have f51 := frozen_of_row _ _ 1 _ _ X5.out; have c52 := cell_of_row _ _ 2 _ _ _ X5.out; have f52 := frozen_of_row _ _ 2 _ _ X5.out; have O5 := hide own5; have z1 := cellB B5.out hgs' c1; have MB := trivial; clear own5 g5 r5)
        | (refine step_appZ (w := ((w2.alloc (Obj.cells #[Value.string { data := #[] }, Value.slice none 0 0, Value.string { data := #[] }] 45)).alloc (Obj.cells #[] 9)).drew) (n := 0) (m := n - 2) (A := some ⟨w2.heap.size + 1, 0, none⟩) (cap := 0) (A' := cutZ (some ⟨gb, 0, none⟩) cap1 2) (c := cap1 - 2) (l := []) (l' := l) 43 Tryd.underlying43 rfl (.tmp 34) (.tmp 36) rfl (by simp [Act.eval]) (by simp [Act.eval, cutZ, Addr.add]) rfl HL0.out.symm OA.out IA.out sA hlb ?_; intro A5 cap5 w5 own5 g5 r5; have b5 := hide (OA.out.grownBelow g5 sA); have B5 := hide (BA.out.trans (b5.out.mono (Nat.le_succ _))); have X5 := hide ((b5.out.block w2.heap.size (Nat.lt_succ_self _)).trans YA.out); have ROW := hide (row_low own5); have c50 := cell_of_row _ _ 0 _ _ _ X5.out; have f50 := frozen_of_row _ _ 0 _ _ X5.out; have c51 := cell_of_row _ _ 1 _ _ _ X5.out; have f51 := frozen_of_row _ _ 1 _ _ X5.out; have c52 := cell_of_row _ _ 2 _ _ _ X5.out; have f52 := frozen_of_row _ _ 2 _ _ X5.out; have O5 := hide own5; have z1 := cellB B5.out hgs' c1; have MA := trivial; clear own5 g5 r5 b5))
      · clear hcut2 K2
        have X6 : Hid ((w5.alloc (Obj.cells #[Value.string t, Value.slice A5 l.length cap5, Value.string m] 45)).heap[w5.heap.size]? = some (C3 t A5 l.length cap5 m)) := hide (heap_alloc_new w5 _)
        have O6 : Hid (ZOwn (w5.alloc (Obj.cells #[Value.string t, Value.slice A5 l.length cap5, Value.string m] 45)) w2.heap.size A5 cap5 l) := hide (O5.out.alloc _)
        have B6 : Hid (Below w2.heap.size w2 (w5.alloc (Obj.cells #[Value.string t, Value.slice A5 l.length cap5, Value.string m] 45))) := hide (B5.out.alloc B5.out.size _)
        have hcb : w2.heap.size ≤ w5.heap.size := B5.out.size
        have S6 : w5.heap.size < (w5.alloc (Obj.cells #[Value.string t, Value.slice A5 l.length cap5, Value.string m] 45)).heap.size := (Array.getElem?_eq_some_iff.1 X6.out).1
        generalize (w5.alloc (Obj.cells #[Value.string t, Value.slice A5 l.length cap5, Value.string m] 45)) = w6 at *
        generalize hcbe : w5.heap.size = cb at *
        clear B5 O5 ROW z1 OC OB OA IC IB IA BC BB BA BA1 YA YB sA sB
        have c60 := cell_of_row _ _ 0 _ _ _ X6.out
        have c61 := cell_of_row _ _ 1 _ _ _ X6.out
        have c62 := cell_of_row _ _ 2 _ _ _ X6.out
        go_wp2_with fail
        refine (specCommitText_any t m A5 l cap5 w6 (hszp.out t (by simp)) (by unfold maxLen; omega) (by rw [HL0.out]; unfold maxLen; omega) ⟨fun i hi => hszp.out _ (List.mem_cons_of_mem _ (List.mem_cons_of_mem _ (List.getElem_mem hi))), O6.out.zin⟩).mono ?_
        rintro e w7 ⟨rfl, b7⟩
        have X7 := hide ((b7.block cb (by have := S6; omega)).trans X6.out)
        have G7 := hide ((b7.block w.heap.size (by have := S6; omega)).trans ((B6.out.block w.heap.size (by omega)).trans X2.out))
        have B7 := hide (B6.out.trans (b7.mono (by have := S6; have := B6.out.size; omega)))
        have O7 := hide (O6.out.below b7)
        clear b7 X6 B6 O6 c60 c61 c62 g0 g1 g2 k0 k1 k2 X2
        have c70 := cell_of_row _ _ 0 _ _ _ X7.out
        have c71 := cell_of_row _ _ 1 _ _ _ X7.out
        have c72 := cell_of_row _ _ 2 _ _ _ X7.out
        have g0 := cell_of_row _ _ 0 _ _ _ G7.out
        have g1 := cell_of_row _ _ 1 _ _ _ G7.out
        have g2 := cell_of_row _ _ 2 _ _ _ G7.out
        have k0 := frozen_of_row _ _ 0 _ _ G7.out
        have k1 := frozen_of_row _ _ 1 _ _ G7.out
        have k2 := frozen_of_row _ _ 2 _ _ G7.out
        by_cases hT : comTextS t l m = s
        · obtain ⟨e1, e2⟩ := rd_yes (com_text HC.out hT)
          have E := eqS_yes hT
          have RR := hide (show RetCom s w (.returned (.tuple #[.agg #[.string t, .slice A5 l.length cap5, .string m], .bool true])) (((w7.setCell ⟨w.heap.size, 0, none⟩ (.string t)).setCell ⟨w.heap.size, 1, none⟩ (.slice A5 l.length cap5)).setCell ⟨w.heap.size, 2, none⟩ (.string m)) from
            ⟨A5, cap5, by rw [e2, e1], by rw [e2]; exact (own3 O7.out (fun h => by have := (O7.out.row _ h).1; omega)).more (by omega), bel3 (B2.out.trans (B7.out.mono (by omega))) (Nat.le_refl _)⟩)
          clear hT e1 e2
          generalize comTextS t l m = cs at *
          generalize l.length = nl at *
          go_wp2
          exact bodyPost_ret (v := .tuple #[.agg #[.string t, .slice A5 nl cap5, .string m], .bool true]) (by simp [results, Tryd.results35, go_sem, g0, g1, g2]) rfl RR.out
        · have E := eqS_no hT
          have N := hide (NO.out (com_text_no HM.out (by rw [hx]; exact HP.out) hT) _ rfl w7 (B7.out.mono (by omega)))
          clear hT
          generalize comTextS t l m = cs at *
          generalize l.length = nl at *
          go_wp2
          exact bodyPost_ret (v := .tuple #[.agg #[.string ByteArray.empty, .slice none 0 0, .string ByteArray.empty], .bool false]) (by simp [results, Tryd.results35, go_sem, g0, g1, g2]; rfl) rfl N.out
      · clear hcut2 K2
        have X6 : Hid (((((w5).setCell ⟨w2.heap.size + 1, 0, none⟩ (Value.string t)).setCell ⟨w2.heap.size + 1, 1, none⟩ (Value.slice A5 l.length cap5)).setCell ⟨w2.heap.size + 1, 2, none⟩ (Value.string m)).heap[w2.heap.size + 1]? = some (C3 t A5 l.length cap5 m)) := hide (put3 X5.out)
        have O6 : Hid (ZOwn ((((w5).setCell ⟨w2.heap.size + 1, 0, none⟩ (Value.string t)).setCell ⟨w2.heap.size + 1, 1, none⟩ (Value.slice A5 l.length cap5)).setCell ⟨w2.heap.size + 1, 2, none⟩ (Value.string m)) w2.heap.size A5 cap5 l) := hide (own3 O5.out ROW.out)
        have B6 : Hid (Below w2.heap.size w2 ((((w5).setCell ⟨w2.heap.size + 1, 0, none⟩ (Value.string t)).setCell ⟨w2.heap.size + 1, 1, none⟩ (Value.slice A5 l.length cap5)).setCell ⟨w2.heap.size + 1, 2, none⟩ (Value.string m))) := hide (bel3 B5.out (Nat.le_succ _))
        have hcb : w2.heap.size ≤ w2.heap.size + 1 := (Nat.le_succ _)
        have S6 : w2.heap.size + 1 < ((((w5).setCell ⟨w2.heap.size + 1, 0, none⟩ (Value.string t)).setCell ⟨w2.heap.size + 1, 1, none⟩ (Value.slice A5 l.length cap5)).setCell ⟨w2.heap.size + 1, 2, none⟩ (Value.string m)).heap.size := (Array.getElem?_eq_some_iff.1 X6.out).1
        generalize ((((w5).setCell ⟨w2.heap.size + 1, 0, none⟩ (Value.string t)).setCell ⟨w2.heap.size + 1, 1, none⟩ (Value.slice A5 l.length cap5)).setCell ⟨w2.heap.size + 1, 2, none⟩ (Value.string m)) = w6 at *
        generalize hcbe : w2.heap.size + 1 = cb at *
        clear B5 O5 ROW z1 OC OB OA IC IB IA BC BB BA BA1 YA YB sA sB X5 c50 c51 c52 f50 f51 f52
        have c60 := cell_of_row _ _ 0 _ _ _ X6.out
        have c61 := cell_of_row _ _ 1 _ _ _ X6.out
        have c62 := cell_of_row _ _ 2 _ _ _ X6.out
        go_wp2_with fail
        refine (specCommitText_any t m A5 l cap5 w6 (hszp.out t (by simp)) (by unfold maxLen; omega) (by rw [HL0.out]; unfold maxLen; omega) ⟨fun i hi => hszp.out _ (List.mem_cons_of_mem _ (List.mem_cons_of_mem _ (List.getElem_mem hi))), O6.out.zin⟩).mono ?_
        rintro e w7 ⟨rfl, b7⟩
        have X7 := hide ((b7.block cb (by have := S6; omega)).trans X6.out)
        have G7 := hide ((b7.block w.heap.size (by have := S6; omega)).trans ((B6.out.block w.heap.size (by omega)).trans X2.out))
        have B7 := hide (B6.out.trans (b7.mono (by have := S6; have := B6.out.size; omega)))
        have O7 := hide (O6.out.below b7)
        clear b7 X6 B6 O6 c60 c61 c62 g0 g1 g2 k0 k1 k2 X2
        have c70 := cell_of_row _ _ 0 _ _ _ X7.out
        have c71 := cell_of_row _ _ 1 _ _ _ X7.out
        have c72 := cell_of_row _ _ 2 _ _ _ X7.out
        have g0 := cell_of_row _ _ 0 _ _ _ G7.out
        have g1 := cell_of_row _ _ 1 _ _ _ G7.out
        have g2 := cell_of_row _ _ 2 _ _ _ G7.out
        have k0 := frozen_of_row _ _ 0 _ _ G7.out
        have k1 := frozen_of_row _ _ 1 _ _ G7.out
        have k2 := frozen_of_row _ _ 2 _ _ G7.out
        by_cases hT : comTextS t l m = s
        · obtain ⟨e1, e2⟩ := rd_yes (com_text HC.out hT)
          have E := eqS_yes hT
          have RR := hide (show RetCom s w (.returned (.tuple #[.agg #[.string t, .slice A5 l.length cap5, .string m], .bool true])) (((w7.setCell ⟨w.heap.size, 0, none⟩ (.string t)).setCell ⟨w.heap.size, 1, none⟩ (.slice A5 l.length cap5)).setCell ⟨w.heap.size, 2, none⟩ (.string m)) from
            ⟨A5, cap5, by rw [e2, e1], by rw [e2]; exact (own3 O7.out (fun h => by have := (O7.out.row _ h).1; omega)).more (by omega), bel3 (B2.out.trans (B7.out.mono (by omega))) (Nat.le_refl _)⟩)
          clear hT e1 e2
          generalize comTextS t l m = cs at *
          generalize l.length = nl at *
          go_wp2
          exact bodyPost_ret (v := .tuple #[.agg #[.string t, .slice A5 nl cap5, .string m], .bool true]) (by simp [results, Tryd.results35, go_sem, g0, g1, g2]) rfl RR.out
        · have E := eqS_no hT
          have N := hide (NO.out (com_text_no HM.out (by rw [hx]; exact HP.out) hT) _ rfl w7 (B7.out.mono (by omega)))
          clear hT
          generalize comTextS t l m = cs at *
          generalize l.length = nl at *
          go_wp2
          exact bodyPost_ret (v := .tuple #[.agg #[.string ByteArray.empty, .slice none 0 0, .string ByteArray.empty], .bool false]) (by simp [results, Tryd.results35, go_sem, g0, g1, g2]; rfl) rfl N.out
      · clear hcut2 K2
        have X6 : Hid (((((w5).setCell ⟨w2.heap.size, 0, none⟩ (Value.string t)).setCell ⟨w2.heap.size, 1, none⟩ (Value.slice A5 l.length cap5)).setCell ⟨w2.heap.size, 2, none⟩ (Value.string m)).heap[w2.heap.size]? = some (C3 t A5 l.length cap5 m)) := hide (put3 X5.out)
        have O6 : Hid (ZOwn ((((w5).setCell ⟨w2.heap.size, 0, none⟩ (Value.string t)).setCell ⟨w2.heap.size, 1, none⟩ (Value.slice A5 l.length cap5)).setCell ⟨w2.heap.size, 2, none⟩ (Value.string m)) (w2.heap.size + 1) A5 cap5 l) := hide (own3 O5.out ROW.out)
        have B6 : Hid (Below w2.heap.size w2 ((((w5).setCell ⟨w2.heap.size, 0, none⟩ (Value.string t)).setCell ⟨w2.heap.size, 1, none⟩ (Value.slice A5 l.length cap5)).setCell ⟨w2.heap.size, 2, none⟩ (Value.string m))) := hide (bel3 B5.out (Nat.le_refl _))
        have hcb : w2.heap.size ≤ w2.heap.size := (Nat.le_refl _)
        have S6 : w2.heap.size < ((((w5).setCell ⟨w2.heap.size, 0, none⟩ (Value.string t)).setCell ⟨w2.heap.size, 1, none⟩ (Value.slice A5 l.length cap5)).setCell ⟨w2.heap.size, 2, none⟩ (Value.string m)).heap.size := (Array.getElem?_eq_some_iff.1 X6.out).1
        generalize ((((w5).setCell ⟨w2.heap.size, 0, none⟩ (Value.string t)).setCell ⟨w2.heap.size, 1, none⟩ (Value.slice A5 l.length cap5)).setCell ⟨w2.heap.size, 2, none⟩ (Value.string m)) = w6 at *
        generalize hcbe : w2.heap.size = cb at *
        clear B5 O5 ROW z1 OC OB OA IC IB IA BC BB BA BA1 YA YB sA sB X5 c50 c51 c52 f50 f51 f52
        have c60 := cell_of_row _ _ 0 _ _ _ X6.out
        have c61 := cell_of_row _ _ 1 _ _ _ X6.out
        have c62 := cell_of_row _ _ 2 _ _ _ X6.out
        go_wp2_with fail
        refine (specCommitText_any t m A5 l cap5 w6 (hszp.out t (by simp)) (by unfold maxLen; omega) (by rw [HL0.out]; unfold maxLen; omega) ⟨fun i hi => hszp.out _ (List.mem_cons_of_mem _ (List.mem_cons_of_mem _ (List.getElem_mem hi))), O6.out.zin⟩).mono ?_
        rintro e w7 ⟨rfl, b7⟩
        have X7 := hide ((b7.block cb (by have := S6; omega)).trans X6.out)
        have G7 := hide ((b7.block w.heap.size (by have := S6; omega)).trans ((B6.out.block w.heap.size (by omega)).trans X2.out))
        have B7 := hide (B6.out.trans (b7.mono (by have := S6; have := B6.out.size; omega)))
        have O7 := hide (O6.out.below b7)
        clear b7 X6 B6 O6 c60 c61 c62 g0 g1 g2 k0 k1 k2 X2
        have c70 := cell_of_row _ _ 0 _ _ _ X7.out
        have c71 := cell_of_row _ _ 1 _ _ _ X7.out
        have c72 := cell_of_row _ _ 2 _ _ _ X7.out
        have g0 := cell_of_row _ _ 0 _ _ _ G7.out
        have g1 := cell_of_row _ _ 1 _ _ _ G7.out
        have g2 := cell_of_row _ _ 2 _ _ _ G7.out
        have k0 := frozen_of_row _ _ 0 _ _ G7.out
        have k1 := frozen_of_row _ _ 1 _ _ G7.out
        have k2 := frozen_of_row _ _ 2 _ _ G7.out
        by_cases hT : comTextS t l m = s
        · obtain ⟨e1, e2⟩ := rd_yes (com_text HC.out hT)
          have E := eqS_yes hT
          have RR := hide (show RetCom s w (.returned (.tuple #[.agg #[.string t, .slice A5 l.length cap5, .string m], .bool true])) (((w7.setCell ⟨w.heap.size, 0, none⟩ (.string t)).setCell ⟨w.heap.size, 1, none⟩ (.slice A5 l.length cap5)).setCell ⟨w.heap.size, 2, none⟩ (.string m)) from
            ⟨A5, cap5, by rw [e2, e1], by rw [e2]; exact (own3 O7.out (fun h => by have := (O7.out.row _ h).1; omega)).more (by omega), bel3 (B2.out.trans (B7.out.mono (by omega))) (Nat.le_refl _)⟩)
          clear hT e1 e2
          generalize comTextS t l m = cs at *
          generalize l.length = nl at *
          go_wp2
          exact bodyPost_ret (v := .tuple #[.agg #[.string t, .slice A5 nl cap5, .string m], .bool true]) (by simp [results, Tryd.results35, go_sem, g0, g1, g2]) rfl RR.out
        · have E := eqS_no hT
          have N := hide (NO.out (com_text_no HM.out (by rw [hx]; exact HP.out) hT) _ rfl w7 (B7.out.mono (by omega)))
          clear hT
          generalize comTextS t l m = cs at *
          generalize l.length = nl at *
          go_wp2
          exact bodyPost_ret (v := .tuple #[.agg #[.string ByteArray.empty, .slice none 0 0, .string ByteArray.empty], .bool false]) (by simp [results, Tryd.results35, go_sem, g0, g1, g2]; rfl) rfl N.out
end Go.Proofs.YtkhkcdmmagicmaaDoor
/-
  What impl.CommitAt and spec.CommitAt answer.
-/
namespace Go.Proofs.YtkhkcdmmagicmaaDoor
open Go.RowKit

theorem com_empty : ¬ ∃ c, isCom ByteArray.empty c := no_start (fun ⟨r, h⟩ => by
  have := congrArg List.length h
  simp [comW] at this)
theorem find_zero {l : List Pr} {k : ByteArray} (h : findB l k = false) : findV l k = ByteArray.empty := by
  cases ho : objsB l
  · exact findV_no ho
  · rw [findV_yes ho]
    rw [findB_yes ho] at h
    exact valOf_no h
theorem find_size (l : List Pr) (k : ByteArray) : (findV l k).size ≤ 2000 := by
  cases ho : objsB l
  · rw [findV_no ho]; simp
  · rw [findV_yes ho]
    cases hb : hasB l k
    · rw [valOf_no hb]; simp
    · obtain ⟨hlt, he⟩ := hasB_iff.1 hb
      rw [valOf_yes hlt he]
      exact ((objsB_iff.1 ho).2.1 _ hlt hlt).1

set_option maxRecDepth 100000 in
set_option maxHeartbeats 1000000 in
theorem implCommitAt_any (A : Option Addr) (l : List Pr) (cap : Nat) (key : ByteArray) (a : Addr) (w : World) (hk : key.size ≤ maxLen) (hl : l.length ≤ maxLen) (hin : PIn w w.heap.size A l) (hT : Tabs w) (hE : ErrC w a) :
    Calls Tryd.prog 28 #[.slice A l.length cap, .string key] w (RetCom (findV l key) w) := by
  have b0 := (Below.refl w.heap.size w).alloc (Nat.le_refl _) (.cells #[.string ByteArray.empty, .slice none 0 0, .string ByteArray.empty] 45)
  have B0 := hide b0
  have X0 : Hid ((w.alloc (.cells #[.string ByteArray.empty, .slice none 0 0, .string ByteArray.empty] 45)).heap[w.heap.size]? = some (C3 ByteArray.empty none 0 0 ByteArray.empty)) := hide (heap_alloc_new w _)
  have S0 : Hid ((w.alloc (.cells #[.string ByteArray.empty, .slice none 0 0, .string ByteArray.empty] 45)).heap.size = w.heap.size + 1) := hide (by simp)
  have T0 := hide (hT.below b0 hT.1)
  have E0 := hide (hE.below b0)
  have IN := hide ((hin.below b0).more b0.size)
  have F := hide (implFind_any A l cap key _ hk hl IN.out T0.out)
  have Z := hide (fun h => find_zero (l := l) (k := key) h)
  have hz := find_size l key
  clear b0 hin hT hE
  generalize hn : l.length = n at *
  go_enter Tryd.func28, Tryd.ntmps28
  go_wp2_with fail
  refine F.out.mono ?_
  rintro e w1 ⟨rfl, b1⟩
  have B1 := hide (B0.out.trans (b1.mono B0.out.size))
  have X1 := hide ((b1.block w.heap.size (by rw [S0.out]; omega)).trans X0.out)
  have E1 := hide (E0.out.below b1)
  have hs1 : w.heap.size + 1 ≤ w1.heap.size := by have := b1.size; rw [S0.out] at this; exact this
  clear b1 F T0 E0 IN B0 X0 S0
  cases hb : findB l key
  · have ZE := hide (Z.out hb)
    have g0 := cell_of_row _ _ 0 _ _ _ X1.out
    have g1 := cell_of_row _ _ 1 _ _ _ X1.out
    have g2 := cell_of_row _ _ 2 _ _ _ X1.out
    have k0 := frozen_of_row _ _ 0 _ _ X1.out
    have k1 := frozen_of_row _ _ 1 _ _ X1.out
    have k2 := frozen_of_row _ _ 2 _ _ X1.out
    have N : Hid (RetCom (findV l key) w (.returned (.tuple #[.agg #[.string ByteArray.empty, .slice none 0 0, .string ByteArray.empty], .bool false])) (((w1.setCell ⟨w.heap.size, 0, none⟩ (.string ByteArray.empty)).setCell ⟨w.heap.size, 1, none⟩ (.slice none 0 0)).setCell ⟨w.heap.size, 2, none⟩ (.string ByteArray.empty))) := hide (by
      rw [ZE.out]
      obtain ⟨e1, e2⟩ := rd_no com_empty
      exact ⟨none, 0, by rw [e2, e1]; rfl, by rw [e2]; exact ZOwn.nil _ _, ((B1.out.setCell (p := ⟨w.heap.size, 0, none⟩) (Nat.le_refl _) _).setCell (p := ⟨w.heap.size, 1, none⟩) (Nat.le_refl _) _).setCell (p := ⟨w.heap.size, 2, none⟩) (Nat.le_refl _) _⟩)
    generalize findV l key = t at *
    go_wp2
    exact bodyPost_ret (v := .tuple #[.agg #[.string ByteArray.empty, .slice none 0 0, .string ByteArray.empty], .bool false]) (by simp [results, Tryd.results28, go_sem, g0, g1, g2]; rfl) rfl N.out
  · generalize findV l key = t at *
    go_wp2_with fail
    refine (implReadCommit_any t a w1 (by unfold maxLen; omega) E1.out).mono ?_
    rintro e w2 ⟨A2, cap2, rfl, own2, b2⟩
    have X2 := hide ((b2.block w.heap.size (by omega)).trans X1.out)
    have B2 := hide (B1.out.trans (b2.mono (by omega)))
    have r2 := own2.row
    have O2 := hide own2
    have g0 := cell_of_row _ _ 0 _ _ _ X2.out
    have g1 := cell_of_row _ _ 1 _ _ _ X2.out
    have g2 := cell_of_row _ _ 2 _ _ _ X2.out
    have k0 := frozen_of_row _ _ 0 _ _ X2.out
    have k1 := frozen_of_row _ _ 1 _ _ X2.out
    have k2 := frozen_of_row _ _ 2 _ _ X2.out
    clear own2 b2
    have N : Hid (RetCom t w (.returned (.tuple #[.agg #[.string (rdC t).1, .slice A2 (rdC t).2.1.length cap2, .string (rdC t).2.2], .bool (rdOk t)])) (((w2.setCell ⟨w.heap.size, 0, none⟩ (.string (rdC t).1)).setCell ⟨w.heap.size, 1, none⟩ (.slice A2 (rdC t).2.1.length cap2)).setCell ⟨w.heap.size, 2, none⟩ (.string (rdC t).2.2))) := hide (by
      refine ⟨A2, cap2, rfl, ?_, ((B2.out.setCell (p := ⟨w.heap.size, 0, none⟩) (Nat.le_refl _) _).setCell (p := ⟨w.heap.size, 1, none⟩) (Nat.le_refl _) _).setCell (p := ⟨w.heap.size, 2, none⟩) (Nat.le_refl _) _⟩
      have hne : rowOf A2 ≠ some w.heap.size := fun e => by have := (r2 _ e).1; omega
      have gs : ∀ (W : World) (o : Nat) (v : Value), W.grownBy (W.setCell ⟨w.heap.size, o, none⟩ v) (some w.heap.size) := fun W o v => ⟨rfl, rfl, rfl, by simp [World.setCell], fun k _ hk => Below.heap_setCell W ⟨w.heap.size, o, none⟩ v k (fun e => hk (by rw [e]))⟩
      exact ((((O2.out.kept (gs _ _ _) hne).kept (gs _ _ _) hne).kept (gs _ _ _) hne)).more (by omega))
    generalize (rdC t).1 = c1 at *
    generalize (rdC t).2.2 = c3 at *
    generalize (rdC t).2.1.length = c2 at *
    generalize rdOk t = ok at *
    go_wp2
    exact bodyPost_ret (v := .tuple #[.agg #[.string c1, .slice A2 c2 cap2, .string c3], .bool ok]) (by simp [results, Tryd.results28, go_sem, g0, g1, g2]) rfl N.out
set_option maxRecDepth 100000 in
set_option maxHeartbeats 1000000 in
theorem specCommitAt_any (A : Option Addr) (l : List Pr) (cap : Nat) (key : ByteArray) (w : World) (hl : l.length ≤ maxLen) (hin : PIn w w.heap.size A l) :
    Calls Tryd.prog 24 #[.slice A l.length cap, .string key] w (RetCom (findV l key) w) := by
  have b0 := (Below.refl w.heap.size w).alloc (Nat.le_refl _) (.cells #[.string ByteArray.empty, .slice none 0 0, .string ByteArray.empty] 45)
  have B0 := hide b0
  have X0 : Hid ((w.alloc (.cells #[.string ByteArray.empty, .slice none 0 0, .string ByteArray.empty] 45)).heap[w.heap.size]? = some (C3 ByteArray.empty none 0 0 ByteArray.empty)) := hide (heap_alloc_new w _)
  have S0 : Hid ((w.alloc (.cells #[.string ByteArray.empty, .slice none 0 0, .string ByteArray.empty] 45)).heap.size = w.heap.size + 1) := hide (by simp)
  have IN := hide ((hin.below b0).more b0.size)
  have F := hide (specFind_any A l cap key _ hl IN.out)
  have Z := hide (fun h => find_zero (l := l) (k := key) h)
  have hz := find_size l key
  clear b0 hin
  generalize hn : l.length = n at *
  go_enter Tryd.func24, Tryd.ntmps24
  go_wp2_with fail
  refine F.out.mono ?_
  rintro e w1 ⟨rfl, b1⟩
  have B1 := hide (B0.out.trans (b1.mono B0.out.size))
  have X1 := hide ((b1.block w.heap.size (by rw [S0.out]; omega)).trans X0.out)
  have hs1 : w.heap.size + 1 ≤ w1.heap.size := by have := b1.size; rw [S0.out] at this; exact this
  clear b1 F IN B0 X0 S0
  cases hb : findB l key
  · have ZE := hide (Z.out hb)
    have g0 := cell_of_row _ _ 0 _ _ _ X1.out
    have g1 := cell_of_row _ _ 1 _ _ _ X1.out
    have g2 := cell_of_row _ _ 2 _ _ _ X1.out
    have k0 := frozen_of_row _ _ 0 _ _ X1.out
    have k1 := frozen_of_row _ _ 1 _ _ X1.out
    have k2 := frozen_of_row _ _ 2 _ _ X1.out
    have N : Hid (RetCom (findV l key) w (.returned (.tuple #[.agg #[.string ByteArray.empty, .slice none 0 0, .string ByteArray.empty], .bool false])) (((w1.setCell ⟨w.heap.size, 0, none⟩ (.string ByteArray.empty)).setCell ⟨w.heap.size, 1, none⟩ (.slice none 0 0)).setCell ⟨w.heap.size, 2, none⟩ (.string ByteArray.empty))) := hide (by
      rw [ZE.out]
      obtain ⟨e1, e2⟩ := rd_no com_empty
      exact ⟨none, 0, by rw [e2, e1]; rfl, by rw [e2]; exact ZOwn.nil _ _, ((B1.out.setCell (p := ⟨w.heap.size, 0, none⟩) (Nat.le_refl _) _).setCell (p := ⟨w.heap.size, 1, none⟩) (Nat.le_refl _) _).setCell (p := ⟨w.heap.size, 2, none⟩) (Nat.le_refl _) _⟩)
    generalize findV l key = t at *
    go_wp2
    exact bodyPost_ret (v := .tuple #[.agg #[.string ByteArray.empty, .slice none 0 0, .string ByteArray.empty], .bool false]) (by simp [results, Tryd.results24, go_sem, g0, g1, g2]; rfl) rfl N.out
  · generalize findV l key = t at *
    go_wp2_with fail
    refine (specReadCommit_any t w1 (by omega)).mono ?_
    rintro e w2 ⟨A2, cap2, rfl, own2, b2⟩
    have X2 := hide ((b2.block w.heap.size (by omega)).trans X1.out)
    have B2 := hide (B1.out.trans (b2.mono (by omega)))
    have r2 := own2.row
    have O2 := hide own2
    have g0 := cell_of_row _ _ 0 _ _ _ X2.out
    have g1 := cell_of_row _ _ 1 _ _ _ X2.out
    have g2 := cell_of_row _ _ 2 _ _ _ X2.out
    have k0 := frozen_of_row _ _ 0 _ _ X2.out
    have k1 := frozen_of_row _ _ 1 _ _ X2.out
    have k2 := frozen_of_row _ _ 2 _ _ X2.out
    clear own2 b2
    have N : Hid (RetCom t w (.returned (.tuple #[.agg #[.string (rdC t).1, .slice A2 (rdC t).2.1.length cap2, .string (rdC t).2.2], .bool (rdOk t)])) (((w2.setCell ⟨w.heap.size, 0, none⟩ (.string (rdC t).1)).setCell ⟨w.heap.size, 1, none⟩ (.slice A2 (rdC t).2.1.length cap2)).setCell ⟨w.heap.size, 2, none⟩ (.string (rdC t).2.2))) := hide (by
      refine ⟨A2, cap2, rfl, ?_, ((B2.out.setCell (p := ⟨w.heap.size, 0, none⟩) (Nat.le_refl _) _).setCell (p := ⟨w.heap.size, 1, none⟩) (Nat.le_refl _) _).setCell (p := ⟨w.heap.size, 2, none⟩) (Nat.le_refl _) _⟩
      have hne : rowOf A2 ≠ some w.heap.size := fun e => by have := (r2 _ e).1; omega
      have gs : ∀ (W : World) (o : Nat) (v : Value), W.grownBy (W.setCell ⟨w.heap.size, o, none⟩ v) (some w.heap.size) := fun W o v => ⟨rfl, rfl, rfl, by simp [World.setCell], fun k _ hk => Below.heap_setCell W ⟨w.heap.size, o, none⟩ v k (fun e => hk (by rw [e]))⟩
      exact ((((O2.out.kept (gs _ _ _) hne).kept (gs _ _ _) hne).kept (gs _ _ _) hne)).more (by omega))
    generalize (rdC t).1 = c1 at *
    generalize (rdC t).2.2 = c3 at *
    generalize (rdC t).2.1.length = c2 at *
    generalize rdOk t = ok at *
    go_wp2
    exact bodyPost_ret (v := .tuple #[.agg #[.string c1, .slice A2 c2 cap2, .string c3], .bool ok]) (by simp [results, Tryd.results24, go_sem, g0, g1, g2]) rfl N.out
end Go.Proofs.YtkhkcdmmagicmaaDoor
/-
  What impl.MapAt and spec.MapAt answer.
-/
namespace Go.Proofs.YtkhkcdmmagicmaaDoor
open Go.RowKit

theorem tree_empty : treeB ByteArray.empty = false := treeB_no fun h => by
  obtain ⟨a, ha⟩ := h
  simp [mapW] at ha
/-- a commit in a box of its own -/
theorem boxC (w : World) (t m : ByteArray) (A : Option Addr) (n cap : Nat) :
    (w.alloc (.cells #[.string t, .slice A n cap, .string m] 45)).heap[w.heap.size]? = some (C3 t A n cap m) := heap_alloc_new w _
theorem boxC_below (w : World) (x y z : Value) : Below w.heap.size w (w.alloc (.cells #[x, y, z] 45)) := (Below.refl w.heap.size w).alloc (Nat.le_refl _) _
noncomputable def matB (l : List Pr) (key : ByteArray) : Bool := rdOk (findV l key) && treeB (findV l (rdC (findV l key)).1)
noncomputable def matL (l : List Pr) (key : ByteArray) : List Pr := if rdOk (findV l key) = true then treeL (findV l (rdC (findV l key)).1) else []
theorem matB_yes {l : List Pr} {key : ByteArray} (h : rdOk (findV l key) = true) : matL l key = treeL (findV l (rdC (findV l key)).1) ∧ matB l key = treeB (findV l (rdC (findV l key)).1) := by
  unfold matL matB
  rw [if_pos h, h]
  exact ⟨rfl, rfl⟩
theorem matB_no {l : List Pr} {key : ByteArray} (h : rdOk (findV l key) = false ∨ treeB (findV l (rdC (findV l key)).1) = false) : matL l key = [] ∧ matB l key = false := by
  cases e : rdOk (findV l key)
  · unfold matL matB
    rw [e]
    exact ⟨rfl, rfl⟩
  · rw [(matB_yes e).1, (matB_yes e).2]
    rcases h with h | h
    · rw [h] at e; cases e
    · exact ⟨treeL_no h, h⟩
theorem matL_len (l : List Pr) (key : ByteArray) : (matL l key).length ≤ 40 := by
  unfold matL
  split
  · exact treeL_len _
  · simp
theorem rd_tree (s : ByteArray) : (rdC s).1.size ≤ maxLen := by
  by_cases h : ∃ c, isCom s c
  · obtain ⟨c, hc⟩ := h
    rw [(rd_yes hc).2, (com_parts hc.1).1]
    unfold maxLen
    omega
  · rw [(rd_no h).2]
    simp

set_option maxRecDepth 100000 in
set_option maxHeartbeats 1000000 in
theorem implMapAt_any (A : Option Addr) (l : List Pr) (cap : Nat) (key : ByteArray) (a : Addr) (w : World) (hk : key.size ≤ maxLen) (hl : l.length ≤ maxLen) (hin : PIn w w.heap.size A l) (hT : Tabs w) (hE : ErrC w a) :
    Calls Tryd.prog 10 #[.slice A l.length cap, .string key] w (M.RetOwnB w.heap.size (matL l key) (matB l key) w) := by
  have C := hide (implCommitAt_any A l cap key a w hk hl hin hT hE)
  have FN : Hid (∀ k W, k.size ≤ maxLen → Below w.heap.size w W → Calls Tryd.prog 29 #[.slice A l.length cap, .string k] W fun e w' => e = .returned (.tuple #[.string (findV l k), .bool (findB l k)]) ∧ Below W.heap.size W w') := hide (fun k W hk hb => implFind_any A l cap k W hk hl ((hin.below hb).more hb.size) (hT.below hb hT.1))
  clear hin hT hE
  have NO := hide (fun h => matB_no (l := l) (key := key) h)
  have YES := hide (fun h => matB_yes (l := l) (key := key) h)
  have T16 := hide (rd_tree (findV l key))
  generalize l.length = n at *
  go_enter Tryd.func10, Tryd.ntmps10
  go_wp2_with fail
  refine C.out.mono ?_
  rintro e w1 ⟨A1, cap1, rfl, own1, b1⟩
  have BX : Hid (∀ x y z, Below w.heap.size w (w1.alloc (.cells #[x, y, z] 45))) := hide (fun x y z => b1.trans ((boxC_below w1 x y z).mono b1.size))
  clear own1 b1 C
  cases hok : rdOk (findV l key)
  · have Z := hide (NO.out (.inl hok))
    generalize (rdC (findV l key)).1 = c1 at *
    generalize (rdC (findV l key)).2.2 = c3 at *
    generalize (rdC (findV l key)).2.1.length = c2 at *
    go_wp2
    go_ret2
    exact M.retOwnB_no Z.out.1 Z.out.2 (BX.out _ _ _)
  · have Y := hide (YES.out hok)
    have N := hide (fun h => NO.out (.inr h))
    clear YES NO
    generalize (rdC (findV l key)).1 = c1 at *
    generalize (rdC (findV l key)).2.2 = c3 at *
    generalize (rdC (findV l key)).2.1.length = c2 at *
    have g0 := cell_of_row _ _ 0 _ _ _ (boxC w1 c1 c3 A1 c2 cap1)
    go_wp2_with fail
    refine (FN.out c1 _ T16.out (BX.out _ _ _)).mono ?_
    rintro e w2 ⟨rfl, b2⟩
    have B2 := hide ((BX.out _ _ _).trans (b2.mono (BX.out _ _ _).size))
    have hz := find_size l c1
    clear b2 BX FN
    cases hb : findB l c1
    · have Z := hide (N.out (by rw [find_zero hb]; exact tree_empty))
      generalize findV l c1 = t at *
      go_wp2
      go_ret2
      exact M.retOwnB_no Z.out.1 Z.out.2 B2.out
    · generalize findV l c1 = t at *
      go_wp2_with fail
      refine (implReadTree_any t w2 (by omega)).mono ?_
      rintro e w3 ⟨A3, cap3, hc3, rfl, own3, b3⟩
      have R : Hid (M.RetOwnB w.heap.size (matL l key) (matB l key) w (.returned (.tuple #[.slice A3 (treeL t).length cap3, .bool (treeB t)])) w3) := hide (by
        rw [Y.out.1, Y.out.2]
        exact ⟨A3, cap3, hc3, rfl, own3.more B2.out.size, B2.out.trans (b3.mono B2.out.size)⟩)
      clear own3 b3 hc3 Y N
      generalize (treeL t).length = n3 at *
      generalize treeB t = ok at *
      go_wp2
      go_ret2
      exact R.out

set_option maxRecDepth 100000 in
set_option maxHeartbeats 1000000 in
theorem specMapAt_any (A : Option Addr) (l : List Pr) (cap : Nat) (key : ByteArray) (w : World) (hl : l.length ≤ maxLen) (hin : PIn w w.heap.size A l) :
    Calls Tryd.prog 8 #[.slice A l.length cap, .string key] w (M.RetOwnB w.heap.size (matL l key) (matB l key) w) := by
  have C := hide (specCommitAt_any A l cap key w hl hin)
  have FN : Hid (∀ k W, k.size ≤ maxLen → Below w.heap.size w W → Calls Tryd.prog 25 #[.slice A l.length cap, .string k] W fun e w' => e = .returned (.tuple #[.string (findV l k), .bool (findB l k)]) ∧ Below W.heap.size W w') := hide (fun k W hk hb => specFind_any A l cap k W hl ((hin.below hb).more hb.size))
  clear hin
  have NO := hide (fun h => matB_no (l := l) (key := key) h)
  have YES := hide (fun h => matB_yes (l := l) (key := key) h)
  have T16 := hide (rd_tree (findV l key))
  generalize l.length = n at *
  go_enter Tryd.func8, Tryd.ntmps8
  go_wp2_with fail
  refine C.out.mono ?_
  rintro e w1 ⟨A1, cap1, rfl, own1, b1⟩
  have BX : Hid (∀ x y z, Below w.heap.size w (w1.alloc (.cells #[x, y, z] 45))) := hide (fun x y z => b1.trans ((boxC_below w1 x y z).mono b1.size))
  clear own1 b1 C
  cases hok : rdOk (findV l key)
  · have Z := hide (NO.out (.inl hok))
    generalize (rdC (findV l key)).1 = c1 at *
    generalize (rdC (findV l key)).2.2 = c3 at *
    generalize (rdC (findV l key)).2.1.length = c2 at *
    go_wp2
    go_ret2
    exact M.retOwnB_no Z.out.1 Z.out.2 (BX.out _ _ _)
  · have Y := hide (YES.out hok)
    have N := hide (fun h => NO.out (.inr h))
    clear YES NO
    generalize (rdC (findV l key)).1 = c1 at *
    generalize (rdC (findV l key)).2.2 = c3 at *
    generalize (rdC (findV l key)).2.1.length = c2 at *
    have g0 := cell_of_row _ _ 0 _ _ _ (boxC w1 c1 c3 A1 c2 cap1)
    go_wp2_with fail
    refine (FN.out c1 _ T16.out (BX.out _ _ _)).mono ?_
    rintro e w2 ⟨rfl, b2⟩
    have B2 := hide ((BX.out _ _ _).trans (b2.mono (BX.out _ _ _).size))
    have hz := find_size l c1
    clear b2 BX FN
    cases hb : findB l c1
    · have Z := hide (N.out (by rw [find_zero hb]; exact tree_empty))
      generalize findV l c1 = t at *
      go_wp2
      go_ret2
      exact M.retOwnB_no Z.out.1 Z.out.2 B2.out
    · generalize findV l c1 = t at *
      go_wp2_with fail
      refine (l4Map_any t w2 (by omega)).mono ?_
      rintro e w3 ⟨A3, cap3, hc3, rfl, own3, b3⟩
      have R : Hid (M.RetOwnB w.heap.size (matL l key) (matB l key) w (.returned (.tuple #[.slice A3 (treeL t).length cap3, .bool (treeB t)])) w3) := hide (by
        rw [Y.out.1, Y.out.2]
        exact ⟨A3, cap3, hc3, rfl, own3.more B2.out.size, B2.out.trans (b3.mono B2.out.size)⟩)
      clear own3 b3 hc3 Y N
      generalize (treeL t).length = n3 at *
      generalize treeB t = ok at *
      go_wp2
      go_ret2
      exact R.out
end Go.Proofs.YtkhkcdmmagicmaaDoor
/-
  What the rows' lists of package-level variables give: the two tables of the digest; and that the variables read as they did where nothing old has turned.
-/
namespace Go.Proofs.YtkhkcdmmagicmaaDoor
open Go.ChangeShapes Go.WideShapes Go.ChangeAt Go.RowKit

theorem own : ownKnob Tryd.prog.godebug = none := by kernel_rfl
theorem laidOut : laidOutB Tryd.prog = true := by kernel_rfl
theorem gFirst : Tryd.prog.globalNamed "loop.example/g00652/impl.shaFirst" = some 1 := by kernel_rfl
theorem gRounds : Tryd.prog.globalNamed "loop.example/g00652/impl.shaRounds" = some 2 := by kernel_rfl
theorem tFirst : (Tryd.prog.globals[1]?).map (·.type) = some 130 := by kernel_rfl
theorem tRounds : (Tryd.prog.globals[2]?).map (·.type) = some 132 := by kernel_rfl
theorem cellsState : Tryd.prog.cellsOf 130 = 8 := by kernel_rfl
theorem cellsWords : Tryd.prog.cellsOf 132 = 64 := by kernel_rfl
theorem cellsU32 : Tryd.prog.cellsOf 124 = 1 := by kernel_rfl

theorem laidVars_mem {P : Program} {W : World} : ∀ {l : List (String × DataW Unit)} {ps : List MemPlace}, DataW.LaidVars P W l ps → ∀ {n : String} {d : DataW Unit}, (n, d) ∈ l →
    ∃ g t cs fuel p, P.globalNamed n = some g ∧ (P.globals[g]?).map (·.type) = some t ∧ W.var? P n = some cs ∧ DataW.trod (fun _ => ()) P W 0 (fun _ => true) false fuel t cs.toList = some (d, p)
  | [], _, _, _, _, hm => by simp at hm
  | (n', d') :: r, _, h, n, d, hm => by
    obtain ⟨g, t, cs, fuel, p, q, h1, h2, h3, h4, h5, _⟩ := h
    rcases List.mem_cons.1 hm with e | e
    · injection e with e1 e2
      subst e1 e2
      exact ⟨g, t, cs, fuel, p, h1, h2, h3, h4⟩
    · exact laidVars_mem h5 e
theorem tabIs_of_mem {P : Program} {W : World} {name : String} {k : IntKind} {zs : List Int} {l : List (String × DataW Unit)} {g : Nat} {t e : TypeId} {n : Nat}
    (hg : P.globalNamed name = some g) (hty : (P.globals[g]?).map (·.type) = some t) (ht : P.underlying t = some (.array n e)) (he : P.underlying e = some (.int k)) (hce : P.cellsOf e = 1) (hct : P.cellsOf t = n)
    (h : laidMet P l W) (hm : (name, Lib.tabData k zs) ∈ l) : Lib.TabIs P W name k zs := by
  obtain ⟨ps, hl, _⟩ := h
  obtain ⟨g', t', cs, fuel, p, hg', ht', hvar, hd⟩ := laidVars_mem hl hm
  obtain rfl := Option.some.inj (hg.symm.trans hg')
  obtain rfl := Option.some.inj (hty.symm.trans ht')
  unfold Lib.TabIs
  rw [hvar, ← Lib.cells_of_tab ht he hce hct hd]
theorem tabs_of {W : World} {l : List (String × DataW Unit)} (h : laidMet Tryd.prog l W) (m0 : ("loop.example/g00652/impl.shaFirst", Lib.tabData .u32 fTab) ∈ l) (m1 : ("loop.example/g00652/impl.shaRounds", Lib.tabData .u32 kTab) ∈ l) : Tabs W := by
  have t0 := tabIs_of_mem gFirst tFirst Tryd.underlying130 Tryd.underlying124 cellsU32 cellsState h m0
  have t1 := tabIs_of_mem gRounds tRounds Tryd.underlying132 Tryd.underlying124 cellsU32 cellsWords h m1
  have c1 : At W 2 64 ksI := fun j hj => t1.cell gRounds j (by simpa [kTab] using hj)
  have c0 : At W 1 8 (fun j => fTab.getD j 0) := fun j hj => t0.cell gFirst j (by simpa [fTab] using hj)
  exact ⟨block_lt_of_cell (c1 0 (by omega)), c0, c1⟩

theorem var_lt {P : Program} {W : World} {n : String} {g : Nat} {cs : Array Value} (hg : P.globalNamed n = some g) (hv : W.var? P n = some cs) : g < W.heap.size := by
  unfold World.var? at hv
  simp only [hg, Option.bind_some] at hv
  by_cases h : g < W.heap.size
  · exact h
  · rw [Array.getElem?_eq_none (by omega)] at hv
    simp at hv
theorem vars_stay {H : Type} {enc : TypeId × Value → H} {P : Program} (hl : laidOutB P = true) {W W' : World} (hb : Below W.heap.size W W') : ∀ {ns : List String} {gs : List (DataW H)} {ps : List MemPlace},
    (∀ n ∈ ns, ∀ g t, P.globalNamed n = some g → (P.globals[g]?).map (·.type) = some t → P.readableRec t = true ∧ t < P.types.size) →
    DataW.TrodVars enc P W (fun _ => true) ns gs ps → DataW.TrodVars enc P W' (fun b => decide (b < W.heap.size)) ns gs ps
  | [], [], _, _, h => h
  | n :: ns, d :: ds, ps, hr, h => by
    obtain ⟨g, t, cs, fuel, p, q, h1, h2, h3, h4, h5, h6⟩ := h
    obtain ⟨r1, r2⟩ := hr n (List.mem_cons_self ..) g t h1 h2
    have ht : DataW.Trod enc P W 0 (fun _ => true) true t (.agg cs) d p := ⟨fuel, h4⟩
    obtain ⟨fuel', h4'⟩ := Below.trod hl r1 r2 ht hb (DataW.trod_lt fuel _ _ _ h4)
    exact ⟨g, t, cs, fuel', p, q, h1, h2, var?_below hb h1 (var_lt h1 h3) h3, h4', vars_stay hl hb (fun n' hn' => hr n' (List.mem_cons_of_mem _ hn')) h5, h6⟩
  | [], _ :: _, _, _, h => h.elim
  | _ :: _, [], _, _, h => h.elim
theorem vars_len {H : Type} {enc : TypeId × Value → H} {P : Program} {W : World} {sp : Nat → Bool} : ∀ {ns : List String} {gs : List (DataW H)} {ps : List MemPlace}, DataW.TrodVars enc P W sp ns gs ps → gs.length = ns.length
  | [], [], _, _ => rfl
  | _ :: _, _ :: _, _, h => by
    obtain ⟨_, _, _, _, _, _, _, _, _, _, h5, _⟩ := h
    simp [vars_len h5]
  | [], _ :: _, _, h => h.elim
  | _ :: _, [], _, h => h.elim
/-- a block whose cells are others -/
def relay (cs : Array Value) : Obj → Obj
  | .cells _ t fr => .cells cs t fr
  | o => o
/-- the tables' blocks with what their initialisers lay -/
def layAll (w : World) : World := { w with heap := (w.heap.modify 1 (relay (fTab.map (Value.int .u32)).toArray)).modify 2 (relay (kTab.map (Value.int .u32)).toArray) }
theorem list2 {α : Type} : ∀ {l : List α}, l.length = 2 → ∃ a b, l = [a, b]
  | [a, b], _ => ⟨a, b, rfl⟩
theorem list3 {α : Type} : ∀ {l : List α}, l.length = 3 → ∃ a b c, l = [a, b, c]
  | [a, b, c], _ => ⟨a, b, c, rfl⟩
end Go.Proofs.YtkhkcdmmagicmaaDoor
/-
  What the rows' lists of package-level variables give where the digest's tables and the reader's sentinel stand together.
-/
namespace Go.Proofs.YtkhkcdmmagicmaaDoor
open Go.ChangeShapes Go.WideShapes Go.ChangeAt Go.RowKit

theorem gErr : Tryd.prog.globalNamed "loop.example/g00652/impl.errNoCommit" = some 0 := by kernel_rfl
theorem tErr : (Tryd.prog.globals[0]?).map (·.type) = some 119 := by kernel_rfl
theorem star : ("*" ++ "errors.errorString" : String) = "*errors.errorString" := by decide
theorem strRow (u : TypeId) (h : Tryd.prog.typeName? 3 u = some "*errors.errorString") : u = 165 :=
  typeName_ptr_named (nm := "errors.errorString") (by rw [star]; kernel_rfl) (by kernel_rfl) (by decide) u (by rw [star]; exact h)
theorem cellsE : Tryd.prog.cellsOf 181 = 1 := by kernel_rfl
theorem cellsS : Tryd.prog.cellsOf 9 = 1 := by kernel_rfl
theorem errs_in {W : World} {t : List UInt8} {r : List (String × DataW Unit)} (h : laidMet Tryd.prog (("loop.example/g00652/impl.errNoCommit", .iface "*errors.errorString" (.ptr (.agg [.lit (.string t)]))) :: r) W) :
    ∃ a, ErrC W a ∧ W.var? Tryd.prog "loop.example/g00652/impl.errNoCommit" = some #[.iface 165 (.pointer (some a))] := by
  obtain ⟨a, s, hv, _, _, _⟩ := laid_sentinel h gErr tErr Tryd.underlying119 strRow Tryd.underlying165 Tryd.underlying181 rfl rfl Tryd.underlying9 cellsE cellsS
  exact ⟨a, ⟨by simpa using World.var?_cell gErr hv 0, var_lt gErr hv⟩, hv⟩
theorem laid_tail {P : Program} {x : String × DataW Unit} {r : List (String × DataW Unit)} {W : World} (h : laidMet P (x :: r) W) : laidMet P r W := by
  obtain ⟨ps, ⟨g, t, cs, fuel, p, q, _, _, _, _, h5, e⟩, hnd, hrows⟩ := h
  subst e
  exact ⟨q, h5, List.Nodup.sublist (List.sublist_append_right _ _) hnd, fun b off hm => hrows b off (List.mem_append_right _ hm)⟩
theorem vars_stayE {H : Type} {enc : TypeId × Value → H} (hl : laidOutB Tryd.prog = true) {W W' : World} (hb : Below W.heap.size W W') {a : Addr} (hv : W.var? Tryd.prog "loop.example/g00652/impl.errNoCommit" = some #[.iface 165 (.pointer (some a))]) : ∀ {ns : List String} {gs : List (DataW H)} {ps : List MemPlace},
    (∀ n ∈ ns, n = "loop.example/g00652/impl.errNoCommit" ∨ ∀ g t, Tryd.prog.globalNamed n = some g → (Tryd.prog.globals[g]?).map (·.type) = some t → Tryd.prog.readableRec t = true ∧ t < Tryd.prog.types.size) →
    DataW.TrodVars enc Tryd.prog W (fun _ => true) ns gs ps → DataW.TrodVars enc Tryd.prog W' (fun b => decide (b < W.heap.size)) ns gs ps
  | [], [], _, _, h => h
  | n :: ns, d :: ds, ps, hr, h => by
    obtain ⟨g, t, cs, fuel, p, q, h1, h2, h3, h4, h5, h6⟩ := h
    have ih := vars_stayE hl hb hv (fun n' hn' => hr n' (List.mem_cons_of_mem _ hn')) h5
    rcases hr n (List.mem_cons_self ..) with rfl | r
    · obtain rfl := Option.some.inj (gErr.symm.trans h1)
      obtain rfl := Option.some.inj (tErr.symm.trans h2)
      obtain rfl := Option.some.inj (hv.symm.trans h3)
      have u := DataW.TrodVars.unique (show DataW.TrodVars enc Tryd.prog W (fun _ => true) ["loop.example/g00652/impl.errNoCommit"] [d] _ from ⟨_, _, _, fuel, p, [], h1, h2, h3, h4, rfl, rfl⟩) (vars_read1 enc gErr tErr Tryd.underlying119 hv trivial _)
      obtain ⟨e1, e2⟩ := u
      obtain rfl := (List.cons.inj e1).1
      have e3 : p = [] := by
        have := congrArg List.length e2
        simp [MemPlace.row] at this
        exact this
      subst e3
      exact ⟨_, _, _, 1, [], q, h1, h2, var?_below hb gErr (var_lt gErr hv) hv, trod_held Tryd.underlying119 (v := .iface 165 (.pointer (some a))) trivial 0, ih, h6⟩
    · obtain ⟨r1, r2⟩ := r g t h1 h2
      have ht : DataW.Trod enc Tryd.prog W 0 (fun _ => true) true t (.agg cs) d p := ⟨fuel, h4⟩
      obtain ⟨fuel', h4'⟩ := Below.trod hl r1 r2 ht hb (DataW.trod_lt fuel _ _ _ h4)
      exact ⟨g, t, cs, fuel', p, q, h1, h2, var?_below hb h1 (var_lt h1 h3) h3, h4', ih, h6⟩
  | [], _ :: _, _, _, h => h.elim
  | _ :: _, [], _, _, h => h.elim
/-- the variables' blocks with what their initialisers lay -/
def layAllE (w : World) : World := { w with heap := (((w.heap.modify 1 (relay (fTab.map (Value.int .u32)).toArray)).modify 2 (relay (kTab.map (Value.int .u32)).toArray)).modify 0 (relay #[.iface 165 (.pointer (some ⟨w.heap.size, 0, none⟩))])).push (.cells #[.string ⟨#[116, 104, 101, 32, 116, 101, 120, 116, 32, 105, 115, 32, 110, 111, 32, 99, 111, 109, 109, 105, 116, 39, 115]⟩] 181) }
end Go.Proofs.YtkhkcdmmagicmaaDoor
