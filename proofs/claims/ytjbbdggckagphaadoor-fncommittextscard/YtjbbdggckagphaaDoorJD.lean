/-
  Texts that this proof leans on, joined: JD.
-/
import Derived.Test.YtjbbdggckagphaaDoorChecked
import Derived.Test.YtjbbdggckagphaaDoorPCell
import Derived.WalkLawsBesides
import Derived.Lib.Hide
import Derived.Maps.AppendAt
import Derived.BigQuiet
import Derived.IntWalk
import Derived.Laws.Rows
import Derived.ProofKit
import Derived.OpenShut
import Derived.Deep.RegionWith
import Derived.WalkSpells
import Derived.Deep.Quiet
import Derived.Deep.QuietTactic
import Derived.Test.YtjbbdggckagphaaDoorJA
import Derived.Test.YtjbbdggckagphaaDoorQIdS
import Derived.Test.YtjbbdggckagphaaDoorJB
/-
  The reader of a law's code: what l1Open, next, below, once leave. Loosely: which values come out doesn't matter, only that they are such values.
-/
namespace Go.Proofs.YtjbbdggckagphaaDoor
open Go.RowKit

/-- the slice at A holds n bytes, and lies below block B -/
def CIn (w : World) (B : Nat) (A : Option Addr) (n : Nat) : Prop :=
  0 < n → ∃ b off, A = some ⟨b, off, none⟩ ∧ b < B ∧ ∀ i, i < n → ∃ z : Int, w.cell? ⟨b, off + i, none⟩ = some (.int .u8 z) ∧ 0 ≤ z ∧ z ≤ 255
theorem CIn.keep {w w' : World} {B : Nat} {A : Option Addr} {n : Nat} (h : CIn w B A n) (hb : Below B w w') : CIn w' B A n := fun hn => by
  obtain ⟨b, off, e, hlt, hc⟩ := h hn
  refine ⟨b, off, e, hlt, fun i hi => ?_⟩
  obtain ⟨z, h1, h2, h3⟩ := hc i hi
  exact ⟨z, cellB hb hlt h1, h2, h3⟩
theorem CIn.more {w : World} {B B' : Nat} {A : Option Addr} {n : Nat} (h : CIn w B A n) (hB : B ≤ B') : CIn w B' A n := fun hn => by
  obtain ⟨b, off, e, hlt, hc⟩ := h hn
  exact ⟨b, off, e, by omega, hc⟩

/-- a reader lies in block rb -/
def Rd (w : World) (rb : Nat) : Prop := ∃ (A : Option Addr) (n cap p : Nat), n ≤ 1048576 ∧ p ≤ n ∧ w.heap[rb]? = some (.cells #[.slice A n cap, .int .i64 (p : Int)] 61 (0, 0)) ∧ CIn w rb A n
theorem Rd.lt {w : World} {rb : Nat} (h : Rd w rb) : rb < w.heap.size := by obtain ⟨_, _, _, _, _, _, hh, _⟩ := h; exact (Array.getElem?_eq_some_iff.1 hh).1
theorem Rd.keep {w w' : World} {rb : Nat} (h : Rd w rb) (hb : Below (rb + 1) w w') : Rd w' rb := by
  obtain ⟨A, n, cap, p, h1, h2, h3, h4⟩ := h
  exact ⟨A, n, cap, p, h1, h2, by rw [hb.block rb (by omega)]; exact h3, h4.keep (hb.mono (by omega))⟩
theorem Rd.below {w w' : World} {rb : Nat} (h : Rd w rb) (hb : Below w.heap.size w w') : Rd w' rb := h.keep (hb.mono h.lt)
theorem grown_below {w w' : World} {rb : Nat} (h : w.grownBy w' (some rb)) (hlt : rb ≤ w.heap.size) : Below rb w w' :=
  (Below.refl rb w).grown h hlt (fun k hk => by injection hk with hk; omega)
theorem grown_of_below {w w' : World} {rb : Nat} (h : Below w.heap.size w w') : w.grownBy w' (some rb) := Below.toGrown h (some rb)

/-- a number comes out, and the reader has gone on -/
def RdI (rb : Nat) (lo hi : Int) (w : World) (e : Ending) (w' : World) : Prop := ∃ x : Int, lo ≤ x ∧ x ≤ hi ∧ e = .returned (.int .i64 x) ∧ Rd w' rb ∧ w.grownBy w' (some rb)
def RdB (rb : Nat) (w : World) (e : Ending) (w' : World) : Prop := ∃ x : Bool, e = .returned (.bool x) ∧ Rd w' rb ∧ w.grownBy w' (some rb)
/-- the text other -/
abbrev otherS : ByteArray := ⟨#[111, 116, 104, 101, 114]⟩
def RdS (rb most : Nat) (w : World) (e : Ending) (w' : World) : Prop := ∃ s : ByteArray, s.size ≤ most ∧ s ≠ otherS ∧ e = .returned (.string s) ∧ Rd w' rb ∧ w.grownBy w' (some rb)

theorem l1Open_any (A : Option Addr) (n cap : Nat) (w : World) (hn : n ≤ 1048576) (hin : CIn w w.heap.size A n) :
    Calls Tryd.prog 18 #[.slice A n cap] w fun e w' => e = .returned (.pointer (some ⟨w.heap.size, 0, none⟩)) ∧ Rd w' w.heap.size ∧ Below w.heap.size w w' := by
  go_enter Tryd.func18, Tryd.ntmps18
  go_wp2
  go_ret
  exact ⟨rfl, ⟨A, n, cap, 0, hn, Nat.zero_le _, heap_alloc_new w _, hin.keep ((Below.refl _ _).alloc (Nat.le_refl _) _)⟩, (Below.refl _ _).alloc (Nat.le_refl _) _⟩

/-- the reader's place is written -/
theorem rd_step {w : World} {rb n cap p p' b off : Nat} (h : w.heap[rb]? = some (.cells #[.slice (some ⟨b, off, none⟩) n cap, .int .i64 (p : Int)] 61 (0, 0))) (hp : p' ≤ n) (hn : n ≤ 1048576) (hc : CIn w rb (some ⟨b, off, none⟩) n) :
    (w.setCell ⟨rb, 1, none⟩ (.int .i64 (p' : Int))).cell? ⟨rb, 0, none⟩ = some (.slice (some ⟨b, off, none⟩) n cap) ∧ (w.setCell ⟨rb, 1, none⟩ (.int .i64 (p' : Int))).cell? ⟨rb, 1, none⟩ = some (.int .i64 (p' : Int)) ∧
    (∀ c o, c ≠ rb → (w.setCell ⟨rb, 1, none⟩ (.int .i64 (p' : Int))).cell? ⟨c, o, none⟩ = w.cell? ⟨c, o, none⟩) ∧ Rd (w.setCell ⟨rb, 1, none⟩ (.int .i64 (p' : Int))) rb ∧ w.grownBy (w.setCell ⟨rb, 1, none⟩ (.int .i64 (p' : Int))) (some rb) := by
  have hh : (w.setCell ⟨rb, 1, none⟩ (.int .i64 (p' : Int))).heap[rb]? = some (.cells #[.slice (some ⟨b, off, none⟩) n cap, .int .i64 (p' : Int)] 61 (0, 0)) := by
    simp [World.setCell, Array.getElem?_modify, h]
  have ho : ∀ c, c ≠ rb → (w.setCell ⟨rb, 1, none⟩ (.int .i64 (p' : Int))).heap[c]? = w.heap[c]? := fun c hc => Below.heap_setCell w ⟨rb, 1, none⟩ _ c hc
  refine ⟨by rw [cell_of_row _ rb 0 _ _ _ hh]; rfl, by rw [cell_of_row _ rb 1 _ _ _ hh]; rfl, fun c o hne => World.cell?_of_block (ho c hne), ⟨_, n, cap, p', hn, hp, hh, hc.keep ?_⟩, ⟨rfl, rfl, rfl, by simp [World.setCell], fun k _ hk => ho k (fun e => hk (by rw [e]))⟩⟩
  exact (Below.refl rb w).setCell (p := ⟨rb, 1, none⟩) (Nat.le_refl _) _

set_option maxRecDepth 100000 in
set_option maxHeartbeats 1000000 in
theorem next_any (rb : Nat) (w : World) (h : Rd w rb) :
    Calls Tryd.prog 38 #[.pointer (some ⟨rb, 0, none⟩)] w (RdI rb 0 255 w) := by
  have HR := hide h
  obtain ⟨A, n, cap, p, h1, h2, h3, h4⟩ := h
  have c0 : w.cell? ⟨rb, 0, none⟩ = some (.slice A n cap) := by rw [cell_of_row w rb 0 _ _ _ h3]; rfl
  have c1 : w.cell? ⟨rb, 1, none⟩ = some (.int .i64 (p : Int)) := by rw [cell_of_row w rb 1 _ _ _ h3]; rfl
  have f1 : w.frozen? ⟨rb, 1, none⟩ = false := frozen_of_row w rb 1 _ _ h3
  have H3 := hide h3
  clear h3
  by_cases hp : p < n
  · obtain ⟨b, off, rfl, hlt, hc⟩ := h4 (by omega)
    obtain ⟨z, cz, z1, z2⟩ := hc p hp
    have H4 := hide h4
    have hne : b ≠ rb := by omega
    clear hc h4
    have q1 : IntKind.i64.wrap (p : Int) = (p : Int) := IntWalk.i64_in _ (by omega)
    go_enter Tryd.func38, Tryd.ntmps38
    go_wp2
    go_quiet (fail)
    go_wp2
    have hW := rd_step (w := w.drewN nq) (b := b) (off := off) H3.out (p' := p + 1) (by omega) h1 H4.out
    have e0 : ((w.drewN nq).setCell ⟨rb, 1, none⟩ (.int .i64 ((p : Int) + 1))).cell? ⟨rb, 0, none⟩ = some (.slice (some ⟨b, off, none⟩) n cap) := hW.1
    have e1 : ((w.drewN nq).setCell ⟨rb, 1, none⟩ (.int .i64 ((p : Int) + 1))).cell? ⟨rb, 1, none⟩ = some (.int .i64 ((p : Int) + 1)) := hW.2.1
    have ez : ((w.drewN nq).setCell ⟨rb, 1, none⟩ (.int .i64 ((p : Int) + 1))).cell? ⟨b, off + p, none⟩ = some (.int .u8 z) := (hW.2.2.1 b (off + p) hne).trans cz
    have R2 : Hid (Rd ((w.drewN nq).setCell ⟨rb, 1, none⟩ (.int .i64 ((p : Int) + 1))) rb) := hide hW.2.2.2.1
    have G2 : Hid (w.grownBy ((w.drewN nq).setCell ⟨rb, 1, none⟩ (.int .i64 ((p : Int) + 1))) (some rb)) := hide ⟨hW.2.2.2.2.os, hW.2.2.2.2.tape, hW.2.2.2.2.output, hW.2.2.2.2.size, hW.2.2.2.2.block⟩
    clear hW c0 c1 f1 cz
    generalize (w.drewN nq).setCell ⟨rb, 1, none⟩ (.int .i64 ((p : Int) + 1)) = W2 at *
    go_quiet (fail)
    go_wp2
    go_ret
    exact ⟨z, z1, z2, rfl, R2.out.keep ⟨rfl, rfl, rfl, Nat.le_refl _, fun _ _ => rfl⟩, ⟨G2.out.os, G2.out.tape, G2.out.output, G2.out.size, G2.out.block⟩⟩
  · go_enter Tryd.func38, Tryd.ntmps38
    go_wp2
    go_quiet (fail)
    go_wp2
    go_ret
    exact ⟨0, by omega, by omega, rfl, HR.out.keep ⟨rfl, rfl, rfl, Nat.le_refl _, fun _ _ => rfl⟩, ⟨rfl, rfl, rfl, Nat.le_refl _, fun _ _ _ => rfl⟩⟩

set_option maxRecDepth 100000 in
set_option maxHeartbeats 1000000 in
theorem below_any (rb : Nat) (n : Int) (w : World) (h : Rd w rb) (h1 : 1 ≤ n) (h2 : n ≤ 65536) :
    Calls Tryd.prog 21 #[.pointer (some ⟨rb, 0, none⟩), .int .i64 n] w (RdI rb 0 (n - 1) w) := by
  by_cases hn1 : n ≤ 1
  · have HR := hide h
    clear h
    go_enter Tryd.func21, Tryd.ntmps21
    go_wp2
    go_ret
    exact ⟨0, by omega, by omega, rfl, HR.out, World.grownBy.refl _ _⟩
  · by_cases hn2 : n ≤ 256
    · go_enter Tryd.func21, Tryd.ntmps21
      go_wp2_with fail
      refine (next_any rb w h).mono ?_
      rintro e w1 ⟨x, hx0, hx1, rfl, r1, g1⟩
      have R1 := hide r1
      have G1 := hide g1
      clear r1 g1 h
      have hm1 : 0 ≤ x % n := Int.emod_nonneg _ (by omega)
      have hm2 : x % n < n := Int.emod_lt_of_pos _ (by omega)
      go_wp2
      go_ret
      exact ⟨x % n, hm1, by omega, rfl, R1.out, G1.out⟩
    · go_enter Tryd.func21, Tryd.ntmps21
      go_wp2_with fail
      refine (next_any rb w h).mono ?_
      rintro e w1 ⟨x, hx0, hx1, rfl, r1, g1⟩
      have G1 := hide g1
      clear g1 h
      go_wp2_with fail
      refine (next_any rb w1 r1).mono ?_
      rintro e w2 ⟨y, hy0, hy1, rfl, r2, g2⟩
      have R2 := hide r2
      have G2 := hide (World.grownBy.trans G1.out g2)
      clear r1 r2 g2
      have hm1 : 0 ≤ (x * 256 + y) % n := Int.emod_nonneg _ (by omega)
      have hm2 : (x * 256 + y) % n < n := Int.emod_lt_of_pos _ (by omega)
      go_wp2
      go_ret
      exact ⟨(x * 256 + y) % n, hm1, by omega, rfl, R2.out, G2.out⟩

set_option maxRecDepth 100000 in
set_option maxHeartbeats 1000000 in
theorem once_any (rb : Nat) (n : Int) (w : World) (h : Rd w rb) (h1 : 1 ≤ n) (h2 : n ≤ 65536) :
    Calls Tryd.prog 24 #[.pointer (some ⟨rb, 0, none⟩), .int .i64 n] w (RdB rb w) := by
  go_enter Tryd.func24, Tryd.ntmps24
  go_wp2_with fail
  refine (below_any rb n w h h1 h2).mono ?_
  rintro e w1 ⟨x, hx0, hx1, rfl, r1, g1⟩
  have R1 := hide r1
  have G1 := hide g1
  clear r1 g1 h
  go_wp2
  go_ret
  exact ⟨_, rfl, R1.out, G1.out⟩

theorem big_any (A : Option Addr) (n cap : Nat) (w : World) (hn : n ≤ maxLen) :
    Calls Tryd.prog 4 #[.slice A n cap] w fun e w' => e = .returned (.bool (decide (1048576 < n))) ∧ w = w' := by
  unfold maxLen at hn
  by_cases h : 1048576 < n
  · have d : decide ((1048576 : Int) < (n : Int)) = true := decide_eq_true (by omega)
    go_enter Tryd.func4, Tryd.ntmps4
    go_wp2
    go_ret
    exact ⟨ret_bool (decide_eq_true h).symm, rfl⟩
  · have d : decide ((1048576 : Int) < (n : Int)) = false := decide_eq_false (by omega)
    go_enter Tryd.func4, Tryd.ntmps4
    go_wp2
    go_ret
    exact ⟨ret_bool (decide_eq_false h).symm, rfl⟩
end Go.Proofs.YtjbbdggckagphaaDoor
/-
  A law's code, opened: bytes that are read.
-/
namespace Go.Proofs.YtjbbdggckagphaaDoor
open Go.ChangeShapes Go.WideShapes Go.ChangeAt Go.RowKit

section
variable {H : Type} {enc : TypeId × Value → H} {W : World}
theorem open_code {A : Option Addr} {n cap : Nat} {d : DataW H} {p : List MemPlace} (h : DataW.Trod enc Tryd.prog W 0 (fun _ => true) true 22 (.slice A n cap) d p) :
    ∃ m : Nat, n = m ∧ m ≤ maxLen ∧ CIn W W.heap.size A m := by
  obtain ⟨fuel, hf⟩ := h
  rcases open_ints Tryd.underlying22 Tryd.underlying5 (by kernel_rfl) hf with ⟨hcs, _⟩ | ⟨x, l, c, zs, hcs, _, hl, hm, hz, _, hcell, hwz⟩
  · simp [Value.cells] at hcs
    obtain ⟨rfl, rfl, rfl⟩ := hcs
    exact ⟨0, rfl, by simp [maxLen], fun h => absurd h (by omega)⟩
  · simp [Value.cells] at hcs
    obtain ⟨rfl, rfl, rfl⟩ := hcs
    have hz' : zs.length = cap := by simpa using hz
    refine ⟨n, rfl, by omega, fun hn => ?_⟩
    obtain ⟨b, off, spot⟩ := x
    have hc0 := hcell 0 (by omega)
    have hspot : spot = none := by simpa [Addr.add] using World.cell?_spot hc0
    subst hspot
    refine ⟨b, off, rfl, ?_, fun i hi => ?_⟩
    · have := World.block_lt_of_cell? W _ hc0
      simpa [Addr.add] using this
    · have hc := hcell i (by omega)
      rw [add_plain] at hc
      have hw : (Lit.int .u8 (zs.getD i 0)).wf = true := hwz _ (by
        rw [List.getD_eq_getElem?_getD, List.getElem?_eq_getElem (by omega)]
        exact List.getElem_mem _)
      have hx : 0 ≤ zs.getD i 0 ∧ zs.getD i 0 ≤ 255 := by simpa [Lit.wf, IntKind.min, IntKind.max, IntKind.signed, IntKind.bits] using hw
      exact ⟨zs.getD i 0, hc, hx.1, hx.2⟩
end
end Go.Proofs.YtjbbdggckagphaaDoor
/-
  What hurt makes of a text (loosely: that it is a text, and short).
-/
namespace Go.Proofs.YtjbbdggckagphaaDoor
open Go.RowKit

def RdT (rb most : Nat) (w : World) (e : Ending) (w' : World) : Prop := ∃ s : ByteArray, s.size ≤ most ∧ e = .returned (.string s) ∧ Rd w' rb ∧ w.grownBy w' (some rb)

theorem four_cell (w : World) (k : Nat) (hk : k < 4) (b : Nat) (hb : w.heap[b]? = some (.cells #[.string ⟨#[0]⟩, .string ⟨#[55]⟩, .string ⟨#[255]⟩, .string ⟨#[32]⟩] 9 (0, 0))) : ∃ a : ByteArray, a.size ≤ 1 ∧ w.cell? ⟨b, k, none⟩ = some (.string a) := by
  rw [cell_of_row w b k _ _ _ hb]
  match k, hk with
  | 0, _ => exact ⟨_, by decide, rfl⟩
  | 1, _ => exact ⟨_, by decide, rfl⟩
  | 2, _ => exact ⟨_, by decide, rfl⟩
  | 3, _ => exact ⟨_, by decide, rfl⟩

set_option maxRecDepth 100000 in
set_option maxHeartbeats 2000000 in
theorem hurt_any (rb : Nat) (s : ByteArray) (w : World) (h : Rd w rb) (hs : s.size ≤ 1000) :
    Calls Tryd.prog 23 #[.pointer (some ⟨rb, 0, none⟩), .string s] w (RdT rb 1001 w) := by
  go_enter Tryd.func23, Tryd.ntmps23
  go_wp2_with fail
  refine (below_any rb 6 w h (by omega) (by omega)).mono ?_
  rintro e w1 ⟨x, hx0, hx1, rfl, r1, g1⟩
  have R1 := hide r1
  have G1 := hide g1
  clear r1 g1 h
  by_cases hx : x = 1
  · subst hx
    go_wp2_with fail
    refine (below_any rb ((s.size : Int) + 1) w1 R1.out (by omega) (by omega)).mono ?_
    rintro e w2 ⟨y, hy0, hy1, rfl, r2, g2⟩
    have R2 := hide r2
    have G2 := hide (World.grownBy.trans G1.out g2)
    clear r2 g2 R1 G1
    obtain ⟨k, rfl⟩ := Int.eq_ofNat_of_zero_le hy0
    have hk : k ≤ s.size := by omega
    go_wp2
    go_ret
    exact ⟨_, by rw [ByteArray.size_extract]; omega, rfl, R2.out, G2.out⟩
  by_cases hx2 : x = 2
  · subst hx2
    clear hx
    by_cases hs0 : 0 < s.size
    · go_wp2_with fail
      refine (below_any rb (s.size : Int) w1 R1.out (by omega) (by omega)).mono ?_
      rintro e w2 ⟨y, hy0, hy1, rfl, r2, g2⟩
      have R2 := hide r2
      have hlt := r2.lt
      have G2 := hide (World.grownBy.trans G1.out g2)
      clear r2 g2 R1 G1
      obtain ⟨k, rfl⟩ := Int.eq_ofNat_of_zero_le hy0
      have hk : k < s.size := by omega
      go_wp2_with fail
      have c1 : (0 : Int) ≤ (k : Int) := by omega
      have c2 : (k : Int) ≤ (s.size : Int) := by omega
      have c3 : (0 : Int) ≤ (k : Int) + 1 := by omega
      have c4 : (k : Int) + 1 ≤ (s.size : Int) := by omega
      have cw : IntKind.i64.wrap ((k : Int) + 1) = (k : Int) + 1 := IntWalk.i64_in _ (by omega)
      have z1 : (s.extract 0 k).size = k := by rw [ByteArray.size_extract]; omega
      have z2 : (s.extract (k + 1) s.size).size = s.size - (k + 1) := by rw [ByteArray.size_extract]; omega
      have Rb : Hid (Rd (w2.alloc (.cells #[.string ⟨#[0]⟩, .string ⟨#[55]⟩, .string ⟨#[255]⟩, .string ⟨#[32]⟩] 9)).drew rb) := hide (R2.out.below (((Below.refl _ w2).alloc (Nat.le_refl _) (.cells #[.string ⟨#[0]⟩, .string ⟨#[55]⟩, .string ⟨#[255]⟩, .string ⟨#[32]⟩] 9)).drew))
      have Ha : Hid ((w2.alloc (.cells #[.string ⟨#[0]⟩, .string ⟨#[55]⟩, .string ⟨#[255]⟩, .string ⟨#[32]⟩] 9)).drew.heap[w2.heap.size]? = some (.cells #[.string ⟨#[0]⟩, .string ⟨#[55]⟩, .string ⟨#[255]⟩, .string ⟨#[32]⟩] 9 (0, 0))) := hide (heap_alloc_new w2 (.cells #[.string ⟨#[0]⟩, .string ⟨#[55]⟩, .string ⟨#[255]⟩, .string ⟨#[32]⟩] 9))
      have Ga : Hid (w.grownBy (w2.alloc (.cells #[.string ⟨#[0]⟩, .string ⟨#[55]⟩, .string ⟨#[255]⟩, .string ⟨#[32]⟩] 9)).drew (some rb)) := hide (World.grownBy.trans G2.out (grown_of_below (((Below.refl _ w2).alloc (Nat.le_refl _) _).drew)))
      have hsz3 : (w2.alloc (.cells #[.string ⟨#[0]⟩, .string ⟨#[55]⟩, .string ⟨#[255]⟩, .string ⟨#[32]⟩] 9)).drew.heap.size = w2.heap.size + 1 := by simp
      have HS3 := hide hsz3
      clear hsz3
      have A4 : Hid (Calls Tryd.prog 21 #[.pointer (some ⟨rb, 0, none⟩), .int .i64 4] (w2.alloc (.cells #[.string ⟨#[0]⟩, .string ⟨#[55]⟩, .string ⟨#[255]⟩, .string ⟨#[32]⟩] 9)).drew fun e w' => ∃ (k2 : Nat) (a : ByteArray), k2 < 4 ∧ a.size ≤ 1 ∧ e = .returned (.int .i64 k2) ∧ w'.cell? ⟨w2.heap.size, k2, none⟩ = some (.string a) ∧ Hid (Rd w' rb) ∧ Hid (w.grownBy w' (some rb))) := hide ((below_any rb 4 _ Rb.out (by omega) (by omega)).mono (by
        rintro e w3 ⟨y, hy0', hy1', rfl, r3, g3⟩
        have hb3 := g3.block w2.heap.size (by rw [HS3.out]; omega) (by simp; omega)
        rw [Ha.out] at hb3
        obtain ⟨k2, rfl⟩ := Int.eq_ofNat_of_zero_le hy0'
        obtain ⟨a, ha, hc⟩ := four_cell w3 k2 (by omega) w2.heap.size hb3
        exact ⟨k2, a, by omega, ha, rfl, hc, r3, World.grownBy.trans Ga.out g3⟩))
      have A5 : Hid (Calls Tryd.prog 21 #[.pointer (some ⟨rb, 0, none⟩), .int .i64 4] w2.drew fun e w' => ∃ (k2 : Nat) (a : ByteArray), k2 < 4 ∧ a.size ≤ 1 ∧ e = .returned (.int .i64 k2) ∧ (w'.alloc (.cells #[.string ⟨#[0]⟩, .string ⟨#[55]⟩, .string ⟨#[255]⟩, .string ⟨#[32]⟩] 9)).cell? ⟨w'.heap.size, k2, none⟩ = some (.string a) ∧ Hid (Rd (w'.alloc (.cells #[.string ⟨#[0]⟩, .string ⟨#[55]⟩, .string ⟨#[255]⟩, .string ⟨#[32]⟩] 9)) rb) ∧ Hid (w.grownBy (w'.alloc (.cells #[.string ⟨#[0]⟩, .string ⟨#[55]⟩, .string ⟨#[255]⟩, .string ⟨#[32]⟩] 9)) (some rb))) := hide ((below_any rb 4 w2.drew R2.out (by omega) (by omega)).mono (by
        rintro e w3 ⟨y, hy0', hy1', rfl, r3, g3⟩
        obtain ⟨k2, rfl⟩ := Int.eq_ofNat_of_zero_le hy0'
        obtain ⟨a, ha, hc⟩ := four_cell (w3.alloc (.cells #[.string ⟨#[0]⟩, .string ⟨#[55]⟩, .string ⟨#[255]⟩, .string ⟨#[32]⟩] 9)) k2 (by omega) w3.heap.size (heap_alloc_new w3 (.cells #[.string ⟨#[0]⟩, .string ⟨#[55]⟩, .string ⟨#[255]⟩, .string ⟨#[32]⟩] 9))
        exact ⟨k2, a, by omega, ha, rfl, hc, r3.below ((Below.refl _ w3).alloc (Nat.le_refl _) _), World.grownBy.trans (World.grownBy.trans G2.out (World.grownBy.trans (grown_of_below ((Below.refl _ w2).drew)) g3)) (World.grownBy_alloc w3 _ _)⟩))
      clear R2 G2 Rb Ha Ga HS3
      go_region_with (first
        | (go_at_call 21; refine A4.out.mono ?_; rintro e w3 ⟨k2, a, hk2, ha, rfl, hc, R3, G3⟩; have zB : ¬ (9223372036854775807 < (s.extract 0 k).size + a.size) := (by omega); have zC : ¬ (9223372036854775807 < (s.extract 0 k).size + a.size + (s.extract (k + 1) s.size).size) := (by omega))
        | (go_at_call 21; refine A5.out.mono ?_; rintro e w3 ⟨k2, a, hk2, ha, rfl, hc, R3, G3⟩; have zB : ¬ (9223372036854775807 < (s.extract 0 k).size + a.size) := (by omega); have zC : ¬ (9223372036854775807 < (s.extract 0 k).size + a.size + (s.extract (k + 1) s.size).size) := (by omega)))
      all_goals
       go_wp2
       go_ret
       exact ⟨_, by rw [ByteArray.size_append, ByteArray.size_append, z1, z2]; omega, rfl, R3.out, G3.out⟩
    · go_wp2
      go_ret
      exact ⟨s, by omega, rfl, R1.out, G1.out⟩
  by_cases hx3 : x = 3
  · subst hx3
    clear hx hx2
    have R2 := hide (R1.out.below ((Below.refl _ w1).alloc (Nat.le_refl _) (.cells #[.string ⟨#[0]⟩, .string ⟨#[49]⟩, .string ⟨#[10]⟩, .string ⟨#[32]⟩] 9)))
    have HH := hide (heap_alloc_new w1 (.cells #[.string ⟨#[0]⟩, .string ⟨#[49]⟩, .string ⟨#[10]⟩, .string ⟨#[32]⟩] 9))
    have hlt := R1.out.lt
    go_wp2_with fail
    refine (below_any rb 4 _ R2.out (by omega) (by omega)).mono ?_
    rintro e w2 ⟨y, hy0, hy1, rfl, r2, g2⟩
    have R3 := hide r2
    have hb2 := g2.block w1.heap.size (by simp) (by simp; omega)
    rw [HH.out] at hb2
    have G2 := hide (World.grownBy.trans (World.grownBy.trans G1.out (World.grownBy_alloc w1 _ _)) g2)
    obtain ⟨k, rfl⟩ := Int.eq_ofNat_of_zero_le hy0
    have hk : k < 4 := by omega
    obtain ⟨a, ha, hc⟩ : ∃ a : ByteArray, a.size ≤ 1 ∧ w2.cell? ⟨w1.heap.size, k, none⟩ = some (.string a) := by
      rw [cell_of_row w2 w1.heap.size k _ _ _ hb2]
      match k, hk with
      | 0, _ => exact ⟨_, by decide, rfl⟩
      | 1, _ => exact ⟨_, by decide, rfl⟩
      | 2, _ => exact ⟨_, by decide, rfl⟩
      | 3, _ => exact ⟨_, by decide, rfl⟩
    clear r2 g2 hb2 R2 R1 HH G1
    have zB : ¬ (9223372036854775807 < s.size + a.size) := by omega
    go_wp2
    go_ret
    exact ⟨s ++ a, by rw [ByteArray.size_append]; omega, rfl, R3.out, G2.out⟩
  · have d1 : (x == 1) = false := by rw [beq_eq_false_iff_ne]; exact hx
    have d2 : (x == 2) = false := by rw [beq_eq_false_iff_ne]; exact hx2
    have d3 : (x == 3) = false := by rw [beq_eq_false_iff_ne]; exact hx3
    go_wp2
    go_ret
    exact ⟨s, by omega, rfl, R1.out, G1.out⟩

end Go.Proofs.YtjbbdggckagphaaDoor
/-
  A region that draws its order, whose operations read and whose callees only make memory of their own: walked once. The class of worlds: those that are as w was below block B.
-/
namespace Go.Proofs.YtjbbdggckagphaaDoor
open Go.RowKit

/-- the worlds that are as w was below block B -/
def Cls (B : Nat) (w : World) : Type := { x : World // Below B w x }
def Cls.wo {B : Nat} {w : World} (u : Cls B w) : World := u.val
theorem Cls.below {B : Nat} {w : World} (u : Cls B w) : Below B w u.wo := u.property
def Cls.mk' {B : Nat} {w : World} (x : World) (h : Below B w x) : Cls B w := ⟨x, h⟩
instance clsNonempty {B : Nat} {w : World} : Nonempty (Cls B w) := ⟨Cls.mk' w (Below.refl B w)⟩
theorem wp_region_cls {P : Program} {id : Nat} {Q : Exit → Act → World → Prop} {a : Act} {w : World} {l : List Oper} (hm : P.follows .mixedOrders = true) (hB : Region.lexB .any l.toArray = true) (B : Nat)
    (h : wpQuiet P l.toArray (fun w' => ∃ u : Cls B w, w' = u.wo) (fun a' => ∀ w', (∃ u : Cls B w, w' = u.wo) → Q .normal a' w') l a) : (Code.region id l.toArray true).wp P Q a w :=
  wp_region_quiet (C := fun w' => ∃ u : Cls B w, w' = u.wo) hm hB ⟨Cls.mk' w.drew (Below.refl B w).drew, rfl⟩ (by simpa using h)
theorem cls_cell {B : Nat} {w : World} {p : Addr} {v : Value} (hp : p.block < B) (h : w.cell? p = some v) : ∀ u : Cls B w, u.wo.cell? p = some v := fun u => (u.below.cell hp).trans h
theorem cls_call {P : Program} {f : FuncId} {args : Array Value} {B : Nat} {w : World} {v : Value} {u : Cls B w} (hB : B ≤ w.heap.size) (h : Calls P f args u.wo fun e w' => e = .returned v ∧ Below u.wo.heap.size u.wo w') :
    Calls P f args u.wo fun e w'' => e = .returned v ∧ ∃ u' : Cls B w, w'' = u'.wo :=
  h.mono fun _ w' ⟨he, hb⟩ => ⟨he, Cls.mk' w' (u.below.trans (hb.mono (Nat.le_trans hB u.below.size))), rfl⟩
end Go.Proofs.YtjbbdggckagphaaDoor
/-
  What spec.l1Put answers (loosely: a row of the call's own, of texts that were there and the new one).
-/
namespace Go.Proofs.YtjbbdggckagphaaDoor
open Go.RowKit

def PutRet (B : Nat) (l : List ByteArray) (s : ByteArray) (w : World) (e : Ending) (w' : World) : Prop := ∃ A cap l2, l2.length ≤ l.length + 1 ∧ (∀ t ∈ l2, t ∈ l ∨ t = s) ∧ e = .returned (.slice A l2.length cap) ∧ ZOwn w' B A cap l2 ∧ Below w.heap.size w w'
set_option maxRecDepth 100000 in
set_option maxHeartbeats 2000000 in
theorem l1Put_any (A : Option Addr) (l : List ByteArray) (cap : Nat) (s : ByteArray) (w : World) (B : Nat) (hl : l.length ≤ 1000) (hown : ZOwn w B A cap l) (hB : B ≤ w.heap.size) :
    Calls Tryd.prog 22 #[.slice A l.length cap, .string s] w (PutRet B l s w) := by
  have O := hide hown
  have IN := hide hown.zin
  have hcap := hown.cap_le
  clear hown
  generalize hn : l.length = n at *
  have HN := hide hn
  clear hn
  go_enter Tryd.func22, Tryd.ntmps22
  go_wp2
  go_loop [5] (fun i => ∃ k : Nat, k ≤ n ∧ i = .int .i64 k) (fun i => n - (intOf i).toNat)
  case atStart => exact ⟨0, Nat.zero_le _, rfl⟩
  case round =>
    obtain ⟨k, hk, rfl⟩ := hrel
    have LAST : ∀ (A' : Option Addr), A = A' → True := fun _ _ => trivial
    by_cases hlt : k < n
    · have hkl : k < l.length := by rw [HN.out]; omega
      obtain ⟨b, off, rfl, hbB, hc⟩ := IN.out (by omega)
      have c1 := hc k hkl
      have hki : (k : Int) < (n : Int) := by omega
      have MM : Hid (l[k]'hkl ∈ l) := hide (List.getElem_mem hkl)
      have K1 := run_cutZ_h 24 Tryd.underlying24 (some ⟨b, off, none⟩) n cap k (by omega)
      have K2 := run_cutZ_l 24 Tryd.underlying24 (some ⟨b, off, none⟩) n cap k (by omega)
      have IN1 := hide (IN.out.take cap k)
      have IN2 := hide (IN.out.drop (cap := cap) (by rw [HN.out]; exact hcap) k)
      have E1 := hide (show (l.take k).length = k by rw [List.length_take]; omega)
      have E2 := hide (show (l.drop k).length = n - k by rw [List.length_drop, HN.out])
      have E3 : Hid ((([] ++ l.take k) ++ [s]) ++ l.drop k = l.take k ++ s :: l.drop k) := hide (by simp)
      clear hc LAST
      generalize l[k]'hkl = x at *
      cases hs : Op.bytesLess x.toList s.toList
      · by_cases he : x = s
        · have e1 := eqS_yes he
          clear he
          go_wp2
          go_ret
          exact ⟨_, cap, l, by rw [HN.out]; omega, fun t ht => .inl ht, by rw [HN.out]; rfl, O.out, Below.refl _ _⟩
        · have e1 := eqS_no he
          have O1 := hide (ZOwn.built w w.heap.size (Nat.le_refl _))
          have B2 := hide ((Below.refl w.heap.size w).alloc (Nat.le_refl _) (.cells #[] 9))
          clear he
          go_wp2_with (first
            | (at_builtin; refine wpList_appZ 24 Tryd.underlying24 rfl (.tmp 34) (.tmp 37) rfl rfl rfl rfl E1.out.symm O1.out (IN1.out.below B2.out) B2.out.size (by rw [E1.out]; simp; omega) ?_; intro A3 cap3 w3 own3 g3 r3; have B3 := hide (B2.out.trans (O1.out.grownBelow g3 B2.out.size)); have O3 := hide own3; clear own3 g3 r3)
            | (at_builtin; refine wpList_appZ (l' := [s]) 24 Tryd.underlying24 rfl (.tmp 39) (.tmp 41) rfl rfl rfl (by simp) rfl (O3.out.alloc _) (ZIn.one s _ rfl) (Nat.le_trans B3.out.size (by simp)) (by rw [List.length_append, E1.out]; simp; omega) ?_; intro A4 cap4 w4 own4 g4 r4; have b4 := (O3.out.alloc (.cells #[Value.string s] 9)).grownBelow g4 (Nat.le_trans B3.out.size (by simp)); have b4' := ((Below.refl w.heap.size w3).alloc B3.out.size (.cells #[Value.string s] 9)).trans b4; have B4 := hide (B3.out.trans b4'); have O4 := hide own4; clear own4 g4 r4 b4 b4')
            | (at_builtin; refine wpList_appZ 24 Tryd.underlying24 rfl (.tmp 43) (.tmp 46) rfl rfl rfl (by simp) E2.out.symm O4.out (IN2.out.below B4.out) B4.out.size (by rw [List.length_append, List.length_append, E1.out, E2.out]; simp; omega) ?_; intro A5 cap5 w5 own5 g5 r5; have b5 := O4.out.grownBelow g5 B4.out.size; have B5 := hide (B4.out.trans b5); have O5 := hide own5; clear own5 g5 r5 b5))
          go_ret
          have O6 := O5.out
          rw [E3.out] at O6
          refine ⟨A5, cap5, l.take k ++ s :: l.drop k, ?_, ?_, by rw [← E3.out]; simp, O6.more hB, B5.out⟩
          · rw [List.length_append, List.length_cons, E1.out, E2.out, HN.out]; omega
          · intro t ht
            rw [List.mem_append, List.mem_cons] at ht
            rcases ht with h | h | h
            · exact .inl (List.mem_of_mem_take h)
            · exact .inr h
            · exact .inl (List.mem_of_mem_drop h)
      · clear IN1 IN2 K1 K2
        go_wp2
        go_round
        case rel => exact ⟨k + 1, by omega, by go_num⟩
        case measure => simp [intOf]; omega
    · obtain rfl : k = n := by omega
      have hkk : ¬ (k : Int) < (k : Int) := by omega
      have K1 := run_cutZ_h 24 Tryd.underlying24 A k cap k (by omega)
      have K2 := run_cutZ_l 24 Tryd.underlying24 A k cap k (by omega)
      have IN1 := hide (IN.out.take cap k)
      have IN2 := hide (IN.out.drop (cap := cap) (by rw [HN.out]; exact hcap) k)
      have E1 := hide (show (l.take k).length = k by rw [List.length_take]; rw [HN.out]; omega)
      have E2 := hide (show (l.drop k).length = k - k by rw [List.length_drop, HN.out])
      have E3 : Hid ((([] ++ l.take k) ++ [s]) ++ l.drop k = l.take k ++ s :: l.drop k) := hide (by simp)
      have O1 := hide (ZOwn.built w w.heap.size (Nat.le_refl _))
      have B2 := hide ((Below.refl w.heap.size w).alloc (Nat.le_refl _) (.cells #[] 9))
      clear hlt LAST
      go_wp2_with (first
        | (at_builtin; refine wpList_appZ 24 Tryd.underlying24 rfl (.tmp 34) (.tmp 37) rfl rfl rfl rfl E1.out.symm O1.out (IN1.out.below B2.out) B2.out.size (by rw [E1.out]; simp; omega) ?_; intro A3 cap3 w3 own3 g3 r3; have B3 := hide (B2.out.trans (O1.out.grownBelow g3 B2.out.size)); have O3 := hide own3; clear own3 g3 r3)
        | (at_builtin; refine wpList_appZ (l' := [s]) 24 Tryd.underlying24 rfl (.tmp 39) (.tmp 41) rfl rfl rfl (by simp) rfl (O3.out.alloc _) (ZIn.one s _ rfl) (Nat.le_trans B3.out.size (by simp)) (by rw [List.length_append, E1.out]; simp; omega) ?_; intro A4 cap4 w4 own4 g4 r4; have b4 := (O3.out.alloc (.cells #[Value.string s] 9)).grownBelow g4 (Nat.le_trans B3.out.size (by simp)); have b4' := ((Below.refl w.heap.size w3).alloc B3.out.size (.cells #[Value.string s] 9)).trans b4; have B4 := hide (B3.out.trans b4'); have O4 := hide own4; clear own4 g4 r4 b4 b4')
        | (at_builtin; refine wpList_appZ 24 Tryd.underlying24 rfl (.tmp 43) (.tmp 46) rfl rfl rfl (by simp) (by rw [E2.out]; simp) O4.out (IN2.out.below B4.out) B4.out.size (by rw [List.length_append, List.length_append, E1.out, E2.out]; simp; omega) ?_; intro A5 cap5 w5 own5 g5 r5; have b5 := O4.out.grownBelow g5 B4.out.size; have B5 := hide (B4.out.trans b5); have O5 := hide own5; clear own5 g5 r5 b5))
      go_ret
      have O6 := O5.out
      rw [E3.out] at O6
      refine ⟨A5, cap5, l.take k ++ s :: l.drop k, ?_, ?_, by rw [← E3.out]; simp, O6.more hB, B5.out⟩
      · rw [List.length_append, List.length_cons, E1.out, E2.out, HN.out]; omega
      · intro t ht
        rw [List.mem_append, List.mem_cons] at ht
        rcases ht with h | h | h
        · exact .inl (List.mem_of_mem_take h)
        · exact .inr h
        · exact .inl (List.mem_of_mem_drop h)
end Go.Proofs.YtjbbdggckagphaaDoor
/-
  A drawn value.
-/
namespace Go.Proofs.YtjbbdggckagphaaDoor
open Go.RowKit

set_option maxRecDepth 100000 in
set_option maxHeartbeats 1000000 in
theorem val_any (rb : Nat) (w : World) (h : Rd w rb) :
    Calls Tryd.prog 20 #[.pointer (some ⟨rb, 0, none⟩)] w (RdS rb 12 w) := by
  have r1b := fun o => h.below ((Below.refl _ w).alloc (Nat.le_refl _) o)
  have hlt := h.lt
  have RB := hide r1b
  clear r1b h
  go_enter Tryd.func20, Tryd.ntmps20
  go_wp2_with fail
  refine (below_any rb 6 _ (RB.out _) (by omega) (by omega)).mono ?_
  rintro e w2 ⟨y, hy0, hy1, rfl, r2, g2⟩
  have R2 := hide r2
  have hb2 := (g2.block w.heap.size (by simp) (by simp; omega)).trans (heap_alloc_new w _)
  have G2 := hide (World.grownBy.trans (World.grownBy_alloc w _ _) g2)
  obtain ⟨k, rfl⟩ := Int.eq_ofNat_of_zero_le hy0
  have hk : k < 6 := by omega
  obtain ⟨s, hs, ho, hc⟩ : ∃ s : ByteArray, s.size ≤ 12 ∧ s ≠ otherS ∧ w2.cell? ⟨w.heap.size, k, none⟩ = some (.string s) := by
    rw [cell_of_row w2 w.heap.size k _ _ _ hb2]
    match k, hk with
    | 0, _ => exact ⟨_, by decide, by decide, rfl⟩
    | 1, _ => exact ⟨_, by decide, by decide, rfl⟩
    | 2, _ => exact ⟨_, by decide, by decide, rfl⟩
    | 3, _ => exact ⟨_, by decide, by decide, rfl⟩
    | 4, _ => exact ⟨_, by decide, by decide, rfl⟩
    | 5, _ => exact ⟨_, by decide, by decide, rfl⟩
  have HO := hide ho
  clear r2 g2 hb2 RB ho
  go_wp2
  go_ret
  exact ⟨s, hs, HO.out, rfl, R2.out, G2.out⟩
end Go.Proofs.YtjbbdggckagphaaDoor
/-
  What a drawn commit leans on, on a seat without refs.
-/
namespace Go.Proofs.YtjbbdggckagphaaDoor
open Go.RowKit

theorem idT_short (s : ByteArray) : (idT s).size ≤ 16 := by
  by_cases h : s.size ≤ 2000
  · rw [idT_in h, idL_size]; exact Nat.le_refl _
  · rw [idT_out h]; simp
theorem box_set {w : World} {g : Nat} {cs : Array Value} {t : TypeId} (h : w.heap[g]? = some (.cells cs t (0, 0))) (j : Nat) (u : Value) : (w.setCell ⟨g, j, none⟩ u).heap[g]? = some (.cells (cs.setIfInBounds j u) t (0, 0)) := by
  have hlt := (Array.getElem?_eq_some_iff.1 h).1
  have h' : w.heap[g] = .cells cs t (0, 0) := by simpa [Array.getElem?_eq_getElem hlt] using h
  show (w.heap.modify g _)[g]? = _
  rw [Array.getElem?_eq_getElem (by simpa using hlt), Array.getElem_modify_self, h']
  rfl
theorem grown_on {w w2 w3 : World} {rb : Nat} (h : w.grownBy w2 (some rb)) (hb : Below w.heap.size w2 w3) : w.grownBy w3 (some rb) :=
  ⟨hb.os.trans h.os, hb.tape.trans h.tape, hb.output.trans h.output, Nat.le_trans h.size hb.size, fun i hi hn => (hb.block i hi).trans (h.block i hi hn)⟩
end Go.Proofs.YtjbbdggckagphaaDoor
/-
  What is drawn for the laws over commits (loosely: that it is such).
-/
namespace Go.Proofs.YtjbbdggckagphaaDoor
open Go.RowKit

/-- a block that holds a commit -/
def CB (w : World) (g : Nat) (t : ByteArray) (A : Option Addr) (n cap : Nat) (m : ByteArray) : Prop := w.heap[g]? = some (.cells #[.string t, .slice A n cap, .string m] 26 (0, 0))
theorem CB.c0 {w : World} {g : Nat} {t m : ByteArray} {A : Option Addr} {n cap : Nat} (h : CB w g t A n cap m) : w.cell? ⟨g, 0, none⟩ = some (.string t) := cell_of_row _ g 0 _ _ (0, 0) h
theorem CB.c1 {w : World} {g : Nat} {t m : ByteArray} {A : Option Addr} {n cap : Nat} (h : CB w g t A n cap m) : w.cell? ⟨g, 1, none⟩ = some (.slice A n cap) := cell_of_row _ g 1 _ _ (0, 0) h
theorem CB.c2 {w : World} {g : Nat} {t m : ByteArray} {A : Option Addr} {n cap : Nat} (h : CB w g t A n cap m) : w.cell? ⟨g, 2, none⟩ = some (.string m) := cell_of_row _ g 2 _ _ (0, 0) h
theorem CB.frozen {w : World} {g : Nat} {t m : ByteArray} {A : Option Addr} {n cap : Nat} (h : CB w g t A n cap m) (j : Nat) : w.frozen? ⟨g, j, none⟩ = false := by simp [World.frozen?, show w.heap[g]? = _ from h]
theorem CB.lt {w : World} {g : Nat} {t m : ByteArray} {A : Option Addr} {n cap : Nat} (h : CB w g t A n cap m) : g < w.heap.size := (Array.getElem?_eq_some_iff.1 h).1
theorem CB.below {w w' : World} {g B : Nat} {t m : ByteArray} {A : Option Addr} {n cap : Nat} (h : CB w g t A n cap m) (hb : Below B w w') (hg : g < B) : CB w' g t A n cap m := (hb.block _ hg).trans h
theorem CB.all {w w' : World} {g : Nat} {t m : ByteArray} {A : Option Addr} {n cap : Nat} (h : CB w g t A n cap m) (hb : Below w.heap.size w w') : CB w' g t A n cap m := h.below hb h.lt
theorem CB.grown {w w' : World} {g rb : Nat} {t m : ByteArray} {A : Option Addr} {n cap : Nat} (h : CB w g t A n cap m) (hg : w.grownBy w' (some rb)) (hne : g ≠ rb) : CB w' g t A n cap m := (hg.block g h.lt (fun x => hne (by injection x))).trans h
theorem CB.s0 {w : World} {g : Nat} {t m : ByteArray} {A : Option Addr} {n cap : Nat} (h : CB w g t A n cap m) (t' : ByteArray) : CB (w.setCell ⟨g, 0, none⟩ (.string t')) g t' A n cap m := box_set h 0 _
theorem CB.s1 {w : World} {g : Nat} {t m : ByteArray} {A : Option Addr} {n cap : Nat} (h : CB w g t A n cap m) (A' : Option Addr) (n' cap' : Nat) : CB (w.setCell ⟨g, 1, none⟩ (.slice A' n' cap')) g t A' n' cap' m := box_set h 1 _
theorem CB.s2 {w : World} {g : Nat} {t m : ByteArray} {A : Option Addr} {n cap : Nat} (h : CB w g t A n cap m) (m' : ByteArray) : CB (w.setCell ⟨g, 2, none⟩ (.string m')) g t A n cap m' := box_set h 2 _
theorem CB.other {w : World} {g : Nat} {t m : ByteArray} {A : Option Addr} {n cap : Nat} (h : CB w g t A n cap m) (a : Addr) (u : Value) (hne : g ≠ a.block) : CB (w.setCell a u) g t A n cap m := (Below.heap_setCell w a u g hne).trans h
theorem CB.new (w : World) (t m : ByteArray) (A : Option Addr) (n cap : Nat) {s : Nat} (hs : w.heap.size = s) : CB (w.alloc (.cells #[.string t, .slice A n cap, .string m] 26)) s t A n cap m := by subst hs; exact heap_alloc_new w _
theorem ZOwn.rd {w w' : World} {rb B : Nat} {A : Option Addr} {cap : Nat} {l : List ByteArray} (h : ZOwn w B A cap l) (hB : rb < B) (hg : w.grownBy w' (some rb)) : ZOwn w' B A cap l := h.kept hg (fun x => by have := (h.row _ x).1; omega)
theorem ZOwn.setLow {w : World} {lo : Nat} {A : Option Addr} {cap : Nat} {l : List ByteArray} (h : ZOwn w lo A cap l) {a : Addr} (ha : a.block < lo) (u : Value) : ZOwn (w.setCell a u) lo A cap l := ownsRow_setCell_below h ha u
/-- texts of so many bytes at most -/
def short (n : Nat) (l : List ByteArray) : Prop := ∀ t ∈ l, t.size ≤ n
theorem ZOwn.sin {w : World} {B : Nat} {A : Option Addr} {cap : Nat} {l : List ByteArray} (h : ZOwn w B A cap l) (hs : short 1001 l) : SIn w w.heap.size A l := ⟨fun i hi => by have := hs _ (List.getElem_mem hi); unfold maxLen; omega, h.zin⟩
theorem SIn.other {w : World} {B : Nat} {A : Option Addr} {l : List ByteArray} (h : SIn w B A l) {a : Addr} (ha : ∀ g, rowOf A = some g → g ≠ a.block) (u : Value) : SIn (w.setCell a u) B A l :=
  ⟨h.1, fun hp => by
    obtain ⟨b, off, e, hb, hc⟩ := h.2 hp
    refine ⟨b, off, e, hb, fun i hi => ?_⟩
    rw [← hc i hi]
    exact World.cell?_of_block (w := w) (a := ⟨b, off + i, none⟩) (Below.heap_setCell w a u b (ha b (by rw [e]; rfl)))⟩
/-- a drawn commit -/
def DrawnCom (w : World) (e : Ending) (w' : World) : Prop := ∃ t A cap l m, t.size ≤ 1001 ∧ m.size ≤ 1001 ∧ l.length ≤ 3 ∧ e = .returned (.agg #[.string t, .slice A l.length cap, .string m]) ∧ SIn w' w'.heap.size A l ∧ (∀ g, rowOf A = some g → w.heap.size ≤ g) ∧ Below w.heap.size w w'

set_option maxRecDepth 100000 in
set_option maxHeartbeats 4000000 in
theorem drawCommitOk_any (A : Option Addr) (n cap : Nat) (w : World) (hn : n ≤ 1048576) (hin : CIn w w.heap.size A n) :
    Calls Tryd.prog 7 #[.slice A n cap] w (DrawnCom w) := by
  have b0 : Hid (Below w.heap.size w (w.alloc (.cells #[.string ⟨#[]⟩, .slice none 0 0, .string ⟨#[]⟩] 26))) := hide ((Below.refl _ _).alloc (Nat.le_refl _) _)
  have R0 : Hid (CB (w.alloc (.cells #[.string ⟨#[]⟩, .slice none 0 0, .string ⟨#[]⟩] 26)) w.heap.size ⟨#[]⟩ none 0 0 ⟨#[]⟩) := hide (CB.new w _ _ _ _ _ rfl)
  have z0 : (w.alloc (.cells #[.string ⟨#[]⟩, .slice none 0 0, .string ⟨#[]⟩] 26)).heap.size = w.heap.size + 1 := by simp
  have C0 := hide ((hin.keep b0.out).more b0.out.size)
  clear hin
  go_enter Tryd.func7, Tryd.ntmps7
  go_wp2_with fail
  refine (l1Open_any A n cap _ hn C0.out).mono ?_
  rintro e w1 ⟨rfl, r1, b1⟩
  have R1 := hide (R0.out.all b1)
  have B1 := hide (b0.out.trans (b1.mono b0.out.size))
  have rd1 := r1
  rw [z0] at rd1
  have D1 := hide rd1
  have hz1 := rd1.lt
  clear b1 r1 R0 C0 rd1
  go_wp2_with fail
  refine (specId ⟨#[116]⟩ _ (by unfold maxLen; decide)).mono ?_
  rintro e w2 ⟨rfl, b2⟩
  have ht := idT_short ⟨#[116]⟩
  generalize idT ⟨#[116]⟩ = t at *
  have R2 := hide (R1.out.all b2)
  have B2 := hide (B1.out.trans (b2.mono B1.out.size))
  have D2 := hide (D1.out.below b2)
  clear b2 R1 B1 D1
  go_wp2_with fail
  refine (val_any (w.heap.size + 1) _ (by first | exact D2.out | simpa using D2.out)).mono ?_
  rintro e w3 ⟨m, hm, _, rfl, r3, g3⟩
  have R3 := hide (R2.out.grown g3 (by omega))
  have B3 := hide (B2.out.trans ((grown_below g3 (Nat.le_of_lt D2.out.lt)).mono (by omega)))
  have D3 := hide r3
  have hz3 := r3.lt
  clear g3 r3 R2 B2 D2
  -- the commit's own block
  have bx : Hid (Below w3.heap.size w3 (w3.alloc (.cells #[.string t, .slice none 0 0, .string m] 26))) := hide ((Below.refl _ _).alloc (Nat.le_refl _) _)
  have C4 := hide (CB.new w3 t m none 0 0 rfl)
  have R4 := hide (R3.out.all bx.out)
  have B4 := hide (B3.out.trans (bx.out.mono B3.out.size))
  have D4 := hide (D3.out.below bx.out)
  go_wp2_with fail
  refine (below_any (w.heap.size + 1) 3 _ (by first | exact D4.out | simpa using D4.out) (by omega) (by omega)).mono ?_
  rintro e w5 ⟨x0, hx0, hx1, rfl, r5, g5⟩
  obtain ⟨k0, rfl⟩ := Int.eq_ofNat_of_zero_le hx0
  have C5 := hide (C4.out.grown g5 (by omega))
  have R5 := hide (R4.out.grown g5 (by omega))
  have B5 := hide (B4.out.trans ((grown_below g5 (by simp; omega)).mono (by omega)))
  have D5 := hide r5
  have hk2 : k0 ≤ 2 := by omega
  clear g5 r5 C4 R4 B4 D4 bx R3 B3 D3 hx0 hx1
  generalize hcb : w3.heap.size = cb at *
  clear hcb
  go_wp2
  go_loopw [5] (fun iv wr => ∃ (k : Nat) (A2 : Option Addr) (cap2 : Nat) (l : List ByteArray), iv = .int .i64 k ∧ l.length + k ≤ 2 ∧ Hid (short 16 l) ∧ Hid (CB wr cb t A2 l.length cap2 m) ∧ Hid (ZOwn wr (cb + 1) A2 cap2 l) ∧ Hid (Rd wr (w.heap.size + 1)) ∧ Hid (CB wr w.heap.size ⟨#[]⟩ none 0 0 ⟨#[]⟩) ∧ Hid (Below w.heap.size w wr)) (fun i _ => (intOf i).toNat)
  case atStart => exact ⟨k0, none, 0, [], rfl, by simpa using hk2, hide (fun _ h => absurd h (by simp)), C5, hide (World.ownsRow_nil _ _ _ _), D5, R5, B5⟩
  case round =>
    clear C5 R5 B5 D5
    obtain ⟨k, A2, cap2, l, rfl, hlk, SH, C, O, D, R, Q⟩ := hrel
    have hqs := Q.out.size
    have hcl := C.out.lt
    by_cases hk0 : 0 < k
    · have hkk : decide ((0 : Int) < (k : Int)) = true := decide_eq_true (by omega)
      have CELL : Hid (∀ (j : Nat), j < 3 → ∃ s : ByteArray, s.size ≤ 12 ∧ ∀ (W : World) (b : Nat), W.heap[b]? = some (.cells #[.string ⟨#[97]⟩, .string ⟨#[98]⟩, .string ⟨#[99]⟩] 9 (0, 0)) → W.cell? ⟨b, j, none⟩ = some (.string s)) := hide (fun j hj => by
        match j, hj with
        | 0, _ => exact ⟨_, by decide, fun W b h => (cell_of_row W b 0 _ _ _ h).trans rfl⟩
        | 1, _ => exact ⟨_, by decide, fun W b h => (cell_of_row W b 1 _ _ _ h).trans rfl⟩
        | 2, _ => exact ⟨_, by decide, fun W b h => (cell_of_row W b 2 _ _ _ h).trans rfl⟩)
      have ba : Hid (Below wr.heap.size wr (wr.drew.alloc (.cells #[.string ⟨#[97]⟩, .string ⟨#[98]⟩, .string ⟨#[99]⟩] 9))) := hide (((Below.refl _ wr).drew).alloc (Nat.le_refl _) _)
      have bd : Hid (Below wr.heap.size wr wr.drew) := hide ((Below.refl _ wr).drew)
      have FA := hide (below_any (w.heap.size + 1) 3 (wr.drew.alloc (.cells #[.string ⟨#[97]⟩, .string ⟨#[98]⟩, .string ⟨#[99]⟩] 9)) (D.out.below ba.out) (by omega) (by omega))
      have FB := hide (below_any (w.heap.size + 1) 3 wr.drew (D.out.below bd.out) (by omega) (by omega))
      have HA : Hid ((wr.drew.alloc (.cells #[.string ⟨#[97]⟩, .string ⟨#[98]⟩, .string ⟨#[99]⟩] 9)).heap[wr.heap.size]? = some (.cells #[.string ⟨#[97]⟩, .string ⟨#[98]⟩, .string ⟨#[99]⟩] 9 (0, 0))) := hide (heap_alloc_new wr.drew (.cells #[.string ⟨#[97]⟩, .string ⟨#[98]⟩, .string ⟨#[99]⟩] 9))
      have za : wr.heap.size < (wr.drew.alloc (.cells #[.string ⟨#[97]⟩, .string ⟨#[98]⟩, .string ⟨#[99]⟩] 9)).heap.size := by simp
      have p0 := C.out.c1
      have p1 := (C.out.all ba.out).c1
      have p2 := (C.out.all bd.out).c1
      have CA0 := hide (C.out.all ba.out)
      have CB0 := hide (C.out.all bd.out)
      have OA := hide (O.out.below ba.out)
      have OB := hide (O.out.below bd.out)
      have RA := hide (R.out.all ba.out)
      have RB' := hide (R.out.all bd.out)
      have QA := hide (Q.out.trans (ba.out.mono hqs))
      have QB := hide (Q.out.trans (bd.out.mono hqs))
      have hl1000 : l.length ≤ 1000 := by omega
      have ncr : cb ≠ w.heap.size + 1 := by omega
      have nsr : w.heap.size ≠ w.heap.size + 1 := by omega
      clear C O D R Q
      go_wp2
      go_region_with (first
        | (go_at_call 21; refine FA.out.mono ?_; rintro e w6 ⟨y, hy0, hy1, rfl, r6, g6⟩; obtain ⟨j, rfl⟩ := Int.eq_ofNat_of_zero_le hy0; obtain ⟨s, hs, hall⟩ := CELL.out j (by omega); have cA := hall w6 wr.heap.size ((g6.block wr.heap.size za (by simp; omega)).trans HA.out); have hji : (j : Int) < 3 := (by omega); have C6 := hide (CA0.out.grown g6 ncr); have O6 := hide (OA.out.rd (by omega) g6); have R6 := hide (RA.out.grown g6 nsr); have D6 := hide r6; have Q6 := hide (QA.out.trans ((grown_below g6 (by have := za; omega)).mono (by omega))); have p6 := C6.out.c1; have SP := hide (specId s w6 (by unfold maxLen; omega)); clear hall g6 r6 hy0 hy1)
        | (go_at_call 21; refine FB.out.mono ?_; rintro e w5' ⟨y, hy0, hy1, rfl, r6, g6⟩; obtain ⟨j, rfl⟩ := Int.eq_ofNat_of_zero_le hy0; obtain ⟨s, hs, hall⟩ := CELL.out j (by omega); have cB := hall (w5'.alloc (.cells #[.string ⟨#[97]⟩, .string ⟨#[98]⟩, .string ⟨#[99]⟩] 9)) w5'.heap.size (heap_alloc_new w5' _); have hji : (j : Int) < 3 := (by omega); have b6a : Hid (Below w5'.heap.size w5' (w5'.alloc (.cells #[.string ⟨#[97]⟩, .string ⟨#[98]⟩, .string ⟨#[99]⟩] 9))) := hide ((Below.refl _ _).alloc (Nat.le_refl _) _); have p6b := (CB0.out.grown g6 ncr).c1; have C6 := hide ((CB0.out.grown g6 ncr).all b6a.out); have O6 := hide ((OB.out.rd (by omega) g6).below b6a.out); have R6 := hide ((RB'.out.grown g6 nsr).all b6a.out); have D6 := hide (r6.below b6a.out); have q6 := QB.out.trans ((grown_below g6 (show w.heap.size + 1 ≤ wr.heap.size by omega)).mono (show w.heap.size ≤ w.heap.size + 1 by omega)); have Q6 := hide (q6.trans (b6a.out.mono q6.size)); have p6 := C6.out.c1; have SP := hide (specId s (w5'.alloc (.cells #[.string ⟨#[97]⟩, .string ⟨#[98]⟩, .string ⟨#[99]⟩] 9)) (by unfold maxLen; omega)); clear hall g6 r6 hy0 hy1 q6)
        | (go_at_call 19; refine SP.out.mono ?_; rintro e w7 ⟨rfl, b7⟩; have hid := idT_short s; have C7 := hide (C6.out.all b7); have O7 := hide (O6.out.below b7); have R7 := hide (R6.out.all b7); have D7 := hide (D6.out.below b7); have Q7 := hide (Q6.out.trans (b7.mono Q6.out.size)); have p7 := C7.out.c1; have hc7 := C7.out.lt; have LP := hide (l1Put_any A2 l cap2 (idT s) w7 (cb + 1) hl1000 O7.out (by omega)); clear b7)
        | (go_at_call 22; refine LP.out.mono ?_; rintro e w8 ⟨A8, cap8, l8, hl8, hmem, rfl, own8, b8⟩; have SH8 : Hid (short 16 l8) := hide (fun x hx => (by rcases hmem x hx with h | h; exact SH.out x h; rw [h]; exact hid)); have C8 := hide (C7.out.all b8); have O8 := hide own8; have R8 := hide (R7.out.all b8); have D8 := hide (D7.out.below b8); have Q8 := hide (Q7.out.trans (b8.mono Q7.out.size)); have p8 := C8.out.c1; have f8 := C8.out.frozen 1; clear b8 own8 hmem))
      all_goals
        have C9 := hide (C8.out.s1 A8 l8.length cap8)
        have O9 := hide (O8.out.setLow (a := ⟨cb, 1, none⟩) (by simp) (.slice A8 l8.length cap8))
        have R9 := hide (R8.out.other ⟨cb, 1, none⟩ (.slice A8 l8.length cap8) (by show w.heap.size ≠ cb; omega))
        have D9 := hide (D8.out.keep ((Below.refl (w.heap.size + 1 + 1) w8).setCell (p := ⟨cb, 1, none⟩) (by show w.heap.size + 1 + 1 ≤ cb; omega) (.slice A8 l8.length cap8)))
        have Q9 := hide (Q8.out.setCell (p := ⟨cb, 1, none⟩) (by show w.heap.size ≤ cb; omega) (.slice A8 l8.length cap8))
        go_wp2
        exact ⟨⟨k - 1, A8, cap8, l8, by go_num, by omega, SH8, C9, O9, D9, R9, Q9⟩, by simp [intOf]; omega⟩
    · go_wp2_with fail
      refine (below_any (w.heap.size + 1) 10 wr D.out (by omega) (by omega)).mono ?_
      rintro e w6 ⟨x, hx0, hx1, rfl, r6, g6⟩
      have C6 := hide (C.out.grown g6 (by omega))
      have O6 := hide (O.out.rd (by omega) g6)
      have R6 := hide (R.out.grown g6 (by omega))
      have D6 := hide r6
      have Q6 := hide (Q.out.trans ((grown_below g6 (show w.heap.size + 1 ≤ wr.heap.size by omega)).mono (by omega)))
      have hl2 : l.length ≤ 2 := by omega
      have hc6 := C6.out.lt
      clear g6 r6 C O R D Q
      by_cases x7 : x = 7
      · subst x7
        have q0 := C6.out.c0
        go_wp2_with fail
        refine (hurt_any (w.heap.size + 1) t w6 D6.out (by omega)).mono ?_
        rintro e w7 ⟨t7, ht7, rfl, r7, g7⟩
        have C7 := hide (C6.out.grown g7 (by omega))
        have O7 := hide (O6.out.rd (by omega) g7)
        have R7 := hide (R6.out.grown g7 (by omega))
        have Q7 := hide (Q6.out.trans ((grown_below g7 (show w.heap.size + 1 ≤ w6.heap.size by omega)).mono (by omega)))
        have q7 := C7.out.c0
        have f7 := C7.out.frozen 0
        clear g7 r7 C6 O6 R6 D6 Q6 q0
        have C8 := hide (C7.out.s0 t7)
        have O8 := hide (O7.out.setLow (a := ⟨cb, 0, none⟩) (by simp) (.string t7))
        have R8 := hide (R7.out.other ⟨cb, 0, none⟩ (.string t7) (by show w.heap.size ≠ cb; omega))
        have Q8 := hide (Q7.out.setCell (p := ⟨cb, 0, none⟩) (by show w.heap.size ≤ cb; omega) (.string t7))
        have cb0 := C8.out.c0
        have cb1 := C8.out.c1
        have cb2 := C8.out.c2
        have rz0 := R8.out.c0
        have rz1 := R8.out.c1
        have rz2 := R8.out.c2
        have fz0 := R8.out.frozen 0
        have fz1 := R8.out.frozen 1
        have fz2 := R8.out.frozen 2
        have H3 := hide (((R8.out.s0 t7).s1 A2 (l).length cap2).s2 m)
        have O3 := hide (((O8.out.setLow (a := ⟨w.heap.size, 0, none⟩) (by show w.heap.size < cb + 1; omega) (.string t7)).setLow (a := ⟨w.heap.size, 1, none⟩) (by show w.heap.size < cb + 1; omega) (.slice A2 (l).length cap2)).setLow (a := ⟨w.heap.size, 2, none⟩) (by show w.heap.size < cb + 1; omega) (.string m))
        have Q3 := hide (((Q8.out.setCell (p := ⟨w.heap.size, 0, none⟩) (Nat.le_refl _) (.string t7)).setCell (p := ⟨w.heap.size, 1, none⟩) (Nat.le_refl _) (.slice A2 (l).length cap2)).setCell (p := ⟨w.heap.size, 2, none⟩) (Nat.le_refl _) (.string m))
        have SF : Hid (short 1001 l) := hide (fun x hx => Nat.le_trans (SH.out x hx) (by omega))
        go_wp2
        have hx0 := H3.out.c0
        have hx1 := H3.out.c1
        have hx2 := H3.out.c2
        exact bodyPost_ret (v := .agg #[.string t7, .slice A2 (l).length cap2, .string m]) (by simp [results, Tryd.results7, go_sem, hx0, hx1, hx2]) rfl ⟨t7, A2, cap2, l, m, (by omega), (by omega), (by omega), rfl, O3.out.sin SF.out, fun g hg => by have := (O3.out.row g hg).1; omega, Q3.out⟩
      · by_cases x8 : x = 8
        · subst x8
          have q0 := C6.out.c0
          have q1 := C6.out.c1
          have hw6 : cb + 1 ≤ w6.heap.size := hc6
          go_wp2_with (at_builtin; refine wpList_appZ (l := l) (l' := [t]) 24 Tryd.underlying24 rfl (.tmp 40) (.tmp 43) rfl rfl rfl rfl rfl (O6.out.alloc _) (ZIn.one t _ rfl) (Nat.le_trans hw6 (by simp)) (by simp; omega) ?_; intro A7 cap7 w7 own7 g7 r7; have b7 := (O6.out.alloc (.cells #[Value.string t] 9)).grownBelow g7 (Nat.le_trans hw6 (by simp)); have b7' : Below (cb + 1) w6 w7 := ((Below.refl (cb + 1) w6).alloc hw6 (.cells #[Value.string t] 9)).trans b7; have C7 := hide (C6.out.below b7' (by omega)); have R7 := hide (R6.out.below b7' (by omega)); have Q7 := hide (Q6.out.trans (b7'.mono (by omega))); have O7 := hide own7; have q7 := C7.out.c1; have f7 := C7.out.frozen 1; clear own7 g7 r7 b7 b7'; have C8 := hide (C7.out.s1 A7 (l ++ [t]).length cap7); have O8 := hide (O7.out.setLow (a := ⟨cb, 1, none⟩) (by simp) (.slice A7 (l ++ [t]).length cap7)); have R8 := hide (R7.out.other ⟨cb, 1, none⟩ (.slice A7 (l ++ [t]).length cap7) (by show w.heap.size ≠ cb; omega)); have Q8 := hide (Q7.out.setCell (p := ⟨cb, 1, none⟩) (by show w.heap.size ≤ cb; omega) (.slice A7 (l ++ [t]).length cap7)); have E0 : (l ++ [t]).length = l.length + 1 := (by simp); rw [E0] at C8 O8 R8 Q8; have y0 := C8.out.c0; have y1 := C8.out.c1; have y2 := C8.out.c2; have rz0 := R8.out.c0; have rz1 := R8.out.c1; have rz2 := R8.out.c2; have fz0 := R8.out.frozen 0; have fz1 := R8.out.frozen 1; have fz2 := R8.out.frozen 2)
          have H3 := hide (((R8.out.s0 t).s1 A7 (l.length + 1) cap7).s2 m)
          have O3 := hide (((O8.out.setLow (a := ⟨w.heap.size, 0, none⟩) (by show w.heap.size < cb + 1; omega) (.string t)).setLow (a := ⟨w.heap.size, 1, none⟩) (by show w.heap.size < cb + 1; omega) (.slice A7 (l.length + 1) cap7)).setLow (a := ⟨w.heap.size, 2, none⟩) (by show w.heap.size < cb + 1; omega) (.string m))
          have Q3 := hide (((Q8.out.setCell (p := ⟨w.heap.size, 0, none⟩) (Nat.le_refl _) (.string t)).setCell (p := ⟨w.heap.size, 1, none⟩) (Nat.le_refl _) (.slice A7 (l.length + 1) cap7)).setCell (p := ⟨w.heap.size, 2, none⟩) (Nat.le_refl _) (.string m))
          have SF : Hid (short 1001 (l ++ [t])) := hide (fun x hx => by
            rw [List.mem_append] at hx
            rcases hx with h | h
            · exact Nat.le_trans (SH.out x h) (by omega)
            · simp at h; rw [h]; omega)
          have hx0 := H3.out.c0
          have hx1 := H3.out.c1
          have hx2 := H3.out.c2
          exact bodyPost_ret (v := .agg #[.string t, .slice A7 (l.length + 1) cap7, .string m]) (by simp [results, Tryd.results7, go_sem, hx0, hx1, hx2]) rfl ⟨t, A7, cap7, l ++ [t], m, by omega, by omega, by simp; omega, by simp, O3.out.sin SF.out, fun g hg => by have := (O3.out.row g hg).1; omega, Q3.out⟩
        · by_cases x9 : x = 9
          · subst x9
            have q0 := C6.out.c2
            go_wp2_with fail
            refine (hurt_any (w.heap.size + 1) m w6 D6.out (by omega)).mono ?_
            rintro e w7 ⟨m7, hm7, rfl, r7, g7⟩
            have C7 := hide (C6.out.grown g7 (by omega))
            have O7 := hide (O6.out.rd (by omega) g7)
            have R7 := hide (R6.out.grown g7 (by omega))
            have Q7 := hide (Q6.out.trans ((grown_below g7 (show w.heap.size + 1 ≤ w6.heap.size by omega)).mono (by omega)))
            have q7 := C7.out.c2
            have f7 := C7.out.frozen 2
            clear g7 r7 C6 O6 R6 D6 Q6 q0
            have C8 := hide (C7.out.s2 m7)
            have O8 := hide (O7.out.setLow (a := ⟨cb, 2, none⟩) (by simp) (.string m7))
            have R8 := hide (R7.out.other ⟨cb, 2, none⟩ (.string m7) (by show w.heap.size ≠ cb; omega))
            have Q8 := hide (Q7.out.setCell (p := ⟨cb, 2, none⟩) (by show w.heap.size ≤ cb; omega) (.string m7))
            have cb0 := C8.out.c0
            have cb1 := C8.out.c1
            have cb2 := C8.out.c2
            have rz0 := R8.out.c0
            have rz1 := R8.out.c1
            have rz2 := R8.out.c2
            have fz0 := R8.out.frozen 0
            have fz1 := R8.out.frozen 1
            have fz2 := R8.out.frozen 2
            have H3 := hide (((R8.out.s0 t).s1 A2 (l).length cap2).s2 m7)
            have O3 := hide (((O8.out.setLow (a := ⟨w.heap.size, 0, none⟩) (by show w.heap.size < cb + 1; omega) (.string t)).setLow (a := ⟨w.heap.size, 1, none⟩) (by show w.heap.size < cb + 1; omega) (.slice A2 (l).length cap2)).setLow (a := ⟨w.heap.size, 2, none⟩) (by show w.heap.size < cb + 1; omega) (.string m7))
            have Q3 := hide (((Q8.out.setCell (p := ⟨w.heap.size, 0, none⟩) (Nat.le_refl _) (.string t)).setCell (p := ⟨w.heap.size, 1, none⟩) (Nat.le_refl _) (.slice A2 (l).length cap2)).setCell (p := ⟨w.heap.size, 2, none⟩) (Nat.le_refl _) (.string m7))
            have SF : Hid (short 1001 l) := hide (fun x hx => Nat.le_trans (SH.out x hx) (by omega))
            go_wp2
            have hx0 := H3.out.c0
            have hx1 := H3.out.c1
            have hx2 := H3.out.c2
            exact bodyPost_ret (v := .agg #[.string t, .slice A2 (l).length cap2, .string m7]) (by simp [results, Tryd.results7, go_sem, hx0, hx1, hx2]) rfl ⟨t, A2, cap2, l, m7, (by omega), (by omega), (by omega), rfl, O3.out.sin SF.out, fun g hg => by have := (O3.out.row g hg).1; omega, Q3.out⟩
          · have x7b : (x == 7) = false := by rw [beq_eq_false_iff_ne]; exact x7
            have x8b : (x == 8) = false := by rw [beq_eq_false_iff_ne]; exact x8
            have x9b : (x == 9) = false := by rw [beq_eq_false_iff_ne]; exact x9
            have cb0 := C6.out.c0
            have cb1 := C6.out.c1
            have cb2 := C6.out.c2
            have rz0 := R6.out.c0
            have rz1 := R6.out.c1
            have rz2 := R6.out.c2
            have fz0 := R6.out.frozen 0
            have fz1 := R6.out.frozen 1
            have fz2 := R6.out.frozen 2
            have H3 := hide (((R6.out.s0 t).s1 A2 (l).length cap2).s2 m)
            have O3 := hide (((O6.out.setLow (a := ⟨w.heap.size, 0, none⟩) (by show w.heap.size < cb + 1; omega) (.string t)).setLow (a := ⟨w.heap.size, 1, none⟩) (by show w.heap.size < cb + 1; omega) (.slice A2 (l).length cap2)).setLow (a := ⟨w.heap.size, 2, none⟩) (by show w.heap.size < cb + 1; omega) (.string m))
            have Q3 := hide (((Q6.out.setCell (p := ⟨w.heap.size, 0, none⟩) (Nat.le_refl _) (.string t)).setCell (p := ⟨w.heap.size, 1, none⟩) (Nat.le_refl _) (.slice A2 (l).length cap2)).setCell (p := ⟨w.heap.size, 2, none⟩) (Nat.le_refl _) (.string m))
            have SF : Hid (short 1001 l) := hide (fun x hx => Nat.le_trans (SH.out x hx) (by omega))
            go_wp2
            have hx0 := H3.out.c0
            have hx1 := H3.out.c1
            have hx2 := H3.out.c2
            exact bodyPost_ret (v := .agg #[.string t, .slice A2 (l).length cap2, .string m]) (by simp [results, Tryd.results7, go_sem, hx0, hx1, hx2]) rfl ⟨t, A2, cap2, l, m, (by omega), (by omega), (by omega), rfl, O3.out.sin SF.out, fun g hg => by have := (O3.out.row g hg).1; omega, Q3.out⟩

theorem drawCommitText_any (A : Option Addr) (n cap : Nat) (w : World) (hn : n ≤ 1048576) (hin : CIn w w.heap.size A n) :
    Calls Tryd.prog 5 #[.slice A n cap] w (DrawnCom w) := by
  have b0 : Hid (Below w.heap.size w (w.alloc (.cells #[.string ⟨#[]⟩, .slice none 0 0, .string ⟨#[]⟩] 26))) := hide ((Below.refl _ _).alloc (Nat.le_refl _) _)
  have R0 : Hid (CB (w.alloc (.cells #[.string ⟨#[]⟩, .slice none 0 0, .string ⟨#[]⟩] 26)) w.heap.size ⟨#[]⟩ none 0 0 ⟨#[]⟩) := hide (CB.new w _ _ _ _ _ rfl)
  have z0 : (w.alloc (.cells #[.string ⟨#[]⟩, .slice none 0 0, .string ⟨#[]⟩] 26)).heap.size = w.heap.size + 1 := by simp
  go_enter Tryd.func5, Tryd.ntmps5
  go_wp2_with fail
  refine (drawCommitOk_any A n cap _ hn ((hin.keep b0.out).more b0.out.size)).mono ?_
  rintro e w1 ⟨t, A2, cap2, l, m, ht, hm, hl, rfl, si, hrow, b1⟩
  have R1 := hide (R0.out.all b1)
  have B1 := hide (b0.out.trans (b1.mono b0.out.size))
  have rz0 := R1.out.c0
  have rz1 := R1.out.c1
  have rz2 := R1.out.c2
  have fz0 := R1.out.frozen 0
  have fz1 := R1.out.frozen 1
  have fz2 := R1.out.frozen 2
  have H3 := hide (((R1.out.s0 t).s1 A2 l.length cap2).s2 m)
  have NE : ∀ g, rowOf A2 = some g → g ≠ w.heap.size := fun g hg => by have := hrow g hg; omega
  have SI := hide (((si.other (a := ⟨w.heap.size, 0, none⟩) NE (.string t)).other (a := ⟨w.heap.size, 1, none⟩) NE (.slice A2 l.length cap2)).other (a := ⟨w.heap.size, 2, none⟩) NE (.string m))
  have RW := hide hrow
  have Q3 := hide (((B1.out.setCell (p := ⟨w.heap.size, 0, none⟩) (Nat.le_refl _) (.string t)).setCell (p := ⟨w.heap.size, 1, none⟩) (Nat.le_refl _) (.slice A2 l.length cap2)).setCell (p := ⟨w.heap.size, 2, none⟩) (Nat.le_refl _) (.string m))
  clear si hrow b1 NE
  go_wp2
  have hx0 := H3.out.c0
  have hx1 := H3.out.c1
  have hx2 := H3.out.c2
  exact bodyPost_ret (v := .agg #[.string t, .slice A2 l.length cap2, .string m]) (by simp [results, Tryd.results5, go_sem, hx0, hx1, hx2]) rfl ⟨t, A2, cap2, l, m, ht, hm, hl, rfl, by simpa using SI.out, fun g hg => by have := RW.out g hg; omega, Q3.out⟩
end Go.Proofs.YtjbbdggckagphaaDoor
/-
  A commit's box, on a seat without objects.
-/
namespace Go.Proofs.YtjbbdggckagphaaDoor
open Go.RowKit

theorem boxC (w : World) (t m : ByteArray) (A : Option Addr) (n cap : Nat) :
    (w.alloc (.cells #[.string t, .slice A n cap, .string m] 26)).heap[w.heap.size]? = some (.cells #[.string t, .slice A n cap, .string m] 26 (0, 0)) := heap_alloc_new w _
theorem boxC_below (w : World) (x y z : Value) : Below w.heap.size w (w.alloc (.cells #[x, y, z] 26)) := (Below.refl w.heap.size w).alloc (Nat.le_refl _) _
end Go.Proofs.YtjbbdggckagphaaDoor
/-
  What laws.within and laws.sameCommit answer where the law wants it.
-/
namespace Go.Proofs.YtjbbdggckagphaaDoor
open Go.RowKit

/-- a boxed commit -/
def BoxC (w : World) (g : Nat) (t m : ByteArray) (A : Option Addr) (n cap : Nat) : Prop := w.heap[g]? = some (.cells #[.string t, .slice A n cap, .string m] 26 (0, 0))
theorem BoxC.below {w w' : World} {g : Nat} {t m : ByteArray} {A : Option Addr} {n cap : Nat} (h : BoxC w g t m A n cap) (hb : Below w.heap.size w w') : BoxC w' g t m A n cap := (hb.block g (Array.getElem?_eq_some_iff.1 h).1).trans h
theorem BoxC.lt {w : World} {g : Nat} {t m : ByteArray} {A : Option Addr} {n cap : Nat} (h : BoxC w g t m A n cap) : g < w.heap.size := (Array.getElem?_eq_some_iff.1 h).1
theorem BoxC.c0 {w : World} {g : Nat} {t m : ByteArray} {A : Option Addr} {n cap : Nat} (h : BoxC w g t m A n cap) : w.cell? ⟨g, 0, none⟩ = some (.string t) := cell_of_row _ _ 0 _ _ _ h
theorem BoxC.c1 {w : World} {g : Nat} {t m : ByteArray} {A : Option Addr} {n cap : Nat} (h : BoxC w g t m A n cap) : w.cell? ⟨g, 1, none⟩ = some (.slice A n cap) := cell_of_row _ _ 1 _ _ _ h
theorem BoxC.c2 {w : World} {g : Nat} {t m : ByteArray} {A : Option Addr} {n cap : Nat} (h : BoxC w g t m A n cap) : w.cell? ⟨g, 2, none⟩ = some (.string m) := cell_of_row _ _ 2 _ _ _ h
theorem rd_sizes (s : ByteArray) : (rdC s).1.size ≤ maxLen ∧ (rdC s).2.1.length ≤ maxLen ∧ (rdC s).2.2.size ≤ maxLen ∧ slenS (rdC s).2.1 := by
  by_cases h : ∃ c, isCom s c
  · obtain ⟨c, hc⟩ := h
    rw [(rd_yes hc).2]
    obtain ⟨h1, h2, h3, h4⟩ := comSz_of hc.1
    obtain ⟨_, p2⟩ := (com_parts hc.1).2
    refine ⟨by unfold maxLen; omega, by unfold maxLen; omega, by unfold maxLen; omega, fun i hi => ?_⟩
    have := p2 _ (List.getElem_mem hi)
    unfold maxLen
    omega
  · rw [(rd_no h).2]
    exact ⟨by simp, by simp, by simp, fun i hi => absurd hi (by simp)⟩
set_option maxRecDepth 100000 in
set_option maxHeartbeats 1000000 in
theorem sameCommit_same (t m : ByteArray) (A A' : Option Addr) (l : List ByteArray) (cap cap' : Nat) (w : World) (hl : l.length ≤ maxLen) (hin : ZIn w w.heap.size A l) (hin' : ZIn w w.heap.size A' l) :
    Calls Tryd.prog 14 #[.agg #[.string t, .slice A l.length cap, .string m], .agg #[.string t, .slice A' l.length cap', .string m]] w fun e w' => e = .returned (.bool true) ∧ Below w.heap.size w w' := by
  have bx := boxC_below w (.string t) (.slice A l.length cap) (.string m)
  have X1 := boxC w t m A l.length cap
  obtain ⟨w1, hw1⟩ : ∃ w1, w1 = w.alloc (.cells #[.string t, .slice A l.length cap, .string m] 26) := ⟨_, rfl⟩
  rw [← hw1] at bx X1
  have hs1 : w1.heap.size = w.heap.size + 1 := by rw [hw1]; simp
  have by1 := (boxC_below w1 (.string t) (.slice A' l.length cap') (.string m)).mono (show w.heap.size ≤ w1.heap.size by omega)
  have X2 := boxC w1 t m A' l.length cap'
  have X1' := ((boxC_below w1 (.string t) (.slice A' l.length cap') (.string m)).block w.heap.size (by omega)).trans X1
  have B2 := bx.trans by1
  have ST := sameTexts_same A A' l cap cap' _ w.heap.size w.heap.size hl (hin.below B2) (hin'.below B2)
  rw [hs1] at X2
  rw [hw1] at X2 X1' B2 ST
  have c0 := cell_of_row _ _ 0 _ _ _ X1'
  have c1 := cell_of_row _ _ 1 _ _ _ X1'
  have c2 := cell_of_row _ _ 2 _ _ _ X1'
  have d0 := cell_of_row _ _ 0 _ _ _ X2
  have d1 := cell_of_row _ _ 1 _ _ _ X2
  have d2 := cell_of_row _ _ 2 _ _ _ X2
  have SS := hide ST
  have BB := hide B2
  have e1 := eqS_yes (rfl : t = t)
  have e2 := eqS_yes (rfl : m = m)
  clear bx by1 X1 X1' X2 hin hin' hw1 hs1 ST B2
  generalize l.length = n at *
  go_enter Tryd.func14, Tryd.ntmps14
  go_wp2_with fail
  refine SS.out.mono ?_
  rintro e w3 ⟨rfl, q3⟩
  have B3 := hide (BB.out.trans (q3.below _))
  clear q3 SS BB
  go_wp2_with fail
  go_ret
  exact ⟨rfl, B3.out⟩
end Go.Proofs.YtjbbdggckagphaaDoor
/-
  What spec.DrawReadCommit gives: a text that is not long.
-/
namespace Go.Proofs.YtjbbdggckagphaaDoor
open Go.RowKit

theorem comTextS_size (t m : ByteArray) (l : List ByteArray) : (comTextS t l m).size ≤ 1000 := by
  cases h : comB t l m
  · rw [comText_no h]; simp
  · obtain ⟨h1, h2, h3, h4⟩ := comSz_of h
    have h5 := headTo_size h1 h3 l.length
    rw [comText_yes h]
    unfold textC
    rw [ByteArray.size_append, ByteArray.size_append]
    have : (⟨#[10]⟩ : ByteArray).size = 1 := rfl
    omega
set_option maxRecDepth 100000 in
set_option maxHeartbeats 1000000 in
theorem drawReadCommit_any (A : Option Addr) (n cap : Nat) (w : World) (hn : n ≤ 1048576) (hin : CIn w w.heap.size A n) :
    Calls Tryd.prog 8 #[.slice A n cap] w fun e w' => ∃ s : ByteArray, s.size ≤ 1001 ∧ e = .returned (.string s) ∧ Below w.heap.size w w' := by
  have IN := hide hin
  go_enter Tryd.func8, Tryd.ntmps8
  go_wp2_with fail
  refine (l1Open_any A n cap w hn hin).mono ?_
  rintro e w1 ⟨rfl, r1, b1⟩
  have B1 := hide b1
  have R1 := hide r1
  clear b1 r1 hin
  go_wp2_with fail
  refine (drawCommitOk_any A n cap w1 hn ((IN.out.keep B1.out).more B1.out.size)).mono ?_
  rintro e w2 ⟨t, A2, cap2, l, m, ht, hm, hl, rfl, si, hrow, b2⟩
  have B2 := hide (B1.out.trans (b2.mono B1.out.size))
  have R2 := hide (R1.out.below b2)
  have CT := hide (specCommitText_any t m A2 l cap2 w2 (by unfold maxLen; omega) (by unfold maxLen; omega) (by unfold maxLen; omega) si)
  have hz := comTextS_size t m l
  clear b2 B1 R1 si hrow
  generalize l.length = ln at *
  generalize comTextS t l m = s at *
  go_wp2_with fail
  refine CT.out.mono ?_
  rintro e w3 ⟨rfl, b3⟩
  have B3 := hide (B2.out.trans (b3.mono B2.out.size))
  have R3 := hide (R2.out.below b3)
  clear b3 B2 R2 CT
  go_wp2_with fail
  refine (once_any w.heap.size 2 w3 R3.out (by omega) (by omega)).mono ?_
  rintro e w4 ⟨x, rfl, r4, g4⟩
  have B4 := hide (B3.out.trans (grown_below g4 B3.out.size))
  have R4 := hide r4
  clear r4 g4 B3 R3
  cases x
  · go_wp2_with fail
    refine (hurt_any w.heap.size s w4 R4.out hz).mono ?_
    rintro e w5 ⟨s5, hs5, rfl, r5, g5⟩
    have B5 := hide (B4.out.trans (grown_below g5 B4.out.size))
    clear r5 g5 B4 R4
    go_wp2_with fail
    go_ret
    exact ⟨s5, hs5, rfl, B5.out⟩
  · go_wp2_with fail
    go_ret
    exact ⟨s, by omega, rfl, B4.out⟩
end Go.Proofs.YtjbbdggckagphaaDoor
