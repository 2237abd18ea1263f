/-
  The reader of a law's code: what l1Open, next, below, once leave. Loosely: which values come out doesn't matter, only that they are such values.
-/
import Derived.Test.YtlipefnaeblhfaaDoorChecked
import Derived.Test.YtlipefnaeblhfaaDoorPCell
import Derived.WalkLawsBesides
import Derived.Lib.Hide
import Derived.Maps.AppendAt
import Derived.BigQuiet
import Derived.IntWalk
import Derived.Laws.Rows
namespace Go.Proofs.YtlipefnaeblhfaaDoor
open Go.RowKit

/-- the slice at A holds n bytes, and lies below block B -/
def CIn (w : World) (B : Nat) (A : Option Addr) (n : Nat) : Prop :=
  0 < n → ∃ b off, A = some ⟨b, off, none⟩ ∧ b < B ∧ ∀ i, i < n → ∃ z : Int, w.cell? ⟨b, off + i, none⟩ = some (.int .u8 z) ∧ 0 ≤ z ∧ z ≤ 255
theorem CIn.keep {w w' : World} {B : Nat} {A : Option Addr} {n : Nat} (h : CIn w B A n) (hb : Below B w w') : CIn w' B A n := fun hn => by
  obtain ⟨b, off, e, hlt, hc⟩ := h hn
  refine ⟨b, off, e, hlt, fun i hi => ?_⟩
  obtain ⟨z, h1, h2, h3⟩ := hc i hi
  exact ⟨z, cellB hb hlt h1, h2, h3⟩
theorem CIn.more {w : World} {B B' : Nat} {A : Option Addr} {n : Nat} (h : CIn w B A n) (hB : B ≤ B') : CIn w B' A n := fun hn => by
  obtain ⟨b, off, e, hlt, hc⟩ := h hn
  exact ⟨b, off, e, by omega, hc⟩

/-- a reader lies in block rb -/
def Rd (w : World) (rb : Nat) : Prop := ∃ (A : Option Addr) (n cap p : Nat), n ≤ 1048576 ∧ p ≤ n ∧ w.heap[rb]? = some (.cells #[.slice A n cap, .int .i64 (p : Int)] 75 (0, 0)) ∧ CIn w rb A n
theorem Rd.lt {w : World} {rb : Nat} (h : Rd w rb) : rb < w.heap.size := by obtain ⟨_, _, _, _, _, _, hh, _⟩ := h; exact (Array.getElem?_eq_some_iff.1 hh).1
theorem Rd.keep {w w' : World} {rb : Nat} (h : Rd w rb) (hb : Below (rb + 1) w w') : Rd w' rb := by
  obtain ⟨A, n, cap, p, h1, h2, h3, h4⟩ := h
  exact ⟨A, n, cap, p, h1, h2, by rw [hb.block rb (by omega)]; exact h3, h4.keep (hb.mono (by omega))⟩
theorem Rd.below {w w' : World} {rb : Nat} (h : Rd w rb) (hb : Below w.heap.size w w') : Rd w' rb := h.keep (hb.mono h.lt)
theorem grown_below {w w' : World} {rb : Nat} (h : w.grownBy w' (some rb)) (hlt : rb ≤ w.heap.size) : Below rb w w' :=
  (Below.refl rb w).grown h hlt (fun k hk => by injection hk with hk; omega)
theorem grown_of_below {w w' : World} {rb : Nat} (h : Below w.heap.size w w') : w.grownBy w' (some rb) := Below.toGrown h (some rb)

/-- a number comes out, and the reader has gone on -/
def RdI (rb : Nat) (lo hi : Int) (w : World) (e : Ending) (w' : World) : Prop := ∃ x : Int, lo ≤ x ∧ x ≤ hi ∧ e = .returned (.int .i64 x) ∧ Rd w' rb ∧ w.grownBy w' (some rb)
def RdB (rb : Nat) (w : World) (e : Ending) (w' : World) : Prop := ∃ x : Bool, e = .returned (.bool x) ∧ Rd w' rb ∧ w.grownBy w' (some rb)
/-- the text other -/
abbrev otherS : ByteArray := ⟨#[111, 116, 104, 101, 114]⟩
def RdS (rb most : Nat) (w : World) (e : Ending) (w' : World) : Prop := ∃ s : ByteArray, s.size ≤ most ∧ s ≠ otherS ∧ e = .returned (.string s) ∧ Rd w' rb ∧ w.grownBy w' (some rb)

theorem l1Open_any (A : Option Addr) (n cap : Nat) (w : World) (hn : n ≤ 1048576) (hin : CIn w w.heap.size A n) :
    Calls Tryd.prog 37 #[.slice A n cap] w fun e w' => e = .returned (.pointer (some ⟨w.heap.size, 0, none⟩)) ∧ Rd w' w.heap.size ∧ Below w.heap.size w w' := by
  go_enter Tryd.func37, Tryd.ntmps37
  go_wp2
  go_ret
  exact ⟨rfl, ⟨A, n, cap, 0, hn, Nat.zero_le _, heap_alloc_new w _, hin.keep ((Below.refl _ _).alloc (Nat.le_refl _) _)⟩, (Below.refl _ _).alloc (Nat.le_refl _) _⟩

/-- the reader's place is written -/
theorem rd_step {w : World} {rb n cap p p' b off : Nat} (h : w.heap[rb]? = some (.cells #[.slice (some ⟨b, off, none⟩) n cap, .int .i64 (p : Int)] 75 (0, 0))) (hp : p' ≤ n) (hn : n ≤ 1048576) (hc : CIn w rb (some ⟨b, off, none⟩) n) :
    (w.setCell ⟨rb, 1, none⟩ (.int .i64 (p' : Int))).cell? ⟨rb, 0, none⟩ = some (.slice (some ⟨b, off, none⟩) n cap) ∧ (w.setCell ⟨rb, 1, none⟩ (.int .i64 (p' : Int))).cell? ⟨rb, 1, none⟩ = some (.int .i64 (p' : Int)) ∧
    (∀ c o, c ≠ rb → (w.setCell ⟨rb, 1, none⟩ (.int .i64 (p' : Int))).cell? ⟨c, o, none⟩ = w.cell? ⟨c, o, none⟩) ∧ Rd (w.setCell ⟨rb, 1, none⟩ (.int .i64 (p' : Int))) rb ∧ w.grownBy (w.setCell ⟨rb, 1, none⟩ (.int .i64 (p' : Int))) (some rb) := by
  have hh : (w.setCell ⟨rb, 1, none⟩ (.int .i64 (p' : Int))).heap[rb]? = some (.cells #[.slice (some ⟨b, off, none⟩) n cap, .int .i64 (p' : Int)] 75 (0, 0)) := by
    simp [World.setCell, Array.getElem?_modify, h]
  have ho : ∀ c, c ≠ rb → (w.setCell ⟨rb, 1, none⟩ (.int .i64 (p' : Int))).heap[c]? = w.heap[c]? := fun c hc => Below.heap_setCell w ⟨rb, 1, none⟩ _ c hc
  refine ⟨by rw [cell_of_row _ rb 0 _ _ _ hh]; rfl, by rw [cell_of_row _ rb 1 _ _ _ hh]; rfl, fun c o hne => World.cell?_of_block (ho c hne), ⟨_, n, cap, p', hn, hp, hh, hc.keep ?_⟩, ⟨rfl, rfl, rfl, by simp [World.setCell], fun k _ hk => ho k (fun e => hk (by rw [e]))⟩⟩
  exact (Below.refl rb w).setCell (p := ⟨rb, 1, none⟩) (Nat.le_refl _) _

set_option maxRecDepth 100000 in
set_option maxHeartbeats 1000000 in
theorem next_any (rb : Nat) (w : World) (h : Rd w rb) :
    Calls Tryd.prog 60 #[.pointer (some ⟨rb, 0, none⟩)] w (RdI rb 0 255 w) := by
  have HR := hide h
  obtain ⟨A, n, cap, p, h1, h2, h3, h4⟩ := h
  have c0 : w.cell? ⟨rb, 0, none⟩ = some (.slice A n cap) := by rw [cell_of_row w rb 0 _ _ _ h3]; rfl
  have c1 : w.cell? ⟨rb, 1, none⟩ = some (.int .i64 (p : Int)) := by rw [cell_of_row w rb 1 _ _ _ h3]; rfl
  have f1 : w.frozen? ⟨rb, 1, none⟩ = false := frozen_of_row w rb 1 _ _ h3
  have H3 := hide h3
  clear h3
  by_cases hp : p < n
  · obtain ⟨b, off, rfl, hlt, hc⟩ := h4 (by omega)
    obtain ⟨z, cz, z1, z2⟩ := hc p hp
    have H4 := hide h4
    have hne : b ≠ rb := by omega
    clear hc h4
    have q1 : IntKind.i64.wrap (p : Int) = (p : Int) := IntWalk.i64_in _ (by omega)
    go_enter Tryd.func60, Tryd.ntmps60
    go_wp2
    go_quiet (fail)
    go_wp2
    have hW := rd_step (w := w.drewN nq) (b := b) (off := off) H3.out (p' := p + 1) (by omega) h1 H4.out
    have e0 : ((w.drewN nq).setCell ⟨rb, 1, none⟩ (.int .i64 ((p : Int) + 1))).cell? ⟨rb, 0, none⟩ = some (.slice (some ⟨b, off, none⟩) n cap) := hW.1
    have e1 : ((w.drewN nq).setCell ⟨rb, 1, none⟩ (.int .i64 ((p : Int) + 1))).cell? ⟨rb, 1, none⟩ = some (.int .i64 ((p : Int) + 1)) := hW.2.1
    have ez : ((w.drewN nq).setCell ⟨rb, 1, none⟩ (.int .i64 ((p : Int) + 1))).cell? ⟨b, off + p, none⟩ = some (.int .u8 z) := (hW.2.2.1 b (off + p) hne).trans cz
    have R2 : Hid (Rd ((w.drewN nq).setCell ⟨rb, 1, none⟩ (.int .i64 ((p : Int) + 1))) rb) := hide hW.2.2.2.1
    have G2 : Hid (w.grownBy ((w.drewN nq).setCell ⟨rb, 1, none⟩ (.int .i64 ((p : Int) + 1))) (some rb)) := hide ⟨hW.2.2.2.2.os, hW.2.2.2.2.tape, hW.2.2.2.2.output, hW.2.2.2.2.size, hW.2.2.2.2.block⟩
    clear hW c0 c1 f1 cz
    generalize (w.drewN nq).setCell ⟨rb, 1, none⟩ (.int .i64 ((p : Int) + 1)) = W2 at *
    go_quiet (fail)
    go_wp2
    go_ret
    exact ⟨z, z1, z2, rfl, R2.out.keep ⟨rfl, rfl, rfl, Nat.le_refl _, fun _ _ => rfl⟩, ⟨G2.out.os, G2.out.tape, G2.out.output, G2.out.size, G2.out.block⟩⟩
  · go_enter Tryd.func60, Tryd.ntmps60
    go_wp2
    go_quiet (fail)
    go_wp2
    go_ret
    exact ⟨0, by omega, by omega, rfl, HR.out.keep ⟨rfl, rfl, rfl, Nat.le_refl _, fun _ _ => rfl⟩, ⟨rfl, rfl, rfl, Nat.le_refl _, fun _ _ _ => rfl⟩⟩

set_option maxRecDepth 100000 in
set_option maxHeartbeats 1000000 in
theorem below_any (rb : Nat) (n : Int) (w : World) (h : Rd w rb) (h1 : 1 ≤ n) (h2 : n ≤ 65536) :
    Calls Tryd.prog 48 #[.pointer (some ⟨rb, 0, none⟩), .int .i64 n] w (RdI rb 0 (n - 1) w) := by
  by_cases hn1 : n ≤ 1
  · have HR := hide h
    clear h
    go_enter Tryd.func48, Tryd.ntmps48
    go_wp2
    go_ret
    exact ⟨0, by omega, by omega, rfl, HR.out, World.grownBy.refl _ _⟩
  · by_cases hn2 : n ≤ 256
    · go_enter Tryd.func48, Tryd.ntmps48
      go_wp2_with fail
      refine (next_any rb w h).mono ?_
      rintro e w1 ⟨x, hx0, hx1, rfl, r1, g1⟩
      have R1 := hide r1
      have G1 := hide g1
      clear r1 g1 h
      have hm1 : 0 ≤ x % n := Int.emod_nonneg _ (by omega)
      have hm2 : x % n < n := Int.emod_lt_of_pos _ (by omega)
      go_wp2
      go_ret
      exact ⟨x % n, hm1, by omega, rfl, R1.out, G1.out⟩
    · go_enter Tryd.func48, Tryd.ntmps48
      go_wp2_with fail
      refine (next_any rb w h).mono ?_
      rintro e w1 ⟨x, hx0, hx1, rfl, r1, g1⟩
      have G1 := hide g1
      clear g1 h
      go_wp2_with fail
      refine (next_any rb w1 r1).mono ?_
      rintro e w2 ⟨y, hy0, hy1, rfl, r2, g2⟩
      have R2 := hide r2
      have G2 := hide (World.grownBy.trans G1.out g2)
      clear r1 r2 g2
      have hm1 : 0 ≤ (x * 256 + y) % n := Int.emod_nonneg _ (by omega)
      have hm2 : (x * 256 + y) % n < n := Int.emod_lt_of_pos _ (by omega)
      go_wp2
      go_ret
      exact ⟨(x * 256 + y) % n, hm1, by omega, rfl, R2.out, G2.out⟩

set_option maxRecDepth 100000 in
set_option maxHeartbeats 1000000 in
theorem once_any (rb : Nat) (n : Int) (w : World) (h : Rd w rb) (h1 : 1 ≤ n) (h2 : n ≤ 65536) :
    Calls Tryd.prog 39 #[.pointer (some ⟨rb, 0, none⟩), .int .i64 n] w (RdB rb w) := by
  go_enter Tryd.func39, Tryd.ntmps39
  go_wp2_with fail
  refine (below_any rb n w h h1 h2).mono ?_
  rintro e w1 ⟨x, hx0, hx1, rfl, r1, g1⟩
  have R1 := hide r1
  have G1 := hide g1
  clear r1 g1 h
  go_wp2
  go_ret
  exact ⟨_, rfl, R1.out, G1.out⟩

theorem big_any (A : Option Addr) (n cap : Nat) (w : World) (hn : n ≤ maxLen) :
    Calls Tryd.prog 16 #[.slice A n cap] w fun e w' => e = .returned (.bool (decide (1048576 < n))) ∧ w = w' := by
  unfold maxLen at hn
  by_cases h : 1048576 < n
  · have d : decide ((1048576 : Int) < (n : Int)) = true := decide_eq_true (by omega)
    go_enter Tryd.func16, Tryd.ntmps16
    go_wp2
    go_ret
    exact ⟨ret_bool (decide_eq_true h).symm, rfl⟩
  · have d : decide ((1048576 : Int) < (n : Int)) = false := decide_eq_false (by omega)
    go_enter Tryd.func16, Tryd.ntmps16
    go_wp2
    go_ret
    exact ⟨ret_bool (decide_eq_false h).symm, rfl⟩
end Go.Proofs.YtlipefnaeblhfaaDoor
