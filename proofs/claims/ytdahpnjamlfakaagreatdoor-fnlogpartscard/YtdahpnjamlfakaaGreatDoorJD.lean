/-
  Texts that this proof leans on, joined: JD.
-/
import Derived.Test.YtdahpnjamlfakaaGreatDoorChecked
import Derived.Test.YtdahpnjamlfakaaGreatDoorPCell
import Derived.WalkLawsBesides
import Derived.Lib.Hide
import Derived.Maps.AppendAt
import Derived.BigQuiet
import Derived.IntWalk
import Derived.Laws.Rows
import Derived.ProofKit
import Derived.OpenShut
import Derived.Deep.RegionWith
import Derived.WalkSpells
import Derived.Test.YtdahpnjamlfakaaGreatDoorJW
import Derived.Test.YtdahpnjamlfakaaGreatDoorJM
import Derived.Test.YtdahpnjamlfakaaGreatDoorJO
import Derived.Lib.Bytealg
import Derived.Deep.LoopGhost
import Derived.RegionTactic
import Derived.Deep.RegionLaw
import Derived.Test.YtdahpnjamlfakaaGreatDoorJR
import Derived.Test.YtdahpnjamlfakaaGreatDoorJC
/-
  The reader of a law's code: what l1Open, next, below, once leave. Loosely: which values come out doesn't matter, only that they are such values.
-/
namespace Go.Proofs.YtdahpnjamlfakaaGreatDoor
open Go.RowKit

/-- the slice at A holds n bytes, and lies below block B -/
def CIn (w : World) (B : Nat) (A : Option Addr) (n : Nat) : Prop :=
  0 < n → ∃ b off, A = some ⟨b, off, none⟩ ∧ b < B ∧ ∀ i, i < n → ∃ z : Int, w.cell? ⟨b, off + i, none⟩ = some (.int .u8 z) ∧ 0 ≤ z ∧ z ≤ 255
theorem CIn.keep {w w' : World} {B : Nat} {A : Option Addr} {n : Nat} (h : CIn w B A n) (hb : Below B w w') : CIn w' B A n := fun hn => by
  obtain ⟨b, off, e, hlt, hc⟩ := h hn
  refine ⟨b, off, e, hlt, fun i hi => ?_⟩
  obtain ⟨z, h1, h2, h3⟩ := hc i hi
  exact ⟨z, cellB hb hlt h1, h2, h3⟩
theorem CIn.more {w : World} {B B' : Nat} {A : Option Addr} {n : Nat} (h : CIn w B A n) (hB : B ≤ B') : CIn w B' A n := fun hn => by
  obtain ⟨b, off, e, hlt, hc⟩ := h hn
  exact ⟨b, off, e, by omega, hc⟩

/-- a reader lies in block rb -/
def Rd (w : World) (rb : Nat) : Prop := ∃ (A : Option Addr) (n cap p : Nat), n ≤ 1048576 ∧ p ≤ n ∧ w.heap[rb]? = some (.cells #[.slice A n cap, .int .i64 (p : Int)] 102 (0, 0)) ∧ CIn w rb A n
theorem Rd.lt {w : World} {rb : Nat} (h : Rd w rb) : rb < w.heap.size := by obtain ⟨_, _, _, _, _, _, hh, _⟩ := h; exact (Array.getElem?_eq_some_iff.1 hh).1
theorem Rd.keep {w w' : World} {rb : Nat} (h : Rd w rb) (hb : Below (rb + 1) w w') : Rd w' rb := by
  obtain ⟨A, n, cap, p, h1, h2, h3, h4⟩ := h
  exact ⟨A, n, cap, p, h1, h2, by rw [hb.block rb (by omega)]; exact h3, h4.keep (hb.mono (by omega))⟩
theorem Rd.below {w w' : World} {rb : Nat} (h : Rd w rb) (hb : Below w.heap.size w w') : Rd w' rb := h.keep (hb.mono h.lt)
theorem grown_below {w w' : World} {rb : Nat} (h : w.grownBy w' (some rb)) (hlt : rb ≤ w.heap.size) : Below rb w w' :=
  (Below.refl rb w).grown h hlt (fun k hk => by injection hk with hk; omega)
theorem grown_of_below {w w' : World} {rb : Nat} (h : Below w.heap.size w w') : w.grownBy w' (some rb) := Below.toGrown h (some rb)

/-- a number comes out, and the reader has gone on -/
def RdI (rb : Nat) (lo hi : Int) (w : World) (e : Ending) (w' : World) : Prop := ∃ x : Int, lo ≤ x ∧ x ≤ hi ∧ e = .returned (.int .i64 x) ∧ Rd w' rb ∧ w.grownBy w' (some rb)
def RdB (rb : Nat) (w : World) (e : Ending) (w' : World) : Prop := ∃ x : Bool, e = .returned (.bool x) ∧ Rd w' rb ∧ w.grownBy w' (some rb)
/-- the text other -/
abbrev otherS : ByteArray := ⟨#[111, 116, 104, 101, 114]⟩
def RdS (rb most : Nat) (w : World) (e : Ending) (w' : World) : Prop := ∃ s : ByteArray, s.size ≤ most ∧ s ≠ otherS ∧ e = .returned (.string s) ∧ Rd w' rb ∧ w.grownBy w' (some rb)

theorem l1Open_any (A : Option Addr) (n cap : Nat) (w : World) (hn : n ≤ 1048576) (hin : CIn w w.heap.size A n) :
    Calls Tryz.prog 37 #[.slice A n cap] w fun e w' => e = .returned (.pointer (some ⟨w.heap.size, 0, none⟩)) ∧ Rd w' w.heap.size ∧ Below w.heap.size w w' := by
  go_enter Tryz.func37, Tryz.ntmps37
  go_wp2
  go_ret
  exact ⟨rfl, ⟨A, n, cap, 0, hn, Nat.zero_le _, heap_alloc_new w _, hin.keep ((Below.refl _ _).alloc (Nat.le_refl _) _)⟩, (Below.refl _ _).alloc (Nat.le_refl _) _⟩

/-- the reader's place is written -/
theorem rd_step {w : World} {rb n cap p p' b off : Nat} (h : w.heap[rb]? = some (.cells #[.slice (some ⟨b, off, none⟩) n cap, .int .i64 (p : Int)] 102 (0, 0))) (hp : p' ≤ n) (hn : n ≤ 1048576) (hc : CIn w rb (some ⟨b, off, none⟩) n) :
    (w.setCell ⟨rb, 1, none⟩ (.int .i64 (p' : Int))).cell? ⟨rb, 0, none⟩ = some (.slice (some ⟨b, off, none⟩) n cap) ∧ (w.setCell ⟨rb, 1, none⟩ (.int .i64 (p' : Int))).cell? ⟨rb, 1, none⟩ = some (.int .i64 (p' : Int)) ∧
    (∀ c o, c ≠ rb → (w.setCell ⟨rb, 1, none⟩ (.int .i64 (p' : Int))).cell? ⟨c, o, none⟩ = w.cell? ⟨c, o, none⟩) ∧ Rd (w.setCell ⟨rb, 1, none⟩ (.int .i64 (p' : Int))) rb ∧ w.grownBy (w.setCell ⟨rb, 1, none⟩ (.int .i64 (p' : Int))) (some rb) := by
  have hh : (w.setCell ⟨rb, 1, none⟩ (.int .i64 (p' : Int))).heap[rb]? = some (.cells #[.slice (some ⟨b, off, none⟩) n cap, .int .i64 (p' : Int)] 102 (0, 0)) := by
    simp [World.setCell, Array.getElem?_modify, h]
  have ho : ∀ c, c ≠ rb → (w.setCell ⟨rb, 1, none⟩ (.int .i64 (p' : Int))).heap[c]? = w.heap[c]? := fun c hc => Below.heap_setCell w ⟨rb, 1, none⟩ _ c hc
  refine ⟨by rw [cell_of_row _ rb 0 _ _ _ hh]; rfl, by rw [cell_of_row _ rb 1 _ _ _ hh]; rfl, fun c o hne => World.cell?_of_block (ho c hne), ⟨_, n, cap, p', hn, hp, hh, hc.keep ?_⟩, ⟨rfl, rfl, rfl, by simp [World.setCell], fun k _ hk => ho k (fun e => hk (by rw [e]))⟩⟩
  exact (Below.refl rb w).setCell (p := ⟨rb, 1, none⟩) (Nat.le_refl _) _

set_option maxRecDepth 100000 in
set_option maxHeartbeats 1000000 in
theorem next_any (rb : Nat) (w : World) (h : Rd w rb) :
    Calls Tryz.prog 78 #[.pointer (some ⟨rb, 0, none⟩)] w (RdI rb 0 255 w) := by
  have HR := hide h
  obtain ⟨A, n, cap, p, h1, h2, h3, h4⟩ := h
  have c0 : w.cell? ⟨rb, 0, none⟩ = some (.slice A n cap) := by rw [cell_of_row w rb 0 _ _ _ h3]; rfl
  have c1 : w.cell? ⟨rb, 1, none⟩ = some (.int .i64 (p : Int)) := by rw [cell_of_row w rb 1 _ _ _ h3]; rfl
  have f1 : w.frozen? ⟨rb, 1, none⟩ = false := frozen_of_row w rb 1 _ _ h3
  have H3 := hide h3
  clear h3
  by_cases hp : p < n
  · obtain ⟨b, off, rfl, hlt, hc⟩ := h4 (by omega)
    obtain ⟨z, cz, z1, z2⟩ := hc p hp
    have H4 := hide h4
    have hne : b ≠ rb := by omega
    clear hc h4
    have q1 : IntKind.i64.wrap (p : Int) = (p : Int) := IntWalk.i64_in _ (by omega)
    go_enter Tryz.func78, Tryz.ntmps78
    go_wp2
    go_quiet (fail)
    go_wp2
    have hW := rd_step (w := w.drewN nq) (b := b) (off := off) H3.out (p' := p + 1) (by omega) h1 H4.out
    have e0 : ((w.drewN nq).setCell ⟨rb, 1, none⟩ (.int .i64 ((p : Int) + 1))).cell? ⟨rb, 0, none⟩ = some (.slice (some ⟨b, off, none⟩) n cap) := hW.1
    have e1 : ((w.drewN nq).setCell ⟨rb, 1, none⟩ (.int .i64 ((p : Int) + 1))).cell? ⟨rb, 1, none⟩ = some (.int .i64 ((p : Int) + 1)) := hW.2.1
    have ez : ((w.drewN nq).setCell ⟨rb, 1, none⟩ (.int .i64 ((p : Int) + 1))).cell? ⟨b, off + p, none⟩ = some (.int .u8 z) := (hW.2.2.1 b (off + p) hne).trans cz
    have R2 : Hid (Rd ((w.drewN nq).setCell ⟨rb, 1, none⟩ (.int .i64 ((p : Int) + 1))) rb) := hide hW.2.2.2.1
    have G2 : Hid (w.grownBy ((w.drewN nq).setCell ⟨rb, 1, none⟩ (.int .i64 ((p : Int) + 1))) (some rb)) := hide ⟨hW.2.2.2.2.os, hW.2.2.2.2.tape, hW.2.2.2.2.output, hW.2.2.2.2.size, hW.2.2.2.2.block⟩
    clear hW c0 c1 f1 cz
    generalize (w.drewN nq).setCell ⟨rb, 1, none⟩ (.int .i64 ((p : Int) + 1)) = W2 at *
    go_quiet (fail)
    go_wp2
    go_ret
    exact ⟨z, z1, z2, rfl, R2.out.keep ⟨rfl, rfl, rfl, Nat.le_refl _, fun _ _ => rfl⟩, ⟨G2.out.os, G2.out.tape, G2.out.output, G2.out.size, G2.out.block⟩⟩
  · go_enter Tryz.func78, Tryz.ntmps78
    go_wp2
    go_quiet (fail)
    go_wp2
    go_ret
    exact ⟨0, by omega, by omega, rfl, HR.out.keep ⟨rfl, rfl, rfl, Nat.le_refl _, fun _ _ => rfl⟩, ⟨rfl, rfl, rfl, Nat.le_refl _, fun _ _ _ => rfl⟩⟩

set_option maxRecDepth 100000 in
set_option maxHeartbeats 1000000 in
theorem below_any (rb : Nat) (n : Int) (w : World) (h : Rd w rb) (h1 : 1 ≤ n) (h2 : n ≤ 65536) :
    Calls Tryz.prog 39 #[.pointer (some ⟨rb, 0, none⟩), .int .i64 n] w (RdI rb 0 (n - 1) w) := by
  by_cases hn1 : n ≤ 1
  · have HR := hide h
    clear h
    go_enter Tryz.func39, Tryz.ntmps39
    go_wp2
    go_ret
    exact ⟨0, by omega, by omega, rfl, HR.out, World.grownBy.refl _ _⟩
  · by_cases hn2 : n ≤ 256
    · go_enter Tryz.func39, Tryz.ntmps39
      go_wp2_with fail
      refine (next_any rb w h).mono ?_
      rintro e w1 ⟨x, hx0, hx1, rfl, r1, g1⟩
      have R1 := hide r1
      have G1 := hide g1
      clear r1 g1 h
      have hm1 : 0 ≤ x % n := Int.emod_nonneg _ (by omega)
      have hm2 : x % n < n := Int.emod_lt_of_pos _ (by omega)
      go_wp2
      go_ret
      exact ⟨x % n, hm1, by omega, rfl, R1.out, G1.out⟩
    · go_enter Tryz.func39, Tryz.ntmps39
      go_wp2_with fail
      refine (next_any rb w h).mono ?_
      rintro e w1 ⟨x, hx0, hx1, rfl, r1, g1⟩
      have G1 := hide g1
      clear g1 h
      go_wp2_with fail
      refine (next_any rb w1 r1).mono ?_
      rintro e w2 ⟨y, hy0, hy1, rfl, r2, g2⟩
      have R2 := hide r2
      have G2 := hide (World.grownBy.trans G1.out g2)
      clear r1 r2 g2
      have hm1 : 0 ≤ (x * 256 + y) % n := Int.emod_nonneg _ (by omega)
      have hm2 : (x * 256 + y) % n < n := Int.emod_lt_of_pos _ (by omega)
      go_wp2
      go_ret
      exact ⟨(x * 256 + y) % n, hm1, by omega, rfl, R2.out, G2.out⟩

set_option maxRecDepth 100000 in
set_option maxHeartbeats 1000000 in
theorem once_any (rb : Nat) (n : Int) (w : World) (h : Rd w rb) (h1 : 1 ≤ n) (h2 : n ≤ 65536) :
    Calls Tryz.prog 60 #[.pointer (some ⟨rb, 0, none⟩), .int .i64 n] w (RdB rb w) := by
  go_enter Tryz.func60, Tryz.ntmps60
  go_wp2_with fail
  refine (below_any rb n w h h1 h2).mono ?_
  rintro e w1 ⟨x, hx0, hx1, rfl, r1, g1⟩
  have R1 := hide r1
  have G1 := hide g1
  clear r1 g1 h
  go_wp2
  go_ret
  exact ⟨_, rfl, R1.out, G1.out⟩

theorem big_any (A : Option Addr) (n cap : Nat) (w : World) (hn : n ≤ maxLen) :
    Calls Tryz.prog 8 #[.slice A n cap] w fun e w' => e = .returned (.bool (decide (1048576 < n))) ∧ w = w' := by
  unfold maxLen at hn
  by_cases h : 1048576 < n
  · have d : decide ((1048576 : Int) < (n : Int)) = true := decide_eq_true (by omega)
    go_enter Tryz.func8, Tryz.ntmps8
    go_wp2
    go_ret
    exact ⟨ret_bool (decide_eq_true h).symm, rfl⟩
  · have d : decide ((1048576 : Int) < (n : Int)) = false := decide_eq_false (by omega)
    go_enter Tryz.func8, Tryz.ntmps8
    go_wp2
    go_ret
    exact ⟨ret_bool (decide_eq_false h).symm, rfl⟩
end Go.Proofs.YtdahpnjamlfakaaGreatDoor
/-
  A law's code, opened: bytes that are read.
-/
namespace Go.Proofs.YtdahpnjamlfakaaGreatDoor
open Go.ChangeShapes Go.WideShapes Go.ChangeAt Go.RowKit

section
variable {H : Type} {enc : TypeId × Value → H} {W : World}
theorem open_code {A : Option Addr} {n cap : Nat} {d : DataW H} {p : List MemPlace} (h : DataW.Trod enc Tryz.prog W 0 (fun _ => true) true 22 (.slice A n cap) d p) :
    ∃ m : Nat, n = m ∧ m ≤ maxLen ∧ CIn W W.heap.size A m := by
  obtain ⟨fuel, hf⟩ := h
  rcases open_ints Tryz.underlying22 Tryz.underlying5 (by kernel_rfl) hf with ⟨hcs, _⟩ | ⟨x, l, c, zs, hcs, _, hl, hm, hz, _, hcell, hwz⟩
  · simp [Value.cells] at hcs
    obtain ⟨rfl, rfl, rfl⟩ := hcs
    exact ⟨0, rfl, by simp [maxLen], fun h => absurd h (by omega)⟩
  · simp [Value.cells] at hcs
    obtain ⟨rfl, rfl, rfl⟩ := hcs
    have hz' : zs.length = cap := by simpa using hz
    refine ⟨n, rfl, by omega, fun hn => ?_⟩
    obtain ⟨b, off, spot⟩ := x
    have hc0 := hcell 0 (by omega)
    have hspot : spot = none := by simpa [Addr.add] using World.cell?_spot hc0
    subst hspot
    refine ⟨b, off, rfl, ?_, fun i hi => ?_⟩
    · have := World.block_lt_of_cell? W _ hc0
      simpa [Addr.add] using this
    · have hc := hcell i (by omega)
      rw [add_plain] at hc
      have hw : (Lit.int .u8 (zs.getD i 0)).wf = true := hwz _ (by
        rw [List.getD_eq_getElem?_getD, List.getElem?_eq_getElem (by omega)]
        exact List.getElem_mem _)
      have hx : 0 ≤ zs.getD i 0 ∧ zs.getD i 0 ≤ 255 := by simpa [Lit.wf, IntKind.min, IntKind.max, IntKind.signed, IntKind.bits] using hw
      exact ⟨zs.getD i 0, hc, hx.1, hx.2⟩
end
end Go.Proofs.YtdahpnjamlfakaaGreatDoor
/-
  What hurt makes of a text (loosely: that it is a text, and short).
-/
namespace Go.Proofs.YtdahpnjamlfakaaGreatDoor
open Go.RowKit

def RdT (rb most : Nat) (w : World) (e : Ending) (w' : World) : Prop := ∃ s : ByteArray, s.size ≤ most ∧ e = .returned (.string s) ∧ Rd w' rb ∧ w.grownBy w' (some rb)

theorem four_cell (w : World) (k : Nat) (hk : k < 4) (b : Nat) (hb : w.heap[b]? = some (.cells #[.string ⟨#[0]⟩, .string ⟨#[55]⟩, .string ⟨#[255]⟩, .string ⟨#[32]⟩] 9 (0, 0))) : ∃ a : ByteArray, a.size ≤ 1 ∧ w.cell? ⟨b, k, none⟩ = some (.string a) := by
  rw [cell_of_row w b k _ _ _ hb]
  match k, hk with
  | 0, _ => exact ⟨_, by decide, rfl⟩
  | 1, _ => exact ⟨_, by decide, rfl⟩
  | 2, _ => exact ⟨_, by decide, rfl⟩
  | 3, _ => exact ⟨_, by decide, rfl⟩

end Go.Proofs.YtdahpnjamlfakaaGreatDoor
/-
  What is drawn: texts, objects (loosely: that they are such).
-/
namespace Go.Proofs.YtdahpnjamlfakaaGreatDoor
open Go.RowKit

theorem Own.rd {w w' : World} {rb B : Nat} {A : Option Addr} {cap : Nat} {l : List Pr} (h : Own w B A cap l) (hB : rb < B) (hg : w.grownBy w' (some rb)) : Own w' B A cap l := by
  refine ⟨h.1, h.2.kept hg ?_⟩
  rw [rowOf_own]
  cases e : rowOf A with
  | none => exact .inl rfl
  | some g => exact .inr (fun x => by injection x with x; have := (h.row g e).1; omega)
theorem grown_on {w w2 w3 : World} {rb : Nat} (h : w.grownBy w2 (some rb)) (hb : Below w.heap.size w2 w3) : w.grownBy w3 (some rb) :=
  ⟨hb.os.trans h.os, hb.tape.trans h.tape, hb.output.trans h.output, Nat.le_trans h.size hb.size, fun i hi hn => (hb.block i hi).trans (h.block i hi hn)⟩

set_option maxRecDepth 100000 in
set_option maxHeartbeats 1000000 in
theorem text_any (rb : Nat) (w : World) (h : Rd w rb) :
    Calls Tryz.prog 80 #[.pointer (some ⟨rb, 0, none⟩)] w (RdT rb 12 w) := by
  have r1b := fun o => h.below ((Below.refl _ w).alloc (Nat.le_refl _) o)
  have hlt := h.lt
  have RB := hide r1b
  clear r1b h
  go_enter Tryz.func80, Tryz.ntmps80
  go_wp2_with fail
  refine (below_any rb 5 _ (RB.out _) (by omega) (by omega)).mono ?_
  rintro e w2 ⟨y, hy0, hy1, rfl, r2, g2⟩
  have R2 := hide r2
  have hb2 := (g2.block w.heap.size (by simp) (by simp; omega)).trans (heap_alloc_new w _)
  have G2 := hide (World.grownBy.trans (World.grownBy_alloc w _ _) g2)
  obtain ⟨k, rfl⟩ := Int.eq_ofNat_of_zero_le hy0
  have hk : k < 5 := by omega
  obtain ⟨s, hs, hc⟩ : ∃ s : ByteArray, s.size ≤ 12 ∧ w2.cell? ⟨w.heap.size, k, none⟩ = some (.string s) := by
    rw [cell_of_row w2 w.heap.size k _ _ _ hb2]
    match k, hk with
    | 0, _ => exact ⟨_, by decide, rfl⟩
    | 1, _ => exact ⟨_, by decide, rfl⟩
    | 2, _ => exact ⟨_, by decide, rfl⟩
    | 3, _ => exact ⟨_, by decide, rfl⟩
    | 4, _ => exact ⟨_, by decide, rfl⟩
  clear r2 g2 hb2 RB
  go_wp2
  go_ret
  exact ⟨s, hs, rfl, R2.out, G2.out⟩

/-- drawn objects -/
def RdO (rb : Nat) (w : World) (e : Ending) (w' : World) : Prop := ∃ A cap l, l.length ≤ cap ∧ l.length ≤ 60 ∧ e = .returned (.slice A l.length cap) ∧ Own w' w.heap.size A cap l ∧ Rd w' rb ∧ w.grownBy w' (some rb)
/-- a row whose first text is another one -/
theorem own_text {w : World} {B g cap : Nat} {l : List Pr} (h : Own w B (some ⟨g, 0, none⟩) cap l) (h0 : 0 < l.length) {t : ByteArray} (ht : t.size ≤ maxLen) :
    Own (w.setCell ⟨g, 1, none⟩ (.string t)) B (some ⟨g, 0, none⟩) cap (l.set 0 ((l[0]'h0).1, t)) := by
  have e2 : (pcells l).set 1 (.string t) = pcells (l.set 0 ((l[0]'h0).1, t)) := by
    rw [← pcells_set l 0 (l[0]'h0).1 t]
    have := (pcells_get l 0 h0).1
    apply List.ext_getElem?
    intro j
    by_cases hj : j = 1
    · subst hj
      rw [List.getElem?_set_self (by rw [pcells_length]; omega), List.getElem?_set_self (by rw [List.length_set, pcells_length]; omega)]
    · rw [List.getElem?_set_ne (by omega), List.getElem?_set_ne (i := 0 * 2 + 1) (by omega)]
      by_cases hj0 : j = 0
      · subst hj0
        rw [List.getElem?_set_self (by rw [pcells_length]; omega)]
        exact this
      · rw [List.getElem?_set_ne (by omega)]
  have S := (h.2.stored 1 (.string t)).1
  rw [e2] at S
  refine ⟨?_, by rw [List.length_set]; exact S⟩
  intro i hi
  rw [List.length_set] at hi
  rw [List.getElem_set]
  split
  · exact ⟨(h.1 0 h0).1, ht⟩
  · exact h.1 i hi

/-- drawn objects, at a draw's end -/
def DrawnO (w : World) (e : Ending) (w' : World) : Prop := ∃ A cap l, l.length ≤ cap ∧ l.length ≤ 61 ∧ e = .returned (.slice A l.length cap) ∧ Own w' w.heap.size A cap l ∧ Below w.heap.size w w'
def DrawnOS (w : World) (e : Ending) (w' : World) : Prop := ∃ A cap l t, l.length ≤ cap ∧ l.length ≤ 60 ∧ t.size ≤ 16 ∧ e = .returned (.tuple #[.slice A l.length cap, .string t]) ∧ Own w' w.heap.size A cap l ∧ Below w.heap.size w w'
def DrawnOO (w : World) (e : Ending) (w' : World) : Prop := ∃ A cap l A' cap' l', l.length ≤ cap ∧ l.length ≤ 60 ∧ l'.length ≤ cap' ∧ l'.length ≤ 60 ∧ e = .returned (.tuple #[.slice A l.length cap, .slice A' l'.length cap']) ∧ Own w' w.heap.size A cap l ∧ Own w' w.heap.size A' cap' l' ∧ Below w.heap.size w w'

theorem four_texts (w : World) (k : Nat) (hk : k < 4) (b : Nat) (hb : w.heap[b]? = some (.cells #[.string ⟨#[97]⟩, .string ⟨#[98]⟩, .string ⟨#[110, 101, 119]⟩, .string ⟨#[]⟩] 9 (0, 0))) : ∃ a : ByteArray, a.size ≤ 16 ∧ w.cell? ⟨b, k, none⟩ = some (.string a) := by
  rw [cell_of_row w b k _ _ _ hb]
  match k, hk with
  | 0, _ => exact ⟨_, by decide, rfl⟩
  | 1, _ => exact ⟨_, by decide, rfl⟩
  | 2, _ => exact ⟨_, by decide, rfl⟩
  | 3, _ => exact ⟨_, by decide, rfl⟩

end Go.Proofs.YtdahpnjamlfakaaGreatDoor
/-
  Where a key stands: strings.Compare, the closure that compares, slices.BinarySearchFunc at pairs, place; spec.l1At.
-/
namespace Go.Proofs.YtdahpnjamlfakaaGreatDoor.M
open Go.RowKit
/-- what a search has left open: all ahead of lo are less, none from hi on is -/
def Open (l : List Pr) (k : ByteArray) (lo hi : Nat) : Prop := (∀ t (h : t < l.length), t < lo → ltB l[t].1 k = true) ∧ ∀ t (h : t < l.length), hi ≤ t → ltB l[t].1 k = false
theorem Open.low {l : List Pr} {k : ByteArray} {lo hi m : Nat} (h : Open l k lo hi) (hr : risesTo l l.length) (hm : m < l.length) (hc : cmpS l[m].1 k < 0) : Open l k (m + 1) hi := by
  refine ⟨fun t ht hlt => ?_, h.2⟩
  have hc := cmpS_lt.1 hc
  rcases Nat.lt_or_ge t m with g | g
  · exact ltB_trans (rises_lt hr m hm t g) hc
  · obtain rfl : t = m := by omega
    exact hc
theorem Open.high {l : List Pr} {k : ByteArray} {lo hi m : Nat} (h : Open l k lo hi) (hr : risesTo l l.length) (hm : m < l.length) (hc : ¬ cmpS l[m].1 k < 0) : Open l k lo m := by
  refine ⟨h.1, fun t ht hlt => ?_⟩
  have hc : ltB l[m].1 k = false := by
    cases e : ltB l[m].1 k
    · rfl
    · exact absurd (cmpS_lt.2 e) hc
  cases e : ltB l[t].1 k
  · rfl
  · rcases Nat.lt_or_ge m t with g | g
    · rw [ltB_trans (rises_lt hr t ht m g) e] at hc
      cases hc
    · obtain rfl : t = m := by omega
      rw [e] at hc
      cases hc
theorem Open.at_ {l : List Pr} {k : ByteArray} {n : Nat} (h : Open l k n n) (hn : n ≤ l.length) : atN l k = n := atN_eq hn h.1 (fun h' => h.2 n h' (Nat.le_refl _))

set_option maxRecDepth 100000 in
set_option maxHeartbeats 1000000 in
theorem l1At_any (A : Option Addr) (l : List Pr) (cap : Nat) (key : ByteArray) (w : World) (B : Nat) (hl : l.length ≤ maxLen) (hin : PIn w B A l) :
    Calls Tryz.prog 163 #[.slice A l.length cap, .string key] w fun e w' => e = .returned (.int .i64 (atN l key : Nat)) ∧ w = w' := by
  unfold maxLen at hl
  generalize hn : l.length = n at *
  have HN := hide hn
  clear hn
  go_enter Tryz.func163, Tryz.ntmps163
  go_wp2
  go_loop [5] (fun i => ∃ k : Nat, k ≤ n ∧ i = .int .i64 k ∧ Hid (∀ t (h : t < l.length), t < k → ltB l[t].1 key = true)) (fun i => n - (intOf i).toNat)
  case atStart => exact ⟨0, Nat.zero_le _, rfl, hide fun t _ h => absurd h (by omega)⟩
  case round =>
    obtain ⟨k, hk, rfl, H⟩ := hrel
    by_cases hlt : k < n
    · have hkl : k < l.length := by rw [HN.out]; omega
      obtain ⟨b, off, rfl, hbB, hc⟩ := hin.2 (by omega)
      obtain ⟨c1, _⟩ := hc k hkl
      cases hs : ltB (l[k]'hkl).1 key
      · have E : Hid (atN l key = k) := hide (atN_eq (by omega) H.out (fun _ => hs))
        have hs2 : Op.bytesLess (l[k]'hkl).1.toList key.toList = false := hs
        generalize (l[k]'hkl).1 = s at *
        clear hin hc hs
        go_wp2
        go_ret
        exact ⟨ret_int (by rw [E.out]), rfl⟩
      · have Z : Hid (∀ t (h : t < l.length), t < k + 1 → ltB l[t].1 key = true) := hide (fun t h h' => by
          rcases Nat.lt_or_ge t k with g | g
          · exact H.out t h g
          · obtain rfl : t = k := by omega
            exact hs)
        have hs2 : Op.bytesLess (l[k]'hkl).1.toList key.toList = true := hs
        generalize (l[k]'hkl).1 = s at *
        clear hin hc hs
        go_wp2
        go_round
        case rel => exact ⟨k + 1, by omega, by go_num, Z⟩
        case measure => simp [intOf]; omega
    · obtain rfl : k = n := by omega
      have E : Hid (atN l key = k) := hide (atN_eq (by rw [HN.out]; exact Nat.le_refl _) H.out (fun h => absurd h (by rw [HN.out]; omega)))
      have hk2 : ¬ (k : Int) < (k : Int) := by omega
      clear hlt
      go_wp2
      go_ret
      exact ⟨ret_int (by rw [E.out]), rfl⟩
end Go.Proofs.YtdahpnjamlfakaaGreatDoor.M
/-
  What Get tells, in the reference and in the program.
-/
namespace Go.Proofs.YtdahpnjamlfakaaGreatDoor.M
open Go.RowKit

set_option maxRecDepth 100000 in
set_option maxHeartbeats 1000000 in
theorem l1Get_any (A : Option Addr) (l : List Pr) (cap : Nat) (key : ByteArray) (w : World) (B : Nat) (hl : l.length ≤ maxLen) (hin : PIn w B A l) :
    Calls Tryz.prog 181 #[.slice A l.length cap, .string key] w fun e w' => e = .returned (.tuple #[.string (valOf l key), .bool (hasB l key)]) ∧ w = w' := by
  have R := hide (l1At_any A l cap key w B hl hin)
  have hle := atN_le l key
  unfold maxLen at hl
  by_cases hlt : atN l key < l.length
  · obtain ⟨b, off, rfl, hbB, hc⟩ := hin.2 (by omega)
    obtain ⟨c1, c2⟩ := hc (atN l key) hlt
    have ne : ((atN l key : Int) == (l.length : Int)) = false := by rw [beq_eq_false_iff_ne]; omega
    by_cases he : (l[atN l key]'hlt).1 = key
    · have Z := hide (ret_sb (valOf_yes hlt he) (hasB_yes hlt he))
      have d1 := eqS_yes he
      generalize (l[atN l key]'hlt).1 = s at *
      generalize (l[atN l key]'hlt).2 = v at *
      generalize atN l key = m at *
      clear hin hc he
      generalize l.length = n at *
      go_enter Tryz.func181, Tryz.ntmps181
      go_wp2_with (go_at_call 163; refine R.out.mono ?_; rintro e w' ⟨rfl, rfl⟩)
      go_ret2
      exact ⟨Z.out.symm, rfl⟩
    · have Z := hide (ret_sb (valOf_no (hasB_no hlt he)) (hasB_no hlt he))
      have d1 := eqS_no he
      generalize (l[atN l key]'hlt).1 = s at *
      generalize (l[atN l key]'hlt).2 = v at *
      generalize atN l key = m at *
      clear hin hc he
      generalize l.length = n at *
      go_enter Tryz.func181, Tryz.ntmps181
      go_wp2_with (go_at_call 163; refine R.out.mono ?_; rintro e w' ⟨rfl, rfl⟩)
      go_ret2
      exact ⟨Z.out.symm, rfl⟩
  · have Z := hide (ret_sb (valOf_no (hasB_end hlt)) (hasB_end hlt))
    have ne : ((atN l key : Int) == (l.length : Int)) = true := by rw [beq_iff_eq]; omega
    generalize atN l key = m at *
    clear hin
    generalize l.length = n at *
    go_enter Tryz.func181, Tryz.ntmps181
    go_wp2_with (go_at_call 163; refine R.out.mono ?_; rintro e w' ⟨rfl, rfl⟩)
    go_ret2
    exact ⟨Z.out.symm, rfl⟩

theorem getB_no {l : List Pr} {k : ByteArray} (h : mapB l = false) : getB l k = false := by unfold getB; rw [h]; rfl
theorem getB_yes {l : List Pr} {k : ByteArray} (h : mapB l = true) : getB l k = hasB l k := by unfold getB; rw [h]; rfl
theorem getV_no {l : List Pr} {k : ByteArray} (h : mapB l = false) : getV l k = ByteArray.empty := by unfold getV; rw [h]; rfl
theorem getV_yes {l : List Pr} {k : ByteArray} (h : mapB l = true) : getV l k = valOf l k := by unfold getV; rw [h]; rfl

set_option maxRecDepth 100000 in
set_option maxHeartbeats 1000000 in
theorem specGet_any (A : Option Addr) (l : List Pr) (cap : Nat) (key : ByteArray) (w : World) (B : Nat) (hl : l.length ≤ maxLen) (hin : PIn w B A l) :
    Calls Tryz.prog 161 #[.slice A l.length cap, .string key] w fun e w' => e = .returned (.tuple #[.string (getV l key), .bool (getB l key)]) ∧ Quiet w w' := by
  cases hm : mapB l
  · have Z := hide (ret_sb (getV_no (k := key) hm) (getB_no (k := key) hm))
    go_enter Tryz.func161, Tryz.ntmps161
    go_wp2_with (go_at_call 53; refine (specMapOk_any A l cap _ B hl hin).mono ?_; rintro e w' ⟨rfl, q⟩)
    go_ret2
    exact ⟨Z.out.symm, q⟩
  · have Z := hide (ret_sb (getV_yes (k := key) hm) (getB_yes (k := key) hm))
    go_enter Tryz.func161, Tryz.ntmps161
    go_wp2_with (first | (go_at_call 53; refine (specMapOk_any A l cap _ B hl hin).mono ?_; rintro e w' ⟨rfl, q⟩) | (go_at_call 181; refine (l1Get_any A l cap key _ B hl (hin.quiet q)).mono ?_; rintro e w'' ⟨rfl, rfl⟩))
    go_ret2
    exact ⟨Z.out.symm, q⟩

end Go.Proofs.YtdahpnjamlfakaaGreatDoor.M
/-
  Lists of pairs made out of others, in the reference: l1Drop, l1Set.
-/
namespace Go.Proofs.YtdahpnjamlfakaaGreatDoor.M
open Go.RowKit

theorem eraseD_eq (l : List Pr) (k : Nat) : ([] ++ l.take k) ++ l.drop (k + 1) = l.eraseIdx k := by rw [List.nil_append, List.eraseIdx_eq_take_drop_succ]
/-- without the key -/
def delL (l : List Pr) (k : ByteArray) : List Pr := if hasB l k = true then l.eraseIdx (atN l k) else l
set_option maxRecDepth 100000 in
set_option maxHeartbeats 1000000 in
theorem l1Drop_any (A : Option Addr) (l : List Pr) (cap : Nat) (k : ByteArray) (w : World) (hl : l.length ≤ 1200000) (hc : l.length ≤ cap) (hin : PIn w w.heap.size A l) :
    Calls Tryz.prog 162 #[.slice A l.length cap, .string k] w (RetOwn w.heap.size (delL l k) w) := by
  have R := hide (l1At_any A l cap k w w.heap.size (by unfold maxLen; omega) hin)
  have hle := atN_le l k
  cases hh : hasB l k
  · have HD : Hid ([] ++ l = delL l k) := hide (by unfold delL; rw [hh]; simp)
    by_cases hlt : atN l k < l.length
    · obtain ⟨b, off, rfl, hbB, hcc⟩ := hin.2 (by omega)
      obtain ⟨c1, c2⟩ := hcc (atN l k) hlt
      have ne : ((atN l k : Int) == (l.length : Int)) = false := by rw [beq_eq_false_iff_ne]; omega
      have he : ¬ (l[atN l k]'hlt).1 = k := fun e => by rw [hasB_yes hlt e] at hh; cases hh
      have d1 := eqS_no he
      generalize (l[atN l k]'hlt).1 = s at *
      generalize (l[atN l k]'hlt).2 = v at *
      generalize atN l k = m at *
      have IN := hide hin
      clear hcc he hin
      generalize hnn : l.length = n at *
      have HNN := hide hnn
      clear hnn
      go_enter Tryz.func162, Tryz.ntmps162
      go_wp2_with (first
        | (go_at_call 163; refine R.out.mono ?_; rintro e w' ⟨rfl, rfl⟩)
        | (at_builtin; refine wpList_app 36 Tryz.underlying36 rfl (.tmp 22) (.tmp 23) rfl rfl rfl rfl HNN.out.symm (Own.built w w.heap.size (Nat.le_refl _)) (IN.out.below ((Below.refl _ _).alloc (Nat.le_refl _) _)) (by simp) (by rw [HNN.out]; simp; omega) ?_; intro A3 cap3 w3 own3 g3 r3; have b3 := hide (((Below.refl _ w).alloc (Nat.le_refl _) _).trans ((Own.built w w.heap.size (Nat.le_refl _)).grownBelow (by rw [rowOf_own]; exact g3) (by simp))); have O3 := hide own3; clear own3 g3))
      go_ret
      have O4 := O3.out
      rw [HD.out] at O4
      exact ⟨A3, cap3, O4.cap_le, by rw [← HD.out]; simp, O4, b3.out⟩
    · have ne : ((atN l k : Int) == (l.length : Int)) = true := by rw [beq_iff_eq]; omega
      generalize atN l k = m at *
      have IN := hide hin
      clear hin
      generalize hnn : l.length = n at *
      have HNN := hide hnn
      clear hnn
      go_enter Tryz.func162, Tryz.ntmps162
      go_wp2_with (first
        | (go_at_call 163; refine R.out.mono ?_; rintro e w' ⟨rfl, rfl⟩)
        | (at_builtin; refine wpList_app 36 Tryz.underlying36 rfl (.tmp 22) (.tmp 23) rfl rfl rfl rfl HNN.out.symm (Own.built w w.heap.size (Nat.le_refl _)) (IN.out.below ((Below.refl _ _).alloc (Nat.le_refl _) _)) (by simp) (by rw [HNN.out]; simp; omega) ?_; intro A3 cap3 w3 own3 g3 r3; have b3 := hide (((Below.refl _ w).alloc (Nat.le_refl _) _).trans ((Own.built w w.heap.size (Nat.le_refl _)).grownBelow (by rw [rowOf_own]; exact g3) (by simp))); have O3 := hide own3; clear own3 g3))
      go_ret
      have O4 := O3.out
      rw [HD.out] at O4
      exact ⟨A3, cap3, O4.cap_le, by rw [← HD.out]; simp, O4, b3.out⟩
  · obtain ⟨hlt, he⟩ := hasB_iff.1 hh
    have HD : Hid (([] ++ l.take (atN l k)) ++ l.drop (atN l k + 1) = delL l k) := hide (by unfold delL; rw [if_pos hh]; exact eraseD_eq l _)
    obtain ⟨b, off, rfl, hbB, hcc⟩ := hin.2 (by omega)
    obtain ⟨c1, c2⟩ := hcc (atN l k) hlt
    have ne : ((atN l k : Int) == (l.length : Int)) = false := by rw [beq_eq_false_iff_ne]; omega
    have d1 := eqS_yes he
    have K1 := run_cut_h 36 Tryz.underlying36 (some ⟨b, off, none⟩) l.length cap (atN l k) (by omega)
    have K2 := run_cut_l 36 Tryz.underlying36 (some ⟨b, off, none⟩) l.length cap (atN l k + 1) (by omega)
    rw [show ((atN l k + 1 : Nat) : Int) = (atN l k : Int) + 1 by omega] at K2
    have IN1 := hide (hin.take cap (atN l k))
    have IN2 := hide (hin.drop hc (atN l k + 1))
    have E1 := hide (show (l.take (atN l k)).length = atN l k by rw [List.length_take]; omega)
    have E2 := hide (show (l.drop (atN l k + 1)).length = l.length - (atN l k + 1) by rw [List.length_drop])
    generalize (l[atN l k]'hlt).1 = s at *
    generalize (l[atN l k]'hlt).2 = v at *
    clear hcc he hin
    generalize l.take (atN l k) = la at *
    generalize l.drop (atN l k + 1) = lb at *
    generalize atN l k = m at *
    generalize hnn : l.length = n at *
    have HNN := hide hnn
    clear hnn
    have q1 : IntKind.i64.wrap ((m : Int) + 1) = (m : Int) + 1 := IntWalk.i64_in _ (by omega)
    go_enter Tryz.func162, Tryz.ntmps162
    go_wp2_with (go_at_call 163; refine R.out.mono ?_; rintro e w' ⟨rfl, rfl⟩)
    have O1 := hide (Own.built w w.heap.size (Nat.le_refl _)).drew
    have B1 := hide (((Below.refl w.heap.size w).alloc (Nat.le_refl _) (.cells #[] 109)).drew)
    have IN1b := hide (IN1.out.below B1.out)
    go_region_law (first
      | (refine step_app (n := 0) (m := m) (A := some ⟨w.heap.size, 0, none⟩) (cap := 0) (A' := cutA (some ⟨b, off, none⟩) cap 0) (c := cap) 36 Tryz.underlying36 rfl (.tmp 25) (.tmp 28) rfl (by simp [Act.eval]) (by simp [Act.eval]) rfl E1.out.symm O1.out IN1b.out B1.out.size (by rw [E1.out]; simp; omega) ?_; intro A3 cap3 w3 own3 g3 r3; have B3 := hide (B1.out.trans (O1.out.grownBelow (by rw [rowOf_own]; exact g3) B1.out.size)); have O3 := hide own3; clear own3 g3)
      | (refine step_app (n := la.length) (m := n - (m + 1)) (A := A3) (cap := cap3) (A' := cutA (some ⟨b, off, none⟩) cap (m + 1)) (c := cap - (m + 1)) 36 Tryz.underlying36 rfl (.tmp 29) (.tmp 33) rfl (by simp [Act.eval]) (by simp [Act.eval]) (by simp) E2.out.symm O3.out (IN2.out.below B3.out) B3.out.size (by rw [List.length_append, E1.out, E2.out]; simp; omega) ?_; intro A4 cap4 w4 own4 g4 r4; have B4 := hide (B3.out.trans (O3.out.grownBelow (by rw [rowOf_own]; exact g4) B3.out.size)); have O4 := hide own4; clear own4 g4))
    all_goals
      go_wp2
      go_ret
      have O5 := O4.out
      rw [HD.out] at O5
      have hlen : (delL l k).length = la.length + lb.length := by rw [← HD.out]; simp
      exact ⟨A4, cap4, O5.cap_le, by rw [hlen]; rfl, O5, B4.out⟩

/-- what l1Set makes -/
def setS (l : List Pr) (k v : ByteArray) : List Pr := (delL l k).take (atN (delL l k) k) ++ (k, v) :: (delL l k).drop (atN (delL l k) k)
theorem setS_eq (l : List Pr) (k v : ByteArray) : (([] ++ (delL l k).take (atN (delL l k) k)) ++ [(k, v)]) ++ (delL l k).drop (atN (delL l k) k) = setS l k v := by unfold setS; simp
theorem delL_len (l : List Pr) (k : ByteArray) : (delL l k).length ≤ l.length := by
  unfold delL
  split
  · rw [List.length_eraseIdx]; split <;> omega
  · exact Nat.le_refl _

set_option maxRecDepth 100000 in
set_option maxHeartbeats 1000000 in
theorem l1Set_any (A : Option Addr) (l : List Pr) (cap : Nat) (k v : ByteArray) (w : World) (hl : l.length ≤ 1200000) (hc : l.length ≤ cap) (hin : PIn w w.heap.size A l) (hks : k.size ≤ maxLen) (hvs : v.size ≤ maxLen) :
    Calls Tryz.prog 123 #[.slice A l.length cap, .string k, .string v] w (RetOwn w.heap.size (setS l k v) w) := by
  have HM := hide (setS_eq l k v)
  have hdl := delL_len l k
  go_enter Tryz.func123, Tryz.ntmps123
  go_wp2_with fail
  refine (l1Drop_any A l cap k w hl hc hin).mono ?_
  rintro e w1 ⟨A1, cap1, hc1, rfl, own1, b1⟩
  have B1 := hide b1
  have in1 := own1.pin
  clear b1 own1 hin
  generalize delL l k = d at *
  go_wp2_with fail
  refine (l1At_any A1 d cap1 k w1 w1.heap.size (by unfold maxLen; omega) in1).mono ?_
  rintro e w1' ⟨rfl, rfl⟩
  have hle := atN_le d k
  have K1 := run_cut_h 36 Tryz.underlying36 A1 d.length cap1 (atN d k) (by omega)
  have K2 := run_cut_l 36 Tryz.underlying36 A1 d.length cap1 (atN d k) (by omega)
  have IN1 := hide (in1.take cap1 (atN d k))
  have IN2 := hide (in1.drop hc1 (atN d k))
  have E1 := hide (show (d.take (atN d k)).length = atN d k by rw [List.length_take]; omega)
  have E2 := hide (show (d.drop (atN d k)).length = d.length - atN d k by rw [List.length_drop])
  have O1 := hide (Own.built w1 w1.heap.size (Nat.le_refl _))
  have B2 := hide ((Below.refl w1.heap.size w1).alloc (Nat.le_refl _) (.cells #[] 109))
  have IN1b := hide (IN1.out.below B2.out)
  clear in1
  generalize d.take (atN d k) = la at *
  generalize d.drop (atN d k) = lb at *
  generalize atN d k = m at *
  generalize hnn : d.length = n at *
  have HNN := hide hnn
  clear hnn
  go_wp2_with (first
    | (at_builtin; refine wpList_app 36 Tryz.underlying36 rfl (.tmp 16) (.tmp 19) rfl rfl rfl rfl E1.out.symm O1.out IN1b.out B2.out.size (by rw [E1.out]; simp; omega) ?_; intro A3 cap3 w3 own3 g3 r3; have b3 := O1.out.grownBelow (by rw [rowOf_own]; exact g3) B2.out.size; have B3 := hide (B2.out.trans b3); have O3 := hide own3; have IN3 := hide (IN2.out.below B3.out); clear own3 g3 b3)
    | (at_builtin; refine wpList_app 36 Tryz.underlying36 rfl (.tmp 21) (.tmp 25) rfl rfl rfl (by simp) rfl (O3.out.alloc _) (PIn.one w3 k v hks hvs _) (Nat.le_trans B3.out.size (by simp)) (by rw [List.length_append, E1.out]; simp; omega) ?_; intro A4 cap4 w4 own4 g4 r4; have b4 := (O3.out.alloc (.cells #[.string k, .string v] 109)).grownBelow (by rw [rowOf_own]; exact g4) (Nat.le_trans B3.out.size (by simp)); have b4' := ((Below.refl w1.heap.size w3).alloc B3.out.size (.cells #[.string k, .string v] 109)).trans b4; have B4 := hide (B3.out.trans b4'); have O4 := hide own4; have IN4 := hide (IN3.out.below b4'); clear own4 g4 b4 b4')
    | (at_builtin; refine wpList_app 36 Tryz.underlying36 rfl (.tmp 27) (.tmp 30) rfl rfl rfl (by simp) E2.out.symm O4.out IN4.out B4.out.size (by rw [List.length_append, List.length_append, E1.out, E2.out]; simp; omega) ?_; intro A5 cap5 w5 own5 g5 r5; have b5 := O4.out.grownBelow (by rw [rowOf_own]; exact g5) B4.out.size; have B5 := hide (B4.out.trans b5); have O5 := hide own5; clear own5 g5 b5))
  go_ret
  have O6 := O5.out
  rw [HM.out] at O6
  exact ⟨A5, cap5, O6.cap_le, by rw [← HM.out]; simp, O6.more B1.out.size, B1.out.trans (B5.out.mono B1.out.size)⟩
end Go.Proofs.YtdahpnjamlfakaaGreatDoor.M
/-
  What Put and Drop answer, in the reference and in the program.
-/
namespace Go.Proofs.YtdahpnjamlfakaaGreatDoor.M
open Go.RowKit

theorem setS_setL {l : List Pr} (hr : risesTo l l.length) (k v : ByteArray) : setS l k v = setL l k v := by
  unfold setS setL
  cases hh : hasB l k
  · have hd : delL l k = l := by unfold delL; rw [hh]; simp
    rw [hd]
    simp
  · obtain ⟨hlt, he⟩ := hasB_iff.1 hh
    have hd : delL l k = l.eraseIdx (atN l k) := by unfold delL; rw [if_pos hh]
    have hel : (l.eraseIdx (atN l k)).length = l.length - 1 := by rw [List.length_eraseIdx, if_pos hlt]
    have ha : atN (l.eraseIdx (atN l k)) k = atN l k := by
      refine atN_eq (by omega) (fun i hi hik => ?_) (fun h => ?_)
      · rw [List.getElem_eraseIdx_of_lt (by omega) hik]
        exact atN_lt l k i hik (by omega)
      · rw [List.getElem_eraseIdx_of_ge (by omega) (Nat.le_refl _)]
        have h1 : atN l k + 1 < l.length := by omega
        have h2 := hr (atN l k) h1 h1
        rw [he] at h2
        exact ltB_asymm h2
    rw [hd, ha, List.eraseIdx_eq_take_drop_succ]
    have ht : (l.take (atN l k)).length = atN l k := by rw [List.length_take]; omega
    rw [List.take_append_of_le_length (by omega), List.take_take, Nat.min_self, List.drop_append_of_le_length (by omega), List.drop_of_length_le (by omega)]
    simp

noncomputable def putB (l : List Pr) (k v : ByteArray) : Bool := mapB l && mapB (setL l k v)
noncomputable def putL (l : List Pr) (k v : ByteArray) : List Pr := if putB l k v = true then setL l k v else []
noncomputable def dropL (l : List Pr) (k : ByteArray) : List Pr := if getB l k = true then l.eraseIdx (atN l k) else []
theorem mem_setL (l : List Pr) (k v : ByteArray) : ∃ h : atN l k < (setL l k v).length, (setL l k v)[atN l k] = (k, v) := by
  have hle := atN_le l k
  have ht : (l.take (atN l k)).length = atN l k := by rw [List.length_take]; omega
  refine ⟨by unfold setL; rw [List.length_append, ht]; simp, ?_⟩
  unfold setL
  rw [List.getElem_append_right (by omega)]
  simp [ht]
theorem putB_bad {l : List Pr} {k v : ByteArray} (h : keyB k = false ∨ valB v = false) : mapB (setL l k v) = false := by
  obtain ⟨hlt, he⟩ := mem_setL l k v
  rcases h with h | h
  · exact mapB_key hlt (by rw [he]; exact h)
  · exact mapB_val hlt (by rw [he]; exact h)
theorem putB_no {l : List Pr} {k v : ByteArray} (h : mapB l = false) : putB l k v = false := by unfold putB; rw [h]; rfl
theorem putB_no2 {l : List Pr} {k v : ByteArray} (h : mapB (setL l k v) = false) : putB l k v = false := by unfold putB; rw [h, Bool.and_false]
theorem putB_yes {l : List Pr} {k v : ByteArray} (h : mapB l = true) (h' : mapB (setL l k v) = true) : putB l k v = true := by unfold putB; rw [h, h']; rfl
theorem putL_no {l : List Pr} {k v : ByteArray} (h : putB l k v = false) : putL l k v = [] := by unfold putL; rw [h]; rfl
theorem putL_yes {l : List Pr} {k v : ByteArray} (h : putB l k v = true) : putL l k v = setL l k v := by unfold putL; rw [h]; rfl
theorem dropL_no {l : List Pr} {k : ByteArray} (h : getB l k = false) : dropL l k = [] := by unfold dropL; rw [h]; rfl
theorem dropL_yes {l : List Pr} {k : ByteArray} (h : getB l k = true) : dropL l k = l.eraseIdx (atN l k) := by unfold dropL; rw [h]; rfl
theorem setL_len (l : List Pr) (k v : ByteArray) : (setL l k v).length ≤ l.length + 1 := by
  have hle := atN_le l k
  unfold setL
  rw [List.length_append, List.length_take, List.length_cons, List.length_drop]
  split <;> omega

set_option maxRecDepth 100000 in
set_option maxHeartbeats 1000000 in
theorem specPut_any (A : Option Addr) (l : List Pr) (cap : Nat) (k v : ByteArray) (w : World) (hl : l.length ≤ maxLen) (hc : l.length ≤ cap) (hin : PIn w w.heap.size A l) (hks : k.size ≤ maxLen) (hvs : v.size ≤ maxLen) :
    Calls Tryz.prog 81 #[.slice A l.length cap, .string k, .string v] w (RetOwnB w.heap.size (putL l k v) (putB l k v) w) := by
  have R := hide (specMapOk_any A l cap w _ hl hin)
  cases hm : mapB l
  · have Z := hide (putB_no (k := k) (v := v) hm)
    go_enter Tryz.func81, Tryz.ntmps81
    go_wp2_with (go_at_call 53; refine R.out.mono ?_; rintro e w' ⟨rfl, q⟩)
    go_ret2
    exact retOwnB_no (putL_no Z.out) Z.out (q.below _)
  · cases hk : keyB k
    · have Z := hide (putB_no2 (putB_bad (l := l) (k := k) (v := v) (.inl hk)))
      go_enter Tryz.func81, Tryz.ntmps81
      go_wp2_with (first | (go_at_call 53; refine R.out.mono ?_; rintro e w' ⟨rfl, q⟩) | (go_at_call 99; refine (l1Key_any k _ hks).mono ?_; rintro e w'' ⟨rfl, rfl⟩))
      go_ret2
      exact retOwnB_no (putL_no Z.out) Z.out (q.below _)
    · cases hv : valB v
      · have Z := hide (putB_no2 (putB_bad (l := l) (k := k) (v := v) (.inr hv)))
        have hv2 : plainB v 12 = false := hv
        clear hv
        go_enter Tryz.func81, Tryz.ntmps81
        go_wp2_with (first | (go_at_call 53; refine R.out.mono ?_; rintro e w' ⟨rfl, q⟩) | (go_at_call 99; refine (l1Key_any k _ hks).mono ?_; rintro e w'' ⟨rfl, rfl⟩) | (go_at_call 100; refine (l1Plain_any v 12 _ hvs).mono ?_; rintro e w'' ⟨rfl, rfl⟩))
        go_ret2
        exact retOwnB_no (putL_no Z.out) Z.out (q.below _)
      · have h40 := (mapB_iff.1 hm).1
        have HS := hide (setS_setL (mapB_iff.1 hm).2.2 k v)
        have hsl := setL_len l k v
        have hv2 : plainB v 12 = true := hv
        clear hv
        go_enter Tryz.func81, Tryz.ntmps81
        go_wp2_with (first | (go_at_call 53; refine R.out.mono ?_; rintro e w1 ⟨rfl, q1⟩) | (go_at_call 99; refine (l1Key_any k _ hks).mono ?_; rintro e w'' ⟨rfl, rfl⟩) | (go_at_call 100; refine (l1Plain_any v 12 _ hvs).mono ?_; rintro e w'' ⟨rfl, rfl⟩))
        have in1 := (hin.quiet q1).more (B' := w1.heap.size) (by rw [q1.heap]; exact Nat.le_refl _)
        refine (l1Set_any A l cap k v w1 (by omega) hc in1 hks hvs).mono ?_
        rintro e w2 ⟨A2, cap2, hc2, rfl, own2, b2⟩
        rw [HS.out] at hc2 own2 ⊢
        have in2 := own2.pin
        go_wp2_with fail
        refine (specMapOk_any A2 (setL l k v) cap2 w2 _ (by unfold maxLen; omega) in2).mono ?_
        rintro e w3 ⟨rfl, q3⟩
        have B3 := hide (((q1.below w.heap.size).trans (b2.mono (by rw [q1.heap]; exact Nat.le_refl _))).trans (q3.below _))
        have O3 := hide ((own2.below (q3.below _)).more (B' := w.heap.size) (by rw [q1.heap]; exact Nat.le_refl _))
        clear in1 in2 own2 b2 q3 R
        cases hm2 : mapB (setL l k v)
        · have Z := hide (putB_no2 (l := l) (k := k) (v := v) hm2)
          go_wp2
          go_ret2
          exact retOwnB_no (putL_no Z.out) Z.out B3.out
        · have Z := hide (putB_yes hm hm2)
          go_wp2
          go_ret2
          refine ⟨A2, cap2, ?_, ?_, ?_, B3.out⟩
          · rw [putL_yes Z.out]; exact hc2
          · rw [putL_yes Z.out, Z.out]; rfl
          · rw [putL_yes Z.out]; exact O3.out
end Go.Proofs.YtdahpnjamlfakaaGreatDoor.M
/-
  What Drop answers, in the reference and in the program; rows that lie apart.
-/
namespace Go.Proofs.YtdahpnjamlfakaaGreatDoor.M
open Go.RowKit

theorem putL_len (l : List Pr) (k v : ByteArray) : (putL l k v).length ≤ 40 := by
  cases e : putB l k v
  · rw [putL_no e]; simp
  · rw [putL_yes e]
    have : mapB (setL l k v) = true := by
      cases h : mapB (setL l k v)
      · rw [putB_no2 h] at e; cases e
      · rfl
    exact (mapB_iff.1 this).1
theorem dropL_len (l : List Pr) (k : ByteArray) : (dropL l k).length ≤ 40 := by
  cases e : getB l k
  · rw [dropL_no e]; simp
  · rw [dropL_yes e, List.length_eraseIdx]
    have : mapB l = true := by
      cases h : mapB l
      · rw [getB_no h] at e; cases e
      · rfl
    have := (mapB_iff.1 this).1
    split <;> omega
set_option maxRecDepth 100000 in
set_option maxHeartbeats 1000000 in
theorem specDrop_any (A : Option Addr) (l : List Pr) (cap : Nat) (k : ByteArray) (w : World) (hl : l.length ≤ maxLen) (hc : l.length ≤ cap) (hin : PIn w w.heap.size A l) :
    Calls Tryz.prog 122 #[.slice A l.length cap, .string k] w (RetOwnB w.heap.size (dropL l k) (getB l k) w) := by
  have R := hide (specGet_any A l cap k w _ hl hin)
  cases hg : getB l k
  · have Z := hide (dropL_no hg)
    go_enter Tryz.func122, Tryz.ntmps122
    go_wp2_with (go_at_call 161; refine R.out.mono ?_; rintro e w' ⟨rfl, q⟩)
    go_ret2
    exact retOwnB_no Z.out rfl (q.below _)
  · have hm : mapB l = true := by
      cases e : mapB l
      · rw [getB_no e] at hg; cases hg
      · rfl
    have hh : hasB l k = true := by rw [← getB_yes (k := k) hm]; exact hg
    have h40 := (mapB_iff.1 hm).1
    have HD : Hid (delL l k = dropL l k) := hide (by rw [dropL_yes hg]; unfold delL; rw [if_pos hh])
    clear hm hh
    go_enter Tryz.func122, Tryz.ntmps122
    go_wp2_with fail
    refine R.out.mono ?_
    rintro e w1 ⟨rfl, q1⟩
    have in1 := (hin.quiet q1).more (B' := w1.heap.size) (by rw [q1.heap]; exact Nat.le_refl _)
    go_wp2_with fail
    refine (l1Drop_any A l cap k w1 (by omega) hc in1).mono ?_
    rintro e w2 ⟨A2, cap2, hc2, rfl, own2, b2⟩
    rw [HD.out] at hc2 own2 ⊢
    have B2 := hide ((q1.below w.heap.size).trans (b2.mono (by rw [q1.heap]; exact Nat.le_refl _)))
    have O2 := hide (own2.more (B' := w.heap.size) (by rw [q1.heap]; exact Nat.le_refl _))
    clear own2 b2 in1 q1
    go_wp2
    go_ret2
    exact ⟨A2, cap2, hc2, rfl, O2.out, B2.out⟩
end Go.Proofs.YtdahpnjamlfakaaGreatDoor.M
/-
  The reader of a law's code: what l1Open, next, below, once, key, val leave. Loosely: which values come out doesn't matter, only that they are such values.
-/
namespace Go.Proofs.YtdahpnjamlfakaaGreatDoor.M
open Go.RowKit

set_option maxRecDepth 100000 in
set_option maxHeartbeats 1000000 in
theorem key_any (rb : Nat) (w : World) (h : Rd w rb) :
    Calls Tryz.prog 82 #[.pointer (some ⟨rb, 0, none⟩)] w (RdS rb 12 w) := by
  go_enter Tryz.func82, Tryz.ntmps82
  go_wp2_with fail
  refine (once_any rb 30 w h (by omega) (by omega)).mono ?_
  rintro e w1 ⟨x, rfl, r1, g1⟩
  cases x
  · have G1 := hide g1
    have r1b := r1.below ((Below.refl _ w1).alloc (Nat.le_refl _) (.cells #[.string ⟨#[97]⟩, .string ⟨#[98]⟩, .string ⟨#[99]⟩, .string ⟨#[100]⟩, .string ⟨#[101]⟩] 9))
    have hh := heap_alloc_new w1 (.cells #[.string ⟨#[97]⟩, .string ⟨#[98]⟩, .string ⟨#[99]⟩, .string ⟨#[100]⟩, .string ⟨#[101]⟩] 9)
    have HH := hide hh
    have hlt := r1.lt
    clear g1 h hh
    go_wp2_with fail
    refine (below_any rb 5 _ r1b (by omega) (by omega)).mono ?_
    rintro e w2 ⟨y, hy0, hy1, rfl, r2, g2⟩
    have R2 := hide r2
    have hb2 := g2.block w1.heap.size (by simp) (by simp; omega)
    rw [HH.out] at hb2
    have G2 := hide (World.grownBy.trans (World.grownBy.trans G1.out (World.grownBy_alloc w1 _ _)) g2)
    obtain ⟨k, rfl⟩ := Int.eq_ofNat_of_zero_le hy0
    have hk : k < 5 := by omega
    obtain ⟨s, hs, ho, hc⟩ : ∃ s : ByteArray, s.size ≤ 12 ∧ s ≠ otherS ∧ w2.cell? ⟨w1.heap.size, k, none⟩ = some (.string s) := by
      rw [cell_of_row w2 w1.heap.size k _ _ _ hb2]
      match k, hk with
      | 0, _ => exact ⟨_, by decide, by decide, rfl⟩
      | 1, _ => exact ⟨_, by decide, by decide, rfl⟩
      | 2, _ => exact ⟨_, by decide, by decide, rfl⟩
      | 3, _ => exact ⟨_, by decide, by decide, rfl⟩
      | 4, _ => exact ⟨_, by decide, by decide, rfl⟩
    have HO := hide ho
    clear r2 g2 hb2 r1b r1 HH ho
    go_wp2
    go_ret
    exact ⟨s, hs, HO.out, rfl, R2.out, G2.out⟩
  · have R1 := hide r1
    have G1 := hide g1
    clear r1 g1 h
    go_wp2
    go_ret
    exact ⟨_, by decide, by decide, rfl, R1.out, G1.out⟩

set_option maxRecDepth 100000 in
set_option maxHeartbeats 1000000 in
theorem val_any (rb : Nat) (w : World) (h : Rd w rb) :
    Calls Tryz.prog 43 #[.pointer (some ⟨rb, 0, none⟩)] w (RdS rb 12 w) := by
  have r1b := fun o => h.below ((Below.refl _ w).alloc (Nat.le_refl _) o)
  have hlt := h.lt
  have RB := hide r1b
  clear r1b h
  go_enter Tryz.func43, Tryz.ntmps43
  go_wp2_with fail
  refine (below_any rb 6 _ (RB.out _) (by omega) (by omega)).mono ?_
  rintro e w2 ⟨y, hy0, hy1, rfl, r2, g2⟩
  have R2 := hide r2
  have hb2 := (g2.block w.heap.size (by simp) (by simp; omega)).trans (heap_alloc_new w _)
  have G2 := hide (World.grownBy.trans (World.grownBy_alloc w _ _) g2)
  obtain ⟨k, rfl⟩ := Int.eq_ofNat_of_zero_le hy0
  have hk : k < 6 := by omega
  obtain ⟨s, hs, ho, hc⟩ : ∃ s : ByteArray, s.size ≤ 12 ∧ s ≠ otherS ∧ w2.cell? ⟨w.heap.size, k, none⟩ = some (.string s) := by
    rw [cell_of_row w2 w.heap.size k _ _ _ hb2]
    match k, hk with
    | 0, _ => exact ⟨_, by decide, by decide, rfl⟩
    | 1, _ => exact ⟨_, by decide, by decide, rfl⟩
    | 2, _ => exact ⟨_, by decide, by decide, rfl⟩
    | 3, _ => exact ⟨_, by decide, by decide, rfl⟩
    | 4, _ => exact ⟨_, by decide, by decide, rfl⟩
    | 5, _ => exact ⟨_, by decide, by decide, rfl⟩
  have HO := hide ho
  clear r2 g2 hb2 RB ho
  go_wp2
  go_ret
  exact ⟨s, hs, HO.out, rfl, R2.out, G2.out⟩
end Go.Proofs.YtdahpnjamlfakaaGreatDoor.M
/-
  What is drawn of maps: right ones; the same, turned a little.
-/
namespace Go.Proofs.YtdahpnjamlfakaaGreatDoor.M
open Go.RowKit

theorem Own.rd {w w' : World} {rb : Nat} {A : Option Addr} {cap : Nat} {l : List Pr} (h : Own w (rb + 1) A cap l) (hg : w.grownBy w' (some rb)) : Own w' (rb + 1) A cap l := by
  refine ⟨h.1, h.2.kept hg ?_⟩
  rw [rowOf_own]
  cases e : rowOf A with
  | none => exact .inl rfl
  | some g => exact .inr (fun x => by injection x with x; have := (h.row g e).1; omega)
/-- a drawn map, which is right -/
def RdM (rb : Nat) (w : World) (e : Ending) (w' : World) : Prop := ∃ A cap l, l.length ≤ cap ∧ l.length ≤ 40 ∧ mapB l = true ∧ e = .returned (.slice A l.length cap) ∧ Own w' (rb + 1) A cap l ∧ Rd w' rb ∧ w.grownBy w' (some rb)
theorem mapB_nil : mapB [] = true := mapB_yes (by simp) ⟨fun _ h => absurd h (by simp), fun _ h => absurd h (by simp)⟩
theorem mapB_allM {l : List Pr} : mapB l = true ↔ l.length ≤ 40 ∧ (∀ p ∈ l, keyB p.1 = true ∧ valB p.2 = true) ∧ Ris l := by
  rw [mapB_iff]
  constructor
  · rintro ⟨a, b, c⟩
    refine ⟨a, fun p hp => ?_, ris_iff.1 c⟩
    obtain ⟨i, hi, e⟩ := List.getElem_of_mem hp
    subst e
    exact b i hi hi
  · rintro ⟨a, b, c⟩
    exact ⟨a, fun i hi _ => b _ (List.getElem_mem hi), ris_iff.2 c⟩
theorem mapB_eraseM {l : List Pr} (h : mapB l = true) (i : Nat) : mapB (l.eraseIdx i) = true := by
  obtain ⟨a, b, c⟩ := mapB_allM.1 h
  refine mapB_allM.2 ⟨?_, fun p hp => b p (List.mem_of_mem_eraseIdx hp), ris_erase c i⟩
  rw [List.length_eraseIdx]
  split <;> omega
theorem putB_map {l : List Pr} {k v : ByteArray} (h : putB l k v = true) : mapB (putL l k v) = true := by
  rw [putL_yes h]
  unfold putB at h
  rw [Bool.and_eq_true] at h
  exact h.2
theorem getB_map {l : List Pr} {k : ByteArray} (h : getB l k = true) : mapB (dropL l k) = true := by
  rw [dropL_yes h]
  refine mapB_eraseM ?_ _
  cases e : mapB l
  · rw [getB_no e] at h; cases h
  · rfl
set_option maxRecDepth 100000 in
set_option maxHeartbeats 1000000 in
theorem pairsM_any (rb : Nat) (most : Int) (w : World) (h : Rd w rb) (h0 : 0 ≤ most) (h1 : most ≤ 100) :
    Calls Tryz.prog 42 #[.pointer (some ⟨rb, 0, none⟩), .int .i64 most] w (RdM rb w) := by
  have hlt := h.lt
  have O0 := hide (Own.built w (rb + 1) hlt)
  have r0 := h.below ((Below.refl _ w).alloc (Nat.le_refl _) (.cells #[] 109))
  clear h
  go_enter Tryz.func42, Tryz.ntmps42
  go_wp2_with fail
  refine (below_any rb (most + 1) _ r0 (by omega) (by omega)).mono ?_
  rintro e w1 ⟨x, hx0, hx1, rfl, r1, g1⟩
  obtain ⟨k0, rfl⟩ := Int.eq_ofNat_of_zero_le hx0
  have O1 := hide (O0.out.rd g1)
  have R1 := hide r1
  have G1 := hide (World.grownBy.trans (World.grownBy_alloc w _ _) g1)
  clear r0 r1 g1 O0
  go_wp2
  go_loopw [5, 6] (fun m i wr => ∃ (k : Nat) (A : Option Addr) (cap : Nat) (l : List Pr), k ≤ k0 ∧ i = .int .i64 k ∧ m = .slice A l.length cap ∧ l.length ≤ 40 ∧ Hid (mapB l = true) ∧ Hid (Own wr (rb + 1) A cap l) ∧ Hid (Rd wr rb) ∧ Hid (w.grownBy wr (some rb))) (fun _ i _ => (intOf i).toNat)
  case atStart => exact ⟨k0, _, 0, [], Nat.le_refl _, rfl, rfl, by simp, hide mapB_nil, O1, R1, G1⟩
  case round =>
    clear O1 R1 G1
    obtain ⟨k, A, cap, l, hk, rfl, rfl, hl, MB, O, R, G⟩ := hrel
    by_cases hk0 : 0 < k
    · have hrl := R.out.lt
      go_wp2_with fail
      refine (key_any rb wr R.out).mono ?_
      rintro e w2 ⟨s, hs, _, rfl, r2, g2⟩
      have O2 := hide (O.out.rd g2)
      have G2 := hide (World.grownBy.trans G.out g2)
      clear g2 O R G
      go_wp2_with fail
      refine (val_any rb w2 r2).mono ?_
      rintro e w3 ⟨v, hv, _, rfl, r3, g3⟩
      have O3 := hide (O2.out.rd g3)
      have R3 := hide r3
      have G3 := hide (World.grownBy.trans G2.out g3)
      clear g3 O2 G2 r2 r3
      go_wp2_with fail
      refine (specPut_any A l cap s v w3 (by unfold maxLen; omega) O3.out.cap_le O3.out.pin (by unfold maxLen; omega) (by unfold maxLen; omega)).mono ?_
      rintro e w4 ⟨A4, cap4, hc4, rfl, own4, b4⟩
      have O4 := hide (own4.more (B' := rb + 1) R3.out.lt)
      have O4' := hide (O3.out.below b4)
      have R4 := hide (R3.out.below b4)
      have G4 := hide (World.grownBy.trans G3.out (grown_of_below b4))
      have hpl := putL_len l s v
      clear own4 b4 O3 R3 G3
      cases hb : putB l s v
      · go_wp2
        go_roundw
        case rel => exact ⟨k - 1, A, cap, l, by omega, by go_num, rfl, hl, MB, O4', R4, G4⟩
        case measure => simp [intOf]; omega
      · go_wp2
        go_roundw
        case rel => exact ⟨k - 1, A4, cap4, putL l s v, by omega, by go_num, rfl, hpl, hide (putB_map hb), O4, R4, G4⟩
        case measure => simp [intOf]; omega
    · go_wp2
      go_ret
      exact ⟨A, cap, l, O.out.cap_le, hl, MB.out, rfl, O.out, R.out, G.out⟩

set_option maxRecDepth 100000 in
set_option maxHeartbeats 2000000 in
theorem turned_any (rb : Nat) (A : Option Addr) (l : List Pr) (cap : Nat) (w : World) (h : Rd w rb) (hl : l.length ≤ 40) (hmb : mapB l = true) (hown : Own w (rb + 1) A cap l) :
    Calls Tryz.prog 76 #[.pointer (some ⟨rb, 0, none⟩), .slice A l.length cap] w (RdM rb w) := by
  have O0 := hide hown
  have M0 := hide hmb
  clear hown hmb
  go_enter Tryz.func76, Tryz.ntmps76
  go_wp2_with fail
  refine (below_any rb 3 _ h (by omega) (by omega)).mono ?_
  rintro e w1 ⟨x, hx0, hx1, rfl, r1, g1⟩
  obtain ⟨k0, rfl⟩ := Int.eq_ofNat_of_zero_le hx0
  have O1 := hide (O0.out.rd g1)
  have R1 := hide r1
  have G1 := hide g1
  clear h r1 g1 O0
  go_wp2
  go_loopw [1, 5] (fun m i wr => ∃ (k : Nat) (A : Option Addr) (cap : Nat) (l : List Pr), k ≤ k0 ∧ i = .int .i64 k ∧ m = .slice A l.length cap ∧ l.length ≤ 40 ∧ Hid (mapB l = true) ∧ Hid (Own wr (rb + 1) A cap l) ∧ Hid (Rd wr rb) ∧ Hid (w.grownBy wr (some rb))) (fun _ i _ => (intOf i).toNat)
  case atStart => exact ⟨k0, A, cap, l, Nat.le_refl _, rfl, rfl, hl, M0, O1, R1, G1⟩
  case round =>
    clear O1 R1 G1 hl M0
    obtain ⟨k, A, cap, l, hk, rfl, rfl, hl, MB, O, R, G⟩ := hrel
    by_cases hk0 : 0 < k
    · have hrl := R.out.lt
      go_wp2_with fail
      refine (key_any rb wr R.out).mono ?_
      rintro e w2 ⟨s, hs, _, rfl, r2, g2⟩
      have O2 := hide (O.out.rd g2)
      have G2 := hide (World.grownBy.trans G.out g2)
      clear g2 O R G
      go_wp2_with fail
      refine (val_any rb w2 r2).mono ?_
      rintro e w3 ⟨v, hv, _, rfl, r3, g3⟩
      have O3 := hide (O2.out.rd g3)
      have R3 := hide r3
      have G3 := hide (World.grownBy.trans G2.out g3)
      clear g3 O2 G2 r2 r3
      go_wp2_with fail
      refine (specPut_any A l cap s v w3 (by unfold maxLen; omega) O3.out.cap_le O3.out.pin (by unfold maxLen; omega) (by unfold maxLen; omega)).mono ?_
      rintro e w4 ⟨A4, cap4, hc4, rfl, own4, b4⟩
      have O4 := hide (own4.more (B' := rb + 1) R3.out.lt)
      have O4' := hide (O3.out.below b4)
      have R4 := hide (R3.out.below b4)
      have G4 := hide (World.grownBy.trans G3.out (grown_of_below b4))
      have hpl := putL_len l s v
      clear own4 b4 O3 R3 G3
      go_wp2_with fail
      refine (once_any rb 3 w4 R4.out (by omega) (by omega)).mono ?_
      rintro e w5 ⟨x, rfl, r5, g5⟩
      have O5 := hide (O4.out.rd g5)
      have O5' := hide (O4'.out.rd g5)
      have R5 := hide r5
      have G5 := hide (World.grownBy.trans G4.out g5)
      clear g5 r5 O4 O4' R4 G4
      cases x
      · cases hb : putB l s v
        · go_wp2
          exact ⟨⟨k - 1, A, cap, l, by omega, by go_num, rfl, hl, MB, O5', R5, G5⟩, by simp [intOf]; omega⟩
        · go_wp2
          exact ⟨⟨k - 1, A4, cap4, putL l s v, by omega, by go_num, rfl, hpl, hide (putB_map hb), O5, R5, G5⟩, by simp [intOf]; omega⟩
      · go_wp2_with fail
        refine (key_any rb w5 R5.out).mono ?_
        rintro e w6 ⟨s', hs', _, rfl, r6, g6⟩
        have O6 := hide (O5'.out.rd g6)
        have R6 := hide r6
        have G6 := hide (World.grownBy.trans G5.out g6)
        clear g6 O5 O5' R5 G5 r6
        go_wp2_with fail
        refine (specDrop_any A l cap s' w6 (by unfold maxLen; omega) O6.out.cap_le O6.out.pin).mono ?_
        rintro e w7 ⟨A7, cap7, hc7, rfl, own7, b7⟩
        have O7 := hide (own7.more (B' := rb + 1) R6.out.lt)
        have O7' := hide (O6.out.below b7)
        have R7 := hide (R6.out.below b7)
        have G7 := hide (World.grownBy.trans G6.out (grown_of_below b7))
        have hdl := dropL_len l s'
        clear own7 b7 O6 R6 G6
        cases hb : getB l s'
        · go_wp2
          exact ⟨⟨k - 1, A, cap, l, by omega, by go_num, rfl, hl, MB, O7', R7, G7⟩, by simp [intOf]; omega⟩
        · go_wp2
          exact ⟨⟨k - 1, A7, cap7, dropL l s', by omega, by go_num, rfl, hdl, hide (getB_map hb), O7, R7, G7⟩, by simp [intOf]; omega⟩
    · go_wp2
      go_ret
      exact ⟨A, cap, l, O.out.cap_le, hl, MB.out, rfl, O.out, R.out, G.out⟩

end Go.Proofs.YtdahpnjamlfakaaGreatDoor.M
/-
  Repositories whose commits can be put in an order in which parents come ahead; such ones have no rings.
-/
namespace Go.Proofs.YtdahpnjamlfakaaGreatDoor
open Go.RowKit

/-- ids are the commits, each behind its parents -/
structure Top (l : List Pr) (ids : List ByteArray) : Prop where
  rep : repoB l = true
  nod : ids.Nodup
  mem : ∀ k, k ∈ ids ↔ rdOk (valOf l k) = true
  par : ∀ i (h : i < ids.length), ∀ q ∈ parK l ids[i], q ∈ ids.take i
theorem objsB_nil : objsB [] = true := objsB_iff.2 ⟨by simp, fun _ h => absurd h (by simp), fun _ h => absurd h (by simp)⟩
theorem repoB_nil : repoB [] = true := repoB_iff.2 ⟨objsB_nil, fun _ h => absurd h (by simp)⟩
theorem hasB_nil (k : ByteArray) : hasB [] k = false := by
  cases e : hasB [] k
  · rfl
  · obtain ⟨i, hi, _⟩ := has_at e
    cases hi
theorem top_nil : Top [] [] :=
  ⟨repoB_nil, .nil, fun k => ⟨(fun h => by cases h), fun h => by rw [valOf_no (hasB_nil k), rdOk_empty] at h; cases h⟩, fun i h => absurd h (by simp)⟩
theorem parK_of {l l' : List Pr} {k : ByteArray} (h : valOf l' k = valOf l k) : parK l' k = parK l k := by unfold parK; rw [h]
/-- what has been added: its keys -/
theorem cm_vals {l m : List Pr} {ps : List ByteArray} {note : ByteArray} (h : cmP l m ps note) :
    let n := addL (addL l (treeT m)) (comT m ps note)
    (∀ k, hasB l k = true → valOf n k = valOf l k) ∧ valOf n (idL (comT m ps note)) = comT m ps note ∧ valOf n (idL (treeT m)) = treeT m ∧ (∀ k, rdOk (valOf n k) = true → k = idL (comT m ps note) ∨ rdOk (valOf l k) = true) := by
  intro n
  obtain ⟨h1, h2, h3, h4, h5, h6⟩ := h
  obtain ⟨t1, t2, t3⟩ := add_there h5
  obtain ⟨c1, c2, c3⟩ := add_there h6
  obtain ⟨tr, _⟩ := tree_text h2
  have g1 : ∀ k, hasB l k = true → hasB (addL l (treeT m)) k = true ∧ valOf (addL l (treeT m)) k = valOf l k := fun k hk => add_keeps h5 hk
  have g2 : ∀ k, hasB (addL l (treeT m)) k = true → hasB n k = true ∧ valOf n k = valOf (addL l (treeT m)) k := fun k hk => add_keeps h6 hk
  have hv : valOf n (idL (treeT m)) = treeT m := (g2 _ t1).2.trans t2
  refine ⟨fun k hk => (g2 k (g1 k hk).1).2.trans (g1 k hk).2, c2, hv, fun k hk => ?_⟩
  obtain ⟨i, hi, e⟩ := has_at (has_rd hk)
  have hm := List.getElem_mem hi
  rcases add_mem h6 hm with e1 | hm1
  · left; rw [← e, e1]
  · rcases add_mem h5 hm1 with e1 | hm2
    · rw [← e, e1] at hk
      rw [show valOf n (idL (treeT m)) = treeT m from hv, tree_com tr] at hk
      cases hk
    · right
      have hr : risesTo l l.length := (objsB_iff.1 (repoB_iff.1 h1).1).2.2
      obtain ⟨j, hj, ej⟩ := List.getElem_of_mem hm2
      have hh := (valOf_at hr hj).1
      rw [ej, e] at hh
      rw [(g2 k (g1 k hh).1).2, (g1 k hh).2] at hk
      exact hk
theorem top_step {l m : List Pr} {ids ps : List ByteArray} {note : ByteArray} (h : Top l ids) (hc : cmP l m ps note) (hps : ∀ q ∈ ps, q ∈ ids) (hn : ¬ idL (comT m ps note) ∈ ids) :
    Top (addL (addL l (treeT m)) (comT m ps note)) (ids ++ [idL (comT m ps note)]) := by
  obtain ⟨v1, v2, v3, v4⟩ := cm_vals hc
  obtain ⟨cr, cc⟩ := comT_text hc.2.2.2.1
  refine ⟨repo_cm hc, ?_, fun k => ?_, fun i hi q hq => ?_⟩
  · rw [List.nodup_append]
    refine ⟨h.nod, by simp, ?_⟩
    intro x hx y hy e
    rw [List.mem_singleton] at hy
    subst hy e
    exact hn hx
  · rw [List.mem_append, List.mem_singleton]
    constructor
    · rintro (h1 | h1)
      · have h2 := (h.mem k).1 h1
        rw [v1 k (has_rd h2)]
        exact h2
      · rw [h1, v2]; exact cr
    · intro h1
      rcases v4 k h1 with h2 | h2
      · exact .inr h2
      · exact .inl ((h.mem k).2 h2)
  · by_cases hlt : i < ids.length
    · rw [List.getElem_append_left hlt] at hq
      have h2 := (h.mem ids[i]).1 (List.getElem_mem hlt)
      rw [parK_of (v1 _ (has_rd h2))] at hq
      rw [List.take_append_of_le_length (Nat.le_of_lt hlt)]
      exact h.par i hlt q hq
    · have e : i = ids.length := by simp at hi; omega
      subst e
      rw [List.getElem_concat_length rfl] at hq
      unfold parK at hq
      rw [v2, if_pos cr, cc] at hq
      rw [List.take_append_of_le_length (Nat.le_refl _), List.take_length]
      exact hps q hq
open Classical in
noncomputable def posK : List ByteArray → ByteArray → Nat
  | [], _ => 0
  | a :: r, k => if k = a then 0 else posK r k + 1
theorem posK_le : ∀ {ids : List ByteArray} {j : Nat} (h : j < ids.length), posK ids ids[j] ≤ j
  | a :: r, 0, _ => by simp [posK]
  | a :: r, j + 1, h => by
    have h' : j < r.length := by simpa using h
    have := posK_le (ids := r) (j := j) h'
    rw [List.getElem_cons_succ]
    unfold posK
    split <;> omega
theorem posK_at : ∀ {ids : List ByteArray} {k : ByteArray}, k ∈ ids → ∃ h : posK ids k < ids.length, ids[posK ids k] = k
  | [], k, h => by cases h
  | a :: r, k, h => by
    by_cases e : k = a
    · have e0 : posK (a :: r) k = 0 := by unfold posK; rw [if_pos e]
      refine ⟨by rw [e0]; simp, ?_⟩
      simp only [e0]
      exact e.symm
    · have hr : k ∈ r := by
        rcases List.mem_cons.1 h with h1 | h1
        · exact absurd h1 e
        · exact h1
      obtain ⟨h1, h2⟩ := posK_at hr
      have e1 : posK (a :: r) k = posK r k + 1 := by unfold posK; rw [if_neg e]; cases r <;> rfl
      refine ⟨by rw [e1]; simpa using h1, ?_⟩
      simp only [e1]
      exact h2
theorem Top.acy {l : List Pr} {ids : List ByteArray} (h : Top l ids) : Acy l := by
  refine ⟨fun k => posK ids k, fun k q hq => ?_⟩
  have hk : rdOk (valOf l k) = true := by
    cases hr : rdOk (valOf l k)
    · rw [parK_no hr] at hq; cases hq
    · rfl
  have hm := (h.mem k).2 hk
  obtain ⟨hi, e⟩ := posK_at hm
  have h2 := h.par (posK ids k) hi q (by rw [e]; exact hq)
  obtain ⟨j, hj, ej⟩ := List.getElem_of_mem h2
  rw [List.length_take] at hj
  rw [List.getElem_take] at ej
  have := posK_le (ids := ids) (j := j) (by omega)
  rw [ej] at this
  show posK ids q < posK ids k
  omega
/-- of two that are behind each other both are one -/
theorem Acy.anti {l : List Pr} (h : Acy l) {a b : ByteArray} (h1 : Reach l a b) (h2 : Reach l b a) : a = b := by
  obtain ⟨rk, hrk⟩ := h
  rcases reach_rk hrk h1 with e | e
  · exact e.symm
  · rcases reach_rk hrk h2 with e2 | e2
    · exact e2
    · omega
/-- a longest way back -/
theorem Acy.top {l : List Pr} (h : Acy l) (S : List ByteArray) {x : ByteArray} (hx : x ∈ S) : ∃ y ∈ S, Reach l y x ∧ ∀ z ∈ S, Reach l z y → z = y := by
  obtain ⟨rk, hrk⟩ := h
  have main : ∀ n (x : ByteArray), x ∈ S → (∀ z ∈ S, rk z ≤ rk x + n) → ∃ y ∈ S, Reach l y x ∧ ∀ z ∈ S, Reach l z y → z = y := by
    intro n
    induction n with
    | zero =>
      intro x hx hb
      refine ⟨x, hx, .self, fun z hz hr => ?_⟩
      rcases reach_rk hrk hr with e | e
      · exact e.symm
      · have := hb z hz; omega
    | succ n ih =>
      intro x hx hb
      by_cases hz : ∃ z, z ∈ S ∧ Reach l z x ∧ z ≠ x
      · obtain ⟨z, hz1, hz2, hz3⟩ := hz
        have hlt : rk x < rk z := by
          rcases reach_rk hrk hz2 with e | e
          · exact absurd e.symm hz3
          · exact e
        obtain ⟨y, hy1, hy2, hy3⟩ := ih z hz1 (fun u hu => by have := hb u hu; omega)
        exact ⟨y, hy1, hy2.trans hz2, hy3⟩
      · refine ⟨x, hx, .self, fun z hz1 hz2 => ?_⟩
        apply Classical.byContradiction
        intro hne
        exact hz ⟨z, hz1, hz2, hne⟩
  have hb : ∃ n, ∀ z ∈ S, rk z ≤ rk x + n := by
    clear main hx
    induction S with
    | nil => exact ⟨0, by simp⟩
    | cons a r ih =>
      obtain ⟨n, hn⟩ := ih
      refine ⟨n + rk a, fun z hz => ?_⟩
      rcases List.mem_cons.1 hz with e | e
      · subst e; omega
      · have := hn z e; omega
  obtain ⟨n, hn⟩ := hb
  exact main n x hx hn
end Go.Proofs.YtdahpnjamlfakaaGreatDoor
/-
  What is behind both; what of these is behind no other one: the same as what is no parent of these.
-/
namespace Go.Proofs.YtdahpnjamlfakaaGreatDoor
open Go.RowKit

theorem parK_own {l : List Pr} (hl : repoB l = true) {k q : ByteArray} (h : q ∈ parK l k) : q ≠ k := by
  cases hr : rdOk (valOf l k)
  · rw [parK_no hr] at h; cases h
  · unfold parK at h
    rw [if_pos hr] at h
    obtain ⟨ho, hf⟩ := repoB_iff.1 hl
    obtain ⟨i, hi, e⟩ := has_at (has_rd hr)
    have h2 := (valOf_at (objsB_iff.1 ho).2.2 hi).2
    rw [e] at h2
    rw [h2] at h hr
    have h3 := (((hf i hi hi).2 hr).2 q h).2
    rw [e] at h3
    exact h3
/-- what is behind both, rising -/
noncomputable def bothK (l : List Pr) (a b : ByteArray) : List ByteArray := (ancK l a).filter (memK (ancK l b))
theorem bothK_mem {l : List Pr} {a b z : ByteArray} : z ∈ bothK l a b ↔ z ∈ ancK l a ∧ z ∈ ancK l b := by
  unfold bothK
  rw [List.mem_filter, memK_iff]
theorem bothK_ris (l : List Pr) (a b : ByteArray) : RisC l (bothK l a b) :=
  ⟨List.Pairwise.filter _ (ancK_ris l a).1, fun z hz => (ancK_ris l a).2 z (bothK_mem.1 hz).1⟩
theorem bothK_repo {l : List Pr} {a b z : ByteArray} (h : z ∈ bothK l a b) : repoB l = true := (ancK_mem.1 (bothK_mem.1 h).1).1
theorem bothK_len (l : List Pr) (a b : ByteArray) : (bothK l a b).length ≤ 60 := Nat.le_trans (List.length_filter_le ..) (ancK_len l a)
theorem bothK_par {l : List Pr} {a b z q : ByteArray} (h : z ∈ bothK l a b) (hq : q ∈ parK l z) : q ∈ bothK l a b := by
  obtain ⟨h1, h2⟩ := bothK_mem.1 h
  obtain ⟨r1, r2, r3⟩ := ancK_mem.1 h1
  obtain ⟨_, s2, s3⟩ := ancK_mem.1 h2
  exact bothK_mem.2 ⟨ancK_mem.2 ⟨r1, r2, r3.next hq⟩, ancK_mem.2 ⟨r1, s2, s3.next hq⟩⟩
theorem bothK_reach {l : List Pr} {a b z q : ByteArray} (h : z ∈ bothK l a b) (hq : Reach l z q) : q ∈ bothK l a b := by
  induction hq with
  | self => exact h
  | next _ hp ih => exact bothK_par ih hp
open Classical in
/-- x is behind no other one of S -/
noncomputable def topK (l : List Pr) (S : List ByteArray) (x : ByteArray) : Bool := decide (∀ y ∈ S, y = x ∨ ¬ x ∈ growK l [y] (l.length + 1))
open Classical in
theorem topK_iff {l : List Pr} {S : List ByteArray} {x : ByteArray} : topK l S x = true ↔ ∀ y ∈ S, y = x ∨ ¬ x ∈ growK l [y] (l.length + 1) := by unfold topK; exact decide_eq_true_iff
theorem topK_nil (l : List Pr) (x : ByteArray) : topK l [] x = true := topK_iff.2 (by simp)
theorem topK_no {l : List Pr} {S : List ByteArray} {x : ByteArray} (h : ¬ ∀ y ∈ S, y = x ∨ ¬ x ∈ growK l [y] (l.length + 1)) : topK l S x = false := by
  cases e : topK l S x
  · rfl
  · exact absurd (topK_iff.1 e) h
theorem topK_out {l : List Pr} {S : List ByteArray} {x y : ByteArray} (h : topK l S x = false) : topK l (S ++ [y]) x = false := topK_no fun k => by
  have := topK_iff.2 (fun z hz => k z (List.mem_append.2 (.inl hz)))
  rw [this] at h; cases h
theorem topK_self {l : List Pr} {S : List ByteArray} {x y : ByteArray} (h : topK l S x = true) (he : y = x) : topK l (S ++ [y]) x = true := topK_iff.2 fun z hz => by
  rcases List.mem_append.1 hz with h1 | h1
  · exact topK_iff.1 h z h1
  · rw [List.mem_singleton] at h1; exact .inl (h1.trans he)
theorem topK_step {l : List Pr} {S : List ByteArray} {x y : ByteArray} (h : topK l S x = true) (he : y ≠ x) : topK l (S ++ [y]) x = !memK (growK l [y] (l.length + 1)) x := by
  cases hm : memK (growK l [y] (l.length + 1)) x
  · refine topK_iff.2 fun z hz => ?_
    rcases List.mem_append.1 hz with h1 | h1
    · exact topK_iff.1 h z h1
    · rw [List.mem_singleton] at h1
      subst h1
      exact .inr fun hx => by rw [memK_iff.2 hx] at hm; cases hm
  · refine topK_no fun k => ?_
    rcases k y (by simp) with h1 | h1
    · exact he h1
    · exact h1 (memK_iff.1 hm)
/-- the best of what is behind both -/
noncomputable def bestK (l : List Pr) (a b : ByteArray) : List ByteArray := (bothK l a b).filter (topK l (bothK l a b))
theorem bestK_ris (l : List Pr) (a b : ByteArray) : RisK (bestK l a b) := List.Pairwise.filter _ (bothK_ris l a b).1
theorem bestK_len (l : List Pr) (a b : ByteArray) : (bestK l a b).length ≤ 60 := Nat.le_trans (List.length_filter_le ..) (bothK_len l a b)
/-- it is no parent of one of these -/
theorem bestK_mem {l : List Pr} {a b z : ByteArray} : z ∈ bestK l a b ↔ z ∈ bothK l a b ∧ ∀ y ∈ bothK l a b, ¬ z ∈ parK l y := by
  unfold bestK
  rw [List.mem_filter, topK_iff]
  constructor
  · rintro ⟨h1, h2⟩
    have hl := bothK_repo h1
    refine ⟨h1, fun y hy hp => ?_⟩
    rcases h2 y hy with h3 | h3
    · exact parK_own hl hp h3.symm
    · exact h3 ((grow_mem hl ((bothK_ris l a b).2 y hy) z).2 (.next .self hp))
  · rintro ⟨h1, h2⟩
    have hl := bothK_repo h1
    refine ⟨h1, fun y hy => ?_⟩
    by_cases e : y = z
    · exact .inl e
    · refine .inr fun hx => ?_
      have hr := (grow_mem hl ((bothK_ris l a b).2 y hy) z).1 hx
      cases hr with
      | self => exact e rfl
      | next hx hp => exact h2 _ (bothK_reach hy hx) hp
theorem filter_take_succ {p : ByteArray → Bool} {L : List ByteArray} {k : Nat} (hk : k < L.length) : (L.take (k + 1)).filter p = if p L[k] = true then (L.take k).filter p ++ [L[k]] else (L.take k).filter p := by
  rw [List.take_succ_eq_append_getElem hk, List.filter_append]
  cases h : p L[k] <;> simp [h]
end Go.Proofs.YtdahpnjamlfakaaGreatDoor
/-
  What the laws on commits and on what is behind them want: mathematics.
-/
namespace Go.Proofs.YtdahpnjamlfakaaGreatDoor
open Go.RowKit

theorem there_again {l : List Pr} {t : ByteArray} (ho : objsB l = true) (hh : hasB l (idL t) = true) (hv : valOf l (idL t) = t) (ht : t.size ≤ 2000) : addB l t = true ∧ addL l t = l := by
  have h1 : addB l t = true := by rw [addB_of ho, addOk_same ht hh hv]
  refine ⟨h1, ?_⟩
  rw [addL_yes h1]
  exact set_same (ris_iff.1 (objsB_iff.1 ho).2.2) hh hv
/-- what is committed twice is one commit -/
theorem cm_again {l m : List Pr} {ps : List ByteArray} {note : ByteArray} (h : cmP l m ps note) :
    cmP (cmL l m ps note) m ps note ∧ cmL (cmL l m ps note) m ps note = cmL l m ps note ∧ cmI (cmL l m ps note) m ps note = cmI l m ps note := by
  obtain ⟨_, eL, eI⟩ := cmB_yes h
  rw [eL, eI]
  obtain ⟨v1, v2, v3, v4⟩ := cm_vals h
  have hrep := repo_cm h
  obtain ⟨h1, h2, h3, h4, h5, h6⟩ := h
  obtain ⟨t1, t2, t3⟩ := add_there h5
  obtain ⟨c1, c2, c3⟩ := add_there h6
  have k1 := (add_keeps h6 t1).1
  have st := (addB_iff.1 h5).2.1
  have sc := (addB_iff.1 h6).2.1
  obtain ⟨a1, a2⟩ := there_again c3 k1 v3 st
  obtain ⟨a3, a4⟩ := there_again c3 c1 v2 sc
  have hp : cmP (addL (addL l (treeT m)) (comT m ps note)) m ps note := ⟨hrep, h2, fun q hq => by rw [v1 q (has_of_rd (h3 q hq))]; exact h3 q hq, h4, a1, by rw [a2]; exact a3⟩
  obtain ⟨_, e1, e2⟩ := cmB_yes hp
  exact ⟨hp, by rw [e1, a2, a4], e2⟩
theorem valOf_id {l : List Pr} (ho : objsB l = true) {k : ByteArray} (hh : hasB l k = true) : idL (valOf l k) = k := by
  obtain ⟨i, hi, e⟩ := has_at hh
  have h2 := (valOf_at (objsB_iff.1 ho).2.2 hi).2
  rw [e] at h2
  rw [h2]
  exact ((objs_all.1 ho).2.1 _ (List.getElem_mem hi)).2.trans e
/-- a commit's text is the text of what is read off it -/
theorem rd_back {s : ByteArray} (h : rdOk s = true) : comB (rdC s).1 (rdC s).2.1 (rdC s).2.2 = true ∧ textC (rdC s).1 (rdC s).2.1 (rdC s).2.2 = s := by
  by_cases hx : ∃ c, isCom s c
  · obtain ⟨c, hc⟩ := hx
    rw [(rd_yes hc).2]
    exact ⟨hc.1, hc.2⟩
  · rw [(rd_no hx).1] at h
    cases h
/-- a tree's text is the text of the map that is read off it -/
theorem tree_back {s : ByteArray} (h : treeB s = true) : mapB (treeL s) = true ∧ treeT (treeL s) = s := by
  have hp : mapW.data.toList <+: s.data.toList := by
    apply Classical.byContradiction
    intro h'
    rw [treeB_no h'] at h
    cases h
  have hL := treeL_yes hp
  rw [treeB_yes hp] at h
  have h1 : mapB (M.readL (s.extract 4 s.size)) = true := by
    rw [M.readL_yes h]
    have h' := h
    unfold M.okR at h'
    simp only [Bool.and_eq_true] at h'
    exact h'.2
  have h2 := M.read_text h
  rw [M.mapText_yes h1] at h2
  rw [hL]
  refine ⟨h1, ?_⟩
  obtain ⟨h4, h5⟩ := map_parts hp
  unfold treeT
  rw [h2, ← h5]
  apply ByteArray.ext
  apply Array.toList_inj.1
  have hsz : s.data.toList.length = s.size := by rw [Array.length_toList]; rfl
  rw [ByteArray.data_append, Array.toList_append]
  simp only [ByteArray.data_extract, Array.toList_extract, List.extract, Nat.sub_zero, List.drop_zero]
  rw [List.take_of_length_le (l := List.drop 4 s.data.toList) (by rw [List.length_drop, hsz]; exact Nat.le_refl _), List.take_append_drop]
end Go.Proofs.YtdahpnjamlfakaaGreatDoor
/-
  A drawn repository: right objects whose commits stand in an order in which parents come ahead, and the commits' ids in that order.
-/
namespace Go.Proofs.YtdahpnjamlfakaaGreatDoor
open Go.RowKit

/-- the row of objects is a block of objects -/
theorem own_block {w : World} {B : Nat} {A : Option Addr} {cap : Nat} {l : List Pr} (h : Own w B A cap l) {g : Nat} (hg : rowOf A = some g) : B ≤ g ∧ ∃ cs, w.heap[g]? = some (.cells cs 83 (0, 0)) := by
  rcases h.2.2 with ⟨e, _⟩ | ⟨g', c, cur, e, hb, hh, _⟩
  · injection e with e1
    rw [e1] at hg
    cases hg
  · injection e with e1
    rw [e1] at hg
    have : g' = g := rowOf_some hg
    subst this
    exact ⟨hb, _, hh⟩
theorem zrow_block {W : World} {B : Nat} {A : Option Addr} {cap : Nat} {bs : List ByteArray} (h : ZOwn W B A cap bs) {g : Nat} (hg : rowOf A = some g) : ∃ cs, W.heap[g]? = some (.cells cs 9 (0, 0)) := by
  rcases h.2 with ⟨e, _⟩ | ⟨g', c, cur, e, hb, hh, _⟩
  · injection e with e1
    rw [e1] at hg
    cases hg
  · injection e with e1
    rw [e1] at hg
    have : g' = g := rowOf_some hg
    subst this
    exact ⟨_, hh⟩
/-- rows of objects and rows of texts lie apart -/
theorem own_zown {w : World} {B B' : Nat} {A A' : Option Addr} {cap cap' : Nat} {l : List Pr} {bs : List ByteArray} (h : Own w B A cap l) (k : ZOwn w B' A' cap' bs) : ∀ g, rowOf A = some g → rowOf A' ≠ some g := fun g h1 h2 => by
  obtain ⟨_, cs, e1⟩ := own_block h h1
  obtain ⟨cs', e2⟩ := zrow_block k h2
  rw [e1] at e2
  injection e2 with e2
  injection e2 with _ e3 _
  exact absurd e3 (by decide)
theorem ZOwn.rdZ {w w' : World} {rb B : Nat} {A : Option Addr} {cap : Nat} {l : List ByteArray} (h : ZOwn w B A cap l) (hB : rb < B) (hg : w.grownBy w' (some rb)) : ZOwn w' B A cap l := h.kept hg (fun x => by have := (h.row _ x).1; omega)
theorem top_objs {l : List Pr} {ids : List ByteArray} (h : Top l ids) : l.length ≤ 60 := (objsB_iff.1 (repoB_iff.1 h.rep).1).1
theorem top_sizes {l : List Pr} {ids : List ByteArray} (h : Top l ids) : ∀ q ∈ ids, q.size ≤ 16 := fun q hq => by
  have ho := (repoB_iff.1 h.rep).1
  have hh := has_rd ((h.mem q).1 hq)
  have e := valOf_id ho hh
  have h2 := valOf_size ho q
  have h3 := idL_size (valOf l q)
  rw [e] at h3
  omega
theorem mat_right (l : List Pr) (k : ByteArray) : mapB (matL l k) = true := by
  cases e : matB l k
  · unfold matB at e
    rw [Bool.and_eq_false_iff] at e
    rw [(matB_no e).1]
    exact M.mapB_nil
  · unfold matB at e
    rw [Bool.and_eq_true] at e
    rw [(matB_yes e.1).1]
    exact (tree_back e.2).1

theorem putK_lenD (ks : List ByteArray) (s : ByteArray) : (putK ks s).length ≤ ks.length + 1 := by
  induction ks with
  | nil => simp [putK]
  | cons a r ih =>
    unfold putK
    split
    · simp; omega
    · split <;> simp
/-- a drawn repository -/
def RdRp (rb : Nat) (most : Int) (w : World) (e : Ending) (w' : World) : Prop := ∃ A cap l As caps ids, l.length ≤ cap ∧ (ids.length : Int) ≤ most ∧ Top l ids ∧ e = .returned (.tuple #[.slice A l.length cap, .slice As ids.length caps]) ∧ Own w' w.heap.size A cap l ∧ ZOwn w' w.heap.size As caps ids ∧ Rd w' rb ∧ w.grownBy w' (some rb)

set_option maxRecDepth 100000 in
set_option maxHeartbeats 4000000 in
theorem repo_any (rb : Nat) (most : Int) (w : World) (h : Rd w rb) (h0 : 0 ≤ most) (h1 : most ≤ 20) :
    Calls Tryz.prog 38 #[.pointer (some ⟨rb, 0, none⟩), .int .i64 most] w (RdRp rb most w) := by
  have hlt := h.lt
  have O0 := hide ((Own.built w w.heap.size (Nat.le_refl _)).below ((Below.refl _ _).alloc (Nat.le_refl _) (.cells #[] 9)))
  have zb := ZOwn.built (w.alloc (.cells #[] 83)) w.heap.size (by simp)
  rw [show (w.alloc (.cells #[] 83)).heap.size = w.heap.size + 1 by simp] at zb
  have Z0 := hide zb
  clear zb
  have r0 := h.below (((Below.refl _ w).alloc (Nat.le_refl _) (.cells #[] 83)).alloc (by simp) (.cells #[] 9))
  clear h
  go_enter Tryz.func38, Tryz.ntmps38
  go_wp2_with fail
  refine (below_any rb (most + 1) _ r0 (by omega) (by omega)).mono ?_
  rintro e w1 ⟨x, hx0, hx1, rfl, r1, g1⟩
  obtain ⟨k0, rfl⟩ := Int.eq_ofNat_of_zero_le hx0
  have O1 := hide (O0.out.rd hlt g1)
  have Z1 := hide (Z0.out.rdZ hlt g1)
  have R1 := hide r1
  have G1 := hide (World.grownBy.trans (World.grownBy.trans (World.grownBy_alloc w _ _) (World.grownBy_alloc _ _ _)) g1)
  clear r0 r1 g1 O0 Z0
  go_wp2
  go_loopw [6, 7, 8] (fun lv iv cv wr => ∃ (k : Nat) (A : Option Addr) (cap : Nat) (l : List Pr) (As : Option Addr) (caps : Nat) (ids : List ByteArray), k + ids.length ≤ k0 ∧ cv = .int .i64 k ∧ lv = .slice A l.length cap ∧ iv = .slice As ids.length caps ∧ Hid (Top l ids) ∧ Hid (Own wr w.heap.size A cap l) ∧ Hid (ZOwn wr w.heap.size As caps ids) ∧ Hid (Rd wr rb) ∧ Hid (w.grownBy wr (some rb))) (fun _ _ i _ => (intOf i).toNat)
  case atStart => exact ⟨k0, _, 0, [], _, 0, [], by simp, rfl, rfl, rfl, hide top_nil, O1, Z1, R1, G1⟩
  case round =>
    clear O1 Z1 R1 G1
    obtain ⟨k, A, cap, l, As, caps, ids, hk, rfl, rfl, rfl, TP, O, Z, R, G⟩ := hrel
    by_cases hk0 : 0 < k
    · have hrl := R.out.lt
      go_wp2_with fail
      refine (M.pairsM_any rb 3 wr R.out (by omega) (by omega)).mono ?_
      rintro e w2 ⟨AM, capM, m, hcm, hm40, hmB, rfl, ownm, r2, g2⟩
      have P0 := hide (ZOwn.built w2 (rb + 1) r2.lt)
      have M3 := hide (ownm.alloc (.cells #[] 9))
      have O3 := hide ((O.out.rd hlt g2).alloc (.cells #[] 9))
      have Z3 := hide ((Z.out.rdZ hlt g2).alloc (.cells #[] 9))
      have R3 := hide (r2.below ((Below.refl _ w2).alloc (Nat.le_refl _) (.cells #[] 9)))
      have G3 := hide (World.grownBy.trans (World.grownBy.trans G.out g2) (World.grownBy_alloc w2 (.cells #[] 9) _))
      have MB := hide hmB
      clear ownm r2 g2 O Z R G hmB
      go_wp2_with fail
      refine (below_any rb 3 _ R3.out (by omega) (by omega)).mono ?_
      rintro e w3 ⟨x, hx0, hx1, rfl, r4, g4⟩
      obtain ⟨kp, rfl⟩ := Int.eq_ofNat_of_zero_le hx0
      have hkp : kp ≤ 2 := by omega
      have P4 := hide (P0.out.rdZ (by omega) g4)
      have M4 := hide (M3.out.rd g4)
      have O4 := hide (O3.out.rd hlt g4)
      have Z4 := hide (Z3.out.rdZ hlt g4)
      have R4 := hide r4
      have G4 := hide (World.grownBy.trans G3.out g4)
      clear P0 M3 O3 Z3 R3 G3 r4 g4 hx0 hx1
      go_wp2
      go_loopw [10, 11] (fun pv jv wq => ∃ (j : Nat) (AP : Option Addr) (capP : Nat) (ps : List ByteArray), ps.length + j ≤ 2 ∧ jv = .int .i64 j ∧ pv = .slice AP ps.length capP ∧ Hid (∀ q ∈ ps, q ∈ ids) ∧ Hid (ZOwn wq (rb + 1) AP capP ps) ∧ Hid (M.Own wq (rb + 1) AM capM m) ∧ Hid (Own wq w.heap.size A cap l) ∧ Hid (ZOwn wq w.heap.size As caps ids) ∧ Hid (Rd wq rb) ∧ Hid (w.grownBy wq (some rb))) (fun _ i _ => (intOf i).toNat)
      case atStart => exact ⟨kp, _, 0, [], by simp; omega, rfl, rfl, hide (fun _ h => absurd h (by simp)), P4, M4, O4, Z4, R4, G4⟩
      case round =>
        clear P4 M4 O4 Z4 R4 G4
        obtain ⟨j, AP, capP, ps, hj, rfl, rfl, PI, P, MM, O, Z, R, G⟩ := hrel
        have hl60 := top_objs TP.out
        have hil : ids.length ≤ 20 := by omega
        by_cases hgo : 0 < j ∧ 0 < ids.length
        · obtain ⟨hj0, hi0⟩ := hgo
          obtain ⟨mn, hmn, hmn1, hmn2⟩ : ∃ mn : Nat, min (3 : Int) (ids.length : Int) = (mn : Int) ∧ 1 ≤ mn ∧ mn ≤ ids.length := by
            rcases Nat.lt_or_ge ids.length 3 with h | h
            · exact ⟨ids.length, by omega, by omega, by omega⟩
            · exact ⟨3, by omega, by omega, by omega⟩
          go_wp2_with fail
          refine (below_any rb mn _ R.out (by omega) (by omega)).mono ?_
          rintro e w5 ⟨y, hy0, hy1, rfl, r5, g5⟩
          obtain ⟨ky, rfl⟩ := Int.eq_ofNat_of_zero_le hy0
          have P5 := hide (P.out.rdZ (by omega) g5)
          have M5 := hide (MM.out.rd g5)
          have O5 := hide (O.out.rd hlt g5)
          have Z5 := hide (Z.out.rdZ hlt g5)
          have R5 := hide r5
          have G5 := hide (World.grownBy.trans G.out g5)
          clear r5 g5 P MM O Z R G
          have hx : ids.length - 1 - ky < ids.length := by omega
          obtain ⟨bi, oi, eA, hbi, hci⟩ := Z5.out.zin hi0
          have c1 := hci _ hx
          have e3 : (ids.length : Int) - 1 - (ky : Int) = ((ids.length - 1 - ky : Nat) : Int) := by omega
          have e4 : ((ids.length : Int) - 1 - (ky : Int)).toNat = ids.length - 1 - ky := by omega
          have qm := List.getElem_mem hx
          have PU := hide (l1PutX_any AP ps capP (ids[ids.length - 1 - ky]'hx) w5 (rb + 1) (by omega) P5.out (by have := R5.out.lt; omega))
          have hpl := putK_lenD ps (ids[ids.length - 1 - ky]'hx)
          have PI5 : Hid (∀ q ∈ putK ps (ids[ids.length - 1 - ky]'hx), q ∈ ids) := hide (fun q hq => by
            rcases (mem_putK _ _ _).1 hq with h | h
            · exact PI.out q h
            · rw [h]; exact qm)
          subst eA
          clear hci P5 PI
          generalize ids[ids.length - 1 - ky]'hx = q at *
          generalize ids.length - 1 - ky = ix at *
          generalize ps.length = pn at *
          go_wp2_with fail
          refine PU.out.mono ?_
          rintro e w6 ⟨AP6, capP6, rfl, own6, b6⟩
          have P6 := hide own6
          have M6 := hide (M5.out.below b6)
          have O6 := hide (O5.out.below b6)
          have Z6 := hide (Z5.out.below b6)
          have R6 := hide (R5.out.below b6)
          have G6 := hide (World.grownBy.trans G5.out (grown_of_below b6))
          clear own6 b6 PU M5 O5 Z5 R5 G5
          go_wp2_with fail
          go_roundw
          case rel => exact ⟨j - 1, AP6, capP6, putK ps q, by omega, by go_num, rfl, PI5, P6, M6, O6, Z6, R6, G6⟩
          case measure => simp [intOf]; omega
        · have SL : Hid (slenS ps) := hide (fun i hi => by have := top_sizes TP.out _ (PI.out _ (List.getElem_mem hi)); unfold maxLen; omega)
          have hpl : ps.length ≤ 2 := by omega
          rcases (show (0 < j ∧ ids.length = 0) ∨ j = 0 by omega) with ⟨hj1, hi1'⟩ | hj1
          case' inl => have hi1 : ¬ 0 < ids.length := by omega
                       clear hi1'
          all_goals
            (try subst hj1)
            clear hgo
            generalize hpn : ps.length = pn at *
            have HPN := hide hpn
            clear hpn
            by_cases hp0 : 0 < pn
            case' pos =>
              have hp0' : 0 < ps.length := by rw [HPN.out]; exact hp0
              obtain ⟨bp, op, eP, hbp, hcp⟩ := P.out.zin hp0'
              have c0 := hcp 0 hp0'
              simp only [Nat.add_zero] at c0
              clear hcp
              have MAT := hide (specMapAt_any A l cap (ps[0]'hp0') wr (by unfold maxLen; omega) O.out.pin)
              generalize ps[0]'hp0' = q at *
              clear hp0'
              have hml := matL_len l q
              have hmr := hide (mat_right l q)
              have EP := hide eP
              rw [eP]
              clear eP
              go_wp2_with fail
              refine MAT.out.mono ?_
              rintro e w5 ⟨AO, capO, hcO, rfl, ownO, b5⟩
              have M5 := hide (ownO.more (B' := rb + 1) R.out.lt)
              have P5 := hide (P.out.below b5)
              have O5 := hide (O.out.below b5)
              have Z5 := hide (Z.out.below b5)
              have R5 := hide (R.out.below b5)
              have G5 := hide (World.grownBy.trans G.out (grown_of_below b5))
              clear ownO b5 MAT P MM O Z R G MB hm40 hcm c0
              have TU := hide (M.turned_any rb AO (matL l q) capO w5 R5.out hml hmr.out M5.out)
              clear M5 hmr
              generalize matL l q = old at *
              go_wp2_with fail
              refine TU.out.mono ?_
              rintro e wr ⟨AM, capM, m, hcm, hm40, hmB, rfl, ownm, r6, g6⟩
              rw [← EP.out]
              clear EP
              have MB := hide hmB
              have MM := hide ownm
              have P := hide (P5.out.rdZ (by omega) g6)
              have O := hide (O5.out.rd hlt g6)
              have Z := hide (Z5.out.rdZ hlt g6)
              have R := hide r6
              have G := hide (World.grownBy.trans G5.out g6)
              clear hmB ownm r6 g6 P5 O5 Z5 R5 G5 TU
            all_goals
              have LT := hide (heap_alloc_new wr (.cells #[.string ⟨#[]⟩, .string ⟨#[111, 110, 101]⟩, .string ⟨#[116, 119, 111]⟩] 9))
              have R7 := hide (R.out.below ((Below.refl _ wr).alloc (Nat.le_refl _) (.cells #[.string ⟨#[]⟩, .string ⟨#[111, 110, 101]⟩, .string ⟨#[116, 119, 111]⟩] 9)))
              have M7 := hide (MM.out.alloc (.cells #[.string ⟨#[]⟩, .string ⟨#[111, 110, 101]⟩, .string ⟨#[116, 119, 111]⟩] 9))
              have P7 := hide (P.out.alloc (.cells #[.string ⟨#[]⟩, .string ⟨#[111, 110, 101]⟩, .string ⟨#[116, 119, 111]⟩] 9))
              have O7 := hide (O.out.alloc (.cells #[.string ⟨#[]⟩, .string ⟨#[111, 110, 101]⟩, .string ⟨#[116, 119, 111]⟩] 9))
              have Z7 := hide (Z.out.alloc (.cells #[.string ⟨#[]⟩, .string ⟨#[111, 110, 101]⟩, .string ⟨#[116, 119, 111]⟩] 9))
              have G7 := hide (World.grownBy.trans G.out (World.grownBy_alloc wr (.cells #[.string ⟨#[]⟩, .string ⟨#[111, 110, 101]⟩, .string ⟨#[116, 119, 111]⟩] 9) _))
              have hrl2 := R.out.lt
              clear MM P O Z R G
              go_wp2_with fail
              refine (below_any rb 3 _ R7.out (by omega) (by omega)).mono ?_
              rintro e w8 ⟨y, hy0, hy1, rfl, r8, g8⟩
              have hb8 := (g8.block wr.heap.size (by simp) (by simp; omega)).trans LT.out
              obtain ⟨kn, rfl⟩ := Int.eq_ofNat_of_zero_le hy0
              have hkn : kn < 3 := by omega
              obtain ⟨note, hnote, hcn⟩ : ∃ note : ByteArray, note.size ≤ 3 ∧ w8.cell? ⟨wr.heap.size, kn, none⟩ = some (.string note) := by
                rw [cell_of_row w8 wr.heap.size kn _ _ _ hb8]
                match kn, hkn with
                | 0, _ => exact ⟨_, by decide, rfl⟩
                | 1, _ => exact ⟨_, by decide, rfl⟩
                | 2, _ => exact ⟨_, by decide, rfl⟩
              have M8 := hide (M7.out.rd g8)
              have P8 := hide (P7.out.rdZ (by omega) g8)
              have O8 := hide (O7.out.rd hlt g8)
              have Z8 := hide (Z7.out.rdZ hlt g8)
              have R8 := hide r8
              have G8 := hide (World.grownBy.trans G7.out g8)
              clear r8 g8 hb8 M7 P7 O7 Z7 R7 G7 LT hy0 hy1
              have CM := hide (specCommitted_any A l cap AM m capM AP ps capP note w8 (by unfold maxLen; omega) O8.out.cap_le O8.out.pin (by unfold maxLen; omega) M8.out.pin (by rw [HPN.out]; unfold maxLen; omega) (sin_of SL.out P8.out.zin) (by unfold maxLen; omega))
              rw [HPN.out] at CM
              have TS : Hid (cmB l m ps note = true → ¬ cmI l m ps note ∈ ids → Top (cmL l m ps note) (ids ++ [cmI l m ps note])) := hide (fun h1 h2 => by
                have hp := cmB_iff.1 h1
                obtain ⟨_, e1, e2⟩ := cmB_yes hp
                rw [e1, e2]
                rw [e2] at h2
                exact top_step TP.out hp PI.out h2)
              clear M8 P8 SL PI MB
              generalize cmB l m ps note = ok at *
              generalize cmI l m ps note = ni at *
              generalize cmL l m ps note = nl at *
              go_wp2_with fail
              refine CM.out.mono ?_
              rintro e w9 ⟨AR, capR, hcR, rfl, ownR, b9⟩
              have N9 := hide (ownR.more (B' := w.heap.size) G8.out.size)
              have O9 := hide (O8.out.below b9)
              have Z9 := hide (Z8.out.below b9)
              have R9 := hide (R8.out.below b9)
              have G9 := hide (World.grownBy.trans G8.out (grown_of_below b9))
              clear ownR b9 CM O8 Z8 R8 G8 hcn
              cases ok
              · clear TS N9
                go_wp2_with fail
                go_roundw
                case rel => exact ⟨k - 1, A, cap, l, As, caps, ids, by omega, by go_num, rfl, rfl, TP, O9, Z9, R9, G9⟩
                case measure => simp [intOf]; omega
              · have HH := hide (l1Has_any As ids caps ni w9 w9.heap.size (by unfold maxLen; omega) Z9.out.zin)
                have TS2 : Hid (memK ids ni = false → Top nl (ids ++ [ni])) := hide (fun h => TS.out rfl (fun hm => by rw [memK_iff.2 hm] at h; cases h))
                clear TS
                go_wp2_with fail
                refine HH.out.mono ?_
                rintro e w' ⟨rfl, rfl⟩
                clear HH
                cases hmem : memK ids ni
                · have T3 := hide (TS2.out hmem)
                  clear TS2 hmem O9
                  have R10 := hide (R9.out.below ((Below.refl _ w9).alloc (Nat.le_refl _) (.cells #[.string ni] 9)))
                  have N10 := hide (N9.out.alloc (.cells #[.string ni] 9))
                  have Z10 := hide (Z9.out.alloc (.cells #[.string ni] 9))
                  have G10 := hide (World.grownBy.trans G9.out (World.grownBy_alloc w9 (.cells #[.string ni] 9) _))
                  have NZ := hide (own_zown N10.out Z10.out)
                  clear N9 Z9 R9 G9
                  go_wp2_with (at_builtin; refine wpList_appZ (l := ids) (l' := [ni]) 28 Tryz.underlying28 rfl (.tmp 90) (.tmp 92) rfl rfl rfl rfl rfl Z10.out (ZIn.one ni _ rfl) G10.out.size (by simp; omega) ?_; intro A11 cap11 w11 own11 g11 r11; have b11 := Z10.out.grownBelow g11 G10.out.size; have R11 := hide (R10.out.keep (b11.mono hlt)); have N11 := hide (N10.out.apart g11 NZ.out); have Z11 := hide own11; have G11 := hide (grown_on G10.out b11); clear own11 g11 r11 b11)
                  go_roundw
                  case rel => exact ⟨k - 1, AR, capR, nl, A11, cap11, ids ++ [ni], by simp; omega, by go_num, rfl, by simp, T3, N11, Z11, R11, G11⟩
                  case measure => simp [intOf]; omega
                · clear TS2 hmem N9
                  go_wp2_with fail
                  go_roundw
                  case rel => exact ⟨k - 1, A, cap, l, As, caps, ids, by omega, by go_num, rfl, rfl, TP, O9, Z9, R9, G9⟩
                  case measure => simp [intOf]; omega
    · go_wp2
      go_ret2
      exact ⟨A, cap, l, As, caps, ids, O.out.cap_le, by omega, TP.out, rfl, O.out, Z.out, R.out, G.out⟩
end Go.Proofs.YtdahpnjamlfakaaGreatDoor
/-
  One of the ids of a drawn repository, or another one; what the draws of commits, of two of them, of what is to be committed give.
-/
namespace Go.Proofs.YtdahpnjamlfakaaGreatDoor
open Go.RowKit

theorem idT_16 (t : ByteArray) : (idT t).size ≤ 16 := by
  unfold idT
  split
  · rw [idL_size]; exact Nat.le_refl _
  · simp
/-- an id, drawn -/
def RdI16 (rb : Nat) (w : World) (e : Ending) (w' : World) : Prop := ∃ s : ByteArray, s.size ≤ 16 ∧ e = .returned (.string s) ∧ Rd w' rb ∧ w.grownBy w' (some rb)
set_option maxRecDepth 100000 in
set_option maxHeartbeats 1000000 in
theorem one_any (rb : Nat) (A : Option Addr) (ids : List ByteArray) (cap : Nat) (w : World) (B : Nat) (h : Rd w rb) (hB : rb < B) (hl : ids.length ≤ 60) (hz : ∀ q ∈ ids, q.size ≤ 16) (hown : ZOwn w B A cap ids) :
    Calls Tryz.prog 41 #[.pointer (some ⟨rb, 0, none⟩), .slice A ids.length cap] w (RdI16 rb w) := by
  have O := hide hown
  have R := hide h
  clear hown h
  generalize hin : ids.length = n at *
  have HIN := hide hin
  clear hin
  go_enter Tryz.func41, Tryz.ntmps41
  by_cases h0 : 0 < n
  · have g0 : ((n : Int) == 0) = false := by simp only [beq_eq_false_iff_ne, ne_eq]; omega
    have g1 : decide ((n : Int) = 0) = false := decide_eq_false (by omega)
    have g2 : ¬ n = 0 := by omega
    go_wp2_with fail
    refine (once_any rb 15 w R.out (by omega) (by omega)).mono ?_
    rintro e w1 ⟨x, rfl, r1, g1⟩
    have O1 := hide (O.out.rdZ hB g1)
    have R1 := hide r1
    have G1 := hide g1
    clear r1 g1 O R
    cases x
    · go_wp2_with fail
      refine (below_any rb n w1 R1.out (by omega) (by omega)).mono ?_
      rintro e w2 ⟨y, hy0, hy1, rfl, r2, g2⟩
      have O2 := hide (O1.out.rdZ hB g2)
      have R2 := hide r2
      have G2 := hide (World.grownBy.trans G1.out g2)
      clear r2 g2 O1 R1 G1
      obtain ⟨k, rfl⟩ := Int.eq_ofNat_of_zero_le hy0
      have hkn : k < n := by omega
      have hk : k < ids.length := by rw [HIN.out]; exact hkn
      obtain ⟨b, off, rfl, hb, hc⟩ := O2.out.zin (by omega)
      have c1 := hc k hk
      have hzk := hz _ (List.getElem_mem hk)
      clear hc hz
      generalize ids[k]'hk = q at *
      go_wp2_with fail
      go_ret
      exact ⟨q, hzk, rfl, R2.out, G2.out⟩
    · go_wp2_with fail
      refine (text_any rb w1 R1.out).mono ?_
      rintro e w2 ⟨t, ht, rfl, r2, g2⟩
      have R2 := hide r2
      have G2 := hide (World.grownBy.trans G1.out g2)
      clear r2 g2 O1 R1 G1
      go_wp2_with fail
      refine (specId t w2 (by unfold maxLen; omega)).mono ?_
      rintro e w3 ⟨rfl, b3⟩
      have R3 := hide (R2.out.below b3)
      have G3 := hide (World.grownBy.trans G2.out (grown_of_below b3))
      clear b3 R2 G2
      go_wp2_with fail
      go_ret
      exact ⟨idT t, idT_16 t, rfl, R3.out, G3.out⟩
  · have g0 : ((n : Int) == 0) = true := by simp only [beq_iff_eq]; omega
    have g1 : decide ((n : Int) = 0) = true := decide_eq_true (by omega)
    have g2 : n = 0 := by omega
    go_wp2_with fail
    refine (text_any rb w R.out).mono ?_
    rintro e w2 ⟨t, ht, rfl, r2, g2⟩
    have R2 := hide r2
    have G2 := hide g2
    clear r2 g2 O R
    go_wp2_with fail
    refine (specId t w2 (by unfold maxLen; omega)).mono ?_
    rintro e w3 ⟨rfl, b3⟩
    have R3 := hide (R2.out.below b3)
    have G3 := hide (World.grownBy.trans G2.out (grown_of_below b3))
    clear b3 R2 G2
    go_wp2_with fail
    go_ret
    exact ⟨idT t, idT_16 t, rfl, R3.out, G3.out⟩

/-- a drawn repository and an id -/
def DrawnRS (w : World) (e : Ending) (w' : World) : Prop := ∃ A cap l id, l.length ≤ cap ∧ l.length ≤ 60 ∧ id.size ≤ 16 ∧ (∃ ids, Top l ids) ∧ e = .returned (.tuple #[.slice A l.length cap, .string id]) ∧ Own w' w.heap.size A cap l ∧ Below w.heap.size w w'
/-- and two ids -/
def DrawnRSS (w : World) (e : Ending) (w' : World) : Prop := ∃ A cap l a b, l.length ≤ cap ∧ l.length ≤ 60 ∧ a.size ≤ 16 ∧ b.size ≤ 16 ∧ (∃ ids, Top l ids) ∧ e = .returned (.tuple #[.slice A l.length cap, .string a, .string b]) ∧ Own w' w.heap.size A cap l ∧ Below w.heap.size w w'
set_option maxRecDepth 100000 in
set_option maxHeartbeats 2000000 in
theorem drawCommitAt_any (A : Option Addr) (n cap : Nat) (w : World) (hn : n ≤ 1048576) (hin : CIn w w.heap.size A n) :
    Calls Tryz.prog 24 #[.slice A n cap] w (DrawnRS w) := by
  go_enter Tryz.func24, Tryz.ntmps24
  go_wp2_with fail
  refine (l1Open_any A n cap w hn hin).mono ?_
  rintro e w1 ⟨rfl, r1, b1⟩
  have B1 := hide b1
  have hlt1 := r1.lt
  clear b1 hin
  go_wp2_with fail
  refine (repo_any w.heap.size 6 w1 r1 (by omega) (by omega)).mono ?_
  rintro e w2 ⟨A2, cap2, l, As, caps, ids, hc2, hi6, TP, rfl, own2, zown2, r2, g2⟩
  have B2 := hide (B1.out.trans (grown_below g2 B1.out.size))
  have O2 := hide own2
  have Z2 := hide zown2
  have T2 := hide TP
  have R2 := hide r2
  have hl60 := top_objs TP
  have hs1 := B1.out.size
  clear own2 zown2 g2 r1 r2 B1 TP
  go_wp2_with fail
  refine (once_any w.heap.size 4 w2 R2.out (by omega) (by omega)).mono ?_
  rintro e w3 ⟨x, rfl, r3, g3⟩
  have B3 := hide (B2.out.trans (grown_below g3 B2.out.size))
  have O3 := hide (O2.out.rd hlt1 g3)
  have Z3 := hide (Z2.out.rdZ hlt1 g3)
  have R3 := hide r3
  clear g3 r3 B2 O2 Z2 R2
  by_cases hx : x = true ∧ 0 < l.length
  · obtain ⟨rfl, h0⟩ := hx
    obtain ⟨b, off, rfl, hbB, hc⟩ := O3.out.pin.2 h0
    obtain ⟨c1, c2⟩ := hc 0 h0
    simp only [Nat.zero_mul, Nat.add_zero] at c1 c2
    have hk16 : (l[0]'h0).1.size ≤ 16 := by
      have ho := (repoB_iff.1 T2.out.rep).1
      rw [← ((objs_all.1 ho).2.1 _ (List.getElem_mem h0)).2, idL_size]
      exact Nat.le_refl _
    have O4 := hide (O3.out.more (B' := w.heap.size) hs1)
    generalize (l[0]'h0).1 = s at *
    have F : Hid (DrawnRS w (.returned (.tuple #[.slice (some ⟨b, off, none⟩) l.length cap2, .string s])) w3.drew) := hide ⟨_, cap2, l, s, hc2, hl60, hk16, ⟨ids, T2.out⟩, rfl, O4.out.drew, B3.out.drew⟩
    clear hc O3 O4 hc2 hl60 c2 hk16 T2
    generalize l.length = ln at *
    go_wp2_with fail
    go_region
    all_goals
      go_wp2
      go_ret2
      exact F.out
  · have ON := hide (one_any w.heap.size As ids caps w3 w1.heap.size R3.out hlt1 (by omega) (top_sizes T2.out) Z3.out)
    have FIN : Hid (∀ s w4, s.size ≤ 16 → w3.grownBy w4 (some w.heap.size) → DrawnRS w (.returned (.tuple #[.slice A2 l.length cap2, .string s])) w4) := hide (fun s w4 hs g4 => ⟨A2, cap2, l, s, hc2, hl60, hs, ⟨ids, T2.out⟩, rfl, (O3.out.rd hlt1 g4).more hs1, B3.out.trans (grown_below g4 B3.out.size)⟩)
    clear hc2 hl60
    generalize l.length = ln at *
    cases x
    · go_wp2_with fail
      refine ON.out.mono ?_
      rintro e w4 ⟨s, hs, rfl, r4, g4⟩
      have F := hide (FIN.out s w4 hs g4)
      clear FIN ON O3 Z3 R3 B3 r4 g4
      go_wp2_with fail
      go_ret2
      exact F.out
    · have h0 : ¬ 0 < ln := fun h => hx ⟨rfl, h⟩
      clear hx
      go_wp2_with fail
      refine ON.out.mono ?_
      rintro e w4 ⟨s, hs, rfl, r4, g4⟩
      have F := hide (FIN.out s w4 hs g4)
      clear FIN ON O3 Z3 R3 B3 r4 g4
      go_wp2_with fail
      go_ret2
      exact F.out
theorem results_tmp4 {fn : Func} {t u v x : Tmp} (h : fn.results = #[.tmp t, .tmp u, .tmp v, .tmp x]) (tmps : Array Value) (P : Program) (w : World) :
    (results fn tmps).run P w = .ok (.tuple #[tmps.getD t undef, tmps.getD u undef, tmps.getD v undef, tmps.getD x undef]) w := by
  simp [results, h]
/-- a drawn repository, and what is to be committed to it -/
def DrawnCm (w : World) (e : Ending) (w' : World) : Prop := ∃ AL capL l AM capM m AP capP ps note, l.length ≤ capL ∧ l.length ≤ 60 ∧ m.length ≤ 40 ∧ ps.length ≤ 2 ∧ slenS ps ∧ note.size ≤ maxLen ∧ (∃ ids, Top l ids) ∧ e = .returned (.tuple #[.slice AL l.length capL, .slice AM m.length capM, .slice AP ps.length capP, .string note]) ∧ Own w' w.heap.size AL capL l ∧ M.Own w' w.heap.size AM capM m ∧ ZOwn w' w.heap.size AP capP ps ∧ Below w.heap.size w w'
theorem putK_len (ks : List ByteArray) (s : ByteArray) : (putK ks s).length ≤ ks.length + 1 := by
  induction ks with
  | nil => simp [putK]
  | cons a r ih =>
    unfold putK
    split
    · simp; omega
    · split <;> simp
set_option maxRecDepth 100000 in
set_option maxHeartbeats 2000000 in
theorem drawCommitted_any (A : Option Addr) (n cap : Nat) (w : World) (hn : n ≤ 1048576) (hin : CIn w w.heap.size A n) :
    Calls Tryz.prog 20 #[.slice A n cap] w (DrawnCm w) := by
  go_enter Tryz.func20, Tryz.ntmps20
  go_wp2_with fail
  refine (l1Open_any A n cap w hn hin).mono ?_
  rintro e w1 ⟨rfl, r1, b1⟩
  have B1 := hide b1
  have hlt1 := r1.lt
  clear b1 hin
  go_wp2_with fail
  refine (repo_any w.heap.size 6 w1 r1 (by omega) (by omega)).mono ?_
  rintro e w2 ⟨A2, cap2, l, As, caps, ids, hc2, hi6, TP, rfl, own2, zown2, r2, g2⟩
  have B2 := hide (B1.out.trans (grown_below g2 B1.out.size))
  have O2 := hide own2
  have Z2 := hide zown2
  have T2 := hide TP
  have R2 := hide r2
  have hl60 := top_objs TP
  have hs1 := B1.out.size
  clear own2 zown2 g2 r1 r2 B1 TP
  have hil : ids.length ≤ 60 := by omega
  have HZ := hide (top_sizes T2.out)
  have P3 := hide (ZOwn.built w2 (w.heap.size + 1) R2.out.lt)
  have O3 := hide (O2.out.alloc (.cells #[] 9))
  have Z3 := hide (Z2.out.alloc (.cells #[] 9))
  have R3 := hide (R2.out.below ((Below.refl _ w2).alloc (Nat.le_refl _) (.cells #[] 9)))
  have B3 := hide (B2.out.alloc B2.out.size (.cells #[] 9))
  clear O2 Z2 R2 B2
  go_wp2_with fail
  refine (below_any w.heap.size 3 _ R3.out (by omega) (by omega)).mono ?_
  rintro e w3 ⟨x, hx0, hx1, rfl, r4, g4⟩
  obtain ⟨kp, rfl⟩ := Int.eq_ofNat_of_zero_le hx0
  have P4 := hide (P3.out.rdZ (by omega) g4)
  have O4 := hide (O3.out.rd hlt1 g4)
  have Z4 := hide (Z3.out.rdZ hlt1 g4)
  have R4 := hide r4
  have B4 := hide (B3.out.trans (grown_below g4 B3.out.size))
  clear r4 g4 P3 O3 Z3 R3 B3
  go_wp2
  go_loopw [9, 10] (fun pv jv wq => ∃ (j : Nat) (AP : Option Addr) (capP : Nat) (ps : List ByteArray), ps.length + j ≤ 2 ∧ jv = .int .i64 j ∧ pv = .slice AP ps.length capP ∧ Hid (∀ q ∈ ps, q.size ≤ 16) ∧ Hid (ZOwn wq (w.heap.size + 1) AP capP ps) ∧ Hid (Own wq w1.heap.size A2 cap2 l) ∧ Hid (ZOwn wq w1.heap.size As caps ids) ∧ Hid (Rd wq w.heap.size) ∧ Hid (Below w.heap.size w wq)) (fun _ i _ => (intOf i).toNat)
  case atStart => exact ⟨kp, _, 0, [], by simp; omega, rfl, rfl, hide (fun _ h => absurd h (by simp)), P4, O4, Z4, R4, B4⟩
  case round =>
    clear P4 O4 Z4 R4 B4
    obtain ⟨j, AP, capP, ps, hj, rfl, rfl, PI, P, O, Z, R, B⟩ := hrel
    by_cases hj0 : 0 < j
    · go_wp2_with fail
      refine (one_any w.heap.size As ids caps wr w1.heap.size R.out hlt1 hil HZ.out Z.out).mono ?_
      rintro e w5 ⟨s, hs, rfl, r5, g5⟩
      have P5 := hide (P.out.rdZ (by omega) g5)
      have O5 := hide (O.out.rd hlt1 g5)
      have Z5 := hide (Z.out.rdZ hlt1 g5)
      have R5 := hide r5
      have B5 := hide (B.out.trans (grown_below g5 B.out.size))
      have PU := hide (l1PutX_any AP ps capP s w5 (w.heap.size + 1) (by omega) P5.out (by have := R5.out.lt; omega))
      have hpl := putK_len ps s
      have PI5 : Hid (∀ q ∈ putK ps s, q.size ≤ 16) := hide (fun q hq => by
        rcases (mem_putK _ _ _).1 hq with h | h
        · exact PI.out q h
        · rw [h]; exact hs)
      clear r5 g5 P O Z R B P5
      generalize ps.length = pn at *
      go_wp2_with fail
      refine PU.out.mono ?_
      rintro e w6 ⟨AP6, capP6, rfl, own6, b6⟩
      have P6 := hide own6
      have O6 := hide (O5.out.below b6)
      have Z6 := hide (Z5.out.below b6)
      have R6 := hide (R5.out.below b6)
      have B6 := hide (B5.out.trans (b6.mono B5.out.size))
      clear own6 b6 PU O5 Z5 R5 B5
      go_wp2_with fail
      go_roundw
      case rel => exact ⟨j - 1, AP6, capP6, putK ps s, by omega, by go_num, rfl, PI5, P6, O6, Z6, R6, B6⟩
      case measure => simp [intOf]; omega
    · have hpl : ps.length ≤ 2 := by omega
      go_wp2_with fail
      refine (M.pairsM_any w.heap.size 4 wr R.out (by omega) (by omega)).mono ?_
      rintro e w5 ⟨AM, capM, m, hcm, hm40, hmB, rfl, ownm, r5, g5⟩
      have M5 := hide ownm
      have P5 := hide (P.out.rdZ (by omega) g5)
      have O5 := hide (O.out.rd hlt1 g5)
      have R5 := hide r5
      have B5 := hide (B.out.trans (grown_below g5 B.out.size))
      clear ownm r5 g5 P O Z R B hmB
      go_wp2_with fail
      refine (M.val_any w.heap.size w5 R5.out).mono ?_
      rintro e w6 ⟨note, hnote, hno, rfl, r6, g6⟩
      have M6 := hide ((M5.out.rd g6).more (B' := w.heap.size) (by omega))
      have P6 := hide ((P5.out.rdZ (by omega) g6).more (B' := w.heap.size) (by omega))
      have O6 := hide ((O5.out.rd hlt1 g6).more (B' := w.heap.size) hs1)
      have B6 := hide (B5.out.trans (grown_below g6 B5.out.size))
      have SL : Hid (slenS ps) := hide (fun i hi => by have := PI.out _ (List.getElem_mem hi); unfold maxLen; omega)
      clear r6 g6 M5 P5 O5 R5 B5 hno
      go_wp2_with fail
      (try simp only [Exit.inBlock, Exit.then])
      refine bodyPost_ret (results_tmp4 rfl _ _ _) rfl ?_
      exact ⟨A2, cap2, l, AM, capM, m, AP, capP, ps, note, hc2, hl60, hm40, hpl, SL.out, by unfold maxLen; omega, ⟨ids, T2.out⟩, rfl, O6.out, M6.out, P6.out, B6.out⟩
end Go.Proofs.YtdahpnjamlfakaaGreatDoor
/-
  What laws.within and laws.sameCommit answer where the law wants it.
-/
namespace Go.Proofs.YtdahpnjamlfakaaGreatDoor
open Go.RowKit

/-- a boxed commit -/
def BoxC (w : World) (g : Nat) (t m : ByteArray) (A : Option Addr) (n cap : Nat) : Prop := w.heap[g]? = some (.cells #[.string t, .slice A n cap, .string m] 30 (0, 0))
theorem BoxC.below {w w' : World} {g : Nat} {t m : ByteArray} {A : Option Addr} {n cap : Nat} (h : BoxC w g t m A n cap) (hb : Below w.heap.size w w') : BoxC w' g t m A n cap := (hb.block g (Array.getElem?_eq_some_iff.1 h).1).trans h
theorem BoxC.lt {w : World} {g : Nat} {t m : ByteArray} {A : Option Addr} {n cap : Nat} (h : BoxC w g t m A n cap) : g < w.heap.size := (Array.getElem?_eq_some_iff.1 h).1
theorem BoxC.c0 {w : World} {g : Nat} {t m : ByteArray} {A : Option Addr} {n cap : Nat} (h : BoxC w g t m A n cap) : w.cell? ⟨g, 0, none⟩ = some (.string t) := cell_of_row _ _ 0 _ _ _ h
theorem BoxC.c1 {w : World} {g : Nat} {t m : ByteArray} {A : Option Addr} {n cap : Nat} (h : BoxC w g t m A n cap) : w.cell? ⟨g, 1, none⟩ = some (.slice A n cap) := cell_of_row _ _ 1 _ _ _ h
theorem BoxC.c2 {w : World} {g : Nat} {t m : ByteArray} {A : Option Addr} {n cap : Nat} (h : BoxC w g t m A n cap) : w.cell? ⟨g, 2, none⟩ = some (.string m) := cell_of_row _ _ 2 _ _ _ h
theorem rd_sizes (s : ByteArray) : (rdC s).1.size ≤ maxLen ∧ (rdC s).2.1.length ≤ maxLen ∧ (rdC s).2.2.size ≤ maxLen ∧ slenS (rdC s).2.1 := by
  by_cases h : ∃ c, isCom s c
  · obtain ⟨c, hc⟩ := h
    rw [(rd_yes hc).2]
    obtain ⟨h1, h2, h3, h4⟩ := comSz_of hc.1
    obtain ⟨_, p2⟩ := (com_parts hc.1).2
    refine ⟨by unfold maxLen; omega, by unfold maxLen; omega, by unfold maxLen; omega, fun i hi => ?_⟩
    have := p2 _ (List.getElem_mem hi)
    unfold maxLen
    omega
  · rw [(rd_no h).2]
    exact ⟨by simp, by simp, by simp, fun i hi => absurd hi (by simp)⟩
set_option maxRecDepth 100000 in
set_option maxHeartbeats 1000000 in
theorem within_yes (A A' : Option Addr) (l l' : List ByteArray) (cap cap' : Nat) (w : World) (B B' : Nat) (hl : l.length ≤ maxLen) (hl' : l'.length ≤ maxLen) (hin : ZIn w B A l) (hin' : ZIn w B' A' l') (hs : ∀ z ∈ l, z ∈ l') :
    Calls Tryz.prog 18 #[.slice A l.length cap, .slice A' l'.length cap'] w fun e w' => e = .returned (.bool true) ∧ Quiet w w' := by
  unfold maxLen at hl
  have IN := hide hin
  have HAS : Hid (∀ W s, Quiet w W → Calls Tryz.prog 35 #[.slice A' l'.length cap', .string s] W fun e w' => e = .returned (.bool (hasK l' s)) ∧ W = w') := hide (fun W s q => lawsHas_any A' l' cap' s W B' hl' (hin'.quiet q))
  have HS : Hid (∀ z ∈ l, hasK l' z = true) := hide (fun z h => hasK_yes (hs z h))
  clear hin hin' hs hl'
  generalize hn : l.length = n at *
  generalize l'.length = n' at *
  have HN := hide hn
  clear hn
  go_enter Tryz.func18, Tryz.ntmps18
  go_wp2
  go_loopw [5] (fun iv wr => ∃ k : Nat, k ≤ n ∧ iv = .int .i64 k ∧ Hid (Quiet w wr)) (fun i _ => n - (intOf i).toNat)
  case atStart => exact ⟨0, Nat.zero_le _, rfl, Quiet.refl w⟩
  case round =>
    obtain ⟨k, hk, rfl, Q⟩ := hrel
    by_cases hlt : k < n
    · have hkl : k < l.length := by rw [HN.out]; omega
      obtain ⟨b, off, rfl, _, hc⟩ := IN.out (by omega)
      have c1 := (Q.out.cell _).trans (hc k hkl)
      have HH := hide (HAS.out wr (l[k]'hkl) Q.out)
      rw [HS.out _ (List.getElem_mem hkl)] at HH
      generalize l[k]'hkl = s at *
      clear hc
      go_wp2_with fail
      refine HH.out.mono ?_
      rintro e w2 ⟨rfl, rfl⟩
      go_wp2_with fail
      go_roundw
      case rel => exact ⟨k + 1, by omega, by go_num, Q⟩
      case measure => simp [intOf]; omega
    · have hgt : ¬ ((k : Int) < (n : Int)) := by omega
      clear hlt
      go_wp2
      go_ret
      exact ⟨rfl, Q.out⟩
end Go.Proofs.YtdahpnjamlfakaaGreatDoor
