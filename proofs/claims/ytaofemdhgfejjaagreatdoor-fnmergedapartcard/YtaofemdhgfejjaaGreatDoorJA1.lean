/-
  Texts that this proof leans on, joined: part 1.
-/
import Derived.Below
import GoSem.Claim
import Derived.Laws.Strings
import Derived.WideShapes
import Derived.WalkKit
import Derived.Deep.QuietTactic
import Derived.OwnWalk
import Derived.Test.YtaofemdhgfejjaaGreatDoorProg
import Derived.LaidEql
import Derived.Stop.Asserts
import Derived.RowKitTokens
import Derived.Test.YtaofemdhgfejjaaGreatDoorCards
import Derived.Test.YtaofemdhgfejjaaGreatDoorTie
import Derived.ProofKit
import Derived.OpenShut
import Derived.ShutString
import Derived.Deep.DeepHandedRow
import Derived.WalkSmall
import Derived.Carry
import Derived.LaidHandle
import Derived.Stop.LaidErr
import Derived.Test.YtaofemdhgfejjaaGreatDoorChecked
import Derived.WalkLawsBesides
import Derived.Lib.Hide
import Derived.Maps.AppendAt
import Derived.BigQuiet
import Derived.IntWalk
import Derived.Laws.Rows
import Derived.Deep.RegionLaw
import Derived.Deep.Slices
import Derived.Deep.RegionHeld3
import Derived.Lib.Bytealg
import Derived.Deep.LoopGhost
import Derived.Deep.DeepMust
import Derived.RegionTactic
/-
  Plain mathematics of texts and maps, for the walks of this seat: which texts are keys and values, which lists of pairs are right maps. No Go in it.
-/
namespace Go.Proofs.YtaofemdhgfejjaaGreatDoor
open Go.RowKit

theorem hide {p : Prop} (h : p) : Hid p := h
theorem ret_bool {a b : Bool} (h : a = b) : Ending.returned (.bool a) = .returned (.bool b) := by rw [h]
theorem ret_int {k : IntKind} {a b : Int} (h : a = b) : Ending.returned (.int k a) = .returned (.int k b) := by rw [h]
theorem ret_ib {k : IntKind} {a b : Int} {c d : Bool} (h : a = b) (h' : c = d) : Ending.returned (.tuple #[.int k a, .bool c]) = .returned (.tuple #[.int k b, .bool d]) := by rw [h, h']
theorem ret_sb {a b : ByteArray} {c d : Bool} (h : a = b) (h' : c = d) : Ending.returned (.tuple #[.string a, .bool c]) = .returned (.tuple #[.string b, .bool d]) := by rw [h, h']
theorem ret_str {a b : ByteArray} (h : a = b) : Ending.returned (.string a) = .returned (.string b) := by rw [h]

theorem eqS_yes {a b : ByteArray} (h : a = b) : (a.toList == b.toList) = true := by simp [h]
theorem eqS_no {a b : ByteArray} (h : ¬ a = b) : (a.toList == b.toList) = false := by
  rw [beq_eq_false_iff_ne]
  intro e
  rw [Go.ByteArray.toList_eq, Go.ByteArray.toList_eq] at e
  exact h (Go.WideShapes.bytes_inj e)

/-- the first k bytes of s meet p -/
def allTo (p : Int → Bool) (s : ByteArray) (k : Nat) : Prop := ∀ j (h : j < s.size), j < k → p (s[j].toNat : Int) = true
theorem allTo_zero (p : Int → Bool) (s : ByteArray) : allTo p s 0 := fun _ _ h => absurd h (by omega)
theorem allTo_succ {p : Int → Bool} {s : ByteArray} {k : Nat} (hk : k < s.size) (h : allTo p s k) (hc : p (s[k].toNat : Int) = true) : allTo p s (k + 1) := by
  intro j hj hlt
  rcases Nat.lt_or_ge j k with h1 | h1
  · exact h j hj h1
  · obtain rfl : j = k := by omega
    exact hc

open Classical in
/-- lo .. hi bytes, each of which meets p -/
noncomputable def okB (lo hi : Int) (p : Int → Bool) (s : ByteArray) : Bool := decide (lo ≤ (s.size : Int) ∧ (s.size : Int) ≤ hi ∧ allTo p s s.size)
open Classical in
theorem okB_iff {lo hi : Int} {p : Int → Bool} {s : ByteArray} : okB lo hi p s = true ↔ lo ≤ (s.size : Int) ∧ (s.size : Int) ≤ hi ∧ allTo p s s.size := by unfold okB; exact decide_eq_true_iff
theorem okB_yes {lo hi : Int} {p : Int → Bool} {s : ByteArray} (h : lo ≤ (s.size : Int)) (h' : (s.size : Int) ≤ hi) (k : allTo p s s.size) : okB lo hi p s = true := okB_iff.2 ⟨h, h', k⟩
theorem okB_len {lo hi : Int} {p : Int → Bool} {s : ByteArray} (h : (s.size : Int) < lo ∨ hi < (s.size : Int)) : okB lo hi p s = false := by
  cases e : okB lo hi p s
  · rfl
  · have := okB_iff.1 e; omega
theorem okB_bad {lo hi : Int} {p : Int → Bool} {s : ByteArray} {k : Nat} (hk : k < s.size) (h : p (s[k].toNat : Int) = false) : okB lo hi p s = false := by
  cases e : okB lo hi p s
  · rfl
  · have := (okB_iff.1 e).2.2 k hk hk; rw [h] at this; cases this

/-- a letter a .. z or a digit -/
def keyC (c : Int) : Bool := (decide (97 ≤ c) && decide (c ≤ 122)) || (decide (48 ≤ c) && decide (c ≤ 57))
theorem keyC_yes {c : Int} (h : (97 ≤ c ∧ c ≤ 122) ∨ (48 ≤ c ∧ c ≤ 57)) : keyC c = true := by
  unfold keyC; rcases h with ⟨a, b⟩ | ⟨a, b⟩ <;> simp [a, b]
theorem keyC_no {c : Int} (h : (c < 97 ∨ 122 < c) ∧ (c < 48 ∨ 57 < c)) : keyC c = false := by
  unfold keyC; obtain ⟨a, b⟩ := h; rw [Bool.or_eq_false_iff, Bool.and_eq_false_iff, Bool.and_eq_false_iff]; simp; omega
/-- a digit 0 .. 9, a .. f -/
def hexC (c : Int) : Bool := (decide (97 ≤ c) && decide (c ≤ 102)) || (decide (48 ≤ c) && decide (c ≤ 57))
theorem hexC_yes {c : Int} (h : (97 ≤ c ∧ c ≤ 102) ∨ (48 ≤ c ∧ c ≤ 57)) : hexC c = true := by
  unfold hexC; rcases h with ⟨a, b⟩ | ⟨a, b⟩ <;> simp [a, b]
theorem hexC_no {c : Int} (h : (c < 97 ∨ 102 < c) ∧ (c < 48 ∨ 57 < c)) : hexC c = false := by
  unfold hexC; obtain ⟨a, b⟩ := h; rw [Bool.or_eq_false_iff, Bool.and_eq_false_iff, Bool.and_eq_false_iff]; simp; omega
/-- a byte 32 .. 126 -/
def plainC (c : Int) : Bool := decide (32 ≤ c) && decide (c ≤ 126)
theorem plainC_yes {c : Int} (h : 32 ≤ c) (h' : c ≤ 126) : plainC c = true := by unfold plainC; simp [h, h']
theorem plainC_no {c : Int} (h : c < 32 ∨ 126 < c) : plainC c = false := by unfold plainC; rw [Bool.and_eq_false_iff]; simp; omega

theorem five (c hi : Int) : c < 48 ∨ (48 ≤ c ∧ c ≤ 57) ∨ (57 < c ∧ c < 97) ∨ (97 ≤ c ∧ c ≤ hi) ∨ (97 ≤ c ∧ hi < c) := by omega

noncomputable def keyB (s : ByteArray) : Bool := okB 1 8 keyC s
noncomputable def plainB (s : ByteArray) (most : Int) : Bool := okB 0 most plainC s
noncomputable def valB (s : ByteArray) : Bool := plainB s 12
noncomputable def idB (s : ByteArray) : Bool := okB 16 16 hexC s

/-- the order of texts, byte by byte -/
def ltB (a b : ByteArray) : Bool := Op.bytesLess a.toList b.toList

/-- a map as a list of its pairs -/
abbrev Pr := ByteArray × ByteArray
def emp : Pr := (ByteArray.empty, ByteArray.empty)
def eqPr (p q : Pr) : Bool := decide (p = q)
theorem eqPr_yes {p q : Pr} (h : p = q) : eqPr p q = true := decide_eq_true h
theorem eqPr_no {p q : Pr} (h : ¬ p = q) : eqPr p q = false := decide_eq_false h
def eqL (l l' : List Pr) : Bool := decide (l = l')
theorem eqL_yes {p q : List Pr} (h : p = q) : eqL p q = true := decide_eq_true h
theorem eqL_no {p q : List Pr} (h : ¬ p = q) : eqL p q = false := decide_eq_false h
theorem eqL_self (p : List Pr) : eqL p p = true := eqL_yes rfl
/-- the first k pairs are right, and rise -/
def mapTo (l : List Pr) (k : Nat) : Prop :=
  (∀ i (h : i < l.length), i < k → keyB l[i].1 = true ∧ valB l[i].2 = true) ∧ ∀ i (h : i + 1 < l.length), i + 1 < k → ltB l[i].1 l[i + 1].1 = true
theorem mapTo_zero (l : List Pr) : mapTo l 0 := ⟨fun _ _ h => absurd h (by omega), fun _ _ h => absurd h (by omega)⟩
theorem mapTo_succ {l : List Pr} {k : Nat} (hk : k < l.length) (h : mapTo l k) (h1 : keyB l[k].1 = true) (h2 : valB l[k].2 = true) (h3 : ∀ (hp : 0 < k), ltB (l[k - 1]'(by omega)).1 l[k].1 = true) : mapTo l (k + 1) := by
  refine ⟨fun i hi hik => ?_, fun i hi hik => ?_⟩
  · rcases Nat.lt_or_ge i k with g | g
    · exact h.1 i hi g
    · obtain rfl : i = k := by omega
      exact ⟨h1, h2⟩
  · rcases Nat.lt_or_ge (i + 1) k with g | g
    · exact h.2 i hi g
    · obtain rfl : k = i + 1 := by omega
      simpa using h3 (by omega)
open Classical in
noncomputable def mapB (l : List Pr) : Bool := decide (l.length ≤ 40 ∧ mapTo l l.length)
open Classical in
theorem mapB_iff {l : List Pr} : mapB l = true ↔ l.length ≤ 40 ∧ mapTo l l.length := by unfold mapB; exact decide_eq_true_iff
theorem mapB_yes {l : List Pr} (h : l.length ≤ 40) (k : mapTo l l.length) : mapB l = true := mapB_iff.2 ⟨h, k⟩
theorem mapB_len {l : List Pr} (h : 40 < l.length) : mapB l = false := by
  cases e : mapB l
  · rfl
  · have := (mapB_iff.1 e).1; omega
theorem mapB_key {l : List Pr} {k : Nat} (hk : k < l.length) (h : keyB l[k].1 = false) : mapB l = false := by
  cases e : mapB l
  · rfl
  · have := ((mapB_iff.1 e).2.1 k hk hk).1; rw [h] at this; cases this
theorem mapB_val {l : List Pr} {k : Nat} (hk : k < l.length) (h : valB l[k].2 = false) : mapB l = false := by
  cases e : mapB l
  · rfl
  · have := ((mapB_iff.1 e).2.1 k hk hk).2; rw [h] at this; cases this
theorem mapB_rise {l : List Pr} {k : Nat} (hk : k + 1 < l.length) (h : ltB l[k].1 l[k + 1].1 = false) : mapB l = false := by
  cases e : mapB l
  · rfl
  · have := (mapB_iff.1 e).2.2 k hk hk; rw [h] at this; cases this
/-- pairs that are right, and do they rise: what the two loops of the program ask one behind the other -/
def pairsTo (l : List Pr) (k : Nat) : Prop := ∀ i (h : i < l.length), i < k → keyB l[i].1 = true ∧ valB l[i].2 = true
theorem pairsTo_zero (l : List Pr) : pairsTo l 0 := fun _ _ h => absurd h (by omega)
theorem pairsTo_succ {l : List Pr} {k : Nat} (hk : k < l.length) (h : pairsTo l k) (h1 : keyB l[k].1 = true) (h2 : valB l[k].2 = true) : pairsTo l (k + 1) := by
  intro i hi hik
  rcases Nat.lt_or_ge i k with g | g
  · exact h i hi g
  · obtain rfl : i = k := by omega
    exact ⟨h1, h2⟩
def risesTo (l : List Pr) (k : Nat) : Prop := ∀ i (h : i + 1 < l.length), i + 1 < k → ltB l[i].1 l[i + 1].1 = true
theorem risesTo_one (l : List Pr) : risesTo l 1 := fun _ _ h => absurd h (by omega)
theorem risesTo_succ {l : List Pr} {k : Nat} (hk : k + 1 < l.length) (h : risesTo l (k + 1)) (h1 : ltB l[k].1 l[k + 1].1 = true) : risesTo l (k + 2) := by
  intro i hi hik
  rcases Nat.lt_or_ge i k with g | g
  · exact h i hi (by omega)
  · obtain rfl : i = k := by omega
    exact h1
open Classical in
noncomputable def risesB (l : List Pr) : Bool := decide (risesTo l l.length)
open Classical in
theorem risesB_iff {l : List Pr} : risesB l = true ↔ risesTo l l.length := by unfold risesB; exact decide_eq_true_iff
theorem risesB_yes {l : List Pr} (h : risesTo l l.length) : risesB l = true := risesB_iff.2 h
theorem risesB_no {l : List Pr} {k : Nat} (hk : k + 1 < l.length) (h : ltB l[k].1 l[k + 1].1 = false) : risesB l = false := by
  cases e : risesB l
  · rfl
  · have := risesB_iff.1 e k hk hk; rw [h] at this; cases this
theorem mapB_of {l : List Pr} (h : l.length ≤ 40) (hp : pairsTo l l.length) : mapB l = risesB l := by
  cases e : risesB l
  · cases e' : mapB l
    · rfl
    · exact absurd (risesB_yes (mapB_iff.1 e').2.2) (by rw [e]; simp)
  · exact mapB_yes h ⟨hp, risesB_iff.1 e⟩
end Go.Proofs.YtaofemdhgfejjaaGreatDoor
/-
  Words for memory: worlds that part by draws alone.
-/
namespace Go.Proofs.YtaofemdhgfejjaaGreatDoor
open Go.RowKit

/-- nothing but draws lies between the two -/
def Quiet (w w' : World) : Prop := ∃ m, w' = w.drewN m
theorem Quiet.refl (w : World) : Quiet w w := ⟨0, rfl⟩
theorem Quiet.trans {a b c : World} (h : Quiet a b) (k : Quiet b c) : Quiet a c := by
  obtain ⟨m, rfl⟩ := h; obtain ⟨n, rfl⟩ := k; exact ⟨m + n, by rw [World.drewN_drewN]⟩
theorem Quiet.drew {a b : World} (h : Quiet a b) : Quiet a b.drew := h.trans ⟨1, rfl⟩
theorem Quiet.drewN {a b : World} (h : Quiet a b) (n : Nat) : Quiet a (b.drewN n) := h.trans ⟨n, rfl⟩
theorem Quiet.cell {a b : World} (h : Quiet a b) (p : Addr) : b.cell? p = a.cell? p := by obtain ⟨m, rfl⟩ := h; rfl
theorem Quiet.heap {a b : World} (h : Quiet a b) : b.heap = a.heap := by obtain ⟨m, rfl⟩ := h; rfl
theorem Quiet.below {a b : World} (h : Quiet a b) (B : Nat) : Below B a b := by obtain ⟨m, rfl⟩ := h; exact ⟨rfl, rfl, rfl, Nat.le_refl _, fun _ _ => rfl⟩

/-- a contract that only computes, met inside a quiet region -/
theorem quiet_same {P : Program} {f : FuncId} {args : Array Value} {w : World} {n : Nat} {v : Value}
    (h : Calls P f args (w.drewN n) fun e w' => e = .returned v ∧ w.drewN n = w') : Calls P f args (w.drewN n) fun e w'' => e = .returned v ∧ ∃ m, w'' = w.drewN m :=
  h.mono fun _ _ ⟨he, hm⟩ => ⟨he, n, hm.symm⟩
theorem quiet_q {P : Program} {f : FuncId} {args : Array Value} {w : World} {n : Nat} {v : Value}
    (h : Calls P f args (w.drewN n) fun e w' => e = .returned v ∧ Quiet (w.drewN n) w') : Calls P f args (w.drewN n) fun e w'' => e = .returned v ∧ ∃ m, w'' = w.drewN m :=
  h.mono fun _ _ ⟨he, m, hm⟩ => ⟨he, n + m, by rw [hm, World.drewN_drewN]⟩

theorem cell_below {W w1 : World} (hb : Below W.heap.size W w1) : ∀ b o, b < W.heap.size → w1.cell? ⟨b, o, none⟩ = W.cell? ⟨b, o, none⟩ := fun b o h => hb.cell (p := ⟨b, o, none⟩) h

end Go.Proofs.YtaofemdhgfejjaaGreatDoor
/-
  Two small words on worlds that are alike below a block.
-/
namespace Go.Proofs.YtaofemdhgfejjaaGreatDoor
open Go.RowKit

theorem Below.toGrown {w w' : World} (h : Below w.heap.size w w') (row : Option Nat) : w.grownBy w' row := ⟨h.os, h.tape, h.output, h.size, fun i hi _ => h.block i hi⟩
theorem cellB {B : Nat} {W w1 : World} (hb : Below B W w1) {b o : Nat} {u : Value} (hlt : b < B) (h : W.cell? ⟨b, o, none⟩ = some u) : w1.cell? ⟨b, o, none⟩ = some u := (hb.cell (p := ⟨b, o, none⟩) hlt).trans h
end Go.Proofs.YtaofemdhgfejjaaGreatDoor
/-
  What errors.Is and errors.As answer at the program's own refusals and clashes: Go's own text of both is walked.
-/
namespace Go.Proofs.YtaofemdhgfejjaaGreatDoor
open Go.RowKit Go.Extern.Stop Go.Stop Go.Extern

/-- the two package-level variables that mergers read: the sentinel, and the handle of the type error -/
def Errs (w : World) (a : Addr) : Prop :=
  w.cell? ⟨0, 0, none⟩ = some (.iface 181 (.pointer (some a))) ∧ w.cell? ⟨1, 0, none⟩ = some (.iface 130 (.agg #[.pointer (some ⟨3, 52, none⟩)])) ∧ 0 < w.heap.size ∧ 1 < w.heap.size
theorem Errs.below {w w' : World} {a : Addr} (h : Errs w a) (q : Below w.heap.size w w') : Errs w' a :=
  ⟨cellB q h.2.2.1 h.1, cellB q h.2.2.2 h.2.1, Nat.lt_of_lt_of_le h.2.2.1 q.size, Nat.lt_of_lt_of_le h.2.2.2 q.size⟩
theorem Errs.belowB {w w' : World} {a : Addr} {B : Nat} (h : Errs w a) (q : Below B w w') (h1 : 0 < B) (h2 : 1 < B) : Errs w' a :=
  ⟨cellB q h1 h.1, cellB q h2 h.2.1, Nat.lt_of_lt_of_le h.2.2.1 q.size, Nat.lt_of_lt_of_le h.2.2.2 q.size⟩

theorem isTypeOf (v : Value) (w : World) : (Extern.ReflectliteType.typeOf #[.iface 181 v]).run Tryz.prog w = .ok (.iface 130 (.agg #[.pointer (some ⟨3, 181, none⟩)])) w := by kernel_rfl
/-- what the model's entry for Comparable answers -/
def cmpM (t : TypeId) : Sem Value := do Extern.Rtype.noPackHeld "Comparable" t; pure (.bool (← typeInfo t).comparable)
theorem isComparable (w : World) : ((Extern.ReflectliteType.method cmpM) #[.agg #[.pointer (some ⟨3, 181, none⟩)]]).run Tryz.prog w = .ok (.bool true) w := by kernel_rfl
theorem isMethodComparable (v : Value) (w : World) : (Go.method 314 130 v "Comparable").run Tryz.prog w = .ok (137, v) w := by kernel_rfl
theorem isComp : (Tryz.prog.info? 181).map (·.comparable) = some true := by kernel_rfl
theorem isSize : (Tryz.prog.info? 202).map (·.size) = some 1 := by kernel_rfl
theorem noIsR (v : Value) (xT : TypeId) (w : World) : (Instr.typeAssert (.iface 86 v) xT 132 true).run Tryz.prog w = .ok (.tuple #[.nilIface, .bool false]) w := run_typeAssert_lacksB Tryz.underlying132 (by kernel_rfl) (by kernel_rfl) v xT w
theorem hasUnwrapR (v : Value) (xT : TypeId) (w : World) : (Instr.typeAssert (.iface 86 v) xT 135 true).run Tryz.prog w = .ok (.tuple #[.iface 86 v, .bool true]) w := run_typeAssert_hasB Tryz.underlying135 (by kernel_rfl) v xT w
theorem methodUnwrapR (v : Value) (w : World) : (Go.method 314 86 v "Unwrap").run Tryz.prog w = .ok (129, v) w := by kernel_rfl
theorem noIsC (v : Value) (xT : TypeId) (w : World) : (Instr.typeAssert (.iface 95 v) xT 132 true).run Tryz.prog w = .ok (.tuple #[.nilIface, .bool false]) w := run_typeAssert_lacksB Tryz.underlying132 (by kernel_rfl) (by kernel_rfl) v xT w
theorem noUnwrapC (v : Value) (xT : TypeId) (w : World) : (Instr.typeAssert (.iface 95 v) xT 135 true).run Tryz.prog w = .ok (.tuple #[.nilIface, .bool false]) w := run_typeAssert_lacksB Tryz.underlying135 (by kernel_rfl) (by kernel_rfl) v xT w
theorem noUnwrapsC (v : Value) (xT : TypeId) (w : World) : (Instr.typeAssert (.iface 95 v) xT 137 true).run Tryz.prog w = .ok (.tuple #[.nilIface, .bool false]) w := run_typeAssert_lacksB Tryz.underlying137 (by kernel_rfl) (by kernel_rfl) v xT w

/-- errors.Is(nil, the sentinel) -/
theorem is_nil (b : Addr) (w : World) :
    Calls Tryz.prog 26 #[.nilIface, .iface 181 (.pointer (some b))] w fun e w' => e = .returned (.bool false) ∧ w = w' := by
  have hn := run_eql_iface_nil_left (P := Tryz.prog) w 181 (.pointer (some b)) Tryz.underlying52
  go_enter Tryz.func26, Tryz.ntmps26
  go_wp2
  go_ret
  exact ⟨rfl, rfl⟩

set_option maxHeartbeats 1000000 in
/-- errors.Is(a refusal that wraps the sentinel, the sentinel) -/
theorem is_refusal (pb po : Nat) (b : Addr) (w : World) (h1 : w.cell? ⟨pb, po + 1, none⟩ = some (.iface 181 (.pointer (some b)))) :
    Calls Tryz.prog 26 #[.iface 86 (.pointer (some ⟨pb, po, none⟩)), .iface 181 (.pointer (some b))] w fun e w' => e = .returned (.bool true) ∧ w = w' := by
  obtain ⟨i, hi, hcmp⟩ := Option.map_eq_some_iff.1 isComp
  obtain ⟨j, hj, hjs⟩ := Option.map_eq_some_iff.1 isSize
  have h8 := @run_callFunc_extern Tryz.prog 52 _ Extern.ReflectliteType.typeOf Tryz.func52 (by kernel_rfl) (by kernel_rfl) (by kernel_rfl) (by kernel_rfl)
  have h32 := @run_callFunc_extern Tryz.prog 137 _ (Extern.ReflectliteType.method cmpM) Tryz.func137 (by kernel_rfl) (by kernel_rfl) (by kernel_rfl) (by kernel_rfl)
  have tT := isTypeOf
  have cT := isComparable
  have mR := isMethodComparable
  have nW := noIsR
  have uW := hasUnwrapR
  have mU := methodUnwrapR
  have heq := run_eql_iface_ptr_same (P := Tryz.prog) w b Tryz.underlying52 Tryz.underlying181 hi hcmp hj
  have hty := run_eql_iface_types (P := Tryz.prog) 86 181 (.pointer (some ⟨pb, po, none⟩)) (.pointer (some b)) Tryz.underlying52 (by decide) w
  go_enter Tryz.func26, Tryz.ntmps26
  go_wp2
  refine wp_loop_rounds 2 ?_
  rw [rounds_succ]
  go_wp2
  rw [rounds_succ]
  go_wp2
  go_ret
  exact ⟨rfl, rfl⟩

set_option maxHeartbeats 1000000 in
/-- errors.Is(a clash, the sentinel) -/
theorem is_clash (a b : Addr) (w : World) :
    Calls Tryz.prog 26 #[.iface 95 (.pointer (some a)), .iface 181 (.pointer (some b))] w fun e w' => e = .returned (.bool false) ∧ w = w' := by
  obtain ⟨i, hi, hcmp⟩ := Option.map_eq_some_iff.1 isComp
  obtain ⟨j, hj, hjs⟩ := Option.map_eq_some_iff.1 isSize
  have h8 := @run_callFunc_extern Tryz.prog 52 _ Extern.ReflectliteType.typeOf Tryz.func52 (by kernel_rfl) (by kernel_rfl) (by kernel_rfl) (by kernel_rfl)
  have h32 := @run_callFunc_extern Tryz.prog 137 _ (Extern.ReflectliteType.method cmpM) Tryz.func137 (by kernel_rfl) (by kernel_rfl) (by kernel_rfl) (by kernel_rfl)
  have tT := isTypeOf
  have cT := isComparable
  have mR := isMethodComparable
  have nW := noIsC
  have uW := noUnwrapC
  have vW := noUnwrapsC
  have hty := run_eql_iface_types (P := Tryz.prog) 95 181 (.pointer (some a)) (.pointer (some b)) Tryz.underlying52 (by decide) w
  go_enter Tryz.func26, Tryz.ntmps26
  go_wp2
  refine wp_loop_rounds 1 ?_
  rw [rounds_succ]
  go_wp2
  go_ret
  exact ⟨rfl, rfl⟩
end Go.Proofs.YtaofemdhgfejjaaGreatDoor
/-
  What the rows' lists of package-level variables give: the sentinel of refusals and the handle of the type error.
-/
namespace Go.Proofs.YtaofemdhgfejjaaGreatDoor
open Go.ChangeShapes Go.WideShapes Go.ChangeAt Go.RowKit

theorem own : ownKnob Tryz.prog.godebug = none := by kernel_rfl
theorem laidOut : laidOutB Tryz.prog = true := by kernel_rfl
theorem gErr : Tryz.prog.globalNamed "loop.example/g00652/impl.errNotRight" = some 0 := by kernel_rfl
theorem tErr : (Tryz.prog.globals[0]?).map (·.type) = some 52 := by kernel_rfl
theorem gTyp : Tryz.prog.globalNamed "errors.errorType" = some 1 := by kernel_rfl
theorem rtRow : (Tryz.prog.cutTypes.find? (·.1 == "internal/reflectlite.rtype")).map (·.2) = some 130 := by kernel_rfl
theorem errRow : ((List.range 214).filter fun t => Tryz.prog.rowNamed t [101, 114, 114, 111, 114]) = [52] := by kernel_rfl
theorem typesN : Tryz.prog.types.size = 214 := by kernel_rfl
theorem star : ("*" ++ "errors.errorString" : String) = "*errors.errorString" := by decide
theorem strRow (u : TypeId) (h : Tryz.prog.typeName? 3 u = some "*errors.errorString") : u = 181 :=
  typeName_ptr_named (nm := "errors.errorString") (by rw [star]; kernel_rfl) (by kernel_rfl) (by decide) u (by rw [star]; exact h)
theorem cellsE : Tryz.prog.cellsOf 202 = 1 := by kernel_rfl
theorem cellsS : Tryz.prog.cellsOf 9 = 1 := by kernel_rfl
theorem var_lt {P : Program} {W : World} {n : String} {g : Nat} {cs : Array Value} (hg : P.globalNamed n = some g) (hv : W.var? P n = some cs) : g < W.heap.size := by
  unfold World.var? at hv
  simp only [hg, Option.bind_some] at hv
  by_cases h : g < W.heap.size
  · exact h
  · rw [Array.getElem?_eq_none (by omega)] at hv
    simp at hv

theorem errs_of {W : World} {t : List UInt8} (h : laidMet Tryz.prog [("loop.example/g00652/impl.errNotRight", .iface "*errors.errorString" (.ptr (.agg [.lit (.string t)])))] W) (h' : handlesMet Tryz.prog [("errors.errorType", .iface "internal/reflectlite.rtype" (.agg [.ptr (.lit (.string [101, 114, 114, 111, 114]))]))] W) :
    ∃ a, Errs W a ∧ W.var? Tryz.prog "loop.example/g00652/impl.errNotRight" = some #[.iface 181 (.pointer (some a))] := by
  obtain ⟨a, s, hv, _, _, _⟩ := laid_sentinel h gErr tErr Tryz.underlying52 strRow Tryz.underlying181 Tryz.underlying202 rfl rfl Tryz.underlying9 cellsE cellsS
  obtain ⟨name, u, ty, e1, e2, e3, e4, e5⟩ := h' _ (List.mem_singleton.2 rfl)
  have en : name = [101, 114, 114, 111, 114] := (Option.some.inj e1).symm
  subst en
  obtain rfl := Option.some.inj (rtRow.symm.trans e2)
  have hm : ty ∈ (List.range 214).filter fun t => Tryz.prog.rowNamed t [101, 114, 114, 111, 114] := List.mem_filter.2 ⟨List.mem_range.2 (by rw [← typesN]; exact e3), e4⟩
  rw [errRow] at hm
  obtain rfl := List.mem_singleton.1 hm
  have hh : typeHandle Tryz.prog 52 = .pointer (some ⟨3, 52, none⟩) := by kernel_rfl
  rw [hh] at e5
  refine ⟨a, ⟨by simpa using World.var?_cell gErr hv 0, by simpa using World.var?_cell gTyp e5 0, var_lt gErr hv, var_lt gTyp e5⟩, hv⟩
/-- a block whose cells are others -/
def relay (cs : Array Value) : Obj → Obj
  | .cells _ t fr => .cells cs t fr
  | o => o
/-- the variables' blocks with what their initialisers lay -/
def layAll (w : World) : World := { w with heap := ((w.heap.modify 0 (relay #[.iface 181 (.pointer (some ⟨w.heap.size, 0, none⟩))])).modify 1 (relay #[.iface 130 (.agg #[.pointer (some ⟨3, 52, none⟩)])])).push (.cells #[.string ⟨#[105, 116, 32, 105, 115, 32, 110, 111, 116, 32, 114, 105, 103, 104, 116]⟩] 202) }
theorem list1 {α : Type} : ∀ {l : List α}, l.length = 1 → ∃ a, l = [a]
  | [a], _ => ⟨a, rfl⟩
end Go.Proofs.YtaofemdhgfejjaaGreatDoor
/-
  The reader of a law's code: what l1Open, next, below, once leave. Loosely: which values come out doesn't matter, only that they are such values.
-/
namespace Go.Proofs.YtaofemdhgfejjaaGreatDoor
open Go.RowKit

/-- the slice at A holds n bytes, and lies below block B -/
def CIn (w : World) (B : Nat) (A : Option Addr) (n : Nat) : Prop :=
  0 < n → ∃ b off, A = some ⟨b, off, none⟩ ∧ b < B ∧ ∀ i, i < n → ∃ z : Int, w.cell? ⟨b, off + i, none⟩ = some (.int .u8 z) ∧ 0 ≤ z ∧ z ≤ 255
theorem CIn.keep {w w' : World} {B : Nat} {A : Option Addr} {n : Nat} (h : CIn w B A n) (hb : Below B w w') : CIn w' B A n := fun hn => by
  obtain ⟨b, off, e, hlt, hc⟩ := h hn
  refine ⟨b, off, e, hlt, fun i hi => ?_⟩
  obtain ⟨z, h1, h2, h3⟩ := hc i hi
  exact ⟨z, cellB hb hlt h1, h2, h3⟩
theorem CIn.more {w : World} {B B' : Nat} {A : Option Addr} {n : Nat} (h : CIn w B A n) (hB : B ≤ B') : CIn w B' A n := fun hn => by
  obtain ⟨b, off, e, hlt, hc⟩ := h hn
  exact ⟨b, off, e, by omega, hc⟩

/-- a reader lies in block rb -/
def Rd (w : World) (rb : Nat) : Prop := ∃ (A : Option Addr) (n cap p : Nat), n ≤ 1048576 ∧ p ≤ n ∧ w.heap[rb]? = some (.cells #[.slice A n cap, .int .i64 (p : Int)] 82 (0, 0)) ∧ CIn w rb A n
theorem Rd.lt {w : World} {rb : Nat} (h : Rd w rb) : rb < w.heap.size := by obtain ⟨_, _, _, _, _, _, hh, _⟩ := h; exact (Array.getElem?_eq_some_iff.1 hh).1
theorem Rd.keep {w w' : World} {rb : Nat} (h : Rd w rb) (hb : Below (rb + 1) w w') : Rd w' rb := by
  obtain ⟨A, n, cap, p, h1, h2, h3, h4⟩ := h
  exact ⟨A, n, cap, p, h1, h2, by rw [hb.block rb (by omega)]; exact h3, h4.keep (hb.mono (by omega))⟩
theorem Rd.below {w w' : World} {rb : Nat} (h : Rd w rb) (hb : Below w.heap.size w w') : Rd w' rb := h.keep (hb.mono h.lt)
theorem grown_below {w w' : World} {rb : Nat} (h : w.grownBy w' (some rb)) (hlt : rb ≤ w.heap.size) : Below rb w w' :=
  (Below.refl rb w).grown h hlt (fun k hk => by injection hk with hk; omega)
theorem grown_of_below {w w' : World} {rb : Nat} (h : Below w.heap.size w w') : w.grownBy w' (some rb) := Below.toGrown h (some rb)

/-- a number comes out, and the reader has gone on -/
def RdI (rb : Nat) (lo hi : Int) (w : World) (e : Ending) (w' : World) : Prop := ∃ x : Int, lo ≤ x ∧ x ≤ hi ∧ e = .returned (.int .i64 x) ∧ Rd w' rb ∧ w.grownBy w' (some rb)
def RdB (rb : Nat) (w : World) (e : Ending) (w' : World) : Prop := ∃ x : Bool, e = .returned (.bool x) ∧ Rd w' rb ∧ w.grownBy w' (some rb)
/-- the text other -/
abbrev otherS : ByteArray := ⟨#[111, 116, 104, 101, 114]⟩
def RdS (rb most : Nat) (w : World) (e : Ending) (w' : World) : Prop := ∃ s : ByteArray, s.size ≤ most ∧ s ≠ otherS ∧ e = .returned (.string s) ∧ Rd w' rb ∧ w.grownBy w' (some rb)

theorem l1Open_any (A : Option Addr) (n cap : Nat) (w : World) (hn : n ≤ 1048576) (hin : CIn w w.heap.size A n) :
    Calls Tryz.prog 22 #[.slice A n cap] w fun e w' => e = .returned (.pointer (some ⟨w.heap.size, 0, none⟩)) ∧ Rd w' w.heap.size ∧ Below w.heap.size w w' := by
  go_enter Tryz.func22, Tryz.ntmps22
  go_wp2
  go_ret
  exact ⟨rfl, ⟨A, n, cap, 0, hn, Nat.zero_le _, heap_alloc_new w _, hin.keep ((Below.refl _ _).alloc (Nat.le_refl _) _)⟩, (Below.refl _ _).alloc (Nat.le_refl _) _⟩

/-- the reader's place is written -/
theorem rd_step {w : World} {rb n cap p p' b off : Nat} (h : w.heap[rb]? = some (.cells #[.slice (some ⟨b, off, none⟩) n cap, .int .i64 (p : Int)] 82 (0, 0))) (hp : p' ≤ n) (hn : n ≤ 1048576) (hc : CIn w rb (some ⟨b, off, none⟩) n) :
    (w.setCell ⟨rb, 1, none⟩ (.int .i64 (p' : Int))).cell? ⟨rb, 0, none⟩ = some (.slice (some ⟨b, off, none⟩) n cap) ∧ (w.setCell ⟨rb, 1, none⟩ (.int .i64 (p' : Int))).cell? ⟨rb, 1, none⟩ = some (.int .i64 (p' : Int)) ∧
    (∀ c o, c ≠ rb → (w.setCell ⟨rb, 1, none⟩ (.int .i64 (p' : Int))).cell? ⟨c, o, none⟩ = w.cell? ⟨c, o, none⟩) ∧ Rd (w.setCell ⟨rb, 1, none⟩ (.int .i64 (p' : Int))) rb ∧ w.grownBy (w.setCell ⟨rb, 1, none⟩ (.int .i64 (p' : Int))) (some rb) := by
  have hh : (w.setCell ⟨rb, 1, none⟩ (.int .i64 (p' : Int))).heap[rb]? = some (.cells #[.slice (some ⟨b, off, none⟩) n cap, .int .i64 (p' : Int)] 82 (0, 0)) := by
    simp [World.setCell, Array.getElem?_modify, h]
  have ho : ∀ c, c ≠ rb → (w.setCell ⟨rb, 1, none⟩ (.int .i64 (p' : Int))).heap[c]? = w.heap[c]? := fun c hc => Below.heap_setCell w ⟨rb, 1, none⟩ _ c hc
  refine ⟨by rw [cell_of_row _ rb 0 _ _ _ hh]; rfl, by rw [cell_of_row _ rb 1 _ _ _ hh]; rfl, fun c o hne => World.cell?_of_block (ho c hne), ⟨_, n, cap, p', hn, hp, hh, hc.keep ?_⟩, ⟨rfl, rfl, rfl, by simp [World.setCell], fun k _ hk => ho k (fun e => hk (by rw [e]))⟩⟩
  exact (Below.refl rb w).setCell (p := ⟨rb, 1, none⟩) (Nat.le_refl _) _

set_option maxRecDepth 100000 in
set_option maxHeartbeats 1000000 in
theorem next_any (rb : Nat) (w : World) (h : Rd w rb) :
    Calls Tryz.prog 67 #[.pointer (some ⟨rb, 0, none⟩)] w (RdI rb 0 255 w) := by
  have HR := hide h
  obtain ⟨A, n, cap, p, h1, h2, h3, h4⟩ := h
  have c0 : w.cell? ⟨rb, 0, none⟩ = some (.slice A n cap) := by rw [cell_of_row w rb 0 _ _ _ h3]; rfl
  have c1 : w.cell? ⟨rb, 1, none⟩ = some (.int .i64 (p : Int)) := by rw [cell_of_row w rb 1 _ _ _ h3]; rfl
  have f1 : w.frozen? ⟨rb, 1, none⟩ = false := frozen_of_row w rb 1 _ _ h3
  have H3 := hide h3
  clear h3
  by_cases hp : p < n
  · obtain ⟨b, off, rfl, hlt, hc⟩ := h4 (by omega)
    obtain ⟨z, cz, z1, z2⟩ := hc p hp
    have H4 := hide h4
    have hne : b ≠ rb := by omega
    clear hc h4
    have q1 : IntKind.i64.wrap (p : Int) = (p : Int) := IntWalk.i64_in _ (by omega)
    go_enter Tryz.func67, Tryz.ntmps67
    go_wp2
    go_quiet (fail)
    go_wp2
    have hW := rd_step (w := w.drewN nq) (b := b) (off := off) H3.out (p' := p + 1) (by omega) h1 H4.out
    have e0 : ((w.drewN nq).setCell ⟨rb, 1, none⟩ (.int .i64 ((p : Int) + 1))).cell? ⟨rb, 0, none⟩ = some (.slice (some ⟨b, off, none⟩) n cap) := hW.1
    have e1 : ((w.drewN nq).setCell ⟨rb, 1, none⟩ (.int .i64 ((p : Int) + 1))).cell? ⟨rb, 1, none⟩ = some (.int .i64 ((p : Int) + 1)) := hW.2.1
    have ez : ((w.drewN nq).setCell ⟨rb, 1, none⟩ (.int .i64 ((p : Int) + 1))).cell? ⟨b, off + p, none⟩ = some (.int .u8 z) := (hW.2.2.1 b (off + p) hne).trans cz
    have R2 : Hid (Rd ((w.drewN nq).setCell ⟨rb, 1, none⟩ (.int .i64 ((p : Int) + 1))) rb) := hide hW.2.2.2.1
    have G2 : Hid (w.grownBy ((w.drewN nq).setCell ⟨rb, 1, none⟩ (.int .i64 ((p : Int) + 1))) (some rb)) := hide ⟨hW.2.2.2.2.os, hW.2.2.2.2.tape, hW.2.2.2.2.output, hW.2.2.2.2.size, hW.2.2.2.2.block⟩
    clear hW c0 c1 f1 cz
    generalize (w.drewN nq).setCell ⟨rb, 1, none⟩ (.int .i64 ((p : Int) + 1)) = W2 at *
    go_quiet (fail)
    go_wp2
    go_ret
    exact ⟨z, z1, z2, rfl, R2.out.keep ⟨rfl, rfl, rfl, Nat.le_refl _, fun _ _ => rfl⟩, ⟨G2.out.os, G2.out.tape, G2.out.output, G2.out.size, G2.out.block⟩⟩
  · go_enter Tryz.func67, Tryz.ntmps67
    go_wp2
    go_quiet (fail)
    go_wp2
    go_ret
    exact ⟨0, by omega, by omega, rfl, HR.out.keep ⟨rfl, rfl, rfl, Nat.le_refl _, fun _ _ => rfl⟩, ⟨rfl, rfl, rfl, Nat.le_refl _, fun _ _ _ => rfl⟩⟩

set_option maxRecDepth 100000 in
set_option maxHeartbeats 1000000 in
theorem below_any (rb : Nat) (n : Int) (w : World) (h : Rd w rb) (h1 : 1 ≤ n) (h2 : n ≤ 65536) :
    Calls Tryz.prog 36 #[.pointer (some ⟨rb, 0, none⟩), .int .i64 n] w (RdI rb 0 (n - 1) w) := by
  by_cases hn1 : n ≤ 1
  · have HR := hide h
    clear h
    go_enter Tryz.func36, Tryz.ntmps36
    go_wp2
    go_ret
    exact ⟨0, by omega, by omega, rfl, HR.out, World.grownBy.refl _ _⟩
  · by_cases hn2 : n ≤ 256
    · go_enter Tryz.func36, Tryz.ntmps36
      go_wp2_with fail
      refine (next_any rb w h).mono ?_
      rintro e w1 ⟨x, hx0, hx1, rfl, r1, g1⟩
      have R1 := hide r1
      have G1 := hide g1
      clear r1 g1 h
      have hm1 : 0 ≤ x % n := Int.emod_nonneg _ (by omega)
      have hm2 : x % n < n := Int.emod_lt_of_pos _ (by omega)
      go_wp2
      go_ret
      exact ⟨x % n, hm1, by omega, rfl, R1.out, G1.out⟩
    · go_enter Tryz.func36, Tryz.ntmps36
      go_wp2_with fail
      refine (next_any rb w h).mono ?_
      rintro e w1 ⟨x, hx0, hx1, rfl, r1, g1⟩
      have G1 := hide g1
      clear g1 h
      go_wp2_with fail
      refine (next_any rb w1 r1).mono ?_
      rintro e w2 ⟨y, hy0, hy1, rfl, r2, g2⟩
      have R2 := hide r2
      have G2 := hide (World.grownBy.trans G1.out g2)
      clear r1 r2 g2
      have hm1 : 0 ≤ (x * 256 + y) % n := Int.emod_nonneg _ (by omega)
      have hm2 : (x * 256 + y) % n < n := Int.emod_lt_of_pos _ (by omega)
      go_wp2
      go_ret
      exact ⟨(x * 256 + y) % n, hm1, by omega, rfl, R2.out, G2.out⟩

set_option maxRecDepth 100000 in
set_option maxHeartbeats 1000000 in
theorem once_any (rb : Nat) (n : Int) (w : World) (h : Rd w rb) (h1 : 1 ≤ n) (h2 : n ≤ 65536) :
    Calls Tryz.prog 34 #[.pointer (some ⟨rb, 0, none⟩), .int .i64 n] w (RdB rb w) := by
  go_enter Tryz.func34, Tryz.ntmps34
  go_wp2_with fail
  refine (below_any rb n w h h1 h2).mono ?_
  rintro e w1 ⟨x, hx0, hx1, rfl, r1, g1⟩
  have R1 := hide r1
  have G1 := hide g1
  clear r1 g1 h
  go_wp2
  go_ret
  exact ⟨_, rfl, R1.out, G1.out⟩

theorem big_any (A : Option Addr) (n cap : Nat) (w : World) (hn : n ≤ maxLen) :
    Calls Tryz.prog 7 #[.slice A n cap] w fun e w' => e = .returned (.bool (decide (1048576 < n))) ∧ w = w' := by
  unfold maxLen at hn
  by_cases h : 1048576 < n
  · have d : decide ((1048576 : Int) < (n : Int)) = true := decide_eq_true (by omega)
    go_enter Tryz.func7, Tryz.ntmps7
    go_wp2
    go_ret
    exact ⟨ret_bool (decide_eq_true h).symm, rfl⟩
  · have d : decide ((1048576 : Int) < (n : Int)) = false := decide_eq_false (by omega)
    go_enter Tryz.func7, Tryz.ntmps7
    go_wp2
    go_ret
    exact ⟨ret_bool (decide_eq_false h).symm, rfl⟩
end Go.Proofs.YtaofemdhgfejjaaGreatDoor
/-
  A law's code, opened: bytes that are read.
-/
namespace Go.Proofs.YtaofemdhgfejjaaGreatDoor
open Go.ChangeShapes Go.WideShapes Go.ChangeAt Go.RowKit

section
variable {H : Type} {enc : TypeId × Value → H} {W : World}
theorem open_code {A : Option Addr} {n cap : Nat} {d : DataW H} {p : List MemPlace} (h : DataW.Trod enc Tryz.prog W 0 (fun _ => true) true 22 (.slice A n cap) d p) :
    ∃ m : Nat, n = m ∧ m ≤ maxLen ∧ CIn W W.heap.size A m := by
  obtain ⟨fuel, hf⟩ := h
  rcases open_ints Tryz.underlying22 Tryz.underlying5 (by kernel_rfl) hf with ⟨hcs, _⟩ | ⟨x, l, c, zs, hcs, _, hl, hm, hz, _, hcell, hwz⟩
  · simp [Value.cells] at hcs
    obtain ⟨rfl, rfl, rfl⟩ := hcs
    exact ⟨0, rfl, by simp [maxLen], fun h => absurd h (by omega)⟩
  · simp [Value.cells] at hcs
    obtain ⟨rfl, rfl, rfl⟩ := hcs
    have hz' : zs.length = cap := by simpa using hz
    refine ⟨n, rfl, by omega, fun hn => ?_⟩
    obtain ⟨b, off, spot⟩ := x
    have hc0 := hcell 0 (by omega)
    have hspot : spot = none := by simpa [Addr.add] using World.cell?_spot hc0
    subst hspot
    refine ⟨b, off, rfl, ?_, fun i hi => ?_⟩
    · have := World.block_lt_of_cell? W _ hc0
      simpa [Addr.add] using this
    · have hc := hcell i (by omega)
      rw [add_plain] at hc
      have hw : (Lit.int .u8 (zs.getD i 0)).wf = true := hwz _ (by
        rw [List.getD_eq_getElem?_getD, List.getElem?_eq_getElem (by omega)]
        exact List.getElem_mem _)
      have hx : 0 ≤ zs.getD i 0 ∧ zs.getD i 0 ≤ 255 := by simpa [Lit.wf, IntKind.min, IntKind.max, IntKind.signed, IntKind.bits] using hw
      exact ⟨zs.getD i 0, hc, hx.1, hx.2⟩
end
end Go.Proofs.YtaofemdhgfejjaaGreatDoor
/-
  Words for memory: worlds that part by draws alone; a slice that reads as a list of pairs; rows of pairs of the call's own.
-/
namespace Go.Proofs.YtaofemdhgfejjaaGreatDoor
open Go.RowKit

/-- the texts of the pairs are texts that Go can hold -/
def lens (l : List Pr) : Prop := ∀ i (h : i < l.length), l[i].1.size ≤ maxLen ∧ l[i].2.size ≤ maxLen
theorem lens_nil : lens [] := fun _ h => absurd h (by simp)
/-- the slice at A reads as the pairs l, and lies below block B -/
def PIn (w : World) (B : Nat) (A : Option Addr) (l : List Pr) : Prop :=
  lens l ∧ (0 < l.length → ∃ b off, A = some ⟨b, off, none⟩ ∧ b < B ∧ ∀ i (h : i < l.length), w.cell? ⟨b, off + i * 2, none⟩ = some (.string l[i].1) ∧ w.cell? ⟨b, off + i * 2 + 1, none⟩ = some (.string l[i].2))
theorem PIn.nil (w : World) (B : Nat) (A : Option Addr) : PIn w B A [] := ⟨lens_nil, fun h => absurd h (by simp)⟩
theorem PIn.keep {w w' : World} {B : Nat} {A : Option Addr} {l : List Pr} (h : PIn w B A l) (hk : ∀ b o, b < B → w'.cell? ⟨b, o, none⟩ = w.cell? ⟨b, o, none⟩) : PIn w' B A l :=
  ⟨h.1, fun hp => by
    obtain ⟨b, off, e, hb, hc⟩ := h.2 hp
    exact ⟨b, off, e, hb, fun i hi => ⟨(hk _ _ hb).trans (hc i hi).1, (hk _ _ hb).trans (hc i hi).2⟩⟩⟩
theorem PIn.quiet {w w' : World} {B : Nat} {A : Option Addr} {l : List Pr} (h : PIn w B A l) (q : Quiet w w') : PIn w' B A l := h.keep fun _ _ _ => q.cell _
theorem PIn.below {w w' : World} {B : Nat} {A : Option Addr} {l : List Pr} (h : PIn w B A l) (q : Below B w w') : PIn w' B A l := h.keep fun _ _ hb => q.cell (by exact hb)
theorem PIn.more {w : World} {B B' : Nat} {A : Option Addr} {l : List Pr} (h : PIn w B A l) (hB : B ≤ B') : PIn w B' A l :=
  ⟨h.1, fun hp => by obtain ⟨b, off, e, hb, hc⟩ := h.2 hp; exact ⟨b, off, e, by omega, hc⟩⟩


/-- the cells of a list of pairs -/
def pcells (l : List Pr) : List Value := l.flatMap fun p => [.string p.1, .string p.2]
theorem pcells_nil : pcells [] = [] := rfl
theorem pcells_cons (p : Pr) (l : List Pr) : pcells (p :: l) = .string p.1 :: .string p.2 :: pcells l := rfl
theorem pcells_append (a b : List Pr) : pcells (a ++ b) = pcells a ++ pcells b := by unfold pcells; rw [List.flatMap_append]
theorem pcells_length (l : List Pr) : (pcells l).length = l.length * 2 := by
  induction l with
  | nil => rfl
  | cons p r ih => rw [pcells_cons]; simp only [List.length_cons, ih]; omega
theorem pcells_get : ∀ (l : List Pr) (i : Nat) (h : i < l.length), (pcells l)[i * 2]? = some (.string l[i].1) ∧ (pcells l)[i * 2 + 1]? = some (.string l[i].2)
  | p :: r, 0, _ => by rw [pcells_cons]; exact ⟨rfl, rfl⟩
  | p :: r, i + 1, h => by
    obtain ⟨a, b⟩ := pcells_get r i (by simpa using h)
    rw [pcells_cons, show (i + 1) * 2 = i * 2 + 1 + 1 by omega]
    exact ⟨by simpa using a, by simpa using b⟩
theorem pcells_set : ∀ (l : List Pr) (i : Nat) (a b : ByteArray), ((pcells l).set (i * 2) (.string a)).set (i * 2 + 1) (.string b) = pcells (l.set i (a, b))
  | [], _, _, _ => by simp [pcells_nil]
  | p :: r, 0, a, b => by simp [pcells_cons]
  | p :: r, i + 1, a, b => by
    rw [pcells_cons, List.set_cons_succ, pcells_cons, ← pcells_set r i a b, show (i + 1) * 2 = i * 2 + 1 + 1 by omega]
    simp
theorem pcells_one (l : List Pr) : ∀ u ∈ pcells l, u.oneCell' = true := by
  intro u hu
  unfold pcells at hu
  rw [List.mem_flatMap] at hu
  obtain ⟨p, _, hp⟩ := hu
  simp at hp
  rcases hp with rfl | rfl <;> rfl

/-- the slice at A is a row of the call's own, from block B on, and holds the pairs l -/
def Own (w : World) (B : Nat) (A : Option Addr) (cap : Nat) (l : List Pr) : Prop := lens l ∧ w.ownsRow B 60 2 (.slice A l.length cap) l.length (pcells l)
theorem Own.nil (w : World) (B : Nat) : Own w B none 0 [] := ⟨lens_nil, World.ownsRow_nil _ _ _ _⟩
theorem Own.form {w : World} {B : Nat} {A : Option Addr} {cap : Nat} {l : List Pr} (h : Own w B A cap l) : (A = none ∧ cap = 0 ∧ l = []) ∨ ∃ g, A = some ⟨g, 0, none⟩ ∧ B ≤ g ∧ g < w.heap.size := by
  rcases h.2.2 with ⟨e, e'⟩ | ⟨g, c, cur, e, hb, hg, _⟩
  · injection e with e1 e2 e3
    exact .inl ⟨e1, e3, List.eq_nil_of_length_eq_zero e2⟩
  · injection e with e1 e2 e3
    exact .inr ⟨g, e1, hb, (Array.getElem?_eq_some_iff.1 hg).1⟩
theorem Own.pin {w : World} {B : Nat} {A : Option Addr} {cap : Nat} {l : List Pr} (h : Own w B A cap l) : PIn w w.heap.size A l := by
  refine ⟨h.1, fun hp => ?_⟩
  rcases h.form with ⟨_, _, rfl⟩ | ⟨g, rfl, _, hg⟩
  · simp at hp
  · refine ⟨g, 0, rfl, hg, fun i hi => ?_⟩
    obtain ⟨a, b⟩ := pcells_get l i hi
    have h1 := h.2.cellAt (i * 2) (by omega)
    have h2 := h.2.cellAt (i * 2 + 1) (by omega)
    rw [Nat.zero_add]
    exact ⟨h1.trans a, h2.trans b⟩
theorem Own.below {w w' : World} {B : Nat} {A : Option Addr} {cap : Nat} {l : List Pr} (h : Own w B A cap l) (hb : Below w.heap.size w w') : Own w' B A cap l := by
  refine ⟨h.1, h.2.kept (Below.toGrown hb none) ?_⟩
  cases hv : (Value.slice A l.length cap).ownBlock <;> simp
theorem Own.more {w : World} {B B' : Nat} {A : Option Addr} {cap : Nat} {l : List Pr} (h : Own w B A cap l) (hB : B' ≤ B) : Own w B' A cap l := by
  refine ⟨h.1, h.2.1, ?_⟩
  rcases h.2.2 with e | ⟨g, c, cur, e, hb, r⟩
  · exact .inl e
  · exact .inr ⟨g, c, cur, e, Nat.le_trans hB hb, r⟩
end Go.Proofs.YtaofemdhgfejjaaGreatDoor
/-
  append, make and cuts over slices of pairs, in the words of PMem: what is appended to a row of the call's own is a row of the call's own.
-/
namespace Go.Proofs.YtaofemdhgfejjaaGreatDoor
open Go.RowKit

theorem infoP : (Tryz.prog.info? 60).map (fun i => (i.zero, i.size, i.bytes)) = some (some (.agg #[.string ByteArray.empty, .string ByteArray.empty]), 2, 32) := by kernel_rfl

theorem add_pl (b off j : Nat) : (⟨b, off, none⟩ : Addr).add j = ⟨b, off + j, none⟩ := by unfold Addr.add; split <;> simp_all
/-- where a slice that is cut from place k on begins -/
def cutA (A : Option Addr) (cap k : Nat) : Option Addr := if cap = k then A else A.map (·.add (k * 2))
theorem PIn.take {w : World} {B : Nat} {A : Option Addr} {l : List Pr} (h : PIn w B A l) (cap k : Nat) : PIn w B (cutA A cap 0) (l.take k) := by
  have e : cutA A cap 0 = A := by
    unfold cutA
    split
    · rfl
    · cases A <;> simp [Addr.add]
  rw [e]
  refine ⟨fun i hi => ?_, fun hp => ?_⟩
  · have h2 : i < l.length := by rw [List.length_take] at hi; omega
    rw [List.getElem_take]
    exact h.1 i h2
  · obtain ⟨b, off, e, hb, hc⟩ := h.2 (by rw [List.length_take] at hp; omega)
    refine ⟨b, off, e, hb, fun i hi => ?_⟩
    have h2 : i < l.length := by rw [List.length_take] at hi; omega
    rw [List.getElem_take]
    exact hc i h2
theorem PIn.drop {w : World} {B : Nat} {A : Option Addr} {l : List Pr} (h : PIn w B A l) {cap : Nat} (hc : l.length ≤ cap) (k : Nat) : PIn w B (cutA A cap k) (l.drop k) := by
  refine ⟨fun i hi => ?_, fun hp => ?_⟩
  · have h2 : k + i < l.length := by rw [List.length_drop] at hi; omega
    rw [List.getElem_drop]
    exact h.1 _ h2
  · rw [List.length_drop] at hp
    obtain ⟨b, off, e, hb, hc⟩ := h.2 (by omega)
    refine ⟨b, off + k * 2, ?_, hb, fun i hi => ?_⟩
    · unfold cutA
      rw [if_neg (by omega), e, Option.map_some, add_pl]
    · have h2 : k + i < l.length := by rw [List.length_drop] at hi; omega
      rw [List.getElem_drop]
      have := hc (k + i) h2
      rw [show off + k * 2 + i * 2 = off + (k + i) * 2 by omega]
      exact this

theorem lens_append {a b : List Pr} (ha : lens a) (hb : lens b) : lens (a ++ b) := by
  intro i hi
  rcases Nat.lt_or_ge i a.length with g | g
  · rw [List.getElem_append_left g]; exact ha i g
  · rw [List.getElem_append_right g]; exact hb _ (by rw [List.length_append] at hi; omega)

theorem Own.grownBelow {w w' : World} {B : Nat} {A : Option Addr} {cap : Nat} {l : List Pr} (h : Own w B A cap l) (hg : w.grownBy w' (Value.slice A l.length cap).ownBlock) (hB : B ≤ w.heap.size) : Below B w w' :=
  (Below.refl B w).grown hg hB (fun k hk => (h.2.lt k hk).1)

/-- the row of a slice -/
def rowOf (A : Option Addr) : Option Nat := A.map (·.block)
theorem rowOf_own (A : Option Addr) (n cap : Nat) : (Value.slice A n cap).ownBlock = rowOf A := by cases A <;> rfl

section
variable (t ty : TypeId) (ht : Tryz.prog.underlying t = some (.slice 60))
include ht
set_option maxRecDepth 100000 in
theorem run_app {w : World} {B B' : Nat} {A A' : Option Addr} {cap c : Nat} {l l' : List Pr} (hown : Own w B A cap l) (hin : PIn w B' A' l') (hB : B ≤ w.heap.size) (hb : l.length + l'.length ≤ 3000000) :
    ∃ A2 cap2 w', (Builtin.append_ #[t, t] ty #[.slice A l.length cap, .slice A' l'.length c]).run Tryz.prog w = .ok (.slice A2 (l ++ l').length cap2) w' ∧ Own w' B A2 cap2 (l ++ l') ∧ w.grownBy w' (rowOf A) ∧ (rowOf A2 = rowOf A ∨ rowOf A2 = some w.heap.size) := by
  obtain ⟨i, hi, hz0, hz1, hz2⟩ := info_parts infoP
  have hlen : (l ++ l').length = l.length + l'.length := List.length_append
  cases A' with
  | none =>
    have h0 : l' = [] := by
      rcases Nat.eq_zero_or_pos l'.length with e | e
      · exact List.eq_nil_of_length_eq_zero e
      · obtain ⟨_, _, x, _⟩ := hin.2 e
        cases x
    subst h0
    refine ⟨A, cap, w, ?_, by simpa using hown, World.grownBy.refl _ _, .inl rfl⟩
    rcases hown.2.2 with ⟨e, e'⟩ | ⟨g, cap', cur, e, _, _, hnc, _⟩
    · injection e with e1 e2 e3
      subst e1 e3
      simp [Builtin.append_, run_underlying ht, sizeOf, typeInfo, hi, Builtin.lenOf, Builtin.firstCells, e2]
    · injection e with e1 e2 e3
      subst e1 e3
      simp [Builtin.append_, run_underlying ht, sizeOf, typeInfo, hi, Builtin.lenOf, Builtin.firstCells, hnc, storeCells]
  | some a =>
    have hcells : ∀ j u, (pcells l')[j]? = some u → w.cell? (a.add j) = some u := by
      intro j u hu
      have hj : j < l'.length * 2 := by
        rw [← pcells_length]
        exact (List.getElem?_eq_some_iff.1 hu).1
      obtain ⟨b, off, e, _, hc⟩ := hin.2 (by omega)
      injection e with e
      subst e
      rw [add_pl]
      obtain ⟨p1, p2⟩ := pcells_get l' (j / 2) (by omega)
      obtain ⟨c1, c2⟩ := hc (j / 2) (by omega)
      rcases Nat.mod_two_eq_zero_or_one j with h | h
      · have hj2 : j / 2 * 2 = j := by omega
        rw [hj2] at p1 c1
        rw [p1] at hu
        rw [c1, hu]
      · have hj2 : j / 2 * 2 + 1 = j := by omega
        rw [hj2] at p2
        rw [show off + j / 2 * 2 + 1 = off + j by omega] at c2
        rw [p2] at hu
        rw [c2, hu]
    obtain ⟨v', w', hrun, h2, h3, _, h5⟩ := run_append_own_at (P := Tryz.prog) w B t ty 60 i _ 2 32 ht hi hz0 hz1 hz2 rfl (by omega) (.slice A l.length cap) l.length (pcells l) hown.2 a l'.length c (pcells l') (pcells_length l') hcells (pcells_one l')
      (by simp only [maxLen]; omega) (by omega) hB
    have hv : ∃ A2 cap2, v' = .slice A2 (l.length + l'.length) cap2 := by
      rcases h2.2 with ⟨e, e'⟩ | ⟨g, cap', cur, e, _⟩
      · exact ⟨none, 0, by rw [e, e']⟩
      · exact ⟨_, _, e⟩
    obtain ⟨A2, cap2, rfl⟩ := hv
    refine ⟨A2, cap2, w', by rw [hlen]; exact hrun, ⟨lens_append hown.1 hin.1, ?_⟩, by rw [← rowOf_own A l.length cap]; exact h3, ?_⟩
    · rw [hlen, pcells_append]
      exact h2
    · rw [rowOf_own, rowOf_own] at h5
      exact h5

theorem wp_app {w : World} {o : Oper} {a : Act} {K : Act → World → Prop} {Q : Exit → Act → World → Prop} (s x : Operand)
    (ho : o.op = .call { callee := .builtin .append, args := #[s, x], argTypes := #[t, t] })
    {B B' : Nat} {A A' : Option Addr} {cap c n m : Nat} {l l' : List Pr} (hs : a.eval s = .slice A n cap) (hx : a.eval x = .slice A' m c) (hn : n = l.length) (hm : m = l'.length)
    (hown : Own w B A cap l) (hin : PIn w B' A' l') (hB : B ≤ w.heap.size) (hb : l.length + l'.length ≤ 3000000)
    (h : ∀ A2 cap2 w', Own w' B A2 cap2 (l ++ l') → w.grownBy w' (rowOf A) → (rowOf A2 = rowOf A ∨ rowOf A2 = some w.heap.size) → K (a.put o.dst (.slice A2 (l ++ l').length cap2)) w') : o.wp Tryz.prog a w K Q := by
  subst hn hm
  obtain ⟨A2, cap2, w', hrun, h2, h3, h4⟩ := run_app t o.type ht (c := c) hown hin hB hb
  unfold Oper.wp execOp
  simp only [ho, resolve, invoke, builtin, Sem.run_bind, Sem.run_pure, Result.andThen_ok, List.map_toArray, List.map_cons, List.map_nil, hs, hx, hrun]
  exact h A2 cap2 w' h2 h3 h4

theorem wpList_app {w : World} {ops : Array Oper} {rest : List Oper} {o : Oper} {a : Act} {Q : Exit → Act → World → Prop} (hgd : o.guard = none) (s x : Operand)
    (ho : o.op = .call { callee := .builtin .append, args := #[s, x], argTypes := #[t, t] })
    {B B' : Nat} {A A' : Option Addr} {cap c n m : Nat} {l l' : List Pr} (hs : a.eval s = .slice A n cap) (hx : a.eval x = .slice A' m c) (hn : n = l.length) (hm : m = l'.length)
    (hown : Own w B A cap l) (hin : PIn w B' A' l') (hB : B ≤ w.heap.size) (hb : l.length + l'.length ≤ 3000000)
    (h : ∀ A2 cap2 w', Own w' B A2 cap2 (l ++ l') → w.grownBy w' (rowOf A) → (rowOf A2 = rowOf A ∨ rowOf A2 = some w.heap.size) → wpList Tryz.prog ops Q rest (a.put o.dst (.slice A2 (l ++ l').length cap2)) w') : wpList Tryz.prog ops Q (o :: rest) a w :=
  wpList_plain hgd fun _ hK => wp_app t ht s x ho hs hx hn hm hown hin hB hb fun A2 cap2 w' h2 h3 h4 => hK _ _ (h A2 cap2 w' h2 h3 h4)

theorem step_app {w : World} {ops : Array Oper} {o : Oper} {a : Act} {K : Act → World → Prop} {Q : Exit → Act → World → Prop} {E : Prop} (hgd : o.guard = none) (s x : Operand)
    (ho : o.op = .call { callee := .builtin .append, args := #[s, x], argTypes := #[t, t] })
    {B B' : Nat} {A A' : Option Addr} {cap c n m : Nat} {l l' : List Pr} (hs : a.eval s = .slice A n cap) (hx : a.eval x = .slice A' m c) (hn : n = l.length) (hm : m = l'.length)
    (hown : Own w B A cap l) (hin : PIn w B' A' l') (hB : B ≤ w.heap.size) (hb : l.length + l'.length ≤ 3000000)
    (h : ∀ A2 cap2 w', Own w' B A2 cap2 (l ++ l') → w.grownBy w' (rowOf A) → (rowOf A2 = rowOf A ∨ rowOf A2 = some w.heap.size) → K (a.put o.dst (.slice A2 (l ++ l').length cap2)) w') :
    if Region.wanted o (yielded ops a.tmps) = true then Oper.wp Tryz.prog o a w K Q else E := by
  have hw : Region.wanted o (yielded ops a.tmps) = true := by simp [Region.wanted, hgd]
  rw [if_pos hw]
  exact wp_app t ht s x ho hs hx hn hm hown hin hB hb h

theorem run_cut_h (A : Option Addr) (n cap k : Nat) (hk : k ≤ cap) (w : World) : (Instr.slice t (.slice A n cap) none (some (.int .i64 (k : Int))) none).run Tryz.prog w = .ok (.slice (cutA A cap 0) k cap) w := by
  have hs : ((sizeOf 60).run Tryz.prog w) = .ok 2 w := by kernel_rfl
  have he : Tryz.prog.elem t = 60 := by simp [Program.elem, ht]
  rw [run_slice_h (P := Tryz.prog) (t := t) (a := A) (len := n) (cap := cap) (w := w) (by rw [he]; exact ht) .i64 k (by omega) (by omega), he, hs]
  simp [Result.andThen, sliced, cutA]
theorem run_cut_l (A : Option Addr) (n cap k : Nat) (hk : k ≤ n) (w : World) : (Instr.slice t (.slice A n cap) (some (.int .i64 (k : Int))) none none).run Tryz.prog w = .ok (.slice (cutA A cap k) (n - k) (cap - k)) w := by
  have hs : ((sizeOf 60).run Tryz.prog w) = .ok 2 w := by kernel_rfl
  have he : Tryz.prog.elem t = 60 := by simp [Program.elem, ht]
  rw [run_slice_l (P := Tryz.prog) (t := t) (a := A) (len := n) (cap := cap) (w := w) (by rw [he]; exact ht) .i64 k (by omega) (by omega), he, hs]
  simp [Result.andThen, sliced, cutA]
end
end Go.Proofs.YtaofemdhgfejjaaGreatDoor
/-
  What walks over texts import.
-/

/-
  What impl's sorted list answers when asked whether it rises.
-/
namespace Go.Proofs.YtaofemdhgfejjaaGreatDoor
open Go.RowKit

theorem sortKey_any (a b : ByteArray) (w : World) :
    Calls Tryz.prog 124 #[.agg #[.string a, .string b]] w fun e w' => e = .returned (.string a) ∧ w.alloc (.cells #[.string a, .string b] 60) = w' := by
  go_enter Tryz.func124, Tryz.ntmps124
  go_wp2
  go_ret
  exact ⟨rfl, rfl⟩

theorem method_sortKey (x y : Value) (w : World) : (method 314 60 (.agg #[x, y]) "loop.example/g00652/impl.sortKey").run Tryz.prog w = .ok (124, .agg #[x, y]) w := by kernel_rfl

set_option maxRecDepth 100000 in
set_option maxHeartbeats 1000000 in
theorem rises_any (A : Option Addr) (l : List Pr) (cap : Nat) (w : World) (hl : l.length ≤ maxLen) (hin : PIn w w.heap.size A l) :
    Calls Tryz.prog 33 #[.slice A l.length cap] w fun e w' => e = .returned (.bool (risesB l)) ∧ Below w.heap.size w w' := by
  unfold maxLen at hl
  generalize hn : l.length = n at *
  have HN := hide hn
  clear hn
  have hme := method_sortKey
  go_enter Tryz.func33, Tryz.ntmps33
  go_wp2
  go_loopw [3] (fun i wr => ∃ k : Nat, (k ≤ n ∨ k = 1) ∧ 1 ≤ k ∧ i = .int .i64 k ∧ Hid (risesTo l k) ∧ Hid (Below w.heap.size w wr)) (fun i _ => n - (intOf i).toNat)
  case atStart => exact ⟨1, .inr rfl, by omega, rfl, risesTo_one l, Below.refl _ w⟩
  case round =>
    obtain ⟨k, hk, h1, rfl, H, Q⟩ := hrel
    by_cases hlt : k < n
    · have hin2 := hin.below Q.out
      obtain ⟨b, off, rfl, hbB, hc⟩ := hin2.2 (by rw [HN.out]; omega)
      have hkl : k < l.length := by rw [HN.out]; omega
      obtain ⟨c1, c2⟩ := hc k hkl
      obtain ⟨c3, c4⟩ := hc (k - 1) (by omega)
      cases hrise : ltB (l[k - 1]'(by omega)).1 (l[k]'hkl).1
      · have Z := hide (risesB_no (l := l) (k := k - 1) (by omega) (by simpa [show k - 1 + 1 = k by omega] using hrise))
        have hrise2 : Op.bytesLess (l[k - 1]'(by omega)).1.toList (l[k]'hkl).1.toList = false := hrise
        generalize (l[k]'hkl).1 = s at *
        generalize (l[k]'hkl).2 = v at *
        generalize (l[k - 1]'(by omega)).1 = s0 at *
        generalize (l[k - 1]'(by omega)).2 = v0 at *
        have q1 : IntKind.i64.wrap ((k : Int) - 1) = (k : Int) - 1 := IntWalk.i64_in _ (by omega)
        have q2 : (0 : Int) ≤ (k : Int) - 1 := by omega
        have q3 : (1 : Int) ≤ (k : Int) := by omega
        have q4 : ((k : Int) - 1).toNat = k - 1 := by omega
        have q5 : (k : Int) - 1 < (n : Int) := by omega
        clear hin hin2 hc hrise hkl
        go_wp2
        go_region_held3 (fun w' => w'.cell? ⟨b, off + k * 2, none⟩ = some (.string s) ∧ w'.cell? ⟨b, off + k * 2 + 1, none⟩ = some (.string v) ∧ w'.cell? ⟨b, off + (k - 1) * 2, none⟩ = some (.string s0) ∧ w'.cell? ⟨b, off + (k - 1) * 2 + 1, none⟩ = some (.string v0)) (go_keep)
          (first | (go_at_call 124; refine (sortKey_any _ _ _).mono ?_; rintro e w' ⟨rfl, rfl⟩))
        clear q1 q4
        go_wp2
        go_ret
        exact ⟨ret_bool Z.out.symm, Q.out.trans ((((Below.refl _ _).drew).alloc Q.out.size _).alloc (by have := Q.out.size; simp; omega) _)⟩
      · have Z := hide (risesTo_succ (l := l) (k := k - 1) (by omega) (by simpa [show k - 1 + 1 = k by omega] using H.out) (by simpa [show k - 1 + 1 = k by omega] using hrise))
        have hrise2 : Op.bytesLess (l[k - 1]'(by omega)).1.toList (l[k]'hkl).1.toList = true := hrise
        generalize (l[k]'hkl).1 = s at *
        generalize (l[k]'hkl).2 = v at *
        generalize (l[k - 1]'(by omega)).1 = s0 at *
        generalize (l[k - 1]'(by omega)).2 = v0 at *
        have q1 : IntKind.i64.wrap ((k : Int) - 1) = (k : Int) - 1 := IntWalk.i64_in _ (by omega)
        have q2 : (0 : Int) ≤ (k : Int) - 1 := by omega
        have q3 : (1 : Int) ≤ (k : Int) := by omega
        have q4 : ((k : Int) - 1).toNat = k - 1 := by omega
        have q5 : (k : Int) - 1 < (n : Int) := by omega
        clear hin hin2 hc hrise hkl
        go_wp2
        go_region_held3 (fun w' => w'.cell? ⟨b, off + k * 2, none⟩ = some (.string s) ∧ w'.cell? ⟨b, off + k * 2 + 1, none⟩ = some (.string v) ∧ w'.cell? ⟨b, off + (k - 1) * 2, none⟩ = some (.string s0) ∧ w'.cell? ⟨b, off + (k - 1) * 2 + 1, none⟩ = some (.string v0)) (go_keep)
          (first | (go_at_call 124; refine (sortKey_any _ _ _).mono ?_; rintro e w' ⟨rfl, rfl⟩))
        clear q1 q4
        go_wp2
        go_roundw
        case rel => exact ⟨k + 1, by omega, by omega, by go_num, by rw [show k + 1 = k - 1 + 2 by omega]; exact Z, Q.out.trans ((((Below.refl _ _).drew).alloc Q.out.size _).alloc (by have := Q.out.size; simp; omega) _)⟩
        case measure => simp [intOf]; omega
    · have Z : Hid (risesB l = true) := hide (risesB_yes (by
        intro i hi hik
        exact H.out i hi (by rw [HN.out] at hi; omega)))
      go_wp2
      go_ret
      exact ⟨ret_bool Z.out.symm, Q.out⟩
end Go.Proofs.YtaofemdhgfejjaaGreatDoor
/-
  The order of texts is a strict order without ends left open; where a key stands in a map, and what it has there. Plain mathematics.
-/
namespace Go.Proofs.YtaofemdhgfejjaaGreatDoor
open Go.RowKit

theorem bl_irrefl : ∀ x : List UInt8, Op.bytesLess x x = false
  | [] => rfl
  | a :: x => by simp [Op.bytesLess, bl_irrefl x]
theorem bl_trans : ∀ x y z : List UInt8, Op.bytesLess x y = true → Op.bytesLess y z = true → Op.bytesLess x z = true
  | _, _, [], _, h => by simp [Op.bytesLess] at h
  | _, [], _ :: _, h, _ => by simp [Op.bytesLess] at h
  | [], _ :: _, _ :: _, _, _ => by simp [Op.bytesLess]
  | a :: x, b :: y, c :: z, h, k => by
    simp only [Op.bytesLess, Bool.or_eq_true, Bool.and_eq_true, decide_eq_true_eq, beq_iff_eq] at h k ⊢
    rcases h with h | ⟨rfl, h⟩
    · rcases k with k | ⟨rfl, k⟩
      · exact .inl (UInt8.lt_trans h k)
      · exact .inl h
    · rcases k with k | ⟨rfl, k⟩
      · exact .inl k
      · exact .inr ⟨rfl, bl_trans x y z h k⟩
theorem bl_tri : ∀ x y : List UInt8, Op.bytesLess x y = true ∨ x = y ∨ Op.bytesLess y x = true
  | [], [] => .inr (.inl rfl)
  | [], _ :: _ => .inl rfl
  | _ :: _, [] => .inr (.inr rfl)
  | a :: x, b :: y => by
    simp only [Op.bytesLess, Bool.or_eq_true, Bool.and_eq_true, decide_eq_true_eq, beq_iff_eq]
    by_cases h : a < b
    · exact .inl (.inl h)
    · by_cases k : b < a
      · exact .inr (.inr (.inl k))
      · obtain rfl : a = b := UInt8.le_antisymm (UInt8.not_lt.1 k) (UInt8.not_lt.1 h)
        rcases bl_tri x y with g | rfl | g
        · exact .inl (.inr ⟨rfl, g⟩)
        · exact .inr (.inl rfl)
        · exact .inr (.inr (.inr ⟨rfl, g⟩))
theorem cmp_bl : ∀ x y : List UInt8, (Lib.compareBytes x y < 0 ↔ Op.bytesLess x y = true) ∧ (Lib.compareBytes x y = 0 ↔ x = y)
  | [], [] => by simp [Lib.compareBytes, Op.bytesLess]
  | [], _ :: _ => by simp [Lib.compareBytes, Op.bytesLess]
  | _ :: _, [] => by simp [Lib.compareBytes, Op.bytesLess]
  | a :: x, b :: y => by
    obtain ⟨h1, h2⟩ := cmp_bl x y
    unfold Lib.compareBytes Op.bytesLess
    by_cases hlt : a < b
    · have hne : ¬ a = b := by rintro rfl; exact UInt8.lt_irrefl _ hlt
      simp [hlt, hne]
    · by_cases hgt : b < a
      · have hne : ¬ a = b := by rintro rfl; exact UInt8.lt_irrefl _ hgt
        simp [hlt, hgt, hne]
      · obtain rfl : a = b := UInt8.le_antisymm (UInt8.not_lt.1 hgt) (UInt8.not_lt.1 hlt)
        simp [UInt8.lt_irrefl, h1, h2]

theorem ltB_irrefl (a : ByteArray) : ltB a a = false := bl_irrefl _
theorem ltB_trans {a b c : ByteArray} (h : ltB a b = true) (k : ltB b c = true) : ltB a c = true := bl_trans _ _ _ h k
theorem toList_inj {a b : ByteArray} (e : a.toList = b.toList) : a = b := by
  rw [Go.ByteArray.toList_eq, Go.ByteArray.toList_eq] at e
  exact Go.WideShapes.bytes_inj e
theorem ltB_tri (a b : ByteArray) : ltB a b = true ∨ a = b ∨ ltB b a = true := by
  rcases bl_tri a.toList b.toList with h | h | h
  · exact .inl h
  · exact .inr (.inl (toList_inj h))
  · exact .inr (.inr h)
theorem ltB_asymm {a b : ByteArray} (h : ltB a b = true) : ltB b a = false := by
  cases e : ltB b a
  · rfl
  · have := ltB_trans h e; rw [ltB_irrefl] at this; cases this
/-- what strings.Compare says -/
def cmpS (a b : ByteArray) : Int := Lib.compareBytes a.data.toList b.data.toList
theorem cmpS_lt {a b : ByteArray} : cmpS a b < 0 ↔ ltB a b = true := by
  unfold cmpS ltB; rw [Go.ByteArray.toList_eq, Go.ByteArray.toList_eq]; exact (cmp_bl _ _).1
theorem cmpS_eq {a b : ByteArray} : cmpS a b = 0 ↔ a = b := by
  unfold cmpS; rw [(cmp_bl _ _).2]; exact ⟨fun h => Go.WideShapes.bytes_inj h, fun h => by rw [h]⟩

theorem rises_lt {l : List Pr} (h : risesTo l l.length) : ∀ j (hj : j < l.length) i (hi : i < j), ltB (l[i]'(by omega)).1 l[j].1 = true
  | 0, _, i, hi => absurd hi (by omega)
  | j + 1, hj, i, hi => by
    have h1 := h j hj hj
    rcases Nat.lt_or_ge i j with g | g
    · exact ltB_trans (rises_lt h j (by omega) i g) h1
    · obtain rfl : i = j := by omega
      exact h1

/-- how many keys at the head of l are less: where the key would stand -/
def atN : List Pr → ByteArray → Nat
  | [], _ => 0
  | p :: r, k => if ltB p.1 k = true then atN r k + 1 else 0
theorem atN_le : ∀ (l : List Pr) (k : ByteArray), atN l k ≤ l.length
  | [], _ => Nat.le_refl _
  | p :: r, k => by
    unfold atN
    have := atN_le r k
    split <;> simp <;> omega
theorem atN_lt : ∀ (l : List Pr) (k : ByteArray) (i : Nat) (_ : i < atN l k) (h' : i < l.length), ltB l[i].1 k = true
  | [], _, i, _, h' => absurd h' (by simp)
  | p :: r, k, i, h, h' => by
    unfold atN at h
    split at h
    next e =>
      cases i with
      | zero => exact e
      | succ i => exact atN_lt r k i (by omega) (by simpa using h')
    next => omega
theorem atN_not : ∀ (l : List Pr) (k : ByteArray) (h : atN l k < l.length), ltB l[atN l k].1 k = false
  | [], _, h => absurd h (by simp)
  | p :: r, k, h => by
    by_cases e : ltB p.1 k = true
    · have h1 : atN (p :: r) k = atN r k + 1 := by rw [atN, if_pos e]
      have h2 : atN r k < r.length := by rw [h1] at h; simpa using h
      have h3 := atN_not r k h2
      simp only [h1, List.getElem_cons_succ]
      exact h3
    · have h1 : atN (p :: r) k = 0 := by rw [atN, if_neg e]
      simp only [h1, List.getElem_cons_zero]
      simpa using e
/-- the place is known by what stands on both sides of it -/
theorem atN_eq {l : List Pr} {k : ByteArray} {n : Nat} (hn : n ≤ l.length) (h1 : ∀ i (h : i < l.length), i < n → ltB l[i].1 k = true) (h2 : ∀ (h : n < l.length), ltB l[n].1 k = false) : atN l k = n := by
  rcases Nat.lt_trichotomy (atN l k) n with g | g | g
  · have := atN_not l k (by omega)
    rw [h1 _ (by omega) g] at this
    cases this
  · exact g
  · have h3 : n < l.length := by have := atN_le l k; omega
    have := atN_lt l k n g h3
    rw [h2 h3] at this
    cases this

/-- is the key there? -/
def hasB (l : List Pr) (k : ByteArray) : Bool := if h : atN l k < l.length then decide (l[atN l k].1 = k) else false
theorem hasB_yes {l : List Pr} {k : ByteArray} (h : atN l k < l.length) (e : l[atN l k].1 = k) : hasB l k = true := by unfold hasB; rw [dif_pos h]; exact decide_eq_true e
theorem hasB_no {l : List Pr} {k : ByteArray} (h : atN l k < l.length) (e : ¬ l[atN l k].1 = k) : hasB l k = false := by unfold hasB; rw [dif_pos h]; exact decide_eq_false e
theorem hasB_end {l : List Pr} {k : ByteArray} (h : ¬ atN l k < l.length) : hasB l k = false := by unfold hasB; rw [dif_neg h]
theorem hasB_iff {l : List Pr} {k : ByteArray} : hasB l k = true ↔ ∃ h : atN l k < l.length, l[atN l k].1 = k := by
  unfold hasB
  split
  next h => rw [decide_eq_true_iff]; exact ⟨fun e => ⟨h, e⟩, fun ⟨_, e⟩ => e⟩
  next h => simp; intro x; exact absurd x h
/-- its value, or nothing -/
def valOf (l : List Pr) (k : ByteArray) : ByteArray := if h : atN l k < l.length then (if l[atN l k].1 = k then l[atN l k].2 else ByteArray.empty) else ByteArray.empty
theorem valOf_yes {l : List Pr} {k : ByteArray} (h : atN l k < l.length) (e : l[atN l k].1 = k) : valOf l k = l[atN l k].2 := by unfold valOf; rw [dif_pos h, if_pos e]
theorem valOf_no {l : List Pr} {k : ByteArray} (h : hasB l k = false) : valOf l k = ByteArray.empty := by
  unfold valOf
  split
  next h' =>
    split
    next e => rw [hasB_yes h' e] at h; cases h
    next => rfl
  next => rfl
/-- what Get tells -/
noncomputable def getB (l : List Pr) (k : ByteArray) : Bool := mapB l && hasB l k
noncomputable def getV (l : List Pr) (k : ByteArray) : ByteArray := if mapB l = true then valOf l k else ByteArray.empty
end Go.Proofs.YtaofemdhgfejjaaGreatDoor
/-
  Where a key stands: strings.Compare, the closure that compares, slices.BinarySearchFunc at pairs, place; spec.l1At.
-/
namespace Go.Proofs.YtaofemdhgfejjaaGreatDoor
open Go.RowKit

set_option maxHeartbeats 1000000 in
set_option maxRecDepth 100000 in
theorem compareString_any (a b : ByteArray) (w : World) :
    Calls Tryz.prog 81 #[.string a, .string b] w fun e w' => e = .returned (.int .i64 (cmpS a b)) ∧ w = w' := by
  go_enter Tryz.func81, Tryz.ntmps81
  go_wp2
  rw [run_callFunc_extern Tryz.func87 (by kernel_rfl) (by kernel_rfl) (by kernel_rfl) (e := Extern.BytealgCompare.compare) (by kernel_rfl), Lib.run_compareString]
  simp only [Result.andThen]
  rw [Oper.upon_value]
  go_wp2
  go_ret
  exact ⟨rfl, rfl⟩

theorem compare_any (a b : ByteArray) (w : World) :
    Calls Tryz.prog 62 #[.string a, .string b] w fun e w' => e = .returned (.int .i64 (cmpS a b)) ∧ w = w' := by
  go_enter Tryz.func62, Tryz.ntmps62
  go_wp2_with (go_at_call 81; refine (compareString_any a b _).mono ?_; rintro e w' ⟨rfl, rfl⟩)
  go_ret
  exact ⟨rfl, rfl⟩

theorem placeCmp_any (a v k : ByteArray) (w : World) :
    Calls Tryz.prog 61 #[.agg #[.string a, .string v], .string k] w fun e w' => e = .returned (.int .i64 (cmpS a k)) ∧ Below w.heap.size w w' := by
  have hme := method_sortKey
  go_enter Tryz.func61, Tryz.ntmps61
  go_wp2_with (first | (go_at_call 124; refine (sortKey_any a v _).mono ?_; rintro e w' ⟨rfl, rfl⟩) | (go_at_call 62; refine (compare_any a k _).mono ?_; rintro e w' ⟨rfl, rfl⟩))
  go_ret
  exact ⟨rfl, ((Below.refl _ _).alloc (Nat.le_refl _) _).alloc (by simp) _⟩

/-- what a search has left open: all ahead of lo are less, none from hi on is -/
def Open (l : List Pr) (k : ByteArray) (lo hi : Nat) : Prop := (∀ t (h : t < l.length), t < lo → ltB l[t].1 k = true) ∧ ∀ t (h : t < l.length), hi ≤ t → ltB l[t].1 k = false
theorem Open.low {l : List Pr} {k : ByteArray} {lo hi m : Nat} (h : Open l k lo hi) (hr : risesTo l l.length) (hm : m < l.length) (hc : cmpS l[m].1 k < 0) : Open l k (m + 1) hi := by
  refine ⟨fun t ht hlt => ?_, h.2⟩
  have hc := cmpS_lt.1 hc
  rcases Nat.lt_or_ge t m with g | g
  · exact ltB_trans (rises_lt hr m hm t g) hc
  · obtain rfl : t = m := by omega
    exact hc
theorem Open.high {l : List Pr} {k : ByteArray} {lo hi m : Nat} (h : Open l k lo hi) (hr : risesTo l l.length) (hm : m < l.length) (hc : ¬ cmpS l[m].1 k < 0) : Open l k lo m := by
  refine ⟨h.1, fun t ht hlt => ?_⟩
  have hc : ltB l[m].1 k = false := by
    cases e : ltB l[m].1 k
    · rfl
    · exact absurd (cmpS_lt.2 e) hc
  cases e : ltB l[t].1 k
  · rfl
  · rcases Nat.lt_or_ge m t with g | g
    · rw [ltB_trans (rises_lt hr t ht m g) e] at hc
      cases hc
    · obtain rfl : t = m := by omega
      rw [e] at hc
      cases hc
theorem Open.at_ {l : List Pr} {k : ByteArray} {n : Nat} (h : Open l k n n) (hn : n ≤ l.length) : atN l k = n := atN_eq hn h.1 (fun h' => h.2 n h' (Nat.le_refl _))

set_option maxRecDepth 100000 in
set_option maxHeartbeats 2000000 in
theorem search_any (A : Option Addr) (l : List Pr) (cap : Nat) (key : ByteArray) (w : World) (hl : l.length ≤ 65536) (hin : PIn w w.heap.size A l) (hr : risesTo l l.length) :
    Calls Tryz.prog 60 #[.slice A l.length cap, .string key, .func (.func 61) #[] #[]] w fun e w' => e = .returned (.tuple #[.int .i64 (atN l key : Nat), .bool (hasB l key)]) ∧ Below w.heap.size w w' := by
  have HR := hide hr
  clear hr
  generalize hn : l.length = n at hl ⊢
  have HN := hide hn
  clear hn
  go_enter Tryz.func60, Tryz.ntmps60
  go_wp2
  go_loopw [9, 10] (fun i j wr => ∃ lo hi : Nat, lo ≤ hi ∧ hi ≤ n ∧ i = .int .i64 lo ∧ j = .int .i64 hi ∧ Hid (Open l key lo hi) ∧ Hid (Below w.heap.size w wr)) (fun i j _ => (intOf j - intOf i).toNat)
  case atStart => exact ⟨0, n, Nat.zero_le _, Nat.le_refl _, rfl, rfl, hide ⟨fun t _ h => absurd h (by omega), fun t h h' => absurd h (by rw [HN.out]; omega)⟩, Below.refl _ w⟩
  case round =>
    obtain ⟨lo, hi, hlh, hhn, rfl, rfl, O, Q⟩ := hrel
    by_cases hlt : lo < hi
    · have hin2 := hin.below Q.out
      have hml : (lo + hi) / 2 < l.length := by rw [HN.out]; omega
      obtain ⟨b, off, rfl, hbB, hc⟩ := hin2.2 (by omega)
      obtain ⟨c1, c2⟩ := hc ((lo + hi) / 2) hml
      by_cases hcm : cmpS (l[(lo + hi) / 2]'hml).1 key < 0
      · have Z := hide (O.out.low HR.out hml hcm)
        generalize (l[(lo + hi) / 2]'hml).1 = s at *
        generalize (l[(lo + hi) / 2]'hml).2 = v at *
        clear hin hin2 hc
        go_wp2_with (go_at_call 61; refine (placeCmp_any s v key _).mono ?_; rintro e w' ⟨rfl, hb⟩)
        go_roundw
        case rel => exact ⟨(lo + hi) / 2 + 1, hi, by omega, hhn, by go_num, rfl, Z, Q.out.trans (hb.mono Q.out.size)⟩
        case measure => simp [intOf]; omega
      · have Z := hide (O.out.high HR.out hml hcm)
        generalize (l[(lo + hi) / 2]'hml).1 = s at *
        generalize (l[(lo + hi) / 2]'hml).2 = v at *
        clear hin hin2 hc
        go_wp2_with (go_at_call 61; refine (placeCmp_any s v key _).mono ?_; rintro e w' ⟨rfl, hb⟩)
        go_roundw
        case rel => exact ⟨lo, (lo + hi) / 2, by omega, by omega, rfl, by go_num, Z, Q.out.trans (hb.mono Q.out.size)⟩
        case measure => simp [intOf]; omega
    · obtain rfl : hi = lo := by omega
      have E := hide (O.out.at_ (by rw [HN.out]; exact hhn))
      by_cases hlast : hi < n
      · have hin2 := hin.below Q.out
        have hml : hi < l.length := by rw [HN.out]; omega
        obtain ⟨b, off, rfl, hbB, hc⟩ := hin2.2 (by omega)
        obtain ⟨c1, c2⟩ := hc hi hml
        by_cases hcm : (l[hi]'hml).1 = key
        · have Z : Hid (hasB l key = true) := hide (hasB_iff.2 ⟨by rw [E.out]; exact hml, by simp only [E.out]; exact hcm⟩)
          have z0 : (cmpS (l[hi]'hml).1 key == 0) = true := by rw [beq_iff_eq]; exact cmpS_eq.2 hcm
          generalize (l[hi]'hml).1 = s at *
          generalize (l[hi]'hml).2 = v at *
          clear hin hin2 hc hcm
          go_wp2_with (go_at_call 61; refine (placeCmp_any s v key _).mono ?_; rintro e w' ⟨rfl, hb⟩)
          go_ret2
          exact ⟨ret_ib (by rw [E.out]) Z.out.symm, Q.out.trans (hb.mono Q.out.size)⟩
        · have Z : Hid (hasB l key = false) := hide (hasB_no (by rw [E.out]; exact hml) (by simp only [E.out]; exact hcm))
          have z0 : (cmpS (l[hi]'hml).1 key == 0) = false := by rw [beq_eq_false_iff_ne]; exact fun h => hcm (cmpS_eq.1 h)
          generalize (l[hi]'hml).1 = s at *
          generalize (l[hi]'hml).2 = v at *
          clear hin hin2 hc hcm
          go_wp2_with (go_at_call 61; refine (placeCmp_any s v key _).mono ?_; rintro e w' ⟨rfl, hb⟩)
          go_ret2
          exact ⟨ret_ib (by rw [E.out]) Z.out.symm, Q.out.trans (hb.mono Q.out.size)⟩
      · have Z : Hid (hasB l key = false) := hide (hasB_end (by rw [E.out, HN.out]; omega))
        go_wp2
        go_ret2
        exact ⟨ret_ib (by rw [E.out]) Z.out.symm, Q.out⟩

theorem place_any (A : Option Addr) (l : List Pr) (cap : Nat) (key : ByteArray) (w : World) (hl : l.length ≤ 65536) (hin : PIn w w.heap.size A l) (hr : risesTo l l.length) :
    Calls Tryz.prog 30 #[.slice A l.length cap, .string key] w fun e w' => e = .returned (.tuple #[.int .i64 (atN l key : Nat), .bool (hasB l key)]) ∧ Below w.heap.size w w' := by
  have R := hide (search_any A l cap key w hl hin hr)
  clear hin hr
  go_enter Tryz.func30, Tryz.ntmps30
  go_wp2_with (go_at_call 60; refine R.out.mono ?_; rintro e w' ⟨rfl, hb⟩)
  go_ret2
  exact ⟨rfl, hb⟩

set_option maxRecDepth 100000 in
set_option maxHeartbeats 1000000 in
theorem l1At_any (A : Option Addr) (l : List Pr) (cap : Nat) (key : ByteArray) (w : World) (B : Nat) (hl : l.length ≤ maxLen) (hin : PIn w B A l) :
    Calls Tryz.prog 80 #[.slice A l.length cap, .string key] w fun e w' => e = .returned (.int .i64 (atN l key : Nat)) ∧ w = w' := by
  unfold maxLen at hl
  generalize hn : l.length = n at *
  have HN := hide hn
  clear hn
  go_enter Tryz.func80, Tryz.ntmps80
  go_wp2
  go_loop [5] (fun i => ∃ k : Nat, k ≤ n ∧ i = .int .i64 k ∧ Hid (∀ t (h : t < l.length), t < k → ltB l[t].1 key = true)) (fun i => n - (intOf i).toNat)
  case atStart => exact ⟨0, Nat.zero_le _, rfl, hide fun t _ h => absurd h (by omega)⟩
  case round =>
    obtain ⟨k, hk, rfl, H⟩ := hrel
    by_cases hlt : k < n
    · have hkl : k < l.length := by rw [HN.out]; omega
      obtain ⟨b, off, rfl, hbB, hc⟩ := hin.2 (by omega)
      obtain ⟨c1, _⟩ := hc k hkl
      cases hs : ltB (l[k]'hkl).1 key
      · have E : Hid (atN l key = k) := hide (atN_eq (by omega) H.out (fun _ => hs))
        have hs2 : Op.bytesLess (l[k]'hkl).1.toList key.toList = false := hs
        generalize (l[k]'hkl).1 = s at *
        clear hin hc hs
        go_wp2
        go_ret
        exact ⟨ret_int (by rw [E.out]), rfl⟩
      · have Z : Hid (∀ t (h : t < l.length), t < k + 1 → ltB l[t].1 key = true) := hide (fun t h h' => by
          rcases Nat.lt_or_ge t k with g | g
          · exact H.out t h g
          · obtain rfl : t = k := by omega
            exact hs)
        have hs2 : Op.bytesLess (l[k]'hkl).1.toList key.toList = true := hs
        generalize (l[k]'hkl).1 = s at *
        clear hin hc hs
        go_wp2
        go_round
        case rel => exact ⟨k + 1, by omega, by go_num, Z⟩
        case measure => simp [intOf]; omega
    · obtain rfl : k = n := by omega
      have E : Hid (atN l key = k) := hide (atN_eq (by rw [HN.out]; exact Nat.le_refl _) H.out (fun h => absurd h (by rw [HN.out]; omega)))
      have hk2 : ¬ (k : Int) < (k : Int) := by omega
      clear hlt
      go_wp2
      go_ret
      exact ⟨ret_int (by rw [E.out]), rfl⟩
end Go.Proofs.YtaofemdhgfejjaaGreatDoor
/-
  Lists of pairs made out of others: impl's with and without.
-/
namespace Go.Proofs.YtaofemdhgfejjaaGreatDoor
open Go.RowKit

/-- a row of the call's own comes back -/
def RetOwn (B : Nat) (l : List Pr) (w : World) (e : Ending) (w' : World) : Prop := ∃ A cap, l.length ≤ cap ∧ e = .returned (.slice A l.length cap) ∧ Own w' B A cap l ∧ Below B w w'
theorem Own.cap_le {w : World} {B : Nat} {A : Option Addr} {cap : Nat} {l : List Pr} (h : Own w B A cap l) : l.length ≤ cap := by
  rcases h.2.2 with ⟨e, e'⟩ | ⟨g, c, cur, e, _, _, hnc, _⟩
  · injection e with e1 e2 e3; omega
  · injection e with e1 e2 e3; omega
theorem Own.made {w : World} {B n cap : Nat} (h : w.ownsRow B 60 2 (.slice (some ⟨n, 0, none⟩) 0 cap) 0 []) : Own w B (some ⟨n, 0, none⟩) cap [] := ⟨lens_nil, h⟩
theorem erase_eq (l : List Pr) (k : Nat) : ([] ++ l.take k) ++ l.drop (k + 1) = l.eraseIdx k := by rw [List.nil_append, List.eraseIdx_eq_take_drop_succ]

set_option maxRecDepth 100000 in
set_option maxHeartbeats 1000000 in
theorem without_any (A : Option Addr) (l : List Pr) (cap k : Nat) (w : World) (hl : l.length ≤ 65536) (hc : l.length ≤ cap) (hk : k < l.length) (hin : PIn w w.heap.size A l) :
    Calls Tryz.prog 68 #[.slice A l.length cap, .int .i64 k] w (RetOwn w.heap.size (l.eraseIdx k) w) := by
  obtain ⟨i0, hi, hz0, hz1, hz2⟩ := info_parts infoP
  have K1 := hide (run_cut_h 62 Tryz.underlying62 A l.length cap k (by omega))
  have K2 := hide (run_cut_l 62 Tryz.underlying62 A l.length cap (k + 1) (by omega))
  have IN1 := hide (hin.take cap k)
  have IN2 := hide (hin.drop hc (k + 1))
  have e1 : (l.take k).length = k := by rw [List.length_take]; omega
  have e2 : (l.drop (k + 1)).length = l.length - (k + 1) := by rw [List.length_drop]
  have E1 := hide e1
  have E2 := hide e2
  have E3 := hide (erase_eq l k)
  have HC := hide (show l.length - (k + 1) + k ≤ 65536 by omega)
  clear hin e1 e2
  generalize l.take k = la at *
  generalize l.drop (k + 1) = lb at *
  generalize l.length = n at *
  go_enter Tryz.func68, Tryz.ntmps68
  go_wp2_with (at_make; refine wpList_make_own _ rfl _ _ 62 rfl w.heap.size 60 i0 _ 2 Tryz.underlying62 hi hz0 hz1 _ _ _ n rfl rfl (by omega) (by rw [hz2]; omega) (by unfold maxLen; omega) (Nat.le_refl _) ?_)
  intro w1 own1 g1
  have O1 := hide (Own.made own1)
  have B1 := hide ((Below.refl w.heap.size w).grown g1 (Nat.le_refl _) (by simp))
  have h1 := K1.out
  have h2 := K2.out
  have q1 : ((k + 1 : Nat) : Int) = (k : Int) + 1 := by omega
  rw [q1] at h2
  clear own1 g1 q1
  go_wp2_with (first
    | (at_builtin; refine wpList_app 62 Tryz.underlying62 rfl (.tmp 9) (.tmp 12) rfl rfl rfl rfl E1.out.symm O1.out (IN1.out.below B1.out) B1.out.size (by rw [E1.out]; simp; omega) ?_; intro A2 cap2 w2 own2 g2 r2; have B2 := hide (B1.out.trans (O1.out.grownBelow (by rw [rowOf_own]; exact g2) B1.out.size)); have O2 := hide own2; clear own2 g2)
    | (at_builtin; refine wpList_app 62 Tryz.underlying62 rfl (.tmp 14) (.tmp 18) rfl rfl rfl (by simp) E2.out.symm O2.out (IN2.out.below B2.out) B2.out.size (by rw [List.length_append, E1.out, E2.out]; simp; omega) ?_; intro A3 cap3 w3 own3 g3 r3; have B3 := hide (B2.out.trans (O2.out.grownBelow (by rw [rowOf_own]; exact g3) B2.out.size)); have O3 := hide own3; clear own3 g3))
  go_ret
  have O4 := O3.out
  rw [E3.out] at O4
  exact ⟨A3, cap3, O4.cap_le, by rw [← E3.out]; simp, O4, B3.out⟩

/-- with the pair, in place of one of its key -/
def setL (l : List Pr) (k v : ByteArray) : List Pr := l.take (atN l k) ++ (k, v) :: l.drop (if hasB l k = true then atN l k + 1 else atN l k)
theorem setL_eq (l : List Pr) (k v : ByteArray) (m : Nat) (h : m = if hasB l k = true then atN l k + 1 else atN l k) : (([] ++ l.take (atN l k)) ++ [(k, v)]) ++ l.drop m = setL l k v := by subst h; unfold setL; simp
theorem PIn.one (w : World) (k v : ByteArray) (hk : k.size ≤ maxLen) (hv : v.size ≤ maxLen) (t : TypeId) : PIn (w.alloc (.cells #[.string k, .string v] t)) (w.heap.size + 1) (some ⟨w.heap.size, 0, none⟩) [(k, v)] := by
  refine ⟨fun i hi => ?_, fun _ => ⟨w.heap.size, 0, rfl, by omega, fun i hi => ?_⟩⟩
  · obtain rfl : i = 0 := by simpa using hi
    exact ⟨hk, hv⟩
  · obtain rfl : i = 0 := by simpa using hi
    have h := heap_alloc_new w (.cells #[.string k, .string v] t)
    exact ⟨cell_of_row _ w.heap.size 0 #[.string k, .string v] t (0, 0) h, cell_of_row _ w.heap.size 1 #[.string k, .string v] t (0, 0) h⟩
theorem Own.alloc {w : World} {B : Nat} {A : Option Addr} {cap : Nat} {l : List Pr} (h : Own w B A cap l) (o : Obj) : Own (w.alloc o) B A cap l := h.below ((Below.refl _ _).alloc (Nat.le_refl _) o)

set_option maxRecDepth 100000 in
set_option maxHeartbeats 1000000 in
theorem with_any (A : Option Addr) (l : List Pr) (cap : Nat) (k v : ByteArray) (w : World) (hl : l.length ≤ 65536) (hc : l.length ≤ cap) (hin : PIn w w.heap.size A l) (hr : risesTo l l.length) (hks : k.size ≤ maxLen) (hvs : v.size ≤ maxLen) :
    Calls Tryz.prog 69 #[.slice A l.length cap, .agg #[.string k, .string v]] w (RetOwn w.heap.size (setL l k v) w) := by
  have hme := method_sortKey
  have hle := atN_le l k
  obtain ⟨i0, hi, hz0, hz1, hz2⟩ := info_parts infoP
  have HR := hide hr
  cases hh : hasB l k
  · have HM := hide (setL_eq l k v (atN l k) (by rw [hh]; rfl))
    clear hr
    go_enter Tryz.func69, Tryz.ntmps69
    go_wp2_with fail
    refine (sortKey_any k v _).mono ?_
    rintro e w0 ⟨rfl, hw0⟩
    have b0 : Below w.heap.size w w0 := by rw [← hw0]; exact ((Below.refl _ _).alloc (Nat.le_refl _) _).alloc (by simp) _
    have z0 : w.heap.size + 1 < w0.heap.size := by rw [← hw0]; simp
    have c0 : w0.cell? ⟨w.heap.size, 0, none⟩ = some (.string k) ∧ w0.cell? ⟨w.heap.size, 1, none⟩ = some (.string v) := by rw [← hw0]; constructor <;> simp [go_sem]
    clear hw0
    have in0 := (hin.below b0).more b0.size
    go_wp2_with fail
    refine (place_any A l cap k _ hl in0 HR.out).mono ?_
    rintro e w1 ⟨rfl, b1⟩
    have c1 : w1.cell? ⟨w.heap.size, 0, none⟩ = some (.string k) := cellB b1 (by omega) c0.1
    have c2 : w1.cell? ⟨w.heap.size, 1, none⟩ = some (.string v) := cellB b1 (by omega) c0.2
    have B1 := hide (b0.trans (b1.mono b0.size))
    have z1 : w.heap.size + 1 < w1.heap.size := by have := b1.size; omega
    have in1 := (in0.below b1).more b1.size
    clear b0 b1 in0 c0 hin
    go_wp2_with (at_make; refine wpList_make_own _ rfl _ _ 62 rfl w1.heap.size 60 i0 _ 2 Tryz.underlying62 hi hz0 hz1 _ _ _ (l.length + 1) rfl rfl (by omega) (by rw [hz2]; omega) (by unfold maxLen; omega) (Nat.le_refl _) ?_)
    intro w2 own2 g2
    have O2 := hide (Own.made own2)
    have b2 := (Below.refl w1.heap.size w1).grown g2 (Nat.le_refl _) (by simp)
    have c3 : w2.cell? ⟨w.heap.size, 0, none⟩ = some (.string k) := cellB b2 (by omega) c1
    have c4 : w2.cell? ⟨w.heap.size, 1, none⟩ = some (.string v) := cellB b2 (by omega) c2
    have in2 := in1.below b2
    have B2 := hide b2
    have K1 := run_cut_h 62 Tryz.underlying62 A l.length cap (atN l k) (by omega)
    have K2 := run_cut_l 62 Tryz.underlying62 A l.length cap (atN l k) (by omega)
    have IN1 := hide (in2.take cap (atN l k))
    have IN2 := hide (in2.drop hc (atN l k))
    have E1 := hide (show (l.take (atN l k)).length = atN l k by rw [List.length_take]; omega)
    have E2 := hide (show (l.drop (atN l k)).length = l.length - (atN l k) by rw [List.length_drop])
    clear b2 own2 g2 c1 c2 in1 in2
    generalize l.take (atN l k) = la at *
    generalize l.drop (atN l k) = lb at *
    generalize atN l k = m at *
    generalize hnn : l.length = n at *
    have HNN := hide hnn
    clear hnn
    go_wp2_with (first
      | (at_builtin; refine wpList_app 62 Tryz.underlying62 rfl (.tmp 25) (.tmp 28) rfl rfl rfl rfl E1.out.symm O2.out IN1.out B2.out.size (by rw [E1.out]; simp; omega) ?_; intro A3 cap3 w3 own3 g3 r3; have b3 := O2.out.grownBelow (by rw [rowOf_own]; exact g3) B2.out.size; have B3 := hide (B2.out.trans b3); have c5 : w3.cell? ⟨w.heap.size, 0, none⟩ = some (.string k) := cellB b3 (by omega) c3; have c6 : w3.cell? ⟨w.heap.size, 1, none⟩ = some (.string v) := cellB b3 (by omega) c4; have O3 := hide own3; have IN3 := hide (IN2.out.below b3); clear own3 g3 b3 c3 c4)
      | (at_builtin; refine wpList_app 62 Tryz.underlying62 rfl (.tmp 30) (.tmp 32) rfl rfl rfl (by simp) rfl (O3.out.alloc _) (PIn.one w3 k v hks hvs _) (Nat.le_trans B3.out.size (by simp)) (by rw [List.length_append, E1.out]; simp; omega) ?_; intro A4 cap4 w4 own4 g4 r4; have b4 := (O3.out.alloc (.cells #[.string k, .string v] 60)).grownBelow (by rw [rowOf_own]; exact g4) (Nat.le_trans B3.out.size (by simp)); have b4' := ((Below.refl w1.heap.size w3).alloc B3.out.size (.cells #[.string k, .string v] 60)).trans b4; have B4 := hide (B3.out.trans b4'); have O4 := hide own4; have IN4 := hide (IN3.out.below b4'); clear own4 g4 b4 b4' c5 c6)
      | (at_builtin; refine wpList_app 62 Tryz.underlying62 rfl (.tmp 34) (.tmp 37) rfl rfl rfl (by simp) E2.out.symm O4.out IN4.out B4.out.size (by rw [List.length_append, List.length_append, E1.out, E2.out]; simp; omega) ?_; intro A5 cap5 w5 own5 g5 r5; have b5 := O4.out.grownBelow (by rw [rowOf_own]; exact g5) B4.out.size; have B5 := hide (B4.out.trans b5); have O5 := hide own5; clear own5 g5 b5))
    go_ret
    have O6 := O5.out
    rw [HM.out] at O6
    exact ⟨A5, cap5, O6.cap_le, by rw [← HM.out]; simp, O6.more B1.out.size, B1.out.trans (B5.out.mono B1.out.size)⟩
  · obtain ⟨hlt, he⟩ := hasB_iff.1 hh
    have HM := hide (setL_eq l k v (atN l k + 1) (by rw [hh]; rfl))
    clear he hr
    go_enter Tryz.func69, Tryz.ntmps69
    go_wp2_with fail
    refine (sortKey_any k v _).mono ?_
    rintro e w0 ⟨rfl, hw0⟩
    have b0 : Below w.heap.size w w0 := by rw [← hw0]; exact ((Below.refl _ _).alloc (Nat.le_refl _) _).alloc (by simp) _
    have z0 : w.heap.size + 1 < w0.heap.size := by rw [← hw0]; simp
    have c0 : w0.cell? ⟨w.heap.size, 0, none⟩ = some (.string k) ∧ w0.cell? ⟨w.heap.size, 1, none⟩ = some (.string v) := by rw [← hw0]; constructor <;> simp [go_sem]
    clear hw0
    have in0 := (hin.below b0).more b0.size
    go_wp2_with fail
    refine (place_any A l cap k _ hl in0 HR.out).mono ?_
    rintro e w1 ⟨rfl, b1⟩
    have c1 : w1.cell? ⟨w.heap.size, 0, none⟩ = some (.string k) := cellB b1 (by omega) c0.1
    have c2 : w1.cell? ⟨w.heap.size, 1, none⟩ = some (.string v) := cellB b1 (by omega) c0.2
    have B1 := hide (b0.trans (b1.mono b0.size))
    have z1 : w.heap.size + 1 < w1.heap.size := by have := b1.size; omega
    have in1 := (in0.below b1).more b1.size
    clear b0 b1 in0 c0 hin
    go_wp2_with (at_make; refine wpList_make_own _ rfl _ _ 62 rfl w1.heap.size 60 i0 _ 2 Tryz.underlying62 hi hz0 hz1 _ _ _ (l.length + 1) rfl rfl (by omega) (by rw [hz2]; omega) (by unfold maxLen; omega) (Nat.le_refl _) ?_)
    intro w2 own2 g2
    have O2 := hide (Own.made own2)
    have b2 := (Below.refl w1.heap.size w1).grown g2 (Nat.le_refl _) (by simp)
    have c3 : w2.cell? ⟨w.heap.size, 0, none⟩ = some (.string k) := cellB b2 (by omega) c1
    have c4 : w2.cell? ⟨w.heap.size, 1, none⟩ = some (.string v) := cellB b2 (by omega) c2
    have in2 := in1.below b2
    have B2 := hide b2
    have K1 := run_cut_h 62 Tryz.underlying62 A l.length cap (atN l k) (by omega)
    have K2 := run_cut_l 62 Tryz.underlying62 A l.length cap (atN l k + 1) (by omega)
    rw [show ((atN l k + 1 : Nat) : Int) = (atN l k : Int) + 1 by omega] at K2
    have IN1 := hide (in2.take cap (atN l k))
    have IN2 := hide (in2.drop hc (atN l k + 1))
    have E1 := hide (show (l.take (atN l k)).length = atN l k by rw [List.length_take]; omega)
    have E2 := hide (show (l.drop (atN l k + 1)).length = l.length - (atN l k + 1) by rw [List.length_drop])
    clear b2 own2 g2 c1 c2 in1 in2
    generalize l.take (atN l k) = la at *
    generalize l.drop (atN l k + 1) = lb at *
    generalize atN l k = m at *
    generalize hnn : l.length = n at *
    have HNN := hide hnn
    clear hnn
    go_wp2_with (first
      | (at_builtin; refine wpList_app 62 Tryz.underlying62 rfl (.tmp 25) (.tmp 28) rfl rfl rfl rfl E1.out.symm O2.out IN1.out B2.out.size (by rw [E1.out]; simp; omega) ?_; intro A3 cap3 w3 own3 g3 r3; have b3 := O2.out.grownBelow (by rw [rowOf_own]; exact g3) B2.out.size; have B3 := hide (B2.out.trans b3); have c5 : w3.cell? ⟨w.heap.size, 0, none⟩ = some (.string k) := cellB b3 (by omega) c3; have c6 : w3.cell? ⟨w.heap.size, 1, none⟩ = some (.string v) := cellB b3 (by omega) c4; have O3 := hide own3; have IN3 := hide (IN2.out.below b3); clear own3 g3 b3 c3 c4)
      | (at_builtin; refine wpList_app 62 Tryz.underlying62 rfl (.tmp 30) (.tmp 32) rfl rfl rfl (by simp) rfl (O3.out.alloc _) (PIn.one w3 k v hks hvs _) (Nat.le_trans B3.out.size (by simp)) (by rw [List.length_append, E1.out]; simp; omega) ?_; intro A4 cap4 w4 own4 g4 r4; have b4 := (O3.out.alloc (.cells #[.string k, .string v] 60)).grownBelow (by rw [rowOf_own]; exact g4) (Nat.le_trans B3.out.size (by simp)); have b4' := ((Below.refl w1.heap.size w3).alloc B3.out.size (.cells #[.string k, .string v] 60)).trans b4; have B4 := hide (B3.out.trans b4'); have O4 := hide own4; have IN4 := hide (IN3.out.below b4'); clear own4 g4 b4 b4' c5 c6)
      | (at_builtin; refine wpList_app 62 Tryz.underlying62 rfl (.tmp 34) (.tmp 37) rfl rfl rfl (by simp) E2.out.symm O4.out IN4.out B4.out.size (by rw [List.length_append, List.length_append, E1.out, E2.out]; simp; omega) ?_; intro A5 cap5 w5 own5 g5 r5; have b5 := O4.out.grownBelow (by rw [rowOf_own]; exact g5) B4.out.size; have B5 := hide (B4.out.trans b5); have O5 := hide own5; clear own5 g5 b5))
    go_ret
    have O6 := O5.out
    rw [HM.out] at O6
    exact ⟨A5, cap5, O6.cap_le, by rw [← HM.out]; simp, O6.more B1.out.size, B1.out.trans (B5.out.mono B1.out.size)⟩
end Go.Proofs.YtaofemdhgfejjaaGreatDoor
/-
  The reader of a law's code: what l1Open, next, below, once, key, val leave. Loosely: which values come out doesn't matter, only that they are such values.
-/
namespace Go.Proofs.YtaofemdhgfejjaaGreatDoor
open Go.RowKit

set_option maxRecDepth 100000 in
set_option maxHeartbeats 1000000 in
theorem key_any (rb : Nat) (w : World) (h : Rd w rb) :
    Calls Tryz.prog 46 #[.pointer (some ⟨rb, 0, none⟩)] w (RdS rb 12 w) := by
  go_enter Tryz.func46, Tryz.ntmps46
  go_wp2_with fail
  refine (once_any rb 30 w h (by omega) (by omega)).mono ?_
  rintro e w1 ⟨x, rfl, r1, g1⟩
  cases x
  · have G1 := hide g1
    have r1b := r1.below ((Below.refl _ w1).alloc (Nat.le_refl _) (.cells #[.string ⟨#[97]⟩, .string ⟨#[98]⟩, .string ⟨#[99]⟩, .string ⟨#[100]⟩, .string ⟨#[101]⟩] 9))
    have hh := heap_alloc_new w1 (.cells #[.string ⟨#[97]⟩, .string ⟨#[98]⟩, .string ⟨#[99]⟩, .string ⟨#[100]⟩, .string ⟨#[101]⟩] 9)
    have HH := hide hh
    have hlt := r1.lt
    clear g1 h hh
    go_wp2_with fail
    refine (below_any rb 5 _ r1b (by omega) (by omega)).mono ?_
    rintro e w2 ⟨y, hy0, hy1, rfl, r2, g2⟩
    have R2 := hide r2
    have hb2 := g2.block w1.heap.size (by simp) (by simp; omega)
    rw [HH.out] at hb2
    have G2 := hide (World.grownBy.trans (World.grownBy.trans G1.out (World.grownBy_alloc w1 _ _)) g2)
    obtain ⟨k, rfl⟩ := Int.eq_ofNat_of_zero_le hy0
    have hk : k < 5 := by omega
    obtain ⟨s, hs, ho, hc⟩ : ∃ s : ByteArray, s.size ≤ 12 ∧ s ≠ otherS ∧ w2.cell? ⟨w1.heap.size, k, none⟩ = some (.string s) := by
      rw [cell_of_row w2 w1.heap.size k _ _ _ hb2]
      match k, hk with
      | 0, _ => exact ⟨_, by decide, by decide, rfl⟩
      | 1, _ => exact ⟨_, by decide, by decide, rfl⟩
      | 2, _ => exact ⟨_, by decide, by decide, rfl⟩
      | 3, _ => exact ⟨_, by decide, by decide, rfl⟩
      | 4, _ => exact ⟨_, by decide, by decide, rfl⟩
    have HO := hide ho
    clear r2 g2 hb2 r1b r1 HH ho
    go_wp2
    go_ret
    exact ⟨s, hs, HO.out, rfl, R2.out, G2.out⟩
  · have R1 := hide r1
    have G1 := hide g1
    clear r1 g1 h
    go_wp2
    go_ret
    exact ⟨_, by decide, by decide, rfl, R1.out, G1.out⟩

set_option maxRecDepth 100000 in
set_option maxHeartbeats 1000000 in
theorem val_any (rb : Nat) (w : World) (h : Rd w rb) :
    Calls Tryz.prog 47 #[.pointer (some ⟨rb, 0, none⟩)] w (RdS rb 12 w) := by
  have r1b := fun o => h.below ((Below.refl _ w).alloc (Nat.le_refl _) o)
  have hlt := h.lt
  have RB := hide r1b
  clear r1b h
  go_enter Tryz.func47, Tryz.ntmps47
  go_wp2_with fail
  refine (below_any rb 6 _ (RB.out _) (by omega) (by omega)).mono ?_
  rintro e w2 ⟨y, hy0, hy1, rfl, r2, g2⟩
  have R2 := hide r2
  have hb2 := (g2.block w.heap.size (by simp) (by simp; omega)).trans (heap_alloc_new w _)
  have G2 := hide (World.grownBy.trans (World.grownBy_alloc w _ _) g2)
  obtain ⟨k, rfl⟩ := Int.eq_ofNat_of_zero_le hy0
  have hk : k < 6 := by omega
  obtain ⟨s, hs, ho, hc⟩ : ∃ s : ByteArray, s.size ≤ 12 ∧ s ≠ otherS ∧ w2.cell? ⟨w.heap.size, k, none⟩ = some (.string s) := by
    rw [cell_of_row w2 w.heap.size k _ _ _ hb2]
    match k, hk with
    | 0, _ => exact ⟨_, by decide, by decide, rfl⟩
    | 1, _ => exact ⟨_, by decide, by decide, rfl⟩
    | 2, _ => exact ⟨_, by decide, by decide, rfl⟩
    | 3, _ => exact ⟨_, by decide, by decide, rfl⟩
    | 4, _ => exact ⟨_, by decide, by decide, rfl⟩
    | 5, _ => exact ⟨_, by decide, by decide, rfl⟩
  have HO := hide ho
  clear r2 g2 hb2 RB ho
  go_wp2
  go_ret
  exact ⟨s, hs, HO.out, rfl, R2.out, G2.out⟩
end Go.Proofs.YtaofemdhgfejjaaGreatDoor
/-
  Lists of pairs made out of others, in the reference: l1Drop, l1Set.
-/
namespace Go.Proofs.YtaofemdhgfejjaaGreatDoor
open Go.RowKit

/-- without the key -/
def delL (l : List Pr) (k : ByteArray) : List Pr := if hasB l k = true then l.eraseIdx (atN l k) else l
theorem Own.built (w : World) (B : Nat) (hB : B ≤ w.heap.size) : Own (w.alloc (.cells #[] 60)) B (some ⟨w.heap.size, 0, none⟩) 0 [] :=
  ⟨lens_nil, World.ownsRow_made w #[] 0 hB (by simp [maxLen]) rfl⟩

theorem Own.drew {w : World} {B : Nat} {A : Option Addr} {cap : Nat} {l : List Pr} (h : Own w B A cap l) : Own w.drew B A cap l := h
theorem PIn.drew {w : World} {B : Nat} {A : Option Addr} {l : List Pr} (h : PIn w B A l) : PIn w.drew B A l := h

set_option maxRecDepth 100000 in
set_option maxHeartbeats 1000000 in
theorem l1Drop_any (A : Option Addr) (l : List Pr) (cap : Nat) (k : ByteArray) (w : World) (hl : l.length ≤ 1200000) (hc : l.length ≤ cap) (hin : PIn w w.heap.size A l) :
    Calls Tryz.prog 72 #[.slice A l.length cap, .string k] w (RetOwn w.heap.size (delL l k) w) := by
  have R := hide (l1At_any A l cap k w w.heap.size (by unfold maxLen; omega) hin)
  have hle := atN_le l k
  cases hh : hasB l k
  · have HD : Hid ([] ++ l = delL l k) := hide (by unfold delL; rw [hh]; simp)
    by_cases hlt : atN l k < l.length
    · obtain ⟨b, off, rfl, hbB, hcc⟩ := hin.2 (by omega)
      obtain ⟨c1, c2⟩ := hcc (atN l k) hlt
      have ne : ((atN l k : Int) == (l.length : Int)) = false := by rw [beq_eq_false_iff_ne]; omega
      have he : ¬ (l[atN l k]'hlt).1 = k := fun e => by rw [hasB_yes hlt e] at hh; cases hh
      have d1 := eqS_no he
      generalize (l[atN l k]'hlt).1 = s at *
      generalize (l[atN l k]'hlt).2 = v at *
      generalize atN l k = m at *
      have IN := hide hin
      clear hcc he hin
      generalize hnn : l.length = n at *
      have HNN := hide hnn
      clear hnn
      go_enter Tryz.func72, Tryz.ntmps72
      go_wp2_with (first
        | (go_at_call 80; refine R.out.mono ?_; rintro e w' ⟨rfl, rfl⟩)
        | (at_builtin; refine wpList_app 24 Tryz.underlying24 rfl (.tmp 22) (.tmp 23) rfl rfl rfl rfl HNN.out.symm (Own.built w w.heap.size (Nat.le_refl _)) (IN.out.below ((Below.refl _ _).alloc (Nat.le_refl _) _)) (by simp) (by rw [HNN.out]; simp; omega) ?_; intro A3 cap3 w3 own3 g3 r3; have b3 := hide (((Below.refl _ w).alloc (Nat.le_refl _) _).trans ((Own.built w w.heap.size (Nat.le_refl _)).grownBelow (by rw [rowOf_own]; exact g3) (by simp))); have O3 := hide own3; clear own3 g3))
      go_ret
      have O4 := O3.out
      rw [HD.out] at O4
      exact ⟨A3, cap3, O4.cap_le, by rw [← HD.out]; simp, O4, b3.out⟩
    · have ne : ((atN l k : Int) == (l.length : Int)) = true := by rw [beq_iff_eq]; omega
      generalize atN l k = m at *
      have IN := hide hin
      clear hin
      generalize hnn : l.length = n at *
      have HNN := hide hnn
      clear hnn
      go_enter Tryz.func72, Tryz.ntmps72
      go_wp2_with (first
        | (go_at_call 80; refine R.out.mono ?_; rintro e w' ⟨rfl, rfl⟩)
        | (at_builtin; refine wpList_app 24 Tryz.underlying24 rfl (.tmp 22) (.tmp 23) rfl rfl rfl rfl HNN.out.symm (Own.built w w.heap.size (Nat.le_refl _)) (IN.out.below ((Below.refl _ _).alloc (Nat.le_refl _) _)) (by simp) (by rw [HNN.out]; simp; omega) ?_; intro A3 cap3 w3 own3 g3 r3; have b3 := hide (((Below.refl _ w).alloc (Nat.le_refl _) _).trans ((Own.built w w.heap.size (Nat.le_refl _)).grownBelow (by rw [rowOf_own]; exact g3) (by simp))); have O3 := hide own3; clear own3 g3))
      go_ret
      have O4 := O3.out
      rw [HD.out] at O4
      exact ⟨A3, cap3, O4.cap_le, by rw [← HD.out]; simp, O4, b3.out⟩
  · obtain ⟨hlt, he⟩ := hasB_iff.1 hh
    have HD : Hid (([] ++ l.take (atN l k)) ++ l.drop (atN l k + 1) = delL l k) := hide (by unfold delL; rw [if_pos hh]; exact erase_eq l _)
    obtain ⟨b, off, rfl, hbB, hcc⟩ := hin.2 (by omega)
    obtain ⟨c1, c2⟩ := hcc (atN l k) hlt
    have ne : ((atN l k : Int) == (l.length : Int)) = false := by rw [beq_eq_false_iff_ne]; omega
    have d1 := eqS_yes he
    have K1 := run_cut_h 24 Tryz.underlying24 (some ⟨b, off, none⟩) l.length cap (atN l k) (by omega)
    have K2 := run_cut_l 24 Tryz.underlying24 (some ⟨b, off, none⟩) l.length cap (atN l k + 1) (by omega)
    rw [show ((atN l k + 1 : Nat) : Int) = (atN l k : Int) + 1 by omega] at K2
    have IN1 := hide (hin.take cap (atN l k))
    have IN2 := hide (hin.drop hc (atN l k + 1))
    have E1 := hide (show (l.take (atN l k)).length = atN l k by rw [List.length_take]; omega)
    have E2 := hide (show (l.drop (atN l k + 1)).length = l.length - (atN l k + 1) by rw [List.length_drop])
    generalize (l[atN l k]'hlt).1 = s at *
    generalize (l[atN l k]'hlt).2 = v at *
    clear hcc he hin
    generalize l.take (atN l k) = la at *
    generalize l.drop (atN l k + 1) = lb at *
    generalize atN l k = m at *
    generalize hnn : l.length = n at *
    have HNN := hide hnn
    clear hnn
    have q1 : IntKind.i64.wrap ((m : Int) + 1) = (m : Int) + 1 := IntWalk.i64_in _ (by omega)
    go_enter Tryz.func72, Tryz.ntmps72
    go_wp2_with (go_at_call 80; refine R.out.mono ?_; rintro e w' ⟨rfl, rfl⟩)
    have O1 := hide (Own.built w w.heap.size (Nat.le_refl _)).drew
    have B1 := hide (((Below.refl w.heap.size w).alloc (Nat.le_refl _) (.cells #[] 60)).drew)
    have IN1b := hide (IN1.out.below B1.out)
    go_region_law (first
      | (refine step_app (n := 0) (m := m) (A := some ⟨w.heap.size, 0, none⟩) (cap := 0) (A' := cutA (some ⟨b, off, none⟩) cap 0) (c := cap) 24 Tryz.underlying24 rfl (.tmp 25) (.tmp 28) rfl (by simp [Act.eval]) (by simp [Act.eval]) rfl E1.out.symm O1.out IN1b.out B1.out.size (by rw [E1.out]; simp; omega) ?_; intro A3 cap3 w3 own3 g3 r3; have B3 := hide (B1.out.trans (O1.out.grownBelow (by rw [rowOf_own]; exact g3) B1.out.size)); have O3 := hide own3; clear own3 g3)
      | (refine step_app (n := la.length) (m := n - (m + 1)) (A := A3) (cap := cap3) (A' := cutA (some ⟨b, off, none⟩) cap (m + 1)) (c := cap - (m + 1)) 24 Tryz.underlying24 rfl (.tmp 29) (.tmp 33) rfl (by simp [Act.eval]) (by simp [Act.eval]) (by simp) E2.out.symm O3.out (IN2.out.below B3.out) B3.out.size (by rw [List.length_append, E1.out, E2.out]; simp; omega) ?_; intro A4 cap4 w4 own4 g4 r4; have B4 := hide (B3.out.trans (O3.out.grownBelow (by rw [rowOf_own]; exact g4) B3.out.size)); have O4 := hide own4; clear own4 g4))
    all_goals
      go_wp2
      go_ret
      have O5 := O4.out
      rw [HD.out] at O5
      have hlen : (delL l k).length = la.length + lb.length := by rw [← HD.out]; simp
      exact ⟨A4, cap4, O5.cap_le, by rw [hlen]; rfl, O5, B4.out⟩

/-- what l1Set makes -/
def setS (l : List Pr) (k v : ByteArray) : List Pr := (delL l k).take (atN (delL l k) k) ++ (k, v) :: (delL l k).drop (atN (delL l k) k)
theorem setS_eq (l : List Pr) (k v : ByteArray) : (([] ++ (delL l k).take (atN (delL l k) k)) ++ [(k, v)]) ++ (delL l k).drop (atN (delL l k) k) = setS l k v := by unfold setS; simp
theorem delL_len (l : List Pr) (k : ByteArray) : (delL l k).length ≤ l.length := by
  unfold delL
  split
  · rw [List.length_eraseIdx]; split <;> omega
  · exact Nat.le_refl _

set_option maxRecDepth 100000 in
set_option maxHeartbeats 1000000 in
theorem l1Set_any (A : Option Addr) (l : List Pr) (cap : Nat) (k v : ByteArray) (w : World) (hl : l.length ≤ 1200000) (hc : l.length ≤ cap) (hin : PIn w w.heap.size A l) (hks : k.size ≤ maxLen) (hvs : v.size ≤ maxLen) :
    Calls Tryz.prog 70 #[.slice A l.length cap, .string k, .string v] w (RetOwn w.heap.size (setS l k v) w) := by
  have HM := hide (setS_eq l k v)
  have hdl := delL_len l k
  go_enter Tryz.func70, Tryz.ntmps70
  go_wp2_with fail
  refine (l1Drop_any A l cap k w hl hc hin).mono ?_
  rintro e w1 ⟨A1, cap1, hc1, rfl, own1, b1⟩
  have B1 := hide b1
  have in1 := own1.pin
  clear b1 own1 hin
  generalize delL l k = d at *
  go_wp2_with fail
  refine (l1At_any A1 d cap1 k w1 w1.heap.size (by unfold maxLen; omega) in1).mono ?_
  rintro e w1' ⟨rfl, rfl⟩
  have hle := atN_le d k
  have K1 := run_cut_h 24 Tryz.underlying24 A1 d.length cap1 (atN d k) (by omega)
  have K2 := run_cut_l 24 Tryz.underlying24 A1 d.length cap1 (atN d k) (by omega)
  have IN1 := hide (in1.take cap1 (atN d k))
  have IN2 := hide (in1.drop hc1 (atN d k))
  have E1 := hide (show (d.take (atN d k)).length = atN d k by rw [List.length_take]; omega)
  have E2 := hide (show (d.drop (atN d k)).length = d.length - atN d k by rw [List.length_drop])
  have O1 := hide (Own.built w1 w1.heap.size (Nat.le_refl _))
  have B2 := hide ((Below.refl w1.heap.size w1).alloc (Nat.le_refl _) (.cells #[] 60))
  have IN1b := hide (IN1.out.below B2.out)
  clear in1
  generalize d.take (atN d k) = la at *
  generalize d.drop (atN d k) = lb at *
  generalize atN d k = m at *
  generalize hnn : d.length = n at *
  have HNN := hide hnn
  clear hnn
  go_wp2_with (first
    | (at_builtin; refine wpList_app 24 Tryz.underlying24 rfl (.tmp 16) (.tmp 19) rfl rfl rfl rfl E1.out.symm O1.out IN1b.out B2.out.size (by rw [E1.out]; simp; omega) ?_; intro A3 cap3 w3 own3 g3 r3; have b3 := O1.out.grownBelow (by rw [rowOf_own]; exact g3) B2.out.size; have B3 := hide (B2.out.trans b3); have O3 := hide own3; have IN3 := hide (IN2.out.below B3.out); clear own3 g3 b3)
    | (at_builtin; refine wpList_app 24 Tryz.underlying24 rfl (.tmp 21) (.tmp 25) rfl rfl rfl (by simp) rfl (O3.out.alloc _) (PIn.one w3 k v hks hvs _) (Nat.le_trans B3.out.size (by simp)) (by rw [List.length_append, E1.out]; simp; omega) ?_; intro A4 cap4 w4 own4 g4 r4; have b4 := (O3.out.alloc (.cells #[.string k, .string v] 60)).grownBelow (by rw [rowOf_own]; exact g4) (Nat.le_trans B3.out.size (by simp)); have b4' := ((Below.refl w1.heap.size w3).alloc B3.out.size (.cells #[.string k, .string v] 60)).trans b4; have B4 := hide (B3.out.trans b4'); have O4 := hide own4; have IN4 := hide (IN3.out.below b4'); clear own4 g4 b4 b4')
    | (at_builtin; refine wpList_app 24 Tryz.underlying24 rfl (.tmp 27) (.tmp 30) rfl rfl rfl (by simp) E2.out.symm O4.out IN4.out B4.out.size (by rw [List.length_append, List.length_append, E1.out, E2.out]; simp; omega) ?_; intro A5 cap5 w5 own5 g5 r5; have b5 := O4.out.grownBelow (by rw [rowOf_own]; exact g5) B4.out.size; have B5 := hide (B4.out.trans b5); have O5 := hide own5; clear own5 g5 b5))
  go_ret
  have O6 := O5.out
  rw [HM.out] at O6
  exact ⟨A5, cap5, O6.cap_le, by rw [← HM.out]; simp, O6.more B1.out.size, B1.out.trans (B5.out.mono B1.out.size)⟩
end Go.Proofs.YtaofemdhgfejjaaGreatDoor
