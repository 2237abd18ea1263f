/-
  Slices of integers of the call's own, appended to; what spec.l2Be makes of a text.
-/
import Derived.Test.YtdahpnjamlfakaaGreatDoorQPad
import Derived.Maps.AppendAt
import Derived.Deep.RegionLaw
import Derived.Deep.MidRow
import Derived.OwnWalk
namespace Go.Proofs.YtdahpnjamlfakaaGreatDoor
open Go.RowKit

def icells (k : IntKind) (l : List Int) : List Value := l.map (Value.int k)
/-- the slice at A is the call's own, lies from block B on, and holds the numbers l -/
def IOwn (k : IntKind) (e : TypeId) (w : World) (B : Nat) (A : Option Addr) (cap : Nat) (l : List Int) : Prop := w.ownsRow B e 1 (.slice A l.length cap) l.length (icells k l)
def blockOf (A : Option Addr) : Option Nat := A.map (·.block)
theorem blockOf_own (A : Option Addr) (n cap : Nat) : (Value.slice A n cap).ownBlock = blockOf A := by cases A <;> rfl
theorem below_grown {w w' : World} (h : Below w.heap.size w w') (row : Option Nat) : w.grownBy w' row := ⟨h.os, h.tape, h.output, h.size, fun i hi _ => h.block i hi⟩
theorem IOwn.built (k : IntKind) (e : TypeId) (w : World) (B : Nat) (hB : B ≤ w.heap.size) : IOwn k e (w.alloc (.cells #[] e)) B (some ⟨w.heap.size, 0, none⟩) 0 [] :=
  World.ownsRow_made w #[] 0 hB (by simp [maxLen]) rfl
theorem IOwn.below {k : IntKind} {e : TypeId} {w w' : World} {B : Nat} {A : Option Addr} {cap : Nat} {l : List Int} (h : IOwn k e w B A cap l) (hb : Below w.heap.size w w') : IOwn k e w' B A cap l := by
  refine h.kept (below_grown hb none) ?_
  cases hv : (Value.slice A l.length cap).ownBlock <;> simp
theorem IOwn.alloc {k : IntKind} {e : TypeId} {w : World} {B : Nat} {A : Option Addr} {cap : Nat} {l : List Int} (h : IOwn k e w B A cap l) (o : Obj) : IOwn k e (w.alloc o) B A cap l := h.below ((Below.refl _ _).alloc (Nat.le_refl _) o)
theorem IOwn.grownBelow {k : IntKind} {e : TypeId} {w w' : World} {B : Nat} {A : Option Addr} {cap : Nat} {l : List Int} (h : IOwn k e w B A cap l) (hg : w.grownBy w' (blockOf A)) (hB : B ≤ w.heap.size) : Below B w w' :=
  (Below.refl B w).grown (by rw [← blockOf_own A l.length cap] at hg; exact hg) hB (fun j hj => (h.lt j hj).1)
theorem IOwn.cell {k : IntKind} {e : TypeId} {w : World} {B : Nat} {A : Option Addr} {cap : Nat} {l : List Int} (h : IOwn k e w B A cap l) (hl : 0 < l.length) : ∃ g, A = some ⟨g, 0, none⟩ ∧ B ≤ g ∧ g < w.heap.size ∧ ∀ i, i < l.length → w.cell? ⟨g, i, none⟩ = some (.int k (l.getD i 0)) := by
  rcases h.2 with ⟨e, e'⟩ | ⟨g, c, cur, e, hb, hg, _⟩
  · omega
  · injection e with e1 e2 e3
    subst e1
    refine ⟨g, rfl, hb, (Array.getElem?_eq_some_iff.1 hg).1, fun i hi => ?_⟩
    have h1 := h.cellAt i (by simp; omega)
    refine h1.trans ?_
    simp [icells, hi]
theorem run_iapp {k : IntKind} {e st : TypeId} {z : Value} {nb : Nat} {w : World} {B : Nat} {A : Option Addr} {cap c m : Nat} {l : List Int} {news : List Int} {g : Nat} (ty : TypeId)
    (hu : Tryz.prog.underlying st = some (.slice e)) (hinfo : (Tryz.prog.info? e).map (fun i => (i.zero, i.size, i.bytes)) = some (some z, 1, nb)) (hz : z.cells.size = 1) (hby : nb ≤ 16)
    (hown : IOwn k e w B A cap l) (hm : news.length = m) (hin : ∀ j, j < m → w.cell? ⟨g, j, none⟩ = some (.int k (news.getD j 0))) (hB : B ≤ w.heap.size) (hb : l.length + m ≤ 3000000) :
    ∃ A2 cap2 w', (Builtin.append_ #[st, st] ty #[.slice A l.length cap, .slice (some ⟨g, 0, none⟩) m c]).run Tryz.prog w = .ok (.slice A2 (l.length + m) cap2) w' ∧ IOwn k e w' B A2 cap2 (l ++ news) ∧ w.grownBy w' (blockOf A) ∧ (blockOf A2 = blockOf A ∨ blockOf A2 = some w.heap.size) := by
  obtain ⟨i, hi, hz0, hz1, hz2⟩ := info_parts hinfo
  have hcells : ∀ j u, (icells k news)[j]? = some u → w.cell? ((⟨g, 0, none⟩ : Addr).add j) = some u := by
    intro j u hu
    have hj : j < (icells k news).length := (List.getElem?_eq_some_iff.1 hu).1
    have hj' : j < news.length := by simpa [icells] using hj
    rw [Addr.add_mid, Nat.zero_add, hin j (by omega), ← hu]
    simp [icells, hj']
  obtain ⟨v', w', hrun, h2, h3, _, h5⟩ := run_append_own_at (P := Tryz.prog) w B st ty e i _ 1 nb hu hi hz0 hz1 hz2 hz (by omega) (.slice A l.length cap) l.length (icells k l) hown ⟨g, 0, none⟩ m c (icells k news) (by simp [icells, hm]) hcells (by intro u hu; simp [icells] at hu; obtain ⟨_, _, rfl⟩ := hu; rfl)
    (by simp only [maxLen]; omega) (by have := Nat.mul_le_mul hb hby; omega) hB
  have hv : ∃ A2 cap2, v' = .slice A2 (l.length + m) cap2 := by
    rcases h2.2 with ⟨e, e'⟩ | ⟨g, cap', cur, e, _⟩
    · exact ⟨none, 0, by rw [e, e']⟩
    · exact ⟨_, _, e⟩
  obtain ⟨A2, cap2, rfl⟩ := hv
  refine ⟨A2, cap2, w', hrun, ?_, by rw [← blockOf_own A l.length cap]; exact h3, ?_⟩
  · show w'.ownsRow B e 1 (.slice A2 (l ++ news).length cap2) (l ++ news).length (icells k (l ++ news))
    rw [List.length_append, hm, show icells k (l ++ news) = icells k l ++ icells k news by simp [icells]]
    exact h2
  · rw [blockOf_own, blockOf_own] at h5
    exact h5
theorem wp_iapp {k : IntKind} {e st : TypeId} {z : Value} {nb : Nat} {w : World} {o : Oper} {a : Act} {K : Act → World → Prop} {Q : Exit → Act → World → Prop} (s x : Operand)
    (ho : o.op = .call { callee := .builtin .append, args := #[s, x], argTypes := #[st, st] })
    (hu : Tryz.prog.underlying st = some (.slice e)) (hinfo : (Tryz.prog.info? e).map (fun i => (i.zero, i.size, i.bytes)) = some (some z, 1, nb)) (hz : z.cells.size = 1) (hby : nb ≤ 16)
    {B : Nat} {A : Option Addr} {cap c m : Nat} {l news : List Int} {g : Nat} (hs : a.eval s = .slice A l.length cap) (hx : a.eval x = .slice (some ⟨g, 0, none⟩) m c)
    (hown : IOwn k e w B A cap l) (hm : news.length = m) (hin : ∀ j, j < m → w.cell? ⟨g, j, none⟩ = some (.int k (news.getD j 0))) (hB : B ≤ w.heap.size) (hb : l.length + m ≤ 3000000)
    (h : ∀ A2 cap2 w', IOwn k e w' B A2 cap2 (l ++ news) → w.grownBy w' (blockOf A) → (blockOf A2 = blockOf A ∨ blockOf A2 = some w.heap.size) → K (a.put o.dst (.slice A2 (l.length + m) cap2)) w') : o.wp Tryz.prog a w K Q := by
  obtain ⟨A2, cap2, w', hrun, h2, h3, h4⟩ := run_iapp (c := c) o.type hu hinfo hz hby hown hm hin hB hb
  unfold Oper.wp execOp
  simp only [ho, resolve, invoke, builtin, Sem.run_bind, Sem.run_pure, Result.andThen_ok, List.map_toArray, List.map_cons, List.map_nil, hs, hx, hrun]
  exact h A2 cap2 w' h2 h3 h4
theorem wpList_iapp {k : IntKind} {e st : TypeId} {z : Value} {nb : Nat} {w : World} {ops : Array Oper} {rest : List Oper} {o : Oper} {a : Act} {Q : Exit → Act → World → Prop} (hgd : o.guard = none) (s x : Operand)
    (ho : o.op = .call { callee := .builtin .append, args := #[s, x], argTypes := #[st, st] })
    (hu : Tryz.prog.underlying st = some (.slice e)) (hinfo : (Tryz.prog.info? e).map (fun i => (i.zero, i.size, i.bytes)) = some (some z, 1, nb)) (hz : z.cells.size = 1) (hby : nb ≤ 16)
    {B : Nat} {A : Option Addr} {cap c m : Nat} {l news : List Int} {g : Nat} (hs : a.eval s = .slice A l.length cap) (hx : a.eval x = .slice (some ⟨g, 0, none⟩) m c)
    (hown : IOwn k e w B A cap l) (hm : news.length = m) (hin : ∀ j, j < m → w.cell? ⟨g, j, none⟩ = some (.int k (news.getD j 0))) (hB : B ≤ w.heap.size) (hb : l.length + m ≤ 3000000)
    (h : ∀ A2 cap2 w', IOwn k e w' B A2 cap2 (l ++ news) → w.grownBy w' (blockOf A) → (blockOf A2 = blockOf A ∨ blockOf A2 = some w.heap.size) → wpList Tryz.prog ops Q rest (a.put o.dst (.slice A2 (l.length + m) cap2)) w') : wpList Tryz.prog ops Q (o :: rest) a w :=
  wpList_plain hgd fun _ hK => wp_iapp s x ho hu hinfo hz hby hs hx hown hm hin hB hb fun A2 cap2 w' h2 h3 h4 => hK _ _ (h A2 cap2 w' h2 h3 h4)
theorem step_iapp {k : IntKind} {e st : TypeId} {z : Value} {nb : Nat} {ops : Array Oper} {w : World} {o : Oper} {a : Act} {K : Act → World → Prop} {Q : Exit → Act → World → Prop} {E : Prop} (hgd : o.guard = none) (s x : Operand)
    (ho : o.op = .call { callee := .builtin .append, args := #[s, x], argTypes := #[st, st] })
    (hu : Tryz.prog.underlying st = some (.slice e)) (hinfo : (Tryz.prog.info? e).map (fun i => (i.zero, i.size, i.bytes)) = some (some z, 1, nb)) (hz : z.cells.size = 1) (hby : nb ≤ 16)
    {B : Nat} {A : Option Addr} {cap c m : Nat} {l news : List Int} {g : Nat} (hs : a.eval s = .slice A l.length cap) (hx : a.eval x = .slice (some ⟨g, 0, none⟩) m c)
    (hown : IOwn k e w B A cap l) (hm : news.length = m) (hin : ∀ j, j < m → w.cell? ⟨g, j, none⟩ = some (.int k (news.getD j 0))) (hB : B ≤ w.heap.size) (hb : l.length + m ≤ 3000000)
    (h : ∀ A2 cap2 w', IOwn k e w' B A2 cap2 (l ++ news) → w.grownBy w' (blockOf A) → (blockOf A2 = blockOf A ∨ blockOf A2 = some w.heap.size) → K (a.put o.dst (.slice A2 (l.length + m) cap2)) w') :
    if Region.wanted o (yielded ops a.tmps) = true then Oper.wp Tryz.prog o a w K Q else E := by
  have hw : Region.wanted o (yielded ops a.tmps) = true := by simp [Region.wanted, hgd]
  rw [if_pos hw]
  exact wp_iapp s x ho hu hinfo hz hby hs hx hown hm hin hB hb h

theorem infoU : (Tryz.prog.info? 148).map (fun i => (i.zero, i.size, i.bytes)) = some (some (.int .u32 0), 1, 4) := by kernel_rfl
/-- the first n words of a text -/
def beL (s : ByteArray) (n : Nat) : List Int := (List.range n).map (mOf (sB s))
theorem beL_length (s : ByteArray) (n : Nat) : (beL s n).length = n := by simp [beL]
theorem beL_succ (s : ByteArray) (n : Nat) : beL s (n + 1) = beL s n ++ [mOf (sB s) n] := by simp [beL, List.range_succ]
theorem beL_get (s : ByteArray) {n j : Nat} (h : j < n) : (beL s n).getD j 0 = mOf (sB s) j := by simp [beL, h]

theorem wrap_u32 (z : Int) : IntKind.u32.wrap z = z % 4294967296 := by simp [IntKind.wrap, IntKind.signed, IntKind.bits]
theorem be_word {a b c d : Int} (ha : 0 ≤ a ∧ a < 256) (hb : 0 ≤ b ∧ b < 256) (hc : 0 ≤ c ∧ c < 256) (hd : 0 ≤ d ∧ d < 256) :
    bits BinOp.or IntKind.u32 (bits BinOp.or IntKind.u32 (bits BinOp.or IntKind.u32 (IntKind.u32.wrap (IntKind.u32.wrap a * 16777216)) (IntKind.u32.wrap (IntKind.u32.wrap b * 65536))) (IntKind.u32.wrap (IntKind.u32.wrap c * 256))) (IntKind.u32.wrap d) = beI a b c d := by
  unfold beI
  simp only [wrap_u32]
  rw [show a % 4294967296 * 16777216 % 4294967296 = a * 16777216 by omega, show b % 4294967296 * 65536 % 4294967296 = b * 65536 by omega, show c % 4294967296 * 256 % 4294967296 = c * 256 by omega, show d % 4294967296 = d by omega]
theorem cell_one_at (w : World) (x : Value) (t : TypeId) (k : IntKind) (y : Int) (h : x = .int k y) : ∀ j, j < 1 → (w.alloc (.cells #[x] t)).cell? ⟨w.heap.size, j, none⟩ = some (.int k ([y].getD j 0)) := by
  intro j hj
  obtain rfl : j = 0 := by omega
  subst h
  rw [cell_of_row _ _ 0 _ _ _ (heap_alloc_new w _)]
  rfl
theorem byte_lt (s : ByteArray) (j : Nat) (h : j < s.size) : 0 ≤ (s[j].toNat : Int) ∧ (s[j].toNat : Int) < 256 := by have := s[j].toNat_lt; omega

set_option maxRecDepth 100000 in
set_option maxHeartbeats 2000000 in
theorem l2Be_any (s : ByteArray) (n : Nat) (w : World) (hs : s.size = 4 * n) (hn : n ≤ 16) :
    Calls Tryz.prog 168 #[.string s] w fun e w' => (∃ A cap, e = .returned (.slice A n cap) ∧ IOwn .u32 148 w' w.heap.size A cap (beL s n)) ∧ Below w.heap.size w w' := by
  have HS := hide hs
  have hs1 : s.size ≤ 64 := by omega
  have hs2 : 4 * n ≤ s.size := by omega
  have hs3 : s.size ≤ 4 * n := by omega
  clear hs
  go_enter Tryz.func168, Tryz.ntmps168
  go_wp2
  have O0 := hide (IOwn.built .u32 148 w w.heap.size (Nat.le_refl _))
  have B0 : Hid (Below w.heap.size w (w.alloc (.cells #[] 148))) := hide ((Below.refl w.heap.size w).alloc (Nat.le_refl _) _)
  go_loopw [3, 4] (fun ov iv wr => ∃ (k q : Nat) (A : Option Addr) (cap : Nat), k ≤ n ∧ q ≤ 4 * k ∧ 4 * k ≤ q ∧ ov = .slice A k cap ∧ iv = .int .i64 (q : Int) ∧ Hid (IOwn .u32 148 wr w.heap.size A cap (beL s k)) ∧ Hid (Below w.heap.size w wr)) (fun _ i _ => 65 - (intOf i).toNat)
  case atStart => exact ⟨0, 0, _, _, by omega, by omega, by omega, rfl, rfl, O0, B0⟩
  case round =>
    clear O0 B0
    obtain ⟨k, q, A, cap, hk, hq1, hq2, rfl, rfl, O, Q⟩ := hrel
    by_cases hlt : k < n
    · have w4 : IntKind.i64.wrap ((q : Int) + 4) = (q : Int) + 4 := by rw [IntKind.wrap_i64]; omega
      have w1 : IntKind.i64.wrap ((q : Int) + 1) = (q : Int) + 1 := by rw [IntKind.wrap_i64]; omega
      have w2 : IntKind.i64.wrap ((q : Int) + 2) = (q : Int) + 2 := by rw [IntKind.wrap_i64]; omega
      have w3 : IntKind.i64.wrap ((q : Int) + 3) = (q : Int) + 3 := by rw [IntKind.wrap_i64]; omega
      have p0 : (0 : Int) ≤ (q : Int) := by omega
      have p1 : (0 : Int) ≤ (q : Int) + 1 := by omega
      have p2 : (0 : Int) ≤ (q : Int) + 2 := by omega
      have p3 : (0 : Int) ≤ (q : Int) + 3 := by omega
      have r0 : (q : Int) < (s.size : Int) := by omega
      have r1 : (q : Int) + 1 < (s.size : Int) := by omega
      have r2 : (q : Int) + 2 < (s.size : Int) := by omega
      have r3 : (q : Int) + 3 < (s.size : Int) := by omega
      have t1 : ((q : Int) + 1).toNat = q + 1 := by omega
      have t2 : ((q : Int) + 2).toNat = q + 2 := by omega
      have t3 : ((q : Int) + 3).toNat = q + 3 := by omega
      have hle : (q : Int) + 4 ≤ (s.size : Int) := by omega
      have hsz : w.heap.size ≤ wr.heap.size := Q.out.size
      have EQ : Hid (bits BinOp.or IntKind.u32 (bits BinOp.or IntKind.u32 (bits BinOp.or IntKind.u32 (IntKind.u32.wrap (IntKind.u32.wrap (s[q].toNat : Int) * 16777216)) (IntKind.u32.wrap (IntKind.u32.wrap (s[q + 1].toNat : Int) * 65536))) (IntKind.u32.wrap (IntKind.u32.wrap (s[q + 2].toNat : Int) * 256))) (IntKind.u32.wrap (s[q + 3].toNat : Int)) = mOf (sB s) k) := hide (by
        rw [be_word (byte_lt s q (by omega)) (byte_lt s (q + 1) (by omega)) (byte_lt s (q + 2) (by omega)) (byte_lt s (q + 3) (by omega))]
        unfold mOf
        rw [show 4 * k = q by omega, sB_in (by omega), sB_in (by omega), sB_in (by omega), sB_in (by omega)])
      go_wp2
      go_region_law (refine step_iapp (k := .u32) (e := 148) (z := .int .u32 0) (nb := 4) (B := w.heap.size) (A := A) (cap := cap) (l := beL s k) (news := [mOf (sB s) k]) (g := wr.heap.size) (m := 1) (c := 1) rfl (.tmp 13) (.tmp 39) rfl Tryz.underlying186 infoU rfl (by omega) (by rw [beL_length]; rfl) rfl (by exact O.out.alloc _) rfl (by exact cell_one_at wr _ _ _ _ (congrArg (Value.int .u32) EQ.out)) (by simp; omega) (by rw [beL_length]; omega) ?_; intro A2 cap2 w' o2 g2 _; rw [beL_length])
      all_goals
        have O2 := hide o2
        have G2 := hide g2
        clear o2 g2
        go_wp2
        refine ⟨⟨k + 1, q + 4, A2, cap2, by omega, by omega, by omega, rfl, by go_num, hide ?_, hide ?_⟩, by simp [intOf]; omega⟩
        · rw [beL_succ]; exact O2.out
        · exact ((Q.out.alloc hsz _).drew).trans (IOwn.grownBelow (k := .u32) (e := 148) (cap := cap) (l := beL s k) (by exact O.out.alloc _) G2.out (by simp; omega))
    · have hgt : ¬ ((q : Int) + 4 ≤ (s.size : Int)) := by omega
      have ek : Hid (k = n) := hide (by omega)
      have w4 : IntKind.i64.wrap ((q : Int) + 4) = (q : Int) + 4 := by rw [IntKind.wrap_i64]; omega
      clear hlt
      go_wp2
      go_ret
      refine ⟨⟨A, cap, ?_, ?_⟩, Q.out⟩
      · exact congrArg (fun m => Ending.returned (Value.slice A m cap)) ek.out
      · rw [← ek.out]; exact O.out
end Go.Proofs.YtdahpnjamlfakaaGreatDoor
