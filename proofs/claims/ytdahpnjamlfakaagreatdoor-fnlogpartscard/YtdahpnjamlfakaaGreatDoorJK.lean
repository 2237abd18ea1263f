/-
  Texts that this proof leans on, joined: JK.
-/
import Derived.Test.YtdahpnjamlfakaaGreatDoorFLay
import Derived.Test.YtdahpnjamlfakaaGreatDoorJB
import Derived.Test.YtdahpnjamlfakaaGreatDoorJL
import Derived.Shelf.SlSortCmp.Whole1
import Derived.Lib.OwnBridge
import Derived.Test.YtdahpnjamlfakaaGreatDoorJC
import Derived.BigQuiet
import Derived.IntWalk
import Derived.Test.YtdahpnjamlfakaaGreatDoorJO
import Derived.WalkKit
import Derived.WalkLawsBesides
import Derived.ProofKit
/-
  What the log's comparison answers, and what slices.SortFunc leaves of texts by it.
-/
namespace Go.Proofs.YtdahpnjamlfakaaGreatDoor
open Go.RowKit Go.Lib Go.Sort Go.Shelf

def cmpN (a b : Int) : Int := if a < b then -1 else if b < a then 1 else 0
def cmpTx (a b : ByteArray) : Int := if ltB a b = true then -1 else if ltB b a = true then 1 else 0
theorem nanI_any (a : Int) (w : World) : Calls Tryz.prog 117 #[.int .i64 a] w fun e w' => e = .returned (.bool false) ∧ w = w' := by
  have d : (a != a) = false := by simp
  go_enter Tryz.func117, Tryz.ntmps117
  go_wp2
  go_ret
  exact ⟨rfl, rfl⟩
theorem nanT_any (a : ByteArray) (w : World) : Calls Tryz.prog 118 #[.string a] w fun e w' => e = .returned (.bool false) ∧ w = w' := by
  have d : (a.toList == a.toList) = true := by simp
  go_enter Tryz.func118, Tryz.ntmps118
  go_wp2
  go_ret
  exact ⟨rfl, rfl⟩
theorem cmpN_any (a b : Int) (w : World) : Calls Tryz.prog 71 #[.int .i64 a, .int .i64 b] w fun e w' => e = .returned (.int .i64 (cmpN a b)) ∧ w = w' := by
  obtain ⟨r, hr⟩ : ∃ r, cmpN a b = r := ⟨_, rfl⟩
  have HR := hide hr
  rw [hr]
  unfold cmpN at hr
  by_cases h1 : a < b
  · rw [if_pos h1] at hr
    have d1 : decide (a < b) = true := decide_eq_true h1
    subst hr
    clear h1
    go_enter Tryz.func71, Tryz.ntmps71
    go_wp2_with fail
    refine (nanI_any a _).mono ?_
    rintro e w' ⟨rfl, rfl⟩
    go_wp2_with fail
    refine (nanI_any b _).mono ?_
    rintro e w' ⟨rfl, rfl⟩
    go_wp2
    go_ret
    exact ⟨rfl, rfl⟩
  · rw [if_neg h1] at hr
    have d1 : decide (a < b) = false := decide_eq_false h1
    by_cases h2 : b < a
    · rw [if_pos h2] at hr
      have d2 : decide (b < a) = true := decide_eq_true h2
      subst hr
      clear h1 h2
      go_enter Tryz.func71, Tryz.ntmps71
      go_wp2_with fail
      refine (nanI_any a _).mono ?_
      rintro e w' ⟨rfl, rfl⟩
      go_wp2_with fail
      refine (nanI_any b _).mono ?_
      rintro e w' ⟨rfl, rfl⟩
      go_wp2
      go_ret
      exact ⟨rfl, rfl⟩
    · rw [if_neg h2] at hr
      have d2 : decide (b < a) = false := decide_eq_false h2
      subst hr
      clear h1 h2
      go_enter Tryz.func71, Tryz.ntmps71
      go_wp2_with fail
      refine (nanI_any a _).mono ?_
      rintro e w' ⟨rfl, rfl⟩
      go_wp2_with fail
      refine (nanI_any b _).mono ?_
      rintro e w' ⟨rfl, rfl⟩
      go_wp2
      go_ret
      exact ⟨rfl, rfl⟩
theorem cmpTx_any (a b : ByteArray) (w : World) : Calls Tryz.prog 72 #[.string a, .string b] w fun e w' => e = .returned (.int .i64 (cmpTx a b)) ∧ w = w' := by
  obtain ⟨r, hr⟩ : ∃ r, cmpTx a b = r := ⟨_, rfl⟩
  have HR := hide hr
  rw [hr]
  unfold cmpTx at hr
  cases h1 : ltB a b
  · rw [h1] at hr
    have d1 : Op.bytesLess a.toList b.toList = false := h1
    cases h2 : ltB b a
    · rw [h2] at hr
      have d2 : (a.toList == b.toList) = true := by
        rcases ltB_tri a b with k | k | k
        · rw [h1] at k; cases k
        · exact eqS_yes k
        · rw [h2] at k; cases k
      simp only [Bool.false_eq_true, if_false] at hr
      subst hr
      clear h1 h2
      go_enter Tryz.func72, Tryz.ntmps72
      go_wp2_with fail
      refine (nanT_any a _).mono ?_
      rintro e w' ⟨rfl, rfl⟩
      go_wp2_with fail
      refine (nanT_any b _).mono ?_
      rintro e w' ⟨rfl, rfl⟩
      go_wp2
      go_ret
      exact ⟨rfl, rfl⟩
    · rw [h2] at hr
      have d2 : (a.toList == b.toList) = false := eqS_no (fun e => by rw [e, ltB_irrefl] at h2; cases h2)
      simp only [Bool.false_eq_true, if_false, if_true] at hr
      subst hr
      clear h1 h2
      go_enter Tryz.func72, Tryz.ntmps72
      go_wp2_with fail
      refine (nanT_any a _).mono ?_
      rintro e w' ⟨rfl, rfl⟩
      go_wp2_with fail
      refine (nanT_any b _).mono ?_
      rintro e w' ⟨rfl, rfl⟩
      go_wp2
      go_ret
      exact ⟨rfl, rfl⟩
  · rw [h1] at hr
    have d1 : Op.bytesLess a.toList b.toList = true := h1
    simp only [if_true] at hr
    subst hr
    clear h1
    go_enter Tryz.func72, Tryz.ntmps72
    go_wp2_with fail
    refine (nanT_any a _).mono ?_
    rintro e w' ⟨rfl, rfl⟩
    go_wp2_with fail
    refine (nanT_any b _).mono ?_
    rintro e w' ⟨rfl, rfl⟩
    go_wp2
    go_ret
    exact ⟨rfl, rfl⟩
def orI (x y : Int) : Int := if x = 0 then y else x
theorem orI_any (x y : Int) (g : Nat) (W : World) (h : W.heap[g]? = some (.cells #[.int .i64 x, .int .i64 y] 3 (0, 0))) :
    Calls Tryz.prog 70 #[.slice (some ⟨g, 0, none⟩) 2 2] W fun e w' => e = .returned (.int .i64 (orI x y)) ∧ W = w' := by
  have c0 := cell_of_row _ g 0 _ _ _ h
  have c1 := cell_of_row _ g 1 _ _ _ h
  clear h
  have R1 : Hid (x ≠ 0 → orI x y = x) := hide (fun h => if_neg h)
  have R2 : Hid (x = 0 → orI x y = y) := hide (fun h => if_pos h)
  generalize orI x y = r at *
  by_cases hx : x = 0
  · have HE := hide (R2.out hx)
    have dx : (x != 0) = false := by rw [bne_eq_false_iff_eq]; exact hx
    clear R1 R2 hx
    by_cases hy : y = 0
    · have HY := hide hy
      have dy : (y != 0) = false := by rw [bne_eq_false_iff_eq]; exact hy
      clear hy
      go_enter Tryz.func70, Tryz.ntmps70
      go_wp2
      go_loopw [8] (fun iv wr => ∃ k : Nat, k ≤ 2 ∧ iv = .int .i64 k ∧ Hid (W = wr)) (fun i _ => 2 - (intOf i).toNat)
      case atStart => exact ⟨0, by omega, rfl, hide rfl⟩
      case round =>
        obtain ⟨k, hk, rfl, Q⟩ := hrel
        have Q' := Q.out
        subst Q'
        rcases (show k = 0 ∨ k = 1 ∨ k = 2 by omega) with e | e | e
        · subst e
          go_wp2
          go_roundw
          case rel => exact ⟨1, by omega, by go_num, by first | exact hide rfl | exact trivial⟩
          case measure => simp [intOf]
        · subst e
          go_wp2
          go_roundw
          case rel => exact ⟨2, by omega, by go_num, by first | exact hide rfl | exact trivial⟩
          case measure => simp [intOf]
        · subst e
          go_wp2
          go_ret
          exact ⟨ret_int (by rw [HE.out, HY.out]), rfl⟩
    · have dy : (y != 0) = true := by rw [bne_iff_ne]; exact hy
      clear hy
      go_enter Tryz.func70, Tryz.ntmps70
      go_wp2
      go_loopw [8] (fun iv wr => ∃ k : Nat, k ≤ 1 ∧ iv = .int .i64 k ∧ Hid (W = wr)) (fun i _ => 2 - (intOf i).toNat)
      case atStart => exact ⟨0, by omega, rfl, hide rfl⟩
      case round =>
        obtain ⟨k, hk, rfl, Q⟩ := hrel
        have Q' := Q.out
        subst Q'
        rcases (show k = 0 ∨ k = 1 by omega) with e | e
        · subst e
          go_wp2
          go_roundw
          case rel => exact ⟨1, by omega, by go_num, by first | exact hide rfl | exact trivial⟩
          case measure => simp [intOf]
        · subst e
          go_wp2
          go_ret
          exact ⟨ret_int (by rw [HE.out]), rfl⟩
  · have HE := hide (R1.out hx)
    have dx : (x != 0) = true := by rw [bne_iff_ne]; exact hx
    clear R1 R2 hx
    go_enter Tryz.func70, Tryz.ntmps70
    go_wp2
    go_loopw [8] (fun iv wr => iv = .int .i64 0 ∧ Hid (W = wr)) (fun i _ => 2 - (intOf i).toNat)
    case atStart => exact ⟨rfl, hide rfl⟩
    case round =>
      obtain ⟨rfl, Q⟩ := hrel
      have Q' := Q.out
      subst Q'
      go_wp2
      go_ret
      exact ⟨ret_int (by rw [HE.out]), rfl⟩
/-- the comparison of two in a log -/
noncomputable def cfD (D : ByteArray → Nat) (x y : ByteArray) : Int := orI (cmpN (D y : Int) (D x : Int)) (cmpTx x y)
theorem cfD_lt (D : ByteArray → Nat) (x y : ByteArray) : cfD D x y < 0 ↔ ltD D x y := by
  unfold cfD orI cmpN cmpTx ltD
  by_cases h1 : D y < D x
  · have a : (D y : Int) < (D x : Int) := by omega
    simp [a, h1]
  · have a : ¬ (D y : Int) < (D x : Int) := by omega
    by_cases h2 : D x < D y
    · have b : (D x : Int) < (D y : Int) := by omega
      have c : ¬ D x = D y := by omega
      simp [a, b, h1, c]
    · have b : ¬ (D x : Int) < (D y : Int) := by omega
      have c : D x = D y := by omega
      cases h3 : ltB x y
      · cases h4 : ltB y x <;> simp [c]
      · simp [c]
set_option maxRecDepth 100000 in
theorem logCmp_any (gp gm n : Nat) (L : List (ByteArray × Nat)) (x y : ByteArray) (W : World) (hx : x.size ≤ maxLen) (hy : y.size ≤ maxLen) (hc : W.cell? ⟨gp, 0, none⟩ = some (.map (some gm))) (hN : Nums W gm n L) :
    Calls Tryz.prog 69 #[.string x, .string y, .pointer (some ⟨gp, 0, none⟩)] W fun e w' => e = .returned (.int .i64 (cfD (lookN L) x y)) ∧ w' = W.alloc (.cells #[.int .i64 (cmpN (lookN L y : Int) (lookN L x : Int)), .int .i64 (cmpTx x y)] 3) := by
  have L1 := hN.look hx
  have L2 := hN.look hy
  have CI := hide (fun W => cmpN_any (lookN L y : Int) (lookN L x : Int) W)
  have CT := hide (fun W => cmpTx_any x y W)
  have OR := hide (orI_any (cmpN (lookN L y : Int) (lookN L x : Int)) (cmpTx x y) W.heap.size _ (heap_alloc_new W (.cells #[.int .i64 (cmpN (lookN L y : Int) (lookN L x : Int)), .int .i64 (cmpTx x y)] 3)))
  have E : Hid (cfD (lookN L) x y = orI (cmpN (lookN L y : Int) (lookN L x : Int)) (cmpTx x y)) := hide rfl
  rw [E.out]
  clear hN E
  generalize cmpN (lookN L y : Int) (lookN L x : Int) = c1 at *
  generalize cmpTx x y = c2 at *
  generalize orI c1 c2 = r at *
  go_enter Tryz.func69, Tryz.ntmps69
  go_wp2_with fail
  refine (CI.out _).mono ?_
  rintro e w' ⟨rfl, rfl⟩
  go_wp2_with fail
  refine (CT.out _).mono ?_
  rintro e w' ⟨rfl, rfl⟩
  go_wp2_with fail
  refine OR.out.mono ?_
  rintro e w' ⟨rfl, rfl⟩
  go_wp2
  go_ret
  exact ⟨rfl, rfl⟩

/-! slices.SortFunc -/
abbrev TxB := { b : ByteArray // b.size ≤ maxLen }
instance : Inhabited TxB := ⟨⟨ByteArray.empty, by simp⟩⟩
def encB (x : TxB) : Value := .string x.1
noncomputable def toB (b : ByteArray) : TxB := if h : b.size ≤ maxLen then ⟨b, h⟩ else default
theorem toB_of {b : ByteArray} (h : b.size ≤ maxLen) : (toB b).1 = b := by unfold toB; rw [dif_pos h]
noncomputable def toBs (bs : List ByteArray) : List TxB := bs.map toB
theorem toBs_len (bs : List ByteArray) : (toBs bs).length = bs.length := by unfold toBs; simp
theorem toBs_val {bs : List ByteArray} (h : ∀ x ∈ bs, x.size ≤ maxLen) : (toBs bs).map (fun x => x.1) = bs := by
  unfold toBs
  rw [List.map_map]
  conv => rhs; rw [← List.map_id bs]
  exact List.map_congr_left fun p hp => toB_of (h p hp)
theorem toBs_enc {bs : List ByteArray} (h : ∀ x ∈ bs, x.size ≤ maxLen) : (toBs bs).map encB = bs.map Value.string := by
  conv => rhs; rw [← toBs_val h]
  rw [List.map_map]
  rfl
theorem grownBy_sortedB {w : World} {g n : Nat} {os : Array Obj} (d : Array TxB) : w.grownBy (grow (putRow encB (Sort.ahead w n) g 0 d) os) (some g) := by
  refine ⟨rfl, rfl, rfl, by simp, fun k hk hne => ?_⟩
  rw [heap_grow_old _ _ (by simpa using hk)]
  have : g ≠ k := fun e => hne (by rw [e])
  simp [putRow, mapBlock, Sort.ahead, Array.getElem?_modify, this]
theorem heap_sortedB {w : World} {g n : Nat} {os : Array Obj} {cur : Array Value} {e : TypeId} {fr : Nat × Nat} (d : Array TxB) (hb : w.heap[g]? = some (.cells cur e fr)) :
    (grow (putRow encB (Sort.ahead w n) g 0 d) os).heap[g]? = some (.cells (putCells encB 0 d cur) e fr) := by
  have hg : g < w.heap.size := (Array.getElem?_eq_some_iff.1 hb).1
  rw [heap_grow_old _ _ (by simpa using hg)]
  simp [putRow, mapBlock, Sort.ahead, Array.getElem?_modify, hb, onCells]
theorem take_putCellsB (cur : Array Value) (ts : List TxB) (h : ts.length ≤ cur.size) : (putCells encB 0 ts.toArray cur).toList.take ts.length = ts.map encB := by
  apply List.ext_getElem?
  intro j
  by_cases hj : j < ts.length
  · rw [List.getElem?_take_of_lt hj, Array.getElem?_toList]
    simp [putCells, hj, show j < cur.size by omega]
  · rw [List.getElem?_take_eq_none (by omega), List.getElem?_eq_none (by simp; omega)]
theorem ownsRow_sortedB {w : World} {base g cap n : Nat} {e : TypeId} {os : Array Obj} {cur : Array Value} {ts : List TxB} {m : Nat} (hl : ts.length = m) (hbase : base ≤ g) (hb : w.heap[g]? = some (.cells cur e (0, 0)))
    (h1 : m ≤ cap) (h2 : cap ≤ maxLen) (h3 : cur.size = cap * 1) :
    (grow (putRow encB (Sort.ahead w n) g 0 ts.toArray) os).ownsRow base e 1 (.slice (some ⟨g, 0, none⟩) m cap) m (ts.map encB) :=
  ⟨by simp [hl], .inr ⟨g, cap, _, rfl, hbase, heap_sortedB _ hb, h1, h2, by simp [putCells, h3], by rw [Nat.mul_one, ← hl]; exact take_putCellsB cur ts (by omega)⟩⟩
theorem alloc_grow (W : World) (o : Obj) : W.alloc o = grow (W.drewN 0) #[o] := by
  have e : W.drewN 0 = W := rfl
  rw [e]
  cases W
  simp [grow, World.alloc, -World.alloc_eq]
theorem swoD (D : ByteArray → Nat) : SWO (ltOf fun x y : TxB => cfD D x.1 y.1) := by
  have e : ∀ x y : TxB, ltOf (fun x y : TxB => cfD D x.1 y.1) x y = true ↔ ltD D x.1 y.1 := fun x y => by
    unfold ltOf
    rw [decide_eq_true_iff]
    exact cfD_lt D x.1 y.1
  have tri : ∀ x y : TxB, ltD D x.1 y.1 ∨ x.1 = y.1 ∨ ltD D y.1 x.1 := fun x y => by
    unfold ltD
    rcases Nat.lt_trichotomy (D x.1) (D y.1) with h | h | h
    · exact .inr (.inr (.inl h))
    · rcases ltB_tri x.1 y.1 with k | k | k
      · exact .inl (.inr ⟨h, k⟩)
      · exact .inr (.inl k)
      · exact .inr (.inr (.inr ⟨h.symm, k⟩))
    · exact .inl (.inl h)
  have tr : ∀ x y z : TxB, ltD D x.1 y.1 → ltD D y.1 z.1 → ltD D x.1 z.1 := fun x y z h k => by
    rcases h with h | ⟨h, h'⟩ <;> rcases k with k | ⟨k, k'⟩
    · exact .inl (by omega)
    · exact .inl (by omega)
    · exact .inl (by omega)
    · exact .inr ⟨by omega, ltB_trans h' k'⟩
  have no : ∀ x y : TxB, ltOf (fun x y : TxB => cfD D x.1 y.1) x y = false ↔ ¬ ltD D x.1 y.1 := fun x y => by
    rw [← e x y]
    cases ltOf (fun x y : TxB => cfD D x.1 y.1) x y <;> simp
  refine ⟨fun x => (no x x).2 ltD_irrefl, fun x y z h k => (e x z).2 (tr x y z ((e x y).1 h) ((e y z).1 k)), fun x y z h k => (no x z).2 fun hz => ?_⟩
  have h1 := (no x y).1 h
  have h2 := (no y z).1 k
  rcases tri x y with a | a | a
  · exact h1 a
  · rw [a] at hz; exact h2 hz
  · exact h2 (tr y x z a hz)
theorem srt_of {D : ByteArray → Nat} {ts : List TxB} (hnd : (ts.map fun x => x.1).Nodup) (hs : SortedIn (ltOf fun x y : TxB => cfD D x.1 y.1) 0 ts.length ts.toArray) : SrtD D (ts.map fun x => x.1) := by
  refine List.pairwise_iff_getElem.2 fun i j hi hj hij => ?_
  rw [List.length_map] at hi hj
  have h := hs i j (Nat.zero_le _) hij hj
  have e1 : ts.toArray[i]! = ts[i] := by simp [hi]
  have e2 : ts.toArray[j]! = ts[j] := by simp [hj]
  rw [e1, e2] at h
  have hne : ts[i].1 ≠ ts[j].1 := fun e => by
    have := (List.getElem_inj (h₀ := by simpa using hi) (h₁ := by simpa using hj) hnd).1 (by simpa using e)
    omega
  have hno : ¬ ltD D ts[j].1 ts[i].1 := fun hl => by
    have := (cfD_lt D ts[j].1 ts[i].1).2 hl
    unfold ltOf at h
    rw [decide_eq_false_iff_not] at h
    exact h this
  rw [List.getElem_map, List.getElem_map]
  unfold ltD at hno ⊢
  rcases Nat.lt_trichotomy (D ts[i].1) (D ts[j].1) with k | k | k
  · exact absurd (.inl k) hno
  · rcases ltB_tri ts[i].1 ts[j].1 with m | m | m
    · exact .inr ⟨k, m⟩
    · exact absurd m hne
    · exact absurd (.inr ⟨k.symm, m⟩) hno
  · exact .inl k
set_option maxRecDepth 100000 in
theorem sortF_any (A : Option Addr) (bs : List ByteArray) (cap : Nat) (w : World) (B gp gm n : Nat) (L : List (ByteArray × Nat)) (hown : ZOwn w B A cap bs) (hl : bs.length ≤ 100000) (hz : ∀ x ∈ bs, x.size ≤ maxLen) (hnd : bs.Nodup)
    (hgp : w.heap[gp]? = some (.cells #[.map (some gm)] 51 (0, 0))) (hN : Nums w gm n L) (hne : ∀ g, rowOf A = some g → g ≠ gp ∧ g ≠ gm) :
    Calls Tryz.prog 68 #[.slice A bs.length cap, .func (.func 69) #[] #[.pointer (some ⟨gp, 0, none⟩)]] w fun e w' =>
      e = .returned (.tuple #[]) ∧ ∃ ys, ys.Perm bs ∧ SrtD (lookN L) ys ∧ ZOwn w' B A cap ys ∧ w.grownBy w' (rowOf A) := by
  rcases hown.form with ⟨rfl, rfl, rfl⟩ | ⟨g, rfl, hB, hg⟩
  · refine (show Calls Tryz.prog 68 #[.slice none 0 0, _] w fun e w' => e = .returned (.tuple #[]) ∧ w' = w from AnyF.slices_SortFunc_none { Tryz.sortf68 with } none 0 _ w).mono ?_
    rintro e w' ⟨rfl, rfl⟩
    exact ⟨rfl, [], .refl _, .nil, hown, World.grownBy.refl _ _⟩
  · have hne' := hne g rfl
    have hO : w.ownsRow B 9 1 (.slice (some ⟨g, 0, none⟩) bs.length cap) bs.length ((toBs bs).map encB) := by rw [toBs_enc hz]; exact hown
    obtain ⟨g', cap', e, _, hglt, hcap, hmx, _, hH⟩ := holds_of_ownsRow (enc := encB) hO (by simp)
    injection e with e1 _ e3
    injection e1 with e1
    injection e1 with e1
    subst e1 e3
    obtain ⟨cur, hcur, hcs⟩ : ∃ cur, w.heap[g]? = some (.cells cur 9 (0, 0)) ∧ cur.size = cap * 1 := by
      rcases hO.2 with ⟨e, _⟩ | ⟨g2, c2, cur, e, _, h2, _, _, h5, _⟩
      · injection e with e; cases e
      · injection e with e1 _ e3
        injection e1 with e1
        injection e1 with e1
        subst e1 e3
        exact ⟨cur, h2, h5⟩
    have eg : ∀ args w, (callFunc 69 args).run Tryz.prog w = .ok (.enter 69 args) w := enters_of Tryz.func69 (by kernel_rfl) rfl
    have hgplt : gp < w.heap.size := (Array.getElem?_eq_some_iff.1 hgp).1
    have hcmp : CmpLays1 Tryz.prog 69 #[.pointer (some ⟨gp, 0, none⟩)] encB (fun x y : TxB => cfD (lookN L) x.1 y.1) g 0 (toBs bs).toArray.size w := fun m os dk _ x y => by
      have hgr : w.grownBy (sortWorld encB w g 0 m dk os) (some g) := grownBy_sortedB dk
      refine (show Calls Tryz.prog 69 #[.string x.1, .string y.1, .pointer (some ⟨gp, 0, none⟩)] _ _ from (logCmp_any gp gm n L x.1 y.1 _ x.2 y.2 (cell_of_row _ gp 0 _ _ _ ((hgr.block gp hgplt (fun e => by injection e with e; exact hne'.1 e.symm)).trans hgp)) (hN.kept hgr (fun e => by injection e with e; exact hne'.2 e.symm))).mono ?_)
      rintro e w' ⟨rfl, rfl⟩
      exact ⟨rfl, 0, _, alloc_grow _ _⟩
    have hD := Any.slices_SortFunc Tryz.sortf68 encB (fun _ => rfl) (fun x y : TxB => cfD (lookN L) x.1 y.1) (swoD (lookN L)) 69 #[.pointer (some ⟨gp, 0, none⟩)] g 0 cap (toBs bs).toArray w eg hcmp hH hglt (by simp [toBs_len]; omega)
    have e0 : (toBs bs).toArray.size = bs.length := by simp [toBs_len]
    rw [e0] at hD
    refine (show Calls Tryz.prog 68 #[.slice (some ⟨g, 0, none⟩) bs.length cap, _] w _ from hD).mono ?_
    rintro e w' ⟨rfl, d', q, os, hp, hs, rfl⟩
    obtain ⟨hp1, _, hp2⟩ := hp
    have hd : d'.size = bs.length := by rw [hp1, e0]
    have hperm : d'.toList.Perm (toBs bs) := by
      have h1 : d'.extract 0 bs.length = d' := by rw [← hd]; simp
      have h2 : (toBs bs).toArray.extract 0 bs.length = (toBs bs).toArray := by rw [← e0]; simp
      rw [h1, h2] at hp2
      simpa using hp2
    have hpv : (d'.toList.map fun x => x.1).Perm bs := by
      have := hperm.map (fun x => x.1)
      rwa [toBs_val hz] at this
    have hvz : ∀ x ∈ d'.toList.map (fun x => x.1), x.size ≤ maxLen := fun x hx => hz x (hpv.mem_iff.1 hx)
    refine ⟨rfl, d'.toList.map (fun x => x.1), hpv, srt_of (hpv.nodup_iff.2 hnd) ?_, ?_, grownBy_sortedB d'⟩
    · have : d'.toList.length = bs.length := by simpa using hd
      rw [this]
      simpa using hs
    · have h := ownsRow_sortedB (base := B) (n := q) (os := os) (ts := d'.toList) (m := bs.length) (by simpa using hd) hB hcur hcap hmx hcs
      have e1 : d'.toList.map encB = (d'.toList.map fun x => x.1).map Value.string := by rw [List.map_map]; rfl
      have e2 : (d'.toList.map fun x => x.1).length = bs.length := by simpa using hd
      unfold ZOwn
      rw [e2, ← e1]
      simpa [sortWorld] using h
end Go.Proofs.YtdahpnjamlfakaaGreatDoor
/-
  What impl.repo's log and impl.LogOf answer in a repository without rings.
-/
namespace Go.Proofs.YtdahpnjamlfakaaGreatDoor
open Go.RowKit Go.Maps

theorem SrtD.congr {D E : ByteArray → Nat} {L : List ByteArray} (h : SrtD D L) (he : ∀ z ∈ L, D z = E z) : SrtD E L := by
  refine List.Pairwise.imp_of_mem (fun {x y} hx hy hxy => ?_) h
  unfold ltD at hxy ⊢
  rw [← he x hx, ← he y hy]
  exact hxy
set_option maxRecDepth 100000 in
set_option maxHeartbeats 2000000 in
theorem log_any {w₀ : World} {B bm bc : Nat} {l : List Pr} {vs : List Value} (bt : Nat) (hM : RepoM w₀ B bm bc 60 l vs) (hrep : repoB l = true) (hA : Acy l) (b : ByteArray) (hb : b.size ≤ maxLen) (w : World) (hbel : Below w₀.heap.size w₀ w) :
    Calls Tryz.prog 32 #[.agg #[.map (some bt), .map (some bm), .map (some bc)], .string b] w (RetZ w.heap.size (logK l b) w) := by
  have bX : Below w.heap.size w (w.alloc (.cells #[.map (some bt), .map (some bm), .map (some bc)] 47)) := (Below.refl _ w).alloc (Nat.le_refl _) _
  have XR := heap_alloc_new w (.cells #[.map (some bt), .map (some bm), .map (some bc)] 47)
  have s0 : (w.alloc (.cells #[.map (some bt), .map (some bm), .map (some bc)] 47)).heap.size = w.heap.size + 1 := by simp
  have ID := hide (depths_any bt hM hrep b hb _ (hbel.trans (bX.mono hbel.size)))
  have AN : Hid (∀ W, Below w.heap.size w W → Calls Tryz.prog 33 #[.agg #[.map (some bt), .map (some bm), .map (some bc)], .string b] W (RetZ W.heap.size (ancK l b) W)) := hide (fun W h => anc_any bt hM hrep b hb W (hbel.trans (h.mono hbel.size)))
  have x0 := cell_of_row _ _ 0 _ _ _ XR
  have x1 := cell_of_row _ _ 1 _ _ _ XR
  have x2 := cell_of_row _ _ 2 _ _ _ XR
  have BX := hide bX
  have S0 := hide s0
  have XH := hide XR
  have SZ : Hid (∀ z ∈ ancK l b, z.size ≤ maxLen) := hide (fun z hz => key_max (repoB_iff.1 hrep).1 (anc_rd hz))
  have ND := hide (risK_nodup (ancK_ris l b).1)
  have hal := ancK_len l b
  have LL : Hid ((ancK l b).length = (logK l b).length) := hide (logK_len l b).symm
  have EX : Hid (∀ xs ys : List ByteArray, xs.Nodup → (∀ z, z ∈ xs ↔ rdOk (valOf l b) = true ∧ Reach l b z) → (Acy l → OrdK l [] xs) → ys.Perm (ancK l b) → SrtD (lookN (dlK l xs)) ys → ys = logK l b) := hide (fun xs ys h1 h2 h3 h4 h5 => by
    obtain ⟨k1, k2⟩ := logK_all l b
    refine SrtD.ext (h5.congr fun z hz => ?_) k1 fun z => (h4.mem_iff).trans (k2 z).symm
    have hz2 := ancK_mem.1 (h4.mem_iff.1 hz)
    exact dlK_dep (depK_is hA) h1 (h3 hA) z ((h2 z).2 hz2.2))
  clear bX XR s0 hM hbel
  go_enter Tryz.func32, Tryz.ntmps32
  go_wp2_with fail
  refine ID.out.mono ?_
  rintro e w1 ⟨gm, nm, xs, rfl, hgm, hN, hnd, hxs, ho, b1⟩
  have hs1 := b1.size
  rw [S0.out] at hs1
  have bp := (Below.refl w1.heap.size w1).alloc (Nat.le_refl _) (.cells #[.map (some gm)] 51)
  have hgp := heap_alloc_new w1 (.cells #[.map (some gm)] 51)
  have hgml : gm < w1.heap.size := by
    obtain ⟨o, h1, _⟩ := hN.obj
    exact (Array.getElem?_eq_some_iff.1 h1).1
  have N2 := hide (hN.below bp)
  have B2 := hide ((BX.out.trans (b1.mono BX.out.size)).trans (bp.mono (by omega)))
  have s2 : (w1.alloc (.cells #[.map (some gm)] 51)).heap.size = w1.heap.size + 1 := by simp
  have X2 : Hid ((w1.alloc (.cells #[.map (some gm)] 51)).heap[w.heap.size]? = some (.cells #[.map (some bt), .map (some bm), .map (some bc)] 47 (0, 0))) := hide ((bp.block w.heap.size (by omega)).trans ((b1.block w.heap.size (by rw [S0.out]; omega)).trans XH.out))
  have HGP := hide hgp
  have EY := hide (fun ys => EX.out xs ys hnd hxs ho)
  have S2 := hide s2
  have z0 := cell_of_row _ _ 0 _ _ _ X2.out
  have z1 := cell_of_row _ _ 1 _ _ _ X2.out
  have z2 := cell_of_row _ _ 2 _ _ _ X2.out
  have HGM := hide hgml
  clear x0 x1 x2 ID hN hnd hxs ho b1 bp hgp s2 hs1 EX XH hgm hgml
  go_wp2_with fail
  refine (AN.out _ B2.out).mono ?_
  rintro e w3 ⟨A3, c3, rfl, o3, b3⟩
  have hs3 := b3.size
  have SO := hide (sortF_any A3 (ancK l b) c3 w3 _ w1.heap.size gm nm (dlK l xs) o3 (by omega) SZ.out ND.out ((b3.block w1.heap.size (by rw [S2.out]; omega)).trans HGP.out) (N2.out.below b3) (fun g hg => by
    have := (o3.row g hg).1
    rw [S2.out] at this
    have := HGM.out
    omega))
  have B3 := hide (B2.out.trans (b3.mono B2.out.size))
  have O3 := hide o3
  rw [LL.out] at SO ⊢
  clear AN o3 b3 z0 z1 z2 hal
  generalize hln : (logK l b).length = ln at *
  have LN := hide hln
  clear hln
  go_wp2_with fail
  refine SO.out.mono ?_
  rintro e w4 ⟨rfl, ys, hp, hs, o4, g4⟩
  have e4 := EY.out ys hp hs
  subst e4
  have F : Hid (RetZ w.heap.size (logK l b) w (.returned (.slice A3 ln c3)) w4) := hide ⟨A3, c3, by rw [LN.out], o4.more B2.out.size, B3.out.grown g4 B3.out.size (fun k e => by have := (O3.out.row k e).1; have := B2.out.size; omega)⟩
  clear SO hp hs o4 g4
  go_wp2
  go_ret
  exact F.out
set_option maxRecDepth 100000 in
set_option maxHeartbeats 1000000 in
theorem implLogOf_any (A : Option Addr) (l : List Pr) (cap : Nat) (x : ByteArray) (a : Addr) (w : World) (hl : l.length ≤ maxLen) (hin : PIn w w.heap.size A l) (hx : x.size ≤ maxLen) (hA : Acy l) (hT : Tabs w) (hE : ErrC w a) :
    Calls Tryz.prog 14 #[.slice A l.length cap, .string x] w (RetZ w.heap.size (logK l x) w) := by
  have T := hide (repoOf_any A l cap a w hl hin hT hE)
  have NO : Hid (repoB l = false → ∀ w', Below w.heap.size w w' → RetZ w.heap.size (logK l x) w (.returned (.slice none 0 0)) w') := hide (fun h w' hb => by
    have e : logK l x = [] := by
      refine List.eq_nil_iff_forall_not_mem.2 fun z hz => ?_
      have h1 := (ancK_mem.1 (((logK_all l x).2 z).1 hz)).1
      rw [h] at h1
      cases h1
    rw [e]
    exact ⟨none, 0, rfl, ZOwn.nil _ _, hb⟩)
  clear hin hT hE hl
  generalize l.length = n at *
  go_enter Tryz.func14, Tryz.ntmps14
  go_wp2_with fail
  refine T.out.mono ?_
  rintro e w1 ⟨b1, ⟨hf, rfl⟩ | ⟨hf, bt, bm, bc, B, vs, rfl, _, _, _, _, _, _, rm⟩⟩
  · have Z := hide (NO.out hf)
    have B1 := hide (b1.alloc b1.size (.cells #[.map none, .map none, .map none] 47))
    clear b1 hf T NO
    go_wp2_with fail
    go_ret
    exact Z.out _ B1.out
  · have b2 := (Below.refl w1.heap.size w1).alloc (Nat.le_refl _) (.cells #[.map (some bt), .map (some bm), .map (some bc)] 47)
    have B2 := hide (b1.trans (b2.mono b1.size))
    have XR := hide (heap_alloc_new w1 (.cells #[.map (some bt), .map (some bm), .map (some bc)] 47))
    have IA := hide (log_any bt rm hf hA x hx _ b2)
    have x0 := cell_of_row _ _ 0 _ _ _ XR.out
    have x1 := cell_of_row _ _ 1 _ _ _ XR.out
    have x2 := cell_of_row _ _ 2 _ _ _ XR.out
    clear b1 b2 hf T NO rm
    go_wp2_with fail
    refine IA.out.mono ?_
    rintro e w3 ⟨A3, cap3, rfl, o3, b3⟩
    have F : Hid (RetZ w.heap.size (logK l x) w (.returned (.slice A3 (logK l x).length cap3)) w3) := hide ⟨A3, cap3, rfl, o3.more B2.out.size, B2.out.trans (b3.mono B2.out.size)⟩
    clear o3 b3 IA x0 x1 x2 XR
    generalize (logK l x).length = an at *
    go_wp2_with fail
    go_ret
    exact F.out
end Go.Proofs.YtdahpnjamlfakaaGreatDoor
/-
  What spec.LogOf answers in a repository without rings.
-/
namespace Go.Proofs.YtdahpnjamlfakaaGreatDoor
open Go.RowKit

theorem same_belowL {P : Program} {f : FuncId} {args : Array Value} {w : World} {v : Value} (h : Calls P f args w fun e w' => e = .returned v ∧ w = w') : Calls P f args w fun e w' => e = .returned v ∧ Below w.heap.size w w' := h.mono fun _ _ ⟨h1, h2⟩ => ⟨h1, by subst h2; exact Below.refl _ _⟩
theorem posD_in {D : ByteArray → Nat} {x : ByteArray} : ∀ {L : List ByteArray} {k : Nat}, k < posD D x L → ∃ h : k < L.length, D x ≤ D L[k]
  | [], k, h => by simp [posD] at h
  | a :: r, k, h => by
    unfold posD at h
    split at h
    · rename_i hle
      cases k with
      | zero => exact ⟨by simp, hle⟩
      | succ k =>
        obtain ⟨h1, h2⟩ := posD_in (D := D) (x := x) (L := r) (k := k) (by omega)
        exact ⟨by simpa using h1, by simpa using h2⟩
    · omega
theorem posD_out {D : ByteArray → Nat} {x : ByteArray} : ∀ {L : List ByteArray} (h : posD D x L < L.length), D L[posD D x L] < D x
  | [], h => by simp at h
  | a :: r, h => by
    by_cases hle : D x ≤ D a
    · have e : posD D x (a :: r) = posD D x r + 1 := by rw [posD, if_pos hle]
      have h' : posD D x r < r.length := by rw [e] at h; simpa using h
      have ih := posD_out h'
      have e2 : (a :: r)[posD D x (a :: r)] = r[posD D x r] := by simp only [e, List.getElem_cons_succ]
      rw [e2]
      exact ih
    · have e : posD D x (a :: r) = 0 := by rw [posD, if_neg hle]
      have e2 : (a :: r)[posD D x (a :: r)] = a := by simp only [e, List.getElem_cons_zero]
      rw [e2]
      omega
theorem logOf_next {D : ByteArray → Nat} {S : List ByteArray} {i : Nat} (h : i < S.length) : logOf D (S.take (i + 1)) = (([] ++ (logOf D (S.take i)).take (posD D S[i] (logOf D (S.take i)))) ++ [S[i]]) ++ (logOf D (S.take i)).drop (posD D S[i] (logOf D (S.take i))) := by
  have e : logOf D (S.take (i + 1)) = insD D S[i] (logOf D (S.take i)) := by
    unfold logOf
    rw [List.take_succ_eq_append_getElem h, List.foldl_append]
    rfl
  rw [e, insD_at]
  simp
theorem logOf_len (D : ByteArray → Nat) (S : List ByteArray) : (logOf D S).length = S.length := by
  have hi : ∀ (x : ByteArray) (L : List ByteArray), (insD D x L).length = L.length + 1 := fun x L => by
    rw [insD_at]
    have := posD_le D x L
    simp
    omega
  have : ∀ (S out : List ByteArray), (S.foldl (fun out x => insD D x out) out).length = out.length + S.length := by
    intro S
    induction S with
    | nil => intro out; simp
    | cons a r ih => intro out; rw [List.foldl_cons, ih, hi, List.length_cons]; omega
  have h := this S []
  simpa [logOf] using h
theorem logOf_mem {D : ByteArray → Nat} {S : List ByteArray} : ∀ z ∈ logOf D S, z ∈ S := by
  have : ∀ (S out : List ByteArray) (z : ByteArray), z ∈ S.foldl (fun out x => insD D x out) out → z ∈ out ∨ z ∈ S := by
    intro S
    induction S with
    | nil => intro out z h; exact .inl h
    | cons a r ih =>
      intro out z h
      rw [List.foldl_cons] at h
      rcases ih _ z h with h1 | h1
      · rcases mem_insD.1 h1 with h2 | h2
        · exact .inr (by rw [h2]; exact List.mem_cons_self ..)
        · exact .inl h2
      · exact .inr (List.mem_cons_of_mem _ h1)
  intro z h
  rcases this S [] z h with h1 | h1
  · cases h1
  · exact h1
set_option maxRecDepth 100000 in
set_option maxHeartbeats 4000000 in
theorem specLogOf_any (A : Option Addr) (l : List Pr) (cap : Nat) (x : ByteArray) (w : World) (hl : l.length ≤ maxLen) (hin : PIn w w.heap.size A l) (hz : (valOf l x).size ≤ 1048576) (hA : Acy l) (hrep : repoB l = true) :
    Calls Tryz.prog 17 #[.slice A l.length cap, .string x] w (RetZ w.heap.size (logK l x) w) := by
  have AN : Hid (∀ W, Below w.heap.size w W → Calls Tryz.prog 34 #[.slice A l.length cap, .string x] W (RetZ W.heap.size (ancK l x) W)) := hide (fun W h => specAncestors_any A l cap x W hl ((hin.below h).more h.size) hz)
  have DP : Hid (∀ W, Below w.heap.size w W → Calls Tryz.prog 28 #[.slice A l.length cap] W fun e w' => ∃ v : Nat → Nat, e = .returned (.slice (some ⟨W.heap.size, 0, none⟩) l.length l.length) ∧ AllD l (depK l) v ∧ IRow w' W.heap.size l.length v ∧ Below W.heap.size W w') := hide (fun W h => l5Depths_any A l cap (depK l) W l.length rfl hrep (depK_is hA) ((hin.below h).more h.size))
  have AT : Hid (∀ q W, Below w.heap.size w W → Calls Tryz.prog 29 #[.slice A l.length cap, .string q] W fun e w' => e = .returned (.int .i64 (atN l q : Nat)) ∧ Below W.heap.size W w') := hide (fun q W h => same_belowL (l3At_any A l cap q W w.heap.size hl (hin.below h)))
  have VX : Hid (∀ v : Nat → Nat, AllD l (depK l) v → ∀ q ∈ ancK l x, atN l q < l.length ∧ v (atN l q) = depK l q) := hide (fun v h q hq => by
    obtain ⟨h1, h2⟩ := hasB_iff.1 (has_rd (anc_rd hq))
    exact ⟨h1, by rw [h _ h1, h2]⟩)
  have hal := ancK_len l x
  have E9 : Hid (logK l x = logOf (depK l) (ancK l x)) := hide rfl
  rw [E9.out]
  have OB := hide (ZOwn.built w w.heap.size (Nat.le_refl _))
  have BB := hide ((Below.refl w.heap.size w).alloc (Nat.le_refl _) (.cells #[] 9))
  clear hl hin hz hrep hA E9
  generalize depK l = D at *
  generalize ancK l x = S at *
  generalize hln : l.length = ln at *
  clear hln
  go_enter Tryz.func17, Tryz.ntmps17
  go_wp2_with fail
  refine (AN.out _ BB.out).mono ?_
  rintro e w2 ⟨A2, c2, rfl, o2, b2⟩
  have OB2 := hide (OB.out.below (b2.mono (Nat.le_refl _)))
  have B2 := hide (BB.out.trans (b2.mono BB.out.size))
  have ZS := hide o2.zin
  clear AN o2 b2 OB BB
  go_wp2_with fail
  refine (DP.out _ B2.out).mono ?_
  rintro e w3 ⟨v, rfl, hv, hrow, b3⟩
  have OB3 := hide (OB2.out.below b3)
  have ZS3 := hide (ZS.out.below b3)
  have B3 := hide (B2.out.trans (b3.mono B2.out.size))
  have RW := hide hrow
  have VY := hide (VX.out v hv)
  have hs23 := b3.size
  have hgr := hrow.lt
  obtain ⟨gr, hgreq⟩ : ∃ g, w2.heap.size = g := ⟨_, rfl⟩
  rw [hgreq] at RW hgr hs23 ZS3 ⊢
  clear DP OB2 ZS b3 hv VX hrow B2 hgreq
  obtain ⟨sn, hsn⟩ : ∃ n, S.length = n := ⟨_, rfl⟩
  have SN := hide hsn
  rw [hsn] at hal ⊢
  have L0 : Hid (logOf D (S.take 0) = []) := hide (by simp [logOf])
  have Q3 : Hid (Below w3.heap.size w3 w3) := hide (Below.refl _ _)
  have LEN : Hid (∀ i, i ≤ sn → (logOf D (S.take i)).length = i) := hide (fun i hi => by rw [logOf_len, List.length_take, SN.out]; omega)
  have FIN : Hid (logOf D (S.take sn) = logOf D S) := hide (by rw [← SN.out, List.take_length])
  clear hsn
  go_wp2
  go_loopw [5, 8] (fun ov iv wr => ∃ (i : Nat) (Ao : Option Addr) (co : Nat), i ≤ sn ∧ ov = .slice Ao i co ∧ iv = .int .i64 i ∧ Hid (ZOwn wr w.heap.size Ao co (logOf D (S.take i))) ∧ Hid (Below w3.heap.size w3 wr)) (fun _ i _ => sn - (intOf i).toNat)
  case atStart => exact ⟨0, some ⟨w.heap.size, 0, none⟩, 0, Nat.zero_le _, rfl, rfl, by rw [L0.out]; exact OB3, Q3⟩
  case round =>
    clear OB3 Q3 L0
    obtain ⟨i, Ao, co, hi, rfl, rfl, OO, Q⟩ := hrel
    by_cases hlt : i < sn
    · have hil : i < S.length := by rw [SN.out]; exact hlt
      have hol := LEN.out i hi
      have hcap := OO.out.cap_le
      rw [hol] at hcap
      have NX := hide (logOf_next (D := D) hil)
      have SM := List.getElem_mem hil
      obtain ⟨bs, offs, rfl, hbs, hcs⟩ := ZS3.out (by omega)
      have ci := cellB Q.out (by omega) (hcs i hil)
      have vi := VY.out _ SM
      have vc := (RW.out.cell vi.1)
      rw [vi.2] at vc
      have cv := cellB Q.out hgr vc
      have hpl := posD_le D (S[i]'hil) (logOf D (S.take i))
      rw [hol] at hpl
      have PI := hide (fun k => posD_in (D := D) (x := S[i]'hil) (L := logOf D (S.take i)) (k := k))
      have PO := hide (posD_out (D := D) (x := S[i]'hil) (L := logOf D (S.take i)))
      have OM : Hid (∀ z ∈ logOf D (S.take i), atN l z < ln ∧ v (atN l z) = D z) := hide (fun z hz => VY.out z (List.mem_of_mem_take (logOf_mem z hz)))
      have HI := hide hlt
      have vi1 := vi.1
      clear hcs SM vc vi
      have WB : Hid (∀ W, Below wr.heap.size wr W → Below w.heap.size w W) := hide (fun W h => (B3.out.trans (Q.out.mono B3.out.size)).trans (h.mono (Nat.le_trans B3.out.size Q.out.size)))
      have IO := hide OO.out.zin
      obtain ⟨out, hout⟩ : ∃ out, logOf D (S.take i) = out := ⟨_, rfl⟩
      rw [hout] at NX hol hpl PI PO OM OO IO
      clear hout
      generalize S[i]'hil = z at *
      obtain ⟨p, hp⟩ : ∃ p, posD D z out = p := ⟨_, rfl⟩
      rw [hp] at NX hpl PI PO
      have HOL := hide hol
      clear hp hil hlt hol
      obtain ⟨w5, hw5⟩ : ∃ w5, w5 = wr := ⟨wr, rfl⟩
      subst hw5
      go_wp2
      go_loopw [9] (fun kv wr => ∃ k : Nat, k ≤ p ∧ kv = .int .i64 k ∧ Hid (Below w5.heap.size w5 wr)) (fun k _ => p - (intOf k).toNat)
      case atStart => exact ⟨0, Nat.zero_le _, rfl, hide (Below.refl _ _)⟩
      case round =>
        obtain ⟨k, hk, rfl, Q2⟩ := hrel
        have s2 := Q2.out.size
        have ci2 := cellB Q2.out (by have := Q.out.size; omega) ci
        have cv2 := cellB Q2.out (by have := Q.out.size; omega) cv
        by_cases hkp : k < p
        · have hkl : k < i := by omega
          have hko : k < out.length := by rw [HOL.out]; exact hkl
          obtain ⟨bo, offo, eo, hbo, hco⟩ := IO.out (by omega)
          subst eo
          have ck := cellB Q2.out hbo (hco k hko)
          have om := OM.out _ (List.getElem_mem hko)
          have vk := RW.out.cell om.1
          rw [om.2] at vk
          have vk2 := cellB Q2.out (by have := Q.out.size; omega) (cellB Q.out hgr vk)
          have om1 := om.1
          obtain ⟨_, ge⟩ := PI.out k hkp
          clear hco om vk OM PI PO
          generalize out[k]'hko = y at *
          clear hko
          generalize hdy : D y = dy at *
          generalize hdz : D z = dz at *
          have dg : decide ((dz : Int) ≤ (dy : Int)) = true := decide_eq_true (by omega)
          have dgn : decide (dz ≤ dy) = true := decide_eq_true ge
          have gen := ge
          have dk : decide ((k : Int) < (i : Int)) = true := decide_eq_true (by omega)
          have HK := hide hkp
          clear hkp ge hdy hdz
          go_wp2_with fail
          refine wp_region_cls (by kernel_rfl) (by kernel_rfl) wr.heap.size ?_
          have C1 := cls_cell (w := wr) (B := wr.heap.size) (p := ⟨bs, offs + i, none⟩) (by have := Q.out.size; show bs < _; omega) ci2
          have C2 := cls_cell (w := wr) (B := wr.heap.size) (p := ⟨bo, offo + k, none⟩) (by show bo < _; omega) ck
          have C3 := cls_cell (w := wr) (B := wr.heap.size) (p := ⟨gr, atN l y, none⟩) (by have := Q.out.size; show gr < _; omega) vk2
          have C4 := cls_cell (w := wr) (B := wr.heap.size) (p := ⟨gr, atN l z, none⟩) (by have := Q.out.size; show gr < _; omega) cv2
          repeat (go_big_quiet_step ((go_at_call 29; with_reducible exact cls_call (Nat.le_refl _) (AT.out _ _ (WB.out _ (Q2.out.trans ((Cls.below _).mono s2)))))))
          refine wpQuiet_nil ?_
          intro _ hw'
          obtain ⟨u, hw2⟩ := hw'
          subst hw2
          have Q9 := hide (Q2.out.trans (u.below.mono s2))
          obtain ⟨wx, hwx⟩ : ∃ W, u.wo = W := ⟨_, rfl⟩
          rw [hwx] at Q9 ⊢
          clear C1 C2 C3 C4 hwx u
          go_wp2
          go_roundw
          case rel => exact ⟨k + 1, HK.out, by have := HK.out; go_num, Q9⟩
          case measure => have := HK.out; simp [intOf]; omega
        · obtain rfl : k = p := by omega
          have IN1 := hide (IO.out.take co k)
          have IN2 := hide (IO.out.drop (cap := co) (by rw [HOL.out]; exact hcap) k)
          have K1 := run_cutZ_h 28 Tryz.underlying28 Ao i co k (by omega)
          have K2 := run_cutZ_l 28 Tryz.underlying28 Ao i co k hpl
          have E1 := hide (show (out.take k).length = k by rw [List.length_take, HOL.out]; omega)
          have E2 := hide (show (out.drop k).length = i - k by rw [List.length_drop, HOL.out])
          have E4 : Hid ((([] ++ out.take k) ++ [z] ++ out.drop k).length = i + 1) := hide (by simp only [List.length_append, List.length_nil, List.length_singleton, E1.out, E2.out]; omega)
          by_cases hkl : k < i
          case' pos =>
            have hko : k < out.length := by rw [HOL.out]; exact hkl
            obtain ⟨bo, offo, eo, hbo, hco⟩ := IO.out (by omega)
            subst eo
            have ck := cellB Q2.out hbo (hco k hko)
            have om := OM.out _ (List.getElem_mem hko)
            have vk := RW.out.cell om.1
            rw [om.2] at vk
            have vk2 := cellB Q2.out (by have := Q.out.size; omega) (cellB Q.out hgr vk)
            have om1 := om.1
            have lt := PO.out hko
            clear hco om vk OM PI PO
            generalize out[k]'hko = y at *
            clear hko
            generalize hdy : D y = dy at *
            generalize hdz : D z = dz at *
            have dg : decide ((dz : Int) ≤ (dy : Int)) = false := decide_eq_false (by omega)
            have dgn : decide (dz ≤ dy) = false := decide_eq_false (by omega)
            have dk : decide ((k : Int) < (i : Int)) = true := decide_eq_true (by omega)
            clear lt hdy hdz
            go_wp2_with fail
            refine wp_region_cls (by kernel_rfl) (by kernel_rfl) wr.heap.size ?_
            have C1 := cls_cell (w := wr) (B := wr.heap.size) (p := ⟨bs, offs + i, none⟩) (by have := Q.out.size; show bs < _; omega) ci2
            have C2 := cls_cell (w := wr) (B := wr.heap.size) (p := ⟨bo, offo + k, none⟩) (by show bo < _; omega) ck
            have C3 := cls_cell (w := wr) (B := wr.heap.size) (p := ⟨gr, atN l y, none⟩) (by have := Q.out.size; show gr < _; omega) vk2
            have C4 := cls_cell (w := wr) (B := wr.heap.size) (p := ⟨gr, atN l z, none⟩) (by have := Q.out.size; show gr < _; omega) cv2
            repeat (go_big_quiet_step ((go_at_call 29; with_reducible exact cls_call (Nat.le_refl _) (AT.out _ _ (WB.out _ (Q2.out.trans ((Cls.below _).mono s2)))))))
            refine wpQuiet_nil ?_
            intro _ hw'
            obtain ⟨u, hw2⟩ := hw'
            subst hw2
            have Q9 := hide (Q2.out.trans (u.below.mono s2))
            obtain ⟨wx, hwx⟩ : ∃ W, u.wo = W := ⟨_, rfl⟩
            rw [hwx] at Q9 ⊢
            clear C1 C2 C3 C4 hwx u
            clear ck vk2
          case' neg =>
            have dk : decide ((k : Int) < (i : Int)) = false := decide_eq_false (by omega)
            clear OM PI PO
            go_wp2_with fail
            refine wp_region_cls (by kernel_rfl) (by kernel_rfl) wr.heap.size ?_
            repeat (go_big_quiet_step ((fail)))
            refine wpQuiet_nil ?_
            intro _ hw'
            obtain ⟨u, hw2⟩ := hw'
            subst hw2
            have Q9 := hide (Q2.out.trans (u.below.mono s2))
            obtain ⟨wx, hwx⟩ : ∃ W, u.wo = W := ⟨_, rfl⟩
            rw [hwx] at Q9 ⊢
            clear hwx u dk
          all_goals
            have O1 := hide (ZOwn.built wx wx.heap.size (Nat.le_refl _))
            have B2 := hide ((Below.refl wx.heap.size wx).alloc (Nat.le_refl _) (.cells #[] 9))
            have s9 := Q9.out.size
            have sq := Q.out.size
            have J1 := hide (IN1.out.below Q9.out)
            have J2 := hide (IN2.out.below Q9.out)
            have cz := cellB Q9.out (by show bs < _; omega) ci
            have hbx : bs < wx.heap.size := by omega
            clear ci ci2 cv cv2 IN1 IN2
            go_wp2_with (first
              | (at_builtin; refine wpList_appZ (l' := out.take k) 28 Tryz.underlying28 rfl (.tmp 50) (.tmp 53) rfl rfl rfl rfl E1.out.symm O1.out (J1.out.below (B2.out.mono s9)) B2.out.size (by rw [E1.out]; simp; omega) ?_; intro A3 cap3 w6 own3 g3 r3; have B3' := hide (B2.out.trans (O1.out.grownBelow g3 B2.out.size)); have O3 := hide own3; have cz3 := cellB B3'.out hbx cz; clear own3 g3 r3)
              | (at_builtin; refine wpList_appZ (l' := [z]) 28 Tryz.underlying28 rfl (.tmp 55) (.tmp 60) rfl rfl rfl (by simp) rfl (O3.out.alloc _) (ZIn.one z _ rfl) (Nat.le_trans B3'.out.size (by simp)) (by rw [List.length_append, E1.out]; simp; omega) ?_; intro A4 cap4 w7 own4 g4 r4; have b4 := (O3.out.alloc (.cells #[Value.string z] 9)).grownBelow g4 (Nat.le_trans B3'.out.size (by simp)); have B4 := hide ((B3'.out.alloc B3'.out.size (.cells #[Value.string z] 9)).trans b4); have O4 := hide own4; clear own4 g4 r4 b4)
              | (at_builtin; refine wpList_appZ (l' := out.drop k) 28 Tryz.underlying28 rfl (.tmp 62) (.tmp 65) rfl rfl rfl (by simp) E2.out.symm O4.out (J2.out.below (B4.out.mono s9)) B4.out.size (by rw [List.length_append, List.length_append, E1.out, E2.out]; simp; omega) ?_; intro A5 cap5 w8 own5 g5 r5; have b5 := O4.out.grownBelow g5 B4.out.size; have B5 := hide (B4.out.trans b5); have O5 := hide own5; clear own5 g5 r5 b5))
            have EL : Hid (min k out.length + (out.length - k + 1) = i + 1) := hide (by have := HOL.out; omega)
            go_roundw
            case rel => exact ⟨i + 1, A5, cap5, HI.out, by first | rfl | rw [EL.out] | rw [E4.out], by have := HI.out; go_num, by rw [NX.out]; exact hide (O5.out.more (by have := B3.out.size; omega)), hide (Q.out.trans ((Q9.out.trans (B5.out.mono s9)).mono sq))⟩
            case measure => have := HI.out; simp [intOf]; omega
    · obtain rfl : i = sn := by omega
      have hgt : ¬ ((i : Int) < (i : Int)) := by omega
      rw [FIN.out] at OO
      have F : Hid (RetZ w.heap.size (logOf D S) w (.returned (.slice Ao i co)) wr) := hide ⟨Ao, co, by rw [logOf_len, SN.out], OO.out, B3.out.trans (Q.out.mono B3.out.size)⟩
      clear hlt OO
      go_wp2
      go_ret
      exact F.out
end Go.Proofs.YtdahpnjamlfakaaGreatDoor
