/-
  The laws' marks: markText, markPairS, heldPairS.
-/
import Derived.Test.YtkhkcdmmagicmaaDoorPApp
import Derived.Test.YtkhkcdmmagicmaaDoorPStr0
import Derived.Test.YtkhkcdmmagicmaaDoorQRow
import Derived.IntWalk
import Derived.Laws.IdiomStrings
import Derived.Deep.RegionHeld3
namespace Go.Proofs.YtkhkcdmmagicmaaDoor
open Go.RowKit

def digF : Nat → Nat → ByteArray → ByteArray
  | 0, _, acc => acc
  | f + 1, k, acc => if k = 0 then acc else digF f (k / 10) (⟨#[(48 + k % 10).toUInt8]⟩ ++ acc)
theorem digF_step {f k : Nat} {s r : ByteArray} (hk : 0 < k) (hkf : k ≤ f) (h : digF f k s = r) : digF (f - 1) (k / 10) (⟨#[(48 + k % 10).toUInt8]⟩ ++ s) = r := by
  obtain ⟨g, rfl⟩ : ∃ g, f = g + 1 := ⟨f - 1, by omega⟩
  rw [digF, if_neg (by omega)] at h
  exact h
theorem digF_zero {f : Nat} {s r : ByteArray} (h : digF f 0 s = r) : s = r := by
  cases f with
  | zero => exact h
  | succ f => rw [digF, if_pos rfl] at h; exact h
/-- the text m and k in decimal -/
def markS (k : Nat) : ByteArray := ⟨#[109]⟩ ++ digF k k ByteArray.empty

theorem dig_conv (j : Nat) (W : World) : (convert 79 9 (.slice (some ⟨W.heap.size, 0, none⟩) 1 1)).run Tryd.prog (W.alloc (.cells #[.int .u8 (48 + (j : Int) % 10)] 5)) = .ok (.string ⟨#[(48 + j % 10).toUInt8]⟩) (W.alloc (.cells #[.int .u8 (48 + (j : Int) % 10)] 5)) := by
  have h := run_convert_bytes_back (P := Tryd.prog) (W.alloc (.cells #[.int .u8 (48 + (j : Int) % 10)] 5)) 79 9 5 ⟨W.heap.size, 0, none⟩ 1 [(48 + j % 10).toUInt8] Tryd.underlying79 Tryd.underlying5 Tryd.underlying9 (fun i hi => by
    obtain rfl : i = 0 := by simpa using hi
    rw [show (⟨W.heap.size, 0, none⟩ : Addr).add 0 = ⟨W.heap.size, 0, none⟩ from rfl, cell_of_row _ W.heap.size 0 _ 5 (0, 0) (heap_alloc_new W _)]
    simp
    omega)
  exact h

set_option maxRecDepth 100000 in
set_option maxHeartbeats 1000000 in
theorem markText_any (k : Nat) (w : World) (h1 : 1 ≤ k) (h2 : k ≤ 10000000) :
    Calls Tryd.prog 33 #[.int .i64 k] w fun e w' => e = .returned (.string (markS k)) ∧ Below w.heap.size w w' := by
  have d0 : decide ((k : Int) ≤ 0) = false := decide_eq_false (by omega)
  have d1 : decide (k = 0) = false := decide_eq_false (by omega)
  go_enter Tryd.func33, Tryd.ntmps33
  go_wp2
  go_loopw [0, 3] (fun i t wr => ∃ (j f : Nat) (s : ByteArray), j ≤ f ∧ j ≤ k ∧ s.size + j ≤ k ∧ i = .int .i64 j ∧ t = .string s ∧ Hid (digF f j s = digF k k ByteArray.empty) ∧ Hid (Below w.heap.size w wr)) (fun i _ _ => (intOf i).toNat)
  case atStart => exact ⟨k, k, ByteArray.empty, Nat.le_refl _, Nat.le_refl _, by simp, rfl, rfl, rfl, Below.refl _ w⟩
  case round =>
    obtain ⟨j, f, s, hjf, hjk, hsj, rfl, rfl, H, Q⟩ := hrel
    by_cases hj : 0 < j
    · have hcv := dig_conv j wr
      have Z := hide (digF_step hj hjf H.out)
      have hs1 : (ByteArray.mk #[(48 + j % 10).toUInt8]).size = 1 := rfl
      have HS : Hid ((ByteArray.mk #[(48 + j % 10).toUInt8] ++ s).size = 1 + s.size) := hide (by rw [ByteArray.size_append, hs1])
      generalize (ByteArray.mk #[(48 + j % 10).toUInt8]) = d at *
      go_wp2
      go_roundw
      case rel => exact ⟨j / 10, f - 1, d ++ s, by omega, by omega, by rw [HS.out]; omega, by go_num, rfl, Z, Q.out.alloc Q.out.size _⟩
      case measure => simp [intOf]; omega
    · obtain rfl : j = 0 := by omega
      have Z : Hid (markS k = ⟨#[109]⟩ ++ s) := hide (by unfold markS; rw [← digF_zero H.out])
      go_wp2
      go_ret
      exact ⟨ret_str Z.out.symm, Q.out⟩

theorem markText_int (a : Int) (k : Nat) (w : World) (h : a = (k : Int)) (h1 : 1 ≤ k) (h2 : k ≤ 10000000) :
    Calls Tryd.prog 33 #[.int .i64 a] w fun e w' => e = .returned (.string (markS k)) ∧ Below w.heap.size w w' := by subst h; exact markText_any k w h1 h2
/-- n pairs of marks from k on -/
def marks (k n : Nat) : List Pr := (List.range n).map fun i => (markS (k + 2 * i), markS (k + 2 * i + 1))
theorem marks_len (k n : Nat) : (marks k n).length = n := by unfold marks; simp
theorem marks_succ (k n : Nat) : marks k (n + 1) = marks k n ++ [(markS (k + 2 * n), markS (k + 2 * n + 1))] := by unfold marks; rw [List.range_succ, List.map_append]; rfl
theorem marks_get (k n i : Nat) (h : i < (marks k n).length) : (marks k n)[i] = (markS (k + 2 * i), markS (k + 2 * i + 1)) := by simp only [marks, List.getElem_map, List.getElem_range]
theorem marks_step (k : Nat) (l : List Pr) (i : Nat) (h : i < l.length) : (marks k i ++ l.drop i).set i (markS (k + 2 * i), markS (k + 2 * i + 1)) = marks k (i + 1) ++ l.drop (i + 1) := by
  rw [List.set_append_right _ _ (by rw [marks_len]; exact Nat.le_refl _), marks_len, Nat.sub_self, List.drop_eq_getElem_cons h, List.set_cons_zero, marks_succ, List.append_assoc]
  rfl
theorem dig_size : ∀ (f k : Nat) (s : ByteArray), (digF f k s).size ≤ s.size + f
  | 0, _, s => Nat.le_refl _
  | f + 1, k, s => by
    unfold digF
    split
    · omega
    · refine Nat.le_trans (dig_size f _ _) ?_
      rw [ByteArray.size_append]
      show 1 + s.size + f ≤ _
      omega
theorem mark_size (k : Nat) : (markS k).size ≤ k + 1 := by
  unfold markS
  rw [ByteArray.size_append]
  have := dig_size k k ByteArray.empty
  have h0 : ByteArray.empty.size = 0 := rfl
  have h1 : (ByteArray.mk #[109]).size = 1 := rfl
  omega
theorem marks_lens (k n : Nat) (h : k + 2 * n ≤ 10000000) : lens (marks k n) := by
  intro i hi
  rw [marks_get]
  have := marks_len k n
  have h1 := mark_size (k + 2 * i)
  have h2 := mark_size (k + 2 * i + 1)
  unfold maxLen
  constructor <;> simp only <;> omega

/-- the pairs of a row of the call's own are marked; nothing else is turned -/
def MarkRet (k : Nat) (w : World) (B : Nat) (A : Option Addr) (cap n : Nat) (e : Ending) (w' : World) : Prop := e = .returned (.int .i64 (k + 2 * n : Nat)) ∧ Own w' B A cap (marks k n) ∧ w.grownBy w' (rowOf A)

set_option maxRecDepth 100000 in
set_option maxHeartbeats 1000000 in
theorem markPairS_any (A : Option Addr) (l : List Pr) (cap k : Nat) (w : World) (B : Nat) (hk : 1 ≤ k) (hl : k + 2 * l.length ≤ 10000000) (hown : Own w B A cap l) :
    Calls Tryd.prog 13 #[.slice A l.length cap, .int .i64 k] w (MarkRet k w B A cap l.length) := by
  rcases hown.form with ⟨rfl, rfl, rfl⟩ | ⟨g, rfl, hBg, hgw⟩
  · go_enter Tryd.func13, Tryd.ntmps13
    go_wp2
    refine wp_loop_rounds 1 ?_
    rw [rounds_succ]
    go_wp2
    go_ret
    exact ⟨rfl, ⟨marks_lens k 0 (by omega), by simpa [marks] using hown.2⟩, World.grownBy.refl _ _⟩
  · have O0 := hide hown.2
    clear hown
    generalize hn : l.length = n at *
    have HN := hide hn
    clear hn
    go_enter Tryd.func13, Tryd.ntmps13
    go_wp2
    go_loopw [1, 5] (fun q i wr => ∃ j : Nat, j ≤ n ∧ i = .int .i64 j ∧ q = .int .i64 (k + 2 * j : Nat) ∧ Hid (wr.ownsRow B 51 2 (.slice (some ⟨g, 0, none⟩) n cap) n (pcells (marks k j ++ l.drop j))) ∧ Hid (w.grownBy wr (some g))) (fun _ i _ => n - (intOf i).toNat)
    case atStart => exact ⟨0, Nat.zero_le _, rfl, rfl, by simpa [marks] using O0, World.grownBy.refl _ _⟩
    case round =>
      clear O0
      obtain ⟨j, hj, rfl, rfl, O, G⟩ := hrel
      by_cases hlt : j < n
      · have hjl : j < l.length := by rw [HN.out]; omega
        have E := hide (marks_step k l j hjl)
        have hz : g < wr.heap.size := by have := G.out.size; omega
        have LN : Hid ((pcells (marks k j ++ l.drop j)).length = n * 2) := hide (by rw [pcells_length, List.length_append, marks_len, List.length_drop, HN.out]; omega)
        have E2 := hide (pcells_set (marks k j ++ l.drop j) j (markS (k + 2 * j)) (markS (k + 2 * j + 1)))
        rw [E.out] at E2
        have KK : Hid (k + 2 * (j + 1) = k + 2 * j + 1 + 1) := hide (by omega)
        have hkj : k + 2 * j + 2 ≤ 10000000 := by omega
        have hq1 : 1 ≤ k + 2 * j := by omega
        generalize marks k j ++ l.drop j = xs at *
        generalize k + 2 * j = q at *
        clear E
        go_wp2_with fail
        refine (markText_int _ q _ rfl (by omega) (by omega)).mono ?_
        rintro e w2 ⟨rfl, b2⟩
        have O2 := hide (O.out.kept (Below.toGrown b2 none) (.inr (by simp [Value.ownBlock])))
        have G2 := hide (World.grownBy.trans G.out (Below.toGrown b2 (some g)))
        obtain ⟨x1, r1⟩ : ∃ x, w2.cell? ⟨g, j * 2, none⟩ = some x := by rw [O2.out.cellAt (j * 2) (by omega)]; exact ⟨_, List.getElem?_eq_getElem (by rw [LN.out]; omega)⟩
        have f1 := O2.out.frozenAt (j * 2)
        have S2 := hide (O2.out.stored (j * 2) (.string (markS q)))
        clear b2
        generalize markS q = m1 at *
        go_wp2_with fail
        refine (markText_int _ (q + 1) _ (by omega) (by omega) (by omega)).mono ?_
        rintro e w3 ⟨rfl, b3⟩
        have O3 := hide (S2.out.1.kept (Below.toGrown b3 none) (.inr (by simp [Value.ownBlock])))
        have G3 := hide (World.grownBy.trans (World.grownBy.trans G2.out S2.out.2) (Below.toGrown b3 (some g)))
        obtain ⟨x2, r2⟩ : ∃ x, w3.cell? ⟨g, j * 2 + 1, none⟩ = some x := by rw [O3.out.cellAt (j * 2 + 1) (by omega)]; exact ⟨_, List.getElem?_eq_getElem (by rw [List.length_set, LN.out]; omega)⟩
        have f2 := O3.out.frozenAt (j * 2 + 1)
        have S3 := hide (O3.out.stored (j * 2 + 1) (.string (markS (q + 1))))
        clear b3
        generalize markS (q + 1) = m2 at *
        go_wp2
        go_roundw
        case rel =>
          have S4 := S3.out.1
          rw [E2.out] at S4
          exact ⟨j + 1, by omega, by go_num, by rw [KK.out]; go_num, S4, World.grownBy.trans G3.out S3.out.2⟩
        case measure => simp [intOf]; omega
      · obtain rfl : j = n := by omega
        have F : Hid (marks k j ++ l.drop j = marks k j) := hide (by rw [List.drop_of_length_le (by rw [HN.out]; exact Nat.le_refl _), List.append_nil])
        go_wp2
        go_ret
        refine ⟨rfl, ⟨marks_lens k j (by omega), ?_⟩, G.out⟩
        have O2 := O.out
        rw [F.out] at O2
        rw [marks_len]
        exact O2

set_option maxRecDepth 100000 in
set_option maxHeartbeats 1000000 in
theorem heldPairS_any (A : Option Addr) (n cap k : Nat) (w : World) (hk : 1 ≤ k) (hl : k + 2 * n ≤ 10000000) (hin : PIn w w.heap.size A (marks k n)) :
    Calls Tryd.prog 20 #[.slice A n cap, .int .i64 k] w fun e w' => e = .returned (.int .i64 (k + 2 * n : Nat)) ∧ Below w.heap.size w w' := by
  go_enter Tryd.func20, Tryd.ntmps20
  go_wp2
  go_loopw [1, 5] (fun q i wr => ∃ j : Nat, j ≤ n ∧ i = .int .i64 j ∧ q = .int .i64 (k + 2 * j : Nat) ∧ Hid (Below w.heap.size w wr)) (fun _ i _ => n - (intOf i).toNat)
  case atStart => exact ⟨0, Nat.zero_le _, rfl, rfl, Below.refl _ w⟩
  case round =>
    obtain ⟨j, hj, rfl, rfl, Q⟩ := hrel
    by_cases hlt : j < n
    · have hin2 := (hin.below Q.out).more Q.out.size
      have hjl : j < (marks k n).length := by rw [marks_len]; exact hlt
      obtain ⟨b, off, rfl, hbB, hc⟩ := hin2.2 (by omega)
      obtain ⟨c1, c2⟩ := hc j hjl
      rw [marks_get] at c1 c2
      simp only at c1 c2
      have KK : Hid (k + 2 * (j + 1) = k + 2 * j + 1 + 1) := hide (by omega)
      have hkj : k + 2 * j + 2 ≤ 10000000 := by omega
      have hq1 : 1 ≤ k + 2 * j := by omega
      clear hc hin2 hjl
      generalize k + 2 * j = q at *
      have M1 := fun W => markText_int (q : Int) q W rfl (by omega) (by omega)
      have M2 := fun W => markText_int ((q : Int) + 1) (q + 1) W (by omega) (by omega) (by omega)
      have M1h := hide M1
      have M2h := hide M2
      clear M1 M2
      generalize markS q = m1 at *
      generalize markS (q + 1) = m2 at *
      have e1 : (m1.toList == m1.toList) = true := by simp
      have e2 : (m2.toList == m2.toList) = true := by simp
      go_wp2
      go_region_held3 (fun w' => w'.cell? ⟨b, off + j * 2, none⟩ = some (.string m1)) (first | go_keep | exact cellB b2 (by simp; omega) (by simpa using c1))
        (first | (go_at_call 33; refine (M1h.out _).mono ?_; rintro e w2 ⟨rfl, b2⟩))
      have Q2 := hide (Q.out.trans (((Below.refl _ wr).drew).trans (b2.mono (by exact Q.out.size))))
      have c3 : w2.cell? ⟨b, off + j * 2 + 1, none⟩ = some (.string m2) := cellB b2 (by simpa using hbB) (by simpa using c2)
      have hb2 : b < w2.heap.size := by have := b2.size; simp at this; omega
      clear c1 c2 b2
      go_wp2
      go_region_held3 (fun w' => w'.cell? ⟨b, off + j * 2 + 1, none⟩ = some (.string m2)) (first | go_keep | exact cellB b3 (by simp; omega) (by simpa using c3))
        (first | (go_at_call 33; refine (M2h.out _).mono ?_; rintro e w3 ⟨rfl, b3⟩))
      have Q3 := hide (Q2.out.trans (((Below.refl _ w2).drew).trans (b3.mono (by exact Q2.out.size))))
      clear b3 c3
      go_wp2
      go_roundw
      case rel => exact ⟨j + 1, by omega, by go_num, by rw [KK.out]; go_num, Q3.out⟩
      case measure => simp [intOf]; omega
    · go_wp2
      go_ret
      obtain rfl : j = n := by omega
      exact ⟨rfl, Q.out⟩
end Go.Proofs.YtkhkcdmmagicmaaDoor
