/-
  What laws.markStringS and laws.heldStringS answer over rows of texts of the call's own.
-/
import Derived.Test.YtpnbolekhgcacaaDoorCRow
import Derived.Test.YtpnbolekhgcacaaDoorLMarkT
namespace Go.Proofs.YtpnbolekhgcacaaDoor
open Go.RowKit

/-- n marks from k on -/
def marksZ (k n : Nat) : List ByteArray := (List.range n).map fun i => markS (k + i)
theorem marksZ_len (k n : Nat) : (marksZ k n).length = n := by unfold marksZ; simp
theorem marksZ_succ (k n : Nat) : marksZ k (n + 1) = marksZ k n ++ [markS (k + n)] := by unfold marksZ; rw [List.range_succ, List.map_append]; rfl
theorem marksZ_get (k n i : Nat) (h : i < (marksZ k n).length) : (marksZ k n)[i] = markS (k + i) := by simp only [marksZ, List.getElem_map, List.getElem_range]
theorem marksZ_step (k : Nat) (l : List ByteArray) (i : Nat) (h : i < l.length) : (marksZ k i ++ l.drop i).set i (markS (k + i)) = marksZ k (i + 1) ++ l.drop (i + 1) := by
  rw [List.set_append_right _ _ (by rw [marksZ_len]; exact Nat.le_refl _), marksZ_len, Nat.sub_self, List.drop_eq_getElem_cons h, List.set_cons_zero, marksZ_succ, List.append_assoc]
  rfl
def MarkRetZ (k : Nat) (w : World) (B : Nat) (A : Option Addr) (cap n : Nat) (e : Ending) (w' : World) : Prop := e = .returned (.int .i64 (k + n : Nat)) ∧ ZOwn w' B A cap (marksZ k n) ∧ w.grownBy w' (rowOf A)

set_option maxRecDepth 100000 in
set_option maxHeartbeats 1000000 in
theorem markStringS_any (A : Option Addr) (l : List ByteArray) (cap k : Nat) (w : World) (B : Nat) (hk : 1 ≤ k) (hl : k + l.length ≤ 10000000) (hown : ZOwn w B A cap l) :
    Calls Tryd.prog 11 #[.slice A l.length cap, .int .i64 k] w (MarkRetZ k w B A cap l.length) := by
  rcases hown.form with ⟨rfl, rfl, rfl⟩ | ⟨g, rfl, hBg, hgw⟩
  · go_enter Tryd.func11, Tryd.ntmps11
    go_wp2
    refine wp_loop_rounds 1 ?_
    rw [rounds_succ]
    go_wp2
    go_ret
    exact ⟨rfl, by simpa [marksZ] using hown, World.grownBy.refl _ _⟩
  · have O0 : Hid (w.ownsRow B 9 1 (.slice (some ⟨g, 0, none⟩) l.length cap) l.length (l.map Value.string)) := hide hown
    clear hown
    generalize hn : l.length = n at *
    have HN := hide hn
    clear hn
    go_enter Tryd.func11, Tryd.ntmps11
    go_wp2
    go_loopw [1, 5] (fun q i wr => ∃ j : Nat, j ≤ n ∧ i = .int .i64 j ∧ q = .int .i64 (k + j : Nat) ∧ Hid (wr.ownsRow B 9 1 (.slice (some ⟨g, 0, none⟩) n cap) n ((marksZ k j ++ l.drop j).map Value.string)) ∧ Hid (w.grownBy wr (some g))) (fun _ i _ => n - (intOf i).toNat)
    case atStart => exact ⟨0, Nat.zero_le _, rfl, rfl, by simpa [marksZ] using O0, World.grownBy.refl _ _⟩
    case round =>
      clear O0
      obtain ⟨j, hj, rfl, rfl, O, G⟩ := hrel
      by_cases hlt : j < n
      · have hjl : j < l.length := by rw [HN.out]; omega
        have E := hide (marksZ_step k l j hjl)
        have hz : g < wr.heap.size := by have := G.out.size; omega
        have LN : Hid ((marksZ k j ++ l.drop j).length = n) := hide (by rw [List.length_append, marksZ_len, List.length_drop, HN.out]; omega)
        have E2 : Hid (((marksZ k j ++ l.drop j).map Value.string).set j (.string (markS (k + j))) = (marksZ k (j + 1) ++ l.drop (j + 1)).map Value.string) := hide (by rw [← List.map_set, E.out])
        have KK : Hid (k + (j + 1) = k + j + 1) := hide (by omega)
        have hkj : k + j + 1 ≤ 10000000 := by omega
        have hq1 : 1 ≤ k + j := by omega
        generalize marksZ k j ++ l.drop j = xs at *
        generalize k + j = q at *
        clear E
        go_wp2_with fail
        refine (markText_int _ q _ rfl (by omega) (by omega)).mono ?_
        rintro e w2 ⟨rfl, b2⟩
        have O2 := hide (O.out.kept (Below.toGrown b2 none) (.inr (by simp [Value.ownBlock])))
        have G2 := hide (World.grownBy.trans G.out (Below.toGrown b2 (some g)))
        obtain ⟨x1, r1⟩ : ∃ x, w2.cell? ⟨g, j, none⟩ = some x := by rw [O2.out.cellAt j (by omega)]; exact ⟨_, List.getElem?_eq_getElem (by rw [List.length_map, LN.out]; omega)⟩
        have f1 := O2.out.frozenAt j
        have S2 := hide (O2.out.stored j (.string (markS q)))
        clear b2
        generalize markS q = m1 at *
        go_wp2
        go_roundw
        case rel =>
          have S4 := S2.out.1
          rw [E2.out] at S4
          exact ⟨j + 1, by omega, by go_num, by rw [KK.out]; go_num, S4, World.grownBy.trans G2.out S2.out.2⟩
        case measure => simp [intOf]; omega
      · obtain rfl : j = n := by omega
        have F : Hid (marksZ k j ++ l.drop j = marksZ k j) := hide (by rw [List.drop_of_length_le (by rw [HN.out]; exact Nat.le_refl _), List.append_nil])
        go_wp2
        go_ret
        refine ⟨rfl, ?_, G.out⟩
        have O2 := O.out
        rw [F.out] at O2
        unfold ZOwn
        rw [marksZ_len]
        exact O2
theorem markStringS_int (A : Option Addr) (l : List ByteArray) (cap : Nat) (x : Int) (k : Nat) (w : World) (B : Nat) (h : x = (k : Int)) (hk : 1 ≤ k) (hl : k + l.length ≤ 10000000) (hown : ZOwn w B A cap l) :
    Calls Tryd.prog 11 #[.slice A l.length cap, .int .i64 x] w (MarkRetZ k w B A cap l.length) := by subst h; exact markStringS_any A l cap k w B hk hl hown

set_option maxRecDepth 100000 in
set_option maxHeartbeats 1000000 in
theorem heldStringS_any (A : Option Addr) (n cap : Nat) (x : Int) (k : Nat) (w : World) (hx : x = (k : Int)) (hk : 1 ≤ k) (hl : k + n ≤ 10000000) (hin : ZIn w w.heap.size A (marksZ k n)) :
    Calls Tryd.prog 12 #[.slice A n cap, .int .i64 x] w fun e w' => e = .returned (.int .i64 (k + n : Nat)) ∧ Below w.heap.size w w' := by
  subst hx
  go_enter Tryd.func12, Tryd.ntmps12
  go_wp2
  go_loopw [1, 5] (fun q i wr => ∃ j : Nat, j ≤ n ∧ i = .int .i64 j ∧ q = .int .i64 (k + j : Nat) ∧ Hid (Below w.heap.size w wr)) (fun _ i _ => n - (intOf i).toNat)
  case atStart => exact ⟨0, Nat.zero_le _, rfl, rfl, Below.refl _ w⟩
  case round =>
    obtain ⟨j, hj, rfl, rfl, Q⟩ := hrel
    by_cases hlt : j < n
    · have hin2 := (hin.below Q.out).more Q.out.size
      have hjl : j < (marksZ k n).length := by rw [marksZ_len]; exact hlt
      obtain ⟨b, off, rfl, hbB, hc⟩ := hin2 (by omega)
      have c1 := hc j hjl
      rw [marksZ_get] at c1
      have KK : Hid (k + (j + 1) = k + j + 1) := hide (by omega)
      have hkj : k + j + 1 ≤ 10000000 := by omega
      have hq1 : 1 ≤ k + j := by omega
      clear hc hin2 hjl
      generalize k + j = q at *
      have M1 := fun W => markText_int (q : Int) q W rfl (by omega) (by omega)
      have M1h := hide M1
      clear M1
      generalize markS q = m1 at *
      have e1 : (m1.toList == m1.toList) = true := by simp
      go_wp2
      go_region_held3 (fun w' => w'.cell? ⟨b, off + j, none⟩ = some (.string m1)) (first | go_keep | exact cellB b2 (by simp; omega) (by simpa using c1))
        (first | (go_at_call 20; refine (M1h.out _).mono ?_; rintro e w2 ⟨rfl, b2⟩))
      have Q2 := hide (Q.out.trans (((Below.refl _ wr).drew).trans (b2.mono (by exact Q.out.size))))
      clear b2 c1
      go_wp2
      go_roundw
      case rel => exact ⟨j + 1, by omega, by go_num, by rw [KK.out]; go_num, Q2.out⟩
      case measure => simp [intOf]; omega
    · go_wp2
      go_ret
      obtain rfl : j = n := by omega
      exact ⟨rfl, Q.out⟩
end Go.Proofs.YtpnbolekhgcacaaDoor
