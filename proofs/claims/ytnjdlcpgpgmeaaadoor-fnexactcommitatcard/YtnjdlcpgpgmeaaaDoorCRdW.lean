/-
  The walk of impl's commitReader.commit.
-/
import Derived.Test.YtnjdlcpgpgmeaaaDoorCRdC
import Derived.StillTailTactics
import Derived.RegionTactic
import Derived.RegionDies
namespace Go.Proofs.YtnjdlcpgpgmeaaaDoor
open Go.RowKit

def RetRd (s : ByteArray) (rb : Nat) (a : Addr) (w : World) (e : Ending) (w' : World) : Prop :=
  Below rb w w' ∧ ((∃ A cap t ps m, isCom s (t, ps, m) ∧ e = .returned (.agg #[.string t, .slice A ps.length cap, .string m]) ∧ ZOwn w' (w.heap.size + 1 + 1) A cap ps) ∨ ((¬ ∃ c, isCom s c) ∧ e = pan a))
theorem split_at {r : ByteArray} {n : Nat} (h : n ≤ r.size) : ∃ x r' : ByteArray, x.size = n ∧ r.data.toList = x.data.toList ++ r'.data.toList :=
  ⟨⟨(r.data.toList.take n).toArray⟩, ⟨(r.data.toList.drop n).toArray⟩, by
    show (r.data.toList.take n).toArray.size = n
    have h2 : r.data.toList.length = r.size := by simp
    rw [List.size_toArray, List.length_take, h2]
    omega, by simp⟩
theorem pre_rest {r : ByteArray} {l : List UInt8} (h : l <+: r.data.toList) : ∃ r' : ByteArray, r.data.toList = l ++ r'.data.toList := by
  obtain ⟨x, hx⟩ := h
  exact ⟨⟨x.toArray⟩, by simp [hx]⟩
theorem head_rest {r : ByteArray} {c : UInt8} (h : r.data.toList.head? = some c) : ∃ r' : ByteArray, r.data.toList = c :: r'.data.toList := by
  cases hl : r.data.toList with
  | nil => rw [hl] at h; cases h
  | cons x y => rw [hl] at h; simp at h; subst h; exact ⟨⟨y.toArray⟩, by simp⟩
theorem head_not {r : ByteArray} {c : UInt8} (h : ¬ r.data.toList.head? = some c) : ¬ (ByteArray.mk #[c]).data.toList <+: r.data.toList := by
  rintro ⟨x, hx⟩
  exact h (by rw [← hx]; rfl)
theorem left_len {s t m : ByteArray} {ps : List ByteArray} {x : UInt8} (h : Left s t ps (x :: m.data.toList)) : m.size ≤ s.size := by
  have := congrArg List.length h.1
  simp at this
  omega
theorem ZOwn.sin16 {w : World} {B : Nat} {A : Option Addr} {cap : Nat} {l : List ByteArray} (h : ZOwn w B A cap l) (hs : ∀ p ∈ l, p.size = 16) : SIn w w.heap.size A l := ⟨fun i hi => by have := hs _ (List.getElem_mem hi); unfold maxLen; omega, h.zin⟩

set_option maxRecDepth 100000 in
set_option maxHeartbeats 4000000 in
theorem commit_any (rb : Nat) (s : ByteArray) (a : Addr) (w : World) (hs : s.size ≤ maxLen) (hb : rb < w.heap.size) (hG : 0 < rb) (hw : RdR w rb s) (hE : ErrC w a) :
    Calls Tryd.prog 30 #[.pointer (some ⟨rb, 0, none⟩)] w (RetRd s rb a w) := by
  have S0 := hide (St.start hw hb)
  have EE := hide hE
  clear hw hE
  go_enter Tryd.func30, Tryd.ntmps30
  go_wp2_with fail
  by_cases h1 : comW <+: s.data.toList
  case neg =>
    refine (skip_no rb s _ a _ S0.out.rd (EE.out.belowB S0.out.bl hG) h1).mono ?_
    rintro e w1 ⟨rfl, rfl⟩
    exact ⟨rfl, S0.out.bl, .inr ⟨no_start h1, rfl⟩⟩
  obtain ⟨r1, hr1⟩ := pre_rest h1
  refine (skip_yes rb s _ r1 _ S0.out.rd hr1).mono ?_
  rintro e w1 ⟨rfl, hw1⟩
  have S1 : Hid (St w w1 rb w.heap.size r1 ByteArray.empty none 0 [] ByteArray.empty) := hide (hw1 ▸ S0.out.setR r1)
  have R1 := hide hr1
  clear hw1 hr1 S0 h1
  go_wp2_with fail
  by_cases h2 : 16 ≤ r1.size
  case neg =>
    refine (id_no rb r1 a _ S1.out.rd (EE.out.belowB S1.out.bl hG) (by show r1.size < 16; omega)).mono ?_
    rintro e w2 ⟨rfl, rfl⟩
    exact ⟨rfl, S1.out.bl, .inr ⟨no_tree R1.out (by show r1.size < 16; omega), rfl⟩⟩
  obtain ⟨t, r2, ht, hr2⟩ := split_at h2
  refine (id_yes rb r1 t r2 _ S1.out.rd ht hr2).mono ?_
  rintro e w2 ⟨rfl, hw2⟩
  have S2 : Hid (St w w2 rb w.heap.size r2 ByteArray.empty none 0 [] ByteArray.empty) := hide (hw2 ▸ S1.out.setR r2)
  have L2 : Hid (Left s t [] r2.data.toList) := hide (left_tree (by rw [R1.out, hr2]) ht)
  clear hw2 hr2 h2 S1 R1
  obtain ⟨-, x0, -, -, f0, -, -⟩ := S2.out.cells
  have S3 := hide (S2.out.setT t)
  clear S2
  go_wp2
  go_loopw [] (fun wr => ∃ (r : ByteArray) (ps : List ByteArray) (A : Option Addr) (cap : Nat), ps.length ≤ 2 ∧ Hid (Left s t ps r.data.toList) ∧ Hid (St w wr rb w.heap.size r t A cap ps ByteArray.empty)) (fun wr => 2 - lenAt wr ⟨w.heap.size + 1, 1, none⟩)
  case atStart => exact ⟨r2, [], none, 0, by simp, L2, S3⟩
  case round =>
    clear L2 S3 x0 f0
    obtain ⟨r, ps, A, cap, hps, L, S⟩ := hrel
    obtain ⟨y0, -, y1, -, -, f1, -⟩ := S.out.cells
    have Y := hide (lenAt_of y1)
    by_cases hlt : ps.length < 2
    · have hlti : (ps.length : Int) < 2 := by omega
      by_cases hh : r.data.toList.head? = some 32
      · obtain ⟨r3, hr3⟩ := head_rest hh
        have hd := decide_eq_true hh
        have HP := hide (hasPrefix_any r 32)
        rw [hd] at HP
        go_wp2_with (go_at_call 38; refine (HP.out wr).mono ?_; rintro e w' ⟨rfl, rfl⟩)
        refine (skip_yes rb r ⟨#[32]⟩ r3 _ S.out.rd hr3).mono ?_
        rintro e w3 ⟨rfl, hw3⟩
        have S3 : Hid (St w w3 rb w.heap.size r3 t A cap ps ByteArray.empty) := hide (hw3 ▸ S.out.setR r3)
        have L3 : Hid (Left s t ps (32 :: r3.data.toList)) := hide (hr3 ▸ L.out)
        clear hw3 hr3 S L y0 y1 f1 hd HP hh
        by_cases h16 : 16 ≤ r3.size
        · obtain ⟨p, r4, hp, hr4⟩ := split_at h16
          have L4 : Hid (Left s t (ps ++ [p]) r4.data.toList) := hide (left_parent (by rw [← hr4]; exact L3.out) hp)
          have S3d := hide S3.out.drew
          have y1 := S3d.out.cells.2.2.1
          have hl1 : (ps ++ [p]).length = ps.length + 1 := by simp
          clear S3 L3 h16
          go_wp2_with fail
          go_region_law (first
            | (refine step_appZ (n := ps.length) (m := 1) (A := A) (cap := cap) (A' := some ⟨w4.heap.size, 0, none⟩) (c := 1) (l := ps) (l' := [p]) 24 Tryd.underlying24 rfl (.tmp 23) (.tmp 26) rfl (by simp [Act.eval]) (by simp [Act.eval]) rfl rfl (S4.out.own.alloc _) (ZIn.one p _ rfl) (Nat.le_trans S4.out.sz (by simp)) (by simp; omega) ?_; intro A5 cap5 w5 own5 g5 r5; have B5 := hide (((Below.refl (w.heap.size + 1 + 1) w4).alloc S4.out.sz (.cells #[Value.string p] 9)).trans ((S4.out.own.alloc (.cells #[Value.string p] 9)).grownBelow g5 (Nat.le_trans S4.out.sz (by simp)))); have O5 := hide own5; have z5 := cellB B5.out (show w.heap.size + 1 < w.heap.size + 1 + 1 by omega) S4.out.cells.2.2.1; have zf5 : w5.frozen? ⟨w.heap.size + 1, 1, none⟩ = false := (B5.out.frozen (p := ⟨w.heap.size + 1, 1, none⟩) (by show w.heap.size + 1 < w.heap.size + 1 + 1; omega)).trans S4.out.cells.2.2.2.2.2.1; clear own5 g5 r5)
            | (go_simp; go_at_call 37; refine (id_yes rb r3 p r4 _ S3d.out.rd hp hr4).mono ?_; rintro e w4 ⟨rfl, hw4⟩; have S4 : Hid (St w w4 rb w.heap.size r4 t A cap ps ByteArray.empty) := hide (hw4 ▸ S3d.out.setR r4); have z4 := S4.out.cells.2.2.1; have z4a := cellB ((Below.refl w4.heap.size w4).alloc (Nat.le_refl _) (.cells #[Value.string p] 9)) (show w.heap.size + 1 < w4.heap.size by have := S4.out.sz; omega) S4.out.cells.2.2.1; clear hw4))
          all_goals
            have S6 := hide (S4.out.more B5.out O5.out)
            have y6 := lenAt_of S6.out.cells.2.2.1
            rw [hl1] at S6 y6
            go_wp2
            exact ⟨⟨r4, ps ++ [p], A5, cap5, by rw [hl1]; omega, L4, S6⟩, by rw [y6, Y.out]; omega⟩
        · have S3d := hide S3.out.drew
          have y1 := S3d.out.cells.2.2.1
          have h16' : r3.data.toList.length < 16 := by show r3.size < 16; omega
          go_wp2_with fail
          go_region_dies
          all_goals
            go_at_call 37
            refine (id_no rb r3 a _ S3d.out.rd (EE.out.belowB S3d.out.bl hG) h16').mono ?_
            rintro e w4 ⟨rfl, rfl⟩
            exact ⟨rfl, S3d.out.bl, .inr ⟨left_short L3.out h16', rfl⟩⟩
      · have HP := hide (hasPrefix_any r 32)
        rw [decide_eq_false hh] at HP
        go_wp2_with (go_at_call 38; refine (HP.out wr).mono ?_; rintro e w' ⟨rfl, rfl⟩)
        by_cases h10 : r.data.toList.head? = some 10
        case neg =>
          refine (skip_no rb r ⟨#[10]⟩ a _ S.out.rd (EE.out.belowB S.out.bl hG) (head_not h10)).mono ?_
          rintro e w3 ⟨rfl, rfl⟩
          exact ⟨rfl, S.out.bl, .inr ⟨left_end L.out (.inr hh) h10, rfl⟩⟩
        obtain ⟨m, hm⟩ := head_rest h10
        refine (skip_yes rb r ⟨#[10]⟩ m _ S.out.rd hm).mono ?_
        rintro e w3 ⟨rfl, hw3⟩
        have S3 : Hid (St w w3 rb w.heap.size m t A cap ps ByteArray.empty) := hide (hw3 ▸ S.out.setR m)
        have L3 : Hid (Left s t ps (10 :: m.data.toList)) := hide (hm ▸ L.out)
        have hms : m.size ≤ maxLen := Nat.le_trans (left_len L3.out) hs
        clear hw3 hm S L y0 y1 f1 h10 Y
        obtain ⟨z0, z1, z2, z3, -, -, f2⟩ := S3.out.cells
        have S4 := hide (S3.out.setM m)
        clear S3
        go_wp2_with fail
        refine (implCommitOk_any t m A ps cap _ (by rw [ht]; unfold maxLen; omega) hms (by unfold maxLen; omega) (S4.out.own.sin16 L3.out.2.2.1)).mono ?_
        rintro e w5 ⟨rfl, q5⟩
        have S5 := hide (S4.out.below q5)
        clear q5 S4 z0 z1 z2 z3 f2
        cases hc : comB t ps m
        · have x0 := (EE.out.belowB S5.out.bl hG).1
          go_wp2
          exact ⟨rfl, S5.out.bl, .inr ⟨(left_note L3.out).2 hc, rfl⟩⟩
        · obtain ⟨-, z1, z2, z3, -, -, -⟩ := S5.out.cells
          obtain ⟨g1, g2, g3, k1, k2, k3⟩ := S5.out.cells1
          have hrb : rb ≤ w.heap.size := by omega
          have O5 := hide (ownsRow_setCell_below (ownsRow_setCell_below (ownsRow_setCell_below S5.out.own (a := ⟨w.heap.size, 0, none⟩) (by show w.heap.size < _; omega) (.string t)) (a := ⟨w.heap.size, 1, none⟩) (by show w.heap.size < _; omega) (.slice A ps.length cap)) (a := ⟨w.heap.size, 2, none⟩) (by show w.heap.size < _; omega) (.string m))
          have B5 := hide (((S5.out.bl.setCell (p := ⟨w.heap.size, 0, none⟩) hrb (.string t)).setCell (p := ⟨w.heap.size, 1, none⟩) hrb (.slice A ps.length cap)).setCell (p := ⟨w.heap.size, 2, none⟩) hrb (.string m))
          go_wp2
          exact bodyPost_ret (v := .agg #[.string t, .slice A ps.length cap, .string m]) (by simp [results, Tryd.results30, go_sem, g1, g2, g3]) rfl ⟨B5.out, .inl ⟨A, cap, t, ps, m, (left_note L3.out).1 hc, rfl, O5.out⟩⟩
    · have hlti : ¬ (ps.length : Int) < 2 := by omega
      go_wp2_with fail
      by_cases h10 : r.data.toList.head? = some 10
      case neg =>
        refine (skip_no rb r ⟨#[10]⟩ a _ S.out.rd (EE.out.belowB S.out.bl hG) (head_not h10)).mono ?_
        rintro e w3 ⟨rfl, rfl⟩
        exact ⟨rfl, S.out.bl, .inr ⟨left_end L.out (.inl (by omega)) h10, rfl⟩⟩
      obtain ⟨m, hm⟩ := head_rest h10
      refine (skip_yes rb r ⟨#[10]⟩ m _ S.out.rd hm).mono ?_
      rintro e w3 ⟨rfl, hw3⟩
      have S3 : Hid (St w w3 rb w.heap.size m t A cap ps ByteArray.empty) := hide (hw3 ▸ S.out.setR m)
      have L3 : Hid (Left s t ps (10 :: m.data.toList)) := hide (hm ▸ L.out)
      have hms : m.size ≤ maxLen := Nat.le_trans (left_len L3.out) hs
      clear hw3 hm S L y0 y1 f1 h10 Y
      obtain ⟨z0, z1, z2, z3, -, -, f2⟩ := S3.out.cells
      have S4 := hide (S3.out.setM m)
      clear S3
      go_wp2_with fail
      refine (implCommitOk_any t m A ps cap _ (by rw [ht]; unfold maxLen; omega) hms (by unfold maxLen; omega) (S4.out.own.sin16 L3.out.2.2.1)).mono ?_
      rintro e w5 ⟨rfl, q5⟩
      have S5 := hide (S4.out.below q5)
      clear q5 S4 z0 z1 z2 z3 f2
      cases hc : comB t ps m
      · have x0 := (EE.out.belowB S5.out.bl hG).1
        go_wp2
        exact ⟨rfl, S5.out.bl, .inr ⟨(left_note L3.out).2 hc, rfl⟩⟩
      · obtain ⟨-, z1, z2, z3, -, -, -⟩ := S5.out.cells
        obtain ⟨g1, g2, g3, k1, k2, k3⟩ := S5.out.cells1
        have hrb : rb ≤ w.heap.size := by omega
        have O5 := hide (ownsRow_setCell_below (ownsRow_setCell_below (ownsRow_setCell_below S5.out.own (a := ⟨w.heap.size, 0, none⟩) (by show w.heap.size < _; omega) (.string t)) (a := ⟨w.heap.size, 1, none⟩) (by show w.heap.size < _; omega) (.slice A ps.length cap)) (a := ⟨w.heap.size, 2, none⟩) (by show w.heap.size < _; omega) (.string m))
        have B5 := hide (((S5.out.bl.setCell (p := ⟨w.heap.size, 0, none⟩) hrb (.string t)).setCell (p := ⟨w.heap.size, 1, none⟩) hrb (.slice A ps.length cap)).setCell (p := ⟨w.heap.size, 2, none⟩) hrb (.string m))
        go_wp2
        exact bodyPost_ret (v := .agg #[.string t, .slice A ps.length cap, .string m]) (by simp [results, Tryd.results30, go_sem, g1, g2, g3]) rfl ⟨B5.out, .inl ⟨A, cap, t, ps, m, (left_note L3.out).1 hc, rfl, O5.out⟩⟩
end Go.Proofs.YtnjdlcpgpgmeaaaDoor
