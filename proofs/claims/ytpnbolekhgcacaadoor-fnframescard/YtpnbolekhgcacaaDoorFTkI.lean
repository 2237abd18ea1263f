/-
  What impl.takeFrame answers.
-/
import Derived.Test.YtpnbolekhgcacaaDoorFSum
import Derived.Test.YtpnbolekhgcacaaDoorPStr0
import Derived.Laws.BitsLemmas
namespace Go.Proofs.YtpnbolekhgcacaaDoor
open Go.RowKit

open Classical in
noncomputable def fOkB (s : ByteArray) (p : Nat) : Bool := decide (okAt s p)
open Classical in
theorem fOk_yes {s : ByteArray} {p : Nat} (h : okAt s p) : fOkB s p = true := by unfold fOkB; exact decide_eq_true h
open Classical in
theorem fOk_no {s : ByteArray} {p : Nat} (h : ¬ okAt s p) : fOkB s p = false := by unfold fOkB; exact decide_eq_false h
open Classical in
noncomputable def datB (s : ByteArray) (p : Nat) : ByteArray := if okAt s p then dataAt s p else ByteArray.empty
theorem datB_yes {s : ByteArray} {p : Nat} (h : okAt s p) : datB s p = dataAt s p := if_pos h
theorem datB_no {s : ByteArray} {p : Nat} (h : ¬ okAt s p) : datB s p = ByteArray.empty := if_neg h
theorem ba_app_inj {a b c d : ByteArray} (h : a ++ b = c ++ d) (hs : a.size = c.size) : a = c ∧ b = d := by
  have h1 : a.data.toList ++ b.data.toList = c.data.toList ++ d.data.toList := by
    have := congrArg (fun x : ByteArray => x.data.toList) h
    simpa [ByteArray.data_append] using this
  obtain ⟨x, y⟩ := List.append_inj h1 (by rw [len_list, len_list]; exact hs)
  exact ⟨ba_eq x, ba_eq y⟩
/-- the head of what is there is right just when the sum is -/
theorem head_iff {s : ByteArray} {p : Nat} (h1 : p + 8 ≤ s.size) (h3 : p + 8 + sizeAt s p ≤ s.size) : headF (dataAt s p) = s.extract p (p + 8) ↔ strOfNums (le4 (crcN (dataAt s p))) = s.extract (p + 4) (p + 8) := by
  have hz : (dataAt s p).size = sizeAt s p := by unfold dataAt; rw [ByteArray.size_extract]; omega
  have e : headF (dataAt s p) = s.extract p (p + 4) ++ strOfNums (le4 (crcN (dataAt s p))) := by
    unfold headF
    rw [nums_app, hz, be4_at s p (by omega)]
  rw [e, ← ext_join s (show p ≤ p + 4 by omega) (show p + 4 ≤ p + 8 by omega)]
  constructor
  · intro h
    exact (ba_app_inj h rfl).2
  · intro h
    rw [h]
theorem from_eq {s : ByteArray} {p : Nat} (hp : p ≤ s.size) : (okAt (s.extract p s.size) 0 ↔ okAt s p) ∧ sizeAt (s.extract p s.size) 0 = sizeAt s p ∧ dataAt (s.extract p s.size) 0 = dataAt s p := by
  have hsz : (s.extract p s.size).size = s.size - p := by rw [ByteArray.size_extract]; omega
  have hz : sizeAt (s.extract p s.size) 0 = sizeAt s p := by
    unfold sizeAt
    rw [byN_from, byN_from, byN_from, byN_from]
    simp
  have hx : ∀ a b, (s.extract p s.size).extract a b = s.extract (p + a) (p + b) := fun a b => by
    apply ba_eq
    rw [ext_list, ext_list, ext_list, List.drop_take, List.drop_drop, List.take_take, show p + b - (p + a) = b - a by omega]
    rw [List.take_eq_take_iff, List.length_drop, len_list]
    omega
  have hd : dataAt (s.extract p s.size) 0 = dataAt s p := by
    unfold dataAt
    rw [hz, hx]
    congr 1 <;> omega
  refine ⟨?_, hz, hd⟩
  unfold okAt
  rw [hsz, hz, hd, hx]
  simp only [Nat.zero_add]
  constructor
  · rintro ⟨h1, h2, h3, h4⟩
    exact ⟨by omega, h2, by omega, h4⟩
  · rintro ⟨h1, h2, h3, h4⟩
    exact ⟨by omega, h2, by omega, h4⟩
theorem wraps_i64 (n : Int) (h0 : 0 ≤ n) (h1 : n < 2 ^ 62) : IntKind.i64.wrap n = n := by rw [IntKind.wrap_i64]; omega
theorem or_join (i : Nat) (x y : Int) (hx0 : 0 ≤ x) (hx : x % 2 ^ i = 0) (hx1 : x < 2 ^ 62) (hy0 : 0 ≤ y) (hy : y < 2 ^ i) (hy1 : y < 2 ^ 62) : bits .or .i64 x y = x + y :=
  bits_join .i64 62 (by decide) wraps_i64 i x y hx0 hx hx1 hy0 hy hy1
theorem neS_yes' {a b : ByteArray} (h : ¬ a = b) : (a.toList != b.toList) = true := by rw [bne, eqS_no h]; rfl
theorem neS_no' {a b : ByteArray} (h : a = b) : (a.toList != b.toList) = false := by rw [bne, eqS_yes h]; rfl
set_option maxRecDepth 100000 in
set_option maxHeartbeats 1000000 in
theorem takeFrame_any (t : ByteArray) (w : World) (hs : t.size ≤ 1048576) (hT : Rows16 w) :
    Calls Tryd.prog 19 #[.string t] w fun e w' => e = .returned (.tuple #[.string (datB t 0), .bool (fOkB t 0)]) ∧ Below w.heap.size w w' := by
  by_cases h8 : t.size < 8
  · have no : ¬ okAt t 0 := fun h => by have := h.1; omega
    have E1 := hide (fOk_no no)
    have E2 := hide (datB_no no)
    go_enter Tryd.func19, Tryd.ntmps19
    go_wp2
    go_ret2
    exact ⟨by rw [E1.out, E2.out]; rfl, Below.refl _ _⟩
  · have HT := hide hT
    clear hT
    have zx : (t.extract 0 8).size = 8 := by rw [ByteArray.size_extract]; omega
    have zy : (t.extract 8 t.size).size = t.size - 8 := by rw [ByteArray.size_extract]; omega
    have bx : ∀ j, (hj : j < 8) → ((t.extract 0 8)[j]'(by omega)).toNat = byN t j := fun j hj => by rw [← byN_in (s := t.extract 0 8) (by omega), byN_cut t 8 j hj]
    have b0 := bx 0 (by omega)
    have b1 := bx 1 (by omega)
    have b2 := bx 2 (by omega)
    have b3 := bx 3 (by omega)
    have l0 := byN_lt t 0
    have l1 := byN_lt t 1
    have l2 := byN_lt t 2
    have l3 := byN_lt t 3
    have SZ : Hid (sizeAt t 0 = 16777216 * byN t 0 + 65536 * byN t 1 + 256 * byN t 2 + byN t 3) := hide rfl
    have HH := hide (head_iff (s := t) (p := 0) (by omega))
    have DD : Hid (∀ n, (t.extract 8 t.size).extract 0 n = t.extract 8 (8 + n) ∨ t.size < 8 + n) := hide (fun n => by
      by_cases hn : t.size < 8 + n
      · exact .inr hn
      · refine .inl (ba_eq ?_)
        rw [ext_list, ext_list, ext_list, List.drop_zero, List.take_take]
        congr 1
        omega)
    clear bx
    generalize byN t 0 = a0 at *
    generalize byN t 1 = a1 at *
    generalize byN t 2 = a2 at *
    generalize byN t 3 = a3 at *
    go_enter Tryd.func19, Tryd.ntmps19
    go_wp2
    go_quiet (fail)
    go_wp2
    have BQ0 : Hid (Below w.heap.size w (w.drewN nq)) := hide ⟨rfl, rfl, rfl, Nat.le_refl _, fun _ _ => rfl⟩
    generalize w.drewN nq = wq at *
    go_quiet (fail)
    have OR : bits BinOp.or IntKind.i64 (bits BinOp.or IntKind.i64 (bits BinOp.or IntKind.i64 ((a0 : Int) * 16777216) ((a1 : Int) * 65536)) ((a2 : Int) * 256)) (a3 : Int) = (sizeAt t 0 : Int) := by
      rw [or_join 24 ((a0 : Int) * 16777216) ((a1 : Int) * 65536) (by omega) (by omega) (by omega) (by omega) (by omega) (by omega)]
      rw [or_join 16 ((a0 : Int) * 16777216 + (a1 : Int) * 65536) ((a2 : Int) * 256) (by omega) (by omega) (by omega) (by omega) (by omega) (by omega)]
      rw [or_join 8 ((a0 : Int) * 16777216 + (a1 : Int) * 65536 + (a2 : Int) * 256) (a3 : Int) (by omega) (by omega) (by omega) (by omega) (by omega) (by omega)]
      have := SZ.out
      omega
    rw [OR]
    clear OR b0 b1 b2 b3 l0 l1 l2 l3 SZ
    have BQ : Hid (Below w.heap.size w (wq.drewN nq)) := hide ⟨BQ0.out.os, BQ0.out.tape, BQ0.out.output, BQ0.out.size, BQ0.out.block⟩
    generalize wq.drewN nq = w2 at *
    clear BQ0
    have DA : Hid (t.size < 8 + sizeAt t 0 ∨ (t.extract 8 t.size).extract 0 (sizeAt t 0) = dataAt t 0) := hide (by
      rcases DD.out (sizeAt t 0) with h | h
      · refine .inr (h.trans ?_)
        unfold dataAt
        simp
      · exact .inl h)
    clear DD
    have NO : Hid ((t.size < 8 + sizeAt t 0 ∨ 100000 < sizeAt t 0) → ¬ okAt t 0) := hide (fun h hk => by
      have h1 := hk.2.1
      have h2 := hk.2.2.1
      omega)
    have YES : Hid (sizeAt t 0 ≤ 100000 → 8 + sizeAt t 0 ≤ t.size → headF (dataAt t 0) = t.extract 0 8 → okAt t 0) := hide (fun h1 h2 h3 => ⟨by omega, h1, by omega, (HH.out (by omega)).1 h3⟩)
    have YNO : Hid (8 + sizeAt t 0 ≤ t.size → ¬ headF (dataAt t 0) = t.extract 0 8 → ¬ okAt t 0) := hide (fun h2 h3 hk => h3 ((HH.out (by omega)).2 hk.2.2.2))
    have hd : 8 + sizeAt t 0 ≤ t.size → (dataAt t 0).size = sizeAt t 0 := fun h => by unfold dataAt; rw [ByteArray.size_extract]; omega
    have E1 := hide (fun h => fOk_no (s := t) (p := 0) h)
    have E2 := hide (fun h => datB_no (s := t) (p := 0) h)
    have E3 := hide (fun h => fOk_yes (s := t) (p := 0) h)
    have E4 := hide (fun h => datB_yes (s := t) (p := 0) h)
    clear HH
    generalize t.extract 0 8 = x at *
    generalize t.extract 8 t.size = y at *
    generalize sizeAt t 0 = n at *
    by_cases c1 : 100000 < n
    · have N := hide (NO.out (.inr c1))
      have d1 : decide ((100000 : Int) < (n : Int)) = true := decide_eq_true (by omega)
      clear NO YES YNO hd
      go_wp2
      go_ret2
      exact ⟨by rw [E1.out N.out, E2.out N.out]; rfl, BQ.out⟩
    · have d1 : decide ((100000 : Int) < (n : Int)) = false := decide_eq_false (by omega)
      by_cases c2 : t.size < 8 + n
      · have N := hide (NO.out (.inl c2))
        have d2 : decide ((y.size : Int) < (n : Int)) = true := decide_eq_true (by omega)
        have d3 : decide (y.size < n) = true := decide_eq_true (by omega)
        clear zy NO YES YNO hd
        go_wp2
        go_ret2
        exact ⟨by rw [E1.out N.out, E2.out N.out]; rfl, BQ.out⟩
      · have d2 : decide ((y.size : Int) < (n : Int)) = false := decide_eq_false (by omega)
        have hz := Nat.le_of_eq (hd (by omega))
        have DE : y.extract 0 n = dataAt t 0 := by
          rcases DA.out with h | h
          · exact absurd h c2
          · exact h
        have F := hide (frameHead_any (dataAt t 0) w2 (by unfold maxLen; omega) (HT.out.below BQ.out HT.out.1))
        generalize dataAt t 0 = d at *
        have hn : n ≤ y.size := by omega
        have d3 : decide (y.size < n) = false := decide_eq_false (by omega)
        have hy : y.size ≤ 1048576 := by omega
        have c2' : 8 + n ≤ t.size := by omega
        clear NO DA hd zy c2
        by_cases c3 : headF d = x
        · have K := hide (YES.out (by omega) c2' c3)
          have e1 := neS_no' c3
          have e2 := eqS_yes c3
          clear YES YNO c3
          generalize headF d = hh at *
          go_wp2_with fail
          refine F.out.mono ?_
          rintro e w3 ⟨rfl, b3⟩
          have B3 := hide (BQ.out.trans (b3.mono BQ.out.size))
          clear b3 F
          go_wp2
          go_ret2
          exact ⟨by rw [E3.out K.out, E4.out K.out]; rfl, B3.out⟩
        · have K := hide (YNO.out c2' c3)
          have e1 := neS_yes' c3
          have e2 := eqS_no c3
          clear YES YNO c3
          generalize headF d = hh at *
          go_wp2_with fail
          refine F.out.mono ?_
          rintro e w3 ⟨rfl, b3⟩
          have B3 := hide (BQ.out.trans (b3.mono BQ.out.size))
          clear b3 F
          go_wp2
          go_ret2
          exact ⟨by rw [E1.out K.out, E2.out K.out]; rfl, B3.out⟩
end Go.Proofs.YtpnbolekhgcacaaDoor
