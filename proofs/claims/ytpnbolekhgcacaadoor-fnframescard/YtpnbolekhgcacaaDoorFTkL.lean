/-
  What impl.TakeFrames answers: the frames with which a text begins, in a row of the call's own.
-/
import Derived.Test.YtpnbolekhgcacaaDoorFTkI
import Derived.Test.YtpnbolekhgcacaaDoorCRow
namespace Go.Proofs.YtpnbolekhgcacaaDoor
open Go.RowKit

/-- the frames come back, and where they end -/
def RetFr (s : ByteArray) (w : World) (e : Ending) (w' : World) : Prop :=
  ∃ A cap, e = .returned (.tuple #[.slice A (frL s).1.length cap, .int .i64 ((frL s).2 : Int)]) ∧ ZOwn w' w.heap.size A cap (frL s).1 ∧ Below w.heap.size w w'
/-- so far: these frames up to p -/
def SoFar (s : ByteArray) (l : List ByteArray) (p : Nat) : Prop := p ≤ s.size ∧ 8 * l.length ≤ p ∧ ∃ f, s.size < f + p ∧ frL s = (l ++ (fr s f p).1, (fr s f p).2)
theorem soFar_start (s : ByteArray) : SoFar s [] 0 := ⟨Nat.zero_le _, by simp, s.size + 1, by omega, by simp [frL]⟩
theorem soFar_next {s : ByteArray} {l : List ByteArray} {p : Nat} (h : SoFar s l p) (hk : okAt s p) : SoFar s (l ++ [dataAt s p]) (p + 8 + sizeAt s p) := by
  obtain ⟨h1, h2, f, h3, h4⟩ := h
  have := hk.2.2.1
  obtain ⟨f, rfl⟩ : ∃ g, f = g + 1 := ⟨f - 1, by omega⟩
  rw [fr_yes hk] at h4
  exact ⟨this, by simp; omega, f, by omega, by rw [h4]; simp⟩
theorem soFar_end {s : ByteArray} {l : List ByteArray} {p : Nat} (h : SoFar s l p) (hk : ¬ okAt s p) : frL s = (l, p) := by
  obtain ⟨_, _, f, _, h4⟩ := h
  rw [fr_no hk] at h4
  rw [h4]
  simp

set_option maxRecDepth 100000 in
set_option maxHeartbeats 1000000 in
theorem implTakeFrames_any (s : ByteArray) (w : World) (hs : s.size ≤ 1048576) (hT : Rows16 w) :
    Calls Tryd.prog 9 #[.string s] w (RetFr s w) := by
  have HT := hide hT
  clear hT
  go_enter Tryd.func9, Tryd.ntmps9
  go_wp2
  go_loopw [4, 5] (fun ov pv wr => ∃ (l : List ByteArray) (p : Nat) (A : Option Addr) (cap : Nat), ov = .slice A l.length cap ∧ pv = .int .i64 p ∧ p ≤ s.size ∧ l.length ≤ s.size ∧ Hid (SoFar s l p) ∧ Hid (ZOwn wr w.heap.size A cap l) ∧ Hid (Below w.heap.size w wr)) (fun _ p _ => s.size + 1 - (intOf p).toNat)
  case atStart => exact ⟨[], 0, none, 0, rfl, rfl, Nat.zero_le _, Nat.zero_le _, soFar_start s, ZOwn.nil _ _, Below.refl _ _⟩
  case round =>
    obtain ⟨l, p, A, cap, rfl, rfl, hp, hl, F, O, Q⟩ := hrel
    have hqs := Q.out.size
    have hx : (s.extract p s.size).size = s.size - p := by rw [ByteArray.size_extract]; omega
    have T := hide (takeFrame_any (s.extract p s.size) wr (by omega) (HT.out.below Q.out HT.out.1))
    obtain ⟨f1, f2, f3⟩ := from_eq hp
    by_cases hk : okAt s p
    · have E1 := hide (fOk_yes (f1.2 hk))
      have E2 := hide ((datB_yes (f1.2 hk)).trans f3)
      have hz := data_size hk
      have hq := hk.2.2.1
      have N := hide (soFar_next F.out hk)
      rw [E1.out, E2.out] at T
      generalize dataAt s p = x at *
      generalize hn : sizeAt s p = n at *
      have hl1 : (l ++ [x]).length = l.length + 1 := by simp
      have h1 := N.out.1
      have h2 := N.out.2.1
      rw [hl1] at h2
      have zx : x.size ≤ n := Nat.le_of_eq hz
      have HZ : Hid (x.size = n) := hide hz
      clear f1 f2 f3 hk hx hz E1 E2 F
      go_wp2_with fail
      refine T.out.mono ?_
      rintro e w1 ⟨rfl, b1⟩
      have O1 := hide (O.out.below b1)
      have Q1 := hide (Q.out.trans (b1.mono hqs))
      have hq1 := Q1.out.size
      clear b1 T O Q
      go_wp2_with (at_builtin; refine wpList_appZ (l := l) (l' := [x]) 24 Tryd.underlying24 rfl (.tmp 19) (.tmp 21) rfl rfl rfl rfl rfl (O1.out.alloc _) (ZIn.one x _ rfl) (Nat.le_trans hq1 (by simp)) (by simp; omega) ?_; intro A3 cap3 w3 own3 g3 r3; have B3 := hide (Q1.out.trans (((Below.refl _ w1).alloc hq1 (.cells #[Value.string x] 9)).trans ((O1.out.alloc (.cells #[Value.string x] 9)).grownBelow g3 (Nat.le_trans hq1 (by simp))))); have O3 := hide own3; clear own3 g3 r3)
      go_roundw
      case rel => exact ⟨l ++ [x], p + 8 + n, A3, cap3, by rw [hl1], by rw [HZ.out]; go_num, h1, by rw [hl1]; omega, N, O3, B3⟩
      case measure => simp [intOf]; omega
    · have E1 := hide (fOk_no (fun h => hk (f1.1 h)))
      have E2 := hide (datB_no (fun h => hk (f1.1 h)))
      have N := hide (soFar_end F.out hk)
      rw [E1.out, E2.out] at T
      clear f1 f2 f3 hk hx E1 E2 F
      go_wp2_with fail
      refine T.out.mono ?_
      rintro e w1 ⟨rfl, b1⟩
      have O1 := hide (O.out.below b1)
      have Q1 := hide (Q.out.trans (b1.mono hqs))
      clear b1 T O Q
      go_wp2
      go_ret2
      exact ⟨A, cap, by rw [N.out]; rfl, by rw [N.out]; exact O1.out, Q1.out⟩
end Go.Proofs.YtpnbolekhgcacaaDoor
