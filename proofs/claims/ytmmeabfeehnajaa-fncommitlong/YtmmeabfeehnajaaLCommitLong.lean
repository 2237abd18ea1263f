/-
  For every code, laws.FnCommitLong returns true: a commit's text is as long as its words: seven, sixteen, seventeen for each parent, one, and its note. No conditions.
-/
import Derived.Test.YtmmeabfeehnajaaRFrame
import Derived.Test.YtmmeabfeehnajaaRdCode
import Derived.Test.YtmmeabfeehnajaaCDraw
import Derived.Test.YtmmeabfeehnajaaCTextI
namespace Go.Proofs.Ytmmeabfeehnajaa.LCommitLong
open Go.RowKit Go.ChangeShapes Go.WideShapes Go.ChangeAt
open Go.ChangeMaps (open_string shut_string)

theorem nil_empty (l : List UInt8) : (l == []) = l.isEmpty := by cases l <;> rfl
theorem isEmpty_size {s : ByteArray} (h : 0 < s.size) : s.toList.isEmpty = false := by
  rw [Go.ByteArray.toList_eq]
  cases e : s.data.toList with
  | nil =>
    have : s.size = 0 := by rw [show s.size = s.data.toList.length by rfl, e]; rfl
    omega
  | cons a r => rfl
theorem head_size (t : ByteArray) (ht : t.size = 16) (l : List ByteArray) (hl : ∀ i (h : i < l.length), l[i].size = 16) : ∀ k, k ≤ l.length → (headTo t l k).size = 23 + 17 * k
  | 0, _ => by
    have e : (ByteArray.mk #[99, 111, 109, 109, 105, 116, 32]).size = 7 := rfl
    rw [headTo, ByteArray.size_append, e, ht]
  | k + 1, hk => by
    have e : (ByteArray.mk #[32]).size = 1 := rfl
    have h := head_size t ht l hl k (by omega)
    rw [headTo_next (by omega), ByteArray.size_append, ByteArray.size_append, e, h, hl k (by omega)]
    omega
theorem id_size {s : ByteArray} (h : QI.idB s = true) : s.size = 16 := by
  cases e : decide (s.size = 16)
  · have := QI.idB_len (of_decide_eq_false e); rw [h] at this; cases this
  · exact of_decide_eq_true e
theorem comText_long {t m : ByteArray} {l : List ByteArray} (h : comB t l m = true) : (comTextS t l m).size = 24 + 17 * l.length + m.size := by
  have h0 := h
  unfold comB at h
  rw [Bool.and_eq_true, Bool.and_eq_true] at h
  have hp : ∀ i (hi : i < l.length), l[i].size = 16 := fun i hi => id_size ((parB_iff.1 h.1.2).2.1 i hi hi)
  rw [comText_yes h0]
  unfold textC
  rw [ByteArray.size_append, ByteArray.size_append, head_size t (id_size h.1.1) l hp l.length (Nat.le_refl _)]
  show 23 + 17 * l.length + 1 + m.size = _
  omega

set_option maxRecDepth 100000 in
set_option maxHeartbeats 2000000 in
theorem walk (A : Option Addr) (n : Nat) (cap : Nat) (w : World) (hl : n ≤ maxLen) (hin : CIn w w.heap.size A n) :
    Calls Try.prog 8 #[.slice A n cap] w fun e w' => e = .returned (.bool true) ∧ Below w.heap.size w w' := by
  by_cases hbig : 1048576 < n
  · have d : decide (1048576 < n) = true := decide_eq_true hbig
    go_enter Try.func8, Try.ntmps8
    go_wp2_with (go_at_call 9; refine (big_any A n cap _ hl).mono ?_; rintro e w' ⟨rfl, rfl⟩)
    go_ret
    exact ⟨rfl, Below.refl _ _⟩
  have hn : n ≤ 1048576 := by omega
  have d : decide (1048576 < n) = false := decide_eq_false hbig
  have IN := hide hin
  have B0 : Hid (Below w.heap.size w w) := hide (Below.refl _ _)
  clear hin
  go_enter Try.func8, Try.ntmps8
  go_wp2_with fail
  refine (big_any A n cap w hl).mono ?_
  rintro e w' ⟨rfl, rfl⟩
  go_wp2_with fail
  refine (drawCommitText_any A n cap w hn IN.out).mono ?_
  rintro e w1 ⟨t, A1, cap1, l, m, ht, hm, hl3, rfl, si, _, b1⟩
  have htm : t.size ≤ maxLen := by unfold maxLen; omega
  have hmm : m.size ≤ maxLen := by unfold maxLen; omega
  have hlm : l.length ≤ maxLen := by unfold maxLen; omega
  have bx : Hid (Below w1.heap.size w1 (w1.alloc (.cells #[.string t, .slice A1 l.length cap1, .string m] 44))) := hide ((Below.refl _ _).alloc (Nat.le_refl _) _)
  have C := hide (CB.new w1 t m A1 l.length cap1 rfl)
  have hz : w1.heap.size < (w1.alloc (.cells #[.string t, .slice A1 l.length cap1, .string m] 44)).heap.size := by simp
  have B2 := hide (b1.trans (bx.out.mono b1.size))
  have S2 := hide ((si.below bx.out).more bx.out.size)
  have x0 := C.out.c0
  have x1 := C.out.c1
  have x2 := C.out.c2
  have ee : ((comTextS t l m).toList == (comTextS t l m).toList) = true := by simp
  clear si b1 B0
  go_wp2_with fail
  refine (implCommitText_any t m A1 l cap1 _ htm hmm hlm S2.out).mono ?_
  rintro e w3 ⟨rfl, b3⟩
  have C3 := hide (C.out.below b3 hz)
  have S3 := hide ((S2.out.below b3).more b3.size)
  have B3 := hide (B2.out.trans (b3.mono B2.out.size))
  have y0 := C3.out.c0
  have y1 := C3.out.c1
  have y2 := C3.out.c2
  have hz3 := C3.out.lt
  clear b3 S2 B2 x0 x1 x2 C bx
  go_wp2_with fail
  refine (specCommitText_any t m A1 l cap1 _ htm hmm hlm S3.out).mono ?_
  rintro e w4 ⟨rfl, b4⟩
  have C4 := hide (C3.out.below b4 hz3)
  have S4 := hide ((S3.out.below b4).more b4.size)
  have B4 := hide (B3.out.trans (b4.mono B3.out.size))
  have u0 := C4.out.c0
  have u1 := C4.out.c1
  have u2 := C4.out.c2
  clear b4 S3 B3 y0 y1 y2 C3
  cases hc : comB t l m
  · have E0 := hide (comText_no hc)
    have e1 : (comTextS t l m).toList.isEmpty = true := by rw [E0.out, Go.ByteArray.toList_eq]; rfl
    have e2 : ((comTextS t l m).toList == ([] : List UInt8)) = true := by rw [E0.out, Go.ByteArray.toList_eq]; rfl
    go_wp2_with fail
    refine (specCommitText_any t m A1 l cap1 _ htm hmm hlm S4.out).mono ?_
    rintro e w5 ⟨rfl, b5⟩
    have B5 := hide (B4.out.trans (b5.mono B4.out.size))
    clear b5
    go_wp2
    go_ret
    exact ⟨rfl, B5.out⟩
  · have E1 := hide (comText_long hc)
    have e1 : (comTextS t l m).toList.isEmpty = false := isEmpty_size (by rw [E1.out]; omega)
    have e2 : ((comTextS t l m).toList == ([] : List UInt8)) = false := by rw [nil_empty]; exact e1
    have e3 : (((comTextS t l m).size : Int) == 24 + 17 * (l.length : Int) + (m.size : Int)) = true := by rw [beq_iff_eq, E1.out]; omega
    go_wp2
    go_ret
    exact ⟨rfl, B4.out⟩

set_option maxRecDepth 100000 in
theorem lifted (os : Os) (started : os.Started) (H : Type) (enc : TypeId × Value → H) :
    ReturnsInHanded {} Try.checked os 8 .any (Rows.fnCommitLongSpec.pre6 enc Try.prog Try.f8 Rows.fnCommitLongRow.domain false) (Rows.fnCommitLongSpec.post enc Try.prog Try.f8 false true false false) := by
  refine returnsInHanded_of_change (C := Try.checked) own started (by kernel_rfl) Try.func8
    (ChangeSpec.witness6 (enc := enc) (C := Try.checked) false ⟨#[], #[.slice none 0 0], []⟩ 8 (by kernel_rfl) (by kernel_rfl) (by kernel_rfl) (by kernel_rfl)) ?_
  intro W base args ds gs before hval0 hW hcnd _
  have hval : ∀ (j : Nat) t v, Try.f8.params[j]? = some t → args[j]? = some v → Value.okWide Try.prog W .any base t v := hval0
  have hW' := hW
  obtain ⟨p, q, hA0, hV, rfl, hfz, hnd⟩ := hW
  have hA : DataW.TrodAll enc Try.prog W 0 (fun _ => true) true Try.f8.params.toList args.toList ds p := hA0
  rw [Try.params8] at hA hval
  obtain ⟨v0, vs0, d0, ds0, p0, q0, hargs, rfl, rfl, h0, r0⟩ := trodAll_cons hA
  obtain ⟨rfl, rfl, rfl⟩ := trodAll_nil r0
  obtain rfl : args = #[v0] := by cases args; simp_all
  obtain ⟨rfl, rfl⟩ := trodVars_none hV
  obtain ⟨A0, n0, cap0, rfl⟩ := okWide_slice Try.underlying22 (hval 0 22 v0 rfl rfl)
  have lt0 : ∀ x ∈ p0, x.block < W.heap.size := by obtain ⟨m, hm⟩ := h0; exact DataW.trod_lt m _ _ _ hm
  obtain ⟨l0, rfl, hl0, hin0⟩ := open_code h0
  clear hA0 hval0
  refine (walk A0 n0 cap0 W hl0 hin0).mono fun e W' ⟨he, bel⟩ => ?_
  subst he
  exact ⟨_, rfl, _, _, _, [], _, [], hW', trodAll_mk1 (shut_bool Try.underlying4 _), (trodAll_cons_mk (Below.trod laidOut (by kernel_rfl) (of_decide_eq_true (by kernel_rfl)) h0 bel lt0) trodAll_mk0), rfl, bel.frame _, fun h => by cases h⟩

theorem over : Rows.fnCommitLongRow.holds Try.pinned (OpenSpec.ofChange Rows.fnCommitLongSpec) :=
  OpenClaim.holds_of_wide 8 Try.f8 rfl rfl rfl rfl rfl rfl rfl ⟨rfl, rfl, rfl, rfl, rfl⟩ rfl rfl rfl rfl rfl (by kernel_rfl) Try.func8 (by kernel_rfl)
    (of_decide_eq_true (by kernel_rfl)) (by unfold Func.isWrapper; first | (rw [if_pos (by decide +kernel)]; kernel_rfl) | (rw [if_neg (by decide +kernel)]; exact ⟨rfl, rfl⟩))
    (fun os started H enc _ => lifted os started H enc)

end Go.Proofs.Ytmmeabfeehnajaa.LCommitLong
namespace Go.Proofs.Ytmmeabfeehnajaa
theorem fnCommitLong_proved : Rows.FnCommitLongSaid := LCommitLong.over
end Go.Proofs.Ytmmeabfeehnajaa
