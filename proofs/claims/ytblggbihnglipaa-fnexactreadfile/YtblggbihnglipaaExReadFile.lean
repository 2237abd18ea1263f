/-
  For every disk and every name, laws.FnExactReadFile returns true and leaves its arguments as they were: impl.ReadFile answers as the reference does. No conditions.
-/
import Derived.Test.YtblggbihnglipaaDLwT
import Derived.Test.YtblggbihnglipaaDOpn
import Derived.Test.YtblggbihnglipaaRows
import Derived.Deep.RegionWith
import Derived.ShutString
namespace Go.Proofs.Ytblggbihnglipaa.ExReadFile
open Go.ChangeShapes Go.WideShapes Go.ChangeAt Go.RowKit
open Go.ChangeMaps (open_string shut_string)

theorem own : ownKnob Try.prog.godebug = none := by kernel_rfl
theorem laidOut : laidOutB Try.prog = true := by kernel_rfl

set_option maxRecDepth 100000 in
set_option maxHeartbeats 4000000 in
theorem walk (A1 A2 A3 : Option Addr) (d : Dk) (c1 c2 c3 : Nat) (nm : ByteArray) (w : World) (hl1 : d.1.length ≤ maxLen) (hl2 : d.2.1.length ≤ maxLen) (hl3 : d.2.2.length ≤ maxLen) (hin : DkIn w w.heap.size A1 A2 A3 d) (hs0 : nm.size ≤ maxLen) :
    Calls Try.prog 4 #[.agg #[.slice A1 d.1.length c1, .slice A2 d.2.1.length c2, .slice A3 d.2.2.length c3], .string nm] w fun e w' => e = .returned (.bool true) ∧ Below w.heap.size w w' := by
  have ne : (rdB d nm != rdB d nm) = false := by simp
  have nv : ((rdV d nm).toList == (rdV d nm).toList) = true := by simp
  unfold maxLen at hs0
  have XR := heap_alloc_new w (.cells #[.slice A1 d.1.length c1, .slice A2 d.2.1.length c2, .slice A3 d.2.2.length c3] 25)
  have b0 := (Below.refl w.heap.size w).alloc (Nat.le_refl _) (.cells #[.slice A1 d.1.length c1, .slice A2 d.2.1.length c2, .slice A3 d.2.2.length c3] 25)
  obtain ⟨w0, hw0⟩ : ∃ W, w.alloc (.cells #[.slice A1 d.1.length c1, .slice A2 d.2.1.length c2, .slice A3 d.2.2.length c3] 25) = W := ⟨_, rfl⟩
  rw [hw0] at XR b0
  have hlt : w.heap.size < w0.heap.size := (Array.getElem?_eq_some_iff.1 XR).1
  have B0 := hide b0
  have XB : Hid (∀ W, Below w0.heap.size w0 W → W.heap[w.heap.size]? = some (.cells #[.slice A1 d.1.length c1, .slice A2 d.2.1.length c2, .slice A3 d.2.2.length c3] 25 (0, 0))) := hide (fun W h => heap_at XR h hlt)
  have WB : Hid (∀ W, Below w0.heap.size w0 W → Below w.heap.size w W) := hide (fun W h => B0.out.trans (h.mono B0.out.size))
  have SZ := hide (szDisk_any A1 A2 A3 d c1 c2 c3 1048576 w0 hl1 hl2 hl3 ((hin.below b0).more b0.size) (by omega) (by omega))
  have TD : Hid (∀ W, Below w0.heap.size w0 W → dskS d → Calls Try.prog 14 #[.agg #[.slice A1 d.1.length c1, .slice A2 d.2.1.length c2, .slice A3 d.2.2.length c3]] W (RetK W.heap.size d W)) := hide (fun W h hd => toDisk_any A1 A2 A3 d c1 c2 c3 W hd ((hin.below (WB.out W h)).more (WB.out W h).size))
  have R0 : Hid (Below w0.heap.size w0 w0) := hide (Below.refl _ _)
  have x0 := cell_of_row _ _ 0 _ _ _ XR
  have x1 := cell_of_row _ _ 1 _ _ _ XR
  have x2 := cell_of_row _ _ 2 _ _ _ XR
  clear hin XR b0 hlt hl1 hl2 hl3
  by_cases hbig : 1048576 < nm.size
  · have BB0 := hide (WB.out _ R0.out)
    clear SZ TD XB WB
    go_enter Try.func4, Try.ntmps4
    go_wp2
    go_ret
    exact ⟨rfl, BB0.out⟩
  go_enter Try.func4, Try.ntmps4
  go_wp2_with fail
  clear hw0 x0 x1 x2
  refine SZ.out.mono ?_
  rintro e w1 ⟨hr, b1⟩
  have R1 := hide (R0.out.trans (b1.mono R0.out.size))
  have BB1 := hide (WB.out _ R1.out)
  clear b1 R0 SZ
  rcases hr with rfl | ⟨r, hr0, _, hd, rfl⟩
  · go_wp2
    go_ret
    exact ⟨rfl, BB1.out⟩
  have HD := hide hd
  have x0 := cell_of_row _ _ 0 _ _ _ (XB.out _ R1.out)
  have x1 := cell_of_row _ _ 1 _ _ _ (XB.out _ R1.out)
  have x2 := cell_of_row _ _ 2 _ _ _ (XB.out _ R1.out)
  clear hd
  go_wp2_with fail
  clear x0 x1 x2
  refine (TD.out _ R1.out HD.out).mono ?_
  rintro e w2 ⟨P1, P2, P3, e1, e2, e3, rfl, ok2, b2⟩
  have R2 := hide (R1.out.trans (b2.mono R1.out.size))
  have K2 := hide ok2.into
  clear ok2 b2 BB1 R1
  go_wp2_with fail
  refine (specReadFile_any P1 P2 P3 d e1 e2 e3 nm w2 HD.out K2.out).mono ?_
  rintro e w3 ⟨rfl, b3⟩
  have R3 := hide (R2.out.trans (b3.mono R2.out.size))
  have x0 := cell_of_row _ _ 0 _ _ _ (XB.out _ R3.out)
  have x1 := cell_of_row _ _ 1 _ _ _ (XB.out _ R3.out)
  have x2 := cell_of_row _ _ 2 _ _ _ (XB.out _ R3.out)
  clear b3 R2 K2
  go_wp2_with fail
  clear x0 x1 x2
  refine (TD.out _ R3.out HD.out).mono ?_
  rintro e w4 ⟨Q1, Q2, Q3, f1, f2, f3, rfl, ok4, b4⟩
  have R4 := hide (R3.out.trans (b4.mono R3.out.size))
  have YR := heap_alloc_new w4 (.cells #[.slice Q1 d.1.length f1, .slice Q2 d.2.1.length f2, .slice Q3 d.2.2.length f3] 31)
  have b5 := (Below.refl w4.heap.size w4).alloc (Nat.le_refl _) (.cells #[.slice Q1 d.1.length f1, .slice Q2 d.2.1.length f2, .slice Q3 d.2.2.length f3] 31)
  obtain ⟨w5, hw5⟩ : ∃ W, w4.alloc (.cells #[.slice Q1 d.1.length f1, .slice Q2 d.2.1.length f2, .slice Q3 d.2.2.length f3] 31) = W := ⟨_, rfl⟩
  rw [hw5] at YR b5
  have R5 := hide (R4.out.trans (b5.mono R4.out.size))
  have K5 := hide ((ok4.into.below b5).more b5.size)
  have y0 := cell_of_row _ _ 0 _ _ _ YR
  have y1 := cell_of_row _ _ 1 _ _ _ YR
  have y2 := cell_of_row _ _ 2 _ _ _ YR
  have hlt5 : w4.heap.size < w5.heap.size := (Array.getElem?_eq_some_iff.1 YR).1
  have YH := hide YR
  clear ok4 b4 R3 R4 YR b5
  go_wp2_with fail
  clear hw5 y0 y1 y2
  refine (implReadFile_any Q1 Q2 Q3 d f1 f2 f3 nm w5 HD.out K5.out).mono ?_
  rintro e w6 ⟨rfl, b6⟩
  have R6 := hide (R5.out.trans (b6.mono R5.out.size))
  have K6 := hide ((K5.out.below b6).more b6.size)
  have Y6 := hide (heap_at YH.out b6 hlt5)
  have T1 : Hid (Calls Try.prog 14 #[.agg #[.slice A1 d.1.length c1, .slice A2 d.2.1.length c2, .slice A3 d.2.2.length c3]] w6.drew fun e w7 => ∃ S1 S2 S3 g1 g2 g3, e = .returned (.agg #[.slice S1 d.1.length g1, .slice S2 d.2.1.length g2, .slice S3 d.2.2.length g3]) ∧ Hid (DkIn w7 w7.heap.size S1 S2 S3 d) ∧ Hid (DkIn w7 w7.heap.size Q1 Q2 Q3 d) ∧ w7.cell? ⟨w4.heap.size, 0, none⟩ = some (.slice Q1 d.1.length f1) ∧ w7.cell? ⟨w4.heap.size, 1, none⟩ = some (.slice Q2 d.2.1.length f2) ∧ w7.cell? ⟨w4.heap.size, 2, none⟩ = some (.slice Q3 d.2.2.length f3) ∧ Hid (Below w.heap.size w w7)) := by
    have bd : Below w6.heap.size w6 w6.drew := (Below.refl _ w6).drew
    have hy6 : w4.heap.size < w6.heap.size := Nat.lt_of_lt_of_le hlt5 b6.size
    refine hide ((TD.out w6.drew (R6.out.trans (bd.mono R6.out.size)) HD.out).mono ?_)
    rintro e w7 ⟨S1, S2, S3, g1, g2, g3, rfl, ok7, b7⟩
    have b67 : Below w6.heap.size w6 w7 := bd.trans b7
    have Y7 := heap_at Y6.out b67 hy6
    exact ⟨S1, S2, S3, g1, g2, g3, rfl, ok7.into, (K6.out.below b67).more b67.size, cell_of_row _ _ 0 _ _ _ Y7, cell_of_row _ _ 1 _ _ _ Y7, cell_of_row _ _ 2 _ _ _ Y7, WB.out _ (R6.out.trans (b67.mono R6.out.size))⟩
  have E1 : Hid (∀ (S1 S2 S3 : Option Addr) (g1 g2 g3 : Nat) (W : World), DkIn W W.heap.size Q1 Q2 Q3 d → DkIn W W.heap.size S1 S2 S3 d → Calls Try.prog 16 #[.agg #[.slice Q1 d.1.length f1, .slice Q2 d.2.1.length f2, .slice Q3 d.2.2.length f3], .agg #[.slice S1 d.1.length g1, .slice S2 d.2.1.length g2, .slice S3 d.2.2.length g3]] W fun e w' => e = .returned (.bool true) ∧ Below W.heap.size W w') := hide fun S1 S2 S3 g1 g2 g3 W h1 h2 => by
    have := eqDisk_any Q1 Q2 Q3 S1 S2 S3 d d f1 f2 f3 g1 g2 g3 W HD.out HD.out h1 h2
    rw [eqK_self] at this
    exact this
  have x0 := cell_of_row _ _ 0 _ _ _ (XB.out _ R6.out)
  have x1 := cell_of_row _ _ 1 _ _ _ (XB.out _ R6.out)
  have x2 := cell_of_row _ _ 2 _ _ _ (XB.out _ R6.out)
  have y0 := cell_of_row _ _ 0 _ _ _ Y6.out
  have y1 := cell_of_row _ _ 1 _ _ _ Y6.out
  have y2 := cell_of_row _ _ 2 _ _ _ Y6.out
  clear b6 K5 K6 YH R5 hlt5 XB WB TD HD B0 R6 hr0 Y6
  generalize rdB d nm = rb at *
  generalize rdV d nm = rv at *
  generalize d.1.length = n1 at *
  generalize d.2.1.length = n2 at *
  generalize d.2.2.length = n3 at *
  go_wp2_with fail
  go_region_with (first
    | (go_at_call 14; refine T1.out.mono ?_; rintro e w7 ⟨S1, S2, S3, g1, g2, g3, rfl, own7, own6b, z0, z1, z2, B7⟩)
    | (go_at_call 16; refine (E1.out _ _ _ _ _ _ _ own6b.out own7.out).mono ?_; rintro e w8 ⟨rfl, b8⟩)
    | (go_at_call 16; refine (E1.out _ _ _ _ _ _ _ (own6b.out.below ((Below.refl _ _).drew)) (own7.out.below ((Below.refl _ _).drew))).mono ?_; rintro e w8 ⟨rfl, b8⟩))
  all_goals
    have B8 := hide (B7.out.trans (b8.mono B7.out.size))
    clear b8 B7 own7 own6b z0 z1 z2 T1 E1
    go_wp2
    go_ret
    exact ⟨rfl, B8.out⟩
set_option maxRecDepth 100000 in
theorem lifted (os : Os) (started : os.Started) (H : Type) (enc : TypeId × Value → H) :
    ReturnsInHanded {} Try.checked os 4 .any (Rows.fnExactReadFileSpec.pre6 enc Try.prog Try.f4 Rows.fnExactReadFileRow.domain false) (Rows.fnExactReadFileSpec.post enc Try.prog Try.f4 false true false false) := by
  refine returnsInHanded_of_change (C := Try.checked) own started (by kernel_rfl) Try.func4
    (ChangeSpec.witness6 (enc := enc) (C := Try.checked) false ⟨#[], #[.agg #[.slice none 0 0, .slice none 0 0, .slice none 0 0], .string ByteArray.empty], []⟩ 8 (by kernel_rfl) (by kernel_rfl) (by kernel_rfl) (by kernel_rfl)) ?_
  intro W base args ds gs before hval0 hW hcnd _
  have hval : ∀ (j : Nat) t v, Try.f4.params[j]? = some t → args[j]? = some v → Value.okWide Try.prog W .any base t v := hval0
  have hW' := hW
  obtain ⟨p, q, hA0, hV, rfl, hfz, hnd⟩ := hW
  have hA : DataW.TrodAll enc Try.prog W 0 (fun _ => true) true Try.f4.params.toList args.toList ds p := hA0
  rw [Try.params4] at hA hval
  obtain ⟨v0, vs0, d0, ds0, p0, q0, hargs, rfl, rfl, h0, r0⟩ := trodAll_cons hA
  obtain ⟨v1, vs1, d1, ds1, p1, q1, rfl, rfl, rfl, h1, r1⟩ := trodAll_cons r0
  obtain ⟨rfl, rfl, rfl⟩ := trodAll_nil r1
  obtain rfl : args = #[v0, v1] := by cases args; simp_all
  obtain ⟨rfl, rfl⟩ := trodVars_none hV
  have lt0 : ∀ x ∈ p0, x.block < W.heap.size := by obtain ⟨m, hm⟩ := h0; exact DataW.trod_lt m _ _ _ hm
  obtain ⟨Ka0, Kb0, Kc0, K0, ka0, kb0, kc0, rfl, kl0, km0, kn0, hin0⟩ := open_disk (hval 0 25 v0 rfl rfl) h0
  obtain ⟨s1, rfl, rfl, rfl, hs1⟩ := open_string Try.underlying9 (hval 1 9 v1 rfl rfl) h1
  clear hA0 hval0
  refine (walk Ka0 Kb0 Kc0 K0 ka0 kb0 kc0 s1 W kl0 km0 kn0 hin0 hs1).mono fun e W' ⟨he, bel⟩ => ?_
  subst he
  exact ⟨_, rfl, _, _, _, [], _, [], hW', trodAll_mk1 (shut_bool Try.underlying4 _), (trodAll_cons_mk (Below.trod laidOut (by kernel_rfl) (of_decide_eq_true (by kernel_rfl)) h0 bel lt0) (trodAll_cons_mk (shut_string Try.underlying9 hs1) trodAll_mk0)), rfl, bel.frame _, fun h => by cases h⟩

theorem over : Rows.fnExactReadFileRow.holds Try.pinned (OpenSpec.ofChange Rows.fnExactReadFileSpec) :=
  OpenClaim.holds_of_wide 4 Try.f4 rfl rfl rfl rfl rfl rfl rfl ⟨rfl, rfl, rfl, rfl, rfl⟩ rfl rfl rfl rfl rfl (by kernel_rfl) Try.func4 (by kernel_rfl)
    (of_decide_eq_true (by kernel_rfl)) (by unfold Func.isWrapper; first | (rw [if_pos (by decide +kernel)]; kernel_rfl) | (rw [if_neg (by decide +kernel)]; exact ⟨rfl, rfl⟩))
    (fun os started H enc _ => lifted os started H enc)

end Go.Proofs.Ytblggbihnglipaa.ExReadFile
namespace Go.Proofs.Ytblggbihnglipaa
theorem fnExactReadFile_proved : Rows.FnExactReadFileSaid := ExReadFile.over
end Go.Proofs.Ytblggbihnglipaa
