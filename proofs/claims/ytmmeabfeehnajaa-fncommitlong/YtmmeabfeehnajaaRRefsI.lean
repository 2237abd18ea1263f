/-
  What impl.refsOf answers.
-/
import Derived.Test.YtmmeabfeehnajaaRRise
import Derived.Test.YtmmeabfeehnajaaPStr
namespace Go.Proofs.Ytmmeabfeehnajaa
open Go.RowKit

/-- a block that holds a table -/
def TB (w : World) (g : Nat) (A : Option Addr) (n cap : Nat) : Prop := w.heap[g]? = some (.cells #[.slice A n cap] 55 (0, 0))
theorem TB.c {w : World} {g : Nat} {A : Option Addr} {n cap : Nat} (h : TB w g A n cap) : w.cell? ⟨g, 0, none⟩ = some (.slice A n cap) := cell_of_row _ g 0 _ _ (0, 0) h
theorem TB.frozen {w : World} {g : Nat} {A : Option Addr} {n cap : Nat} (h : TB w g A n cap) (j : Nat) : w.frozen? ⟨g, j, none⟩ = false := by simp [World.frozen?, show w.heap[g]? = _ from h]
theorem TB.lt {w : World} {g : Nat} {A : Option Addr} {n cap : Nat} (h : TB w g A n cap) : g < w.heap.size := (Array.getElem?_eq_some_iff.1 h).1
theorem TB.below {w w' : World} {g : Nat} {A : Option Addr} {n cap B : Nat} (h : TB w g A n cap) (hb : Below B w w') (hg : g < B) : TB w' g A n cap := (hb.block _ hg).trans h
theorem TB.other {w : World} {g : Nat} {A : Option Addr} {n cap : Nat} (h : TB w g A n cap) (a : Addr) (u : Value) (hne : g ≠ a.block) : TB (w.setCell a u) g A n cap := (Below.heap_setCell w a u g hne).trans h
theorem box_set {w : World} {g : Nat} {cs : Array Value} {t : TypeId} (h : w.heap[g]? = some (.cells cs t (0, 0))) (j : Nat) (u : Value) : (w.setCell ⟨g, j, none⟩ u).heap[g]? = some (.cells (cs.setIfInBounds j u) t (0, 0)) := by
  have hlt := lt_of_block h
  have h' : w.heap[g] = .cells cs t (0, 0) := by simpa [Array.getElem?_eq_getElem hlt] using h
  show (w.heap.modify g _)[g]? = _
  rw [Array.getElem?_eq_getElem (by simpa using hlt), Array.getElem_modify_self, h']
  rfl
theorem TB.set {w : World} {g : Nat} {A A' : Option Addr} {n n' cap cap' : Nat} (h : TB w g A n cap) : TB (w.setCell ⟨g, 0, none⟩ (.slice A' n' cap')) g A' n' cap' := box_set h 0 _
theorem TB.new (w : World) (A : Option Addr) (n cap : Nat) {s : Nat} (hs : w.heap.size = s) : TB (w.alloc (.cells #[.slice A n cap] 55)) s A n cap := by subst hs; exact heap_alloc_new w _

def RefsRet (l : List Pr) (w : World) (e : Ending) (w' : World) : Prop :=
  Below w.heap.size w w' ∧ ((refB l = false ∧ e = .returned (.tuple #[.agg #[.slice none 0 0], .bool false])) ∨ (refB l = true ∧ ∃ A cap bs, e = .returned (.tuple #[.agg #[.slice A l.length cap], .bool true]) ∧ PRefs w' w.heap.size A cap bs l))

set_option maxRecDepth 100000 in
set_option maxHeartbeats 4000000 in
theorem refsOf_any (A : Option Addr) (l : List Pr) (cap : Nat) (w : World) (hl : l.length ≤ maxLen) (hin : PIn w w.heap.size A l) :
    Calls Try.prog 33 #[.slice A l.length cap] w (RefsRet l w) := by
  unfold maxLen at hl
  by_cases h20 : 20 < l.length
  · have Z := hide (refB_len h20)
    have d : decide ((20 : Int) < (l.length : Int)) = true := decide_eq_true (by omega)
    go_enter Try.func33, Try.ntmps33
    go_wp2
    exact bodyPost_ret (v := .tuple #[.agg #[.slice none 0 0], .bool false]) (by simp [results, Try.results33, go_sem]) rfl ⟨((Below.refl _ _).alloc (Nat.le_refl _) _), .inl ⟨Z.out, rfl⟩⟩
  · have d : decide ((20 : Int) < (l.length : Int)) = false := decide_eq_false (by omega)
    have IN := hide hin
    clear hin
    generalize hn : l.length = n at *
    have HN := hide hn
    clear hn
    have T0 : Hid (TB ((w.alloc (.cells #[.slice none 0 0] 55)).alloc (.cells #[.slice none 0 0] 55)) w.heap.size none 0 0) := hide ((TB.new w none 0 0 rfl).below ((Below.refl _ _).alloc (Nat.le_refl _) _) (by simp))
    have T1 : Hid (TB ((w.alloc (.cells #[.slice none 0 0] 55)).alloc (.cells #[.slice none 0 0] 55)) (w.heap.size + 1) none 0 0) := hide (TB.new _ none 0 0 (by simp))
    have B0 : Hid (Below w.heap.size w ((w.alloc (.cells #[.slice none 0 0] 55)).alloc (.cells #[.slice none 0 0] 55))) := hide (((Below.refl _ _).alloc (Nat.le_refl _) _).alloc (by simp) _)
    have z0 : ((w.alloc (.cells #[.slice none 0 0] 55)).alloc (.cells #[.slice none 0 0] 55)).heap.size = w.heap.size + 2 := by simp
    go_enter Try.func33, Try.ntmps33
    go_wp2
    go_loopw [13] (fun iv wr => ∃ (k : Nat) (A2 : Option Addr) (cap2 : Nat) (bs : List Nat), k ≤ n ∧ iv = .int .i64 k ∧ Hid (bs.length = k) ∧ Hid (refsTo l k) ∧ Hid (TB wr w.heap.size none 0 0) ∧ Hid (TB wr (w.heap.size + 1) A2 k cap2) ∧ Hid (PRefs wr (w.heap.size + 2) A2 cap2 bs (l.take k)) ∧ Hid (Below w.heap.size w wr)) (fun i _ => n - (intOf i).toNat)
    case atStart => exact ⟨0, none, 0, [], Nat.zero_le _, rfl, hide rfl, hide (refsTo_zero l), T0, T1, hide (PRefs.nil _ _), B0⟩
    case round =>
      clear T0 T1 B0 z0
      obtain ⟨k, A2, cap2, bs, hk, rfl, BL, H, T0, T1, P, Q⟩ := hrel
      have hqs := Q.out.size
      have hz : w.heap.size + 1 < wr.heap.size := T1.out.lt
      by_cases hlt : k < n
      · have hkl : k < l.length := by rw [HN.out]; omega
        obtain ⟨b, off, rfl, hbB, hc⟩ := (IN.out.below Q.out).2 (by omega)
        obtain ⟨c1, c2⟩ := hc k hkl
        obtain ⟨s1, s2⟩ := IN.out.1 k hkl
        have KB := hide (fun h => refB_key hkl h)
        have VB := hide (fun h => refB_val hkl h)
        have FS := hide (fun h h' => refsTo_succ hkl H.out h h')
        have TK : Hid (l.take k ++ [((l[k]'hkl).1, (l[k]'hkl).2)] = l.take (k + 1)) := hide (by rw [List.take_succ_eq_append_getElem hkl])
        have hki : (k : Int) < (n : Int) := by omega
        clear hc
        generalize (l[k]'hkl).1 = x at *
        generalize (l[k]'hkl).2 = y at *
        -- the box of the ref
        have bx : Hid (Below wr.heap.size wr (wr.alloc (.cells #[.string x, .string y] 37))) := hide ((Below.refl _ _).alloc (Nat.le_refl _) _)
        have y1 : (wr.alloc (.cells #[.string x, .string y] 37)).cell? ⟨wr.heap.size, 0, none⟩ = some (.string x) := by simp [go_sem]
        have y2 : (wr.alloc (.cells #[.string x, .string y] 37)).cell? ⟨wr.heap.size, 1, none⟩ = some (.string y) := by simp [go_sem]
        have r0 := (T0.out.below bx.out (by omega)).c
        have f0 := (T0.out.below bx.out (by omega)).frozen 0
        cases hK : keyB x
        · have Z := hide (KB.out hK)
          have T0b := hide (T0.out.below bx.out (by omega))
          have Qb := hide (Q.out.trans (bx.out.mono hqs))
          go_wp2_with (go_at_call 34; refine (keyOk_any x _ s1).mono ?_; rintro e w' ⟨rfl, rfl⟩)
          have TS := (T0b.out.set (A' := none) (n' := 0) (cap' := 0)).c
          exact bodyPost_ret (v := .tuple #[.agg #[.slice none 0 0], .bool false]) (by simp [results, Try.results33, go_sem, TS]) rfl ⟨Qb.out.setCell (p := ⟨w.heap.size, 0, none⟩) (Nat.le_refl _) _, .inl ⟨Z.out, rfl⟩⟩
        · cases hV : QI.idB y
          · have Z := hide (VB.out hV)
            have Qb := hide (Q.out.trans (bx.out.mono hqs))
            have T0b := hide (T0.out.below bx.out (by omega))
            go_wp2_with (first | (go_at_call 34; refine (keyOk_any x _ s1).mono ?_; rintro e w' ⟨rfl, rfl⟩) | (go_at_call 35; refine (QI.implIdOk_any y _ s2).mono ?_; rintro e w' ⟨rfl, rfl⟩))
            have TS := (T0b.out.set (A' := none) (n' := 0) (cap' := 0)).c
            exact bodyPost_ret (v := .tuple #[.agg #[.slice none 0 0], .bool false]) (by simp [results, Try.results33, go_sem, TS]) rfl ⟨Qb.out.setCell (p := ⟨w.heap.size, 0, none⟩) (Nat.le_refl _) _, .inl ⟨Z.out, rfl⟩⟩
          · have FN := hide (FS.out hK hV)
            have r1 := (T1.out.below bx.out (by omega)).c
            have f1 := (T1.out.below bx.out (by omega)).frozen 0
            have b3 : Hid (Below wr.heap.size wr (((wr.alloc (.cells #[.string x, .string y] 37)).alloc (.cells #[.string x, .string y] 37)).alloc (.cells #[pv (wr.heap.size + 1)] 63))) := hide ((((Below.refl _ _).alloc (Nat.le_refl _) _).alloc (by simp) _).alloc (by simp; omega) _)
            have hbl : k = bs.length := BL.out.symm
            have BL2 := hide hbl
            clear hbl
            go_wp2_with (first
              | (go_at_call 34; refine (keyOk_any x _ s1).mono ?_; rintro e w' ⟨rfl, rfl⟩)
              | (go_at_call 35; refine (QI.implIdOk_any y _ s2).mono ?_; rintro e w' ⟨rfl, rfl⟩)
              | (at_builtin; refine wpList_appP (l := bs) (l' := [wr.heap.size + 1]) (B := w.heap.size + 2) 53 Try.underlying53 rfl (.tmp 29) (.tmp 36) rfl rfl rfl BL2.out rfl (P.out.1.below b3.out) (QIn.one (wr.heap.size + 1) _ (s := wr.heap.size + 2) (by simp)) (by simp; omega) (by rw [BL.out]; simp; omega) ?_; intro A6 cap6 w6 own6 g6 r6; have B6 := hide ((P.out.1.below b3.out).grownBelow g6 (by simp; omega)); have T6 := hide ((T1.out.below b3.out (by omega)).below B6.out (by omega)); have U6 := hide ((T0.out.below b3.out (by omega)).below B6.out (by omega)); have P6 := hide (PRefs.push P.out rfl (by omega) s1 s2 g6 own6 (by simpa using r6)); have r7 := T6.out.c; have f7 := T6.out.frozen 0; have Q6 := hide (Q.out.trans ((b3.out.mono hqs).trans (B6.out.mono (by omega)))); clear own6 g6 r6))
            have L6 : Hid ((bs ++ [wr.heap.size + 1]).length = k + 1) := hide (by rw [List.length_append, BL.out]; rfl)
            rw [TK.out] at P6
            have T8 : Hid (TB (w6.setCell ⟨w.heap.size + 1, 0, none⟩ (.slice A6 (bs ++ [wr.heap.size + 1]).length cap6)) (w.heap.size + 1) A6 (k + 1) cap6) := hide (by rw [L6.out]; exact T6.out.set)
            have U8 := hide (U6.out.other ⟨w.heap.size + 1, 0, none⟩ (.slice A6 (bs ++ [wr.heap.size + 1]).length cap6) (by simp))
            have P8 := hide (P6.out.setLow (a := ⟨w.heap.size + 1, 0, none⟩) (by simp) (.slice A6 (bs ++ [wr.heap.size + 1]).length cap6))
            have Q8 := hide (Q6.out.setCell (p := ⟨w.heap.size + 1, 0, none⟩) (by simp) (.slice A6 (bs ++ [wr.heap.size + 1]).length cap6))
            have EL : (bs ++ [wr.heap.size + 1]).length = bs.length + 1 := by simp
            rw [EL] at T8 U8 P8 Q8
            exact ⟨⟨k + 1, A6, cap6, bs ++ [wr.heap.size + 1], by omega, by go_num, L6, FN, U8, T8, P8, Q8⟩, by simp [intOf]; omega⟩
      · obtain rfl : k = n := by omega
        have TK : Hid (l.take k = l) := hide (by rw [← HN.out, List.take_length])
        rw [TK.out] at P
        have RR : Hid (refB l = risesB l) := hide (refB_of (by rw [HN.out]; omega) (by rw [HN.out]; exact H.out))
        have hkk : ¬ (k : Int) < (k : Int) := by omega
        have r1 := T1.out.c
        have hlm : l.length ≤ maxLen := by rw [HN.out]; unfold maxLen; omega
        have RI := hide (risesR_any A2 l cap2 wr hlm P.out.rin)
        rw [HN.out] at RI
        go_wp2_with fail
        refine RI.out.mono ?_
        rintro e w5 ⟨rfl, b5⟩
        have T05 := hide (T0.out.below b5 (by omega))
        have T15 := hide (T1.out.below b5 (by omega))
        have P5 := hide (P.out.below b5)
        have Q5 := hide (Q.out.trans (b5.mono hqs))
        have r2 := T05.out.c
        have f2 := T05.out.frozen 0
        have r3 := T15.out.c
        clear b5 r1 RI
        cases hr : risesB l
        · have Z : Hid (refB l = false) := hide (by rw [RR.out]; exact hr)
          go_wp2
          have TS := (T05.out.set (A' := none) (n' := 0) (cap' := 0)).c
          exact bodyPost_ret (v := .tuple #[.agg #[.slice none 0 0], .bool false]) (by simp [results, Try.results33, go_sem, TS]) rfl ⟨Q5.out.setCell (p := ⟨w.heap.size, 0, none⟩) (Nat.le_refl _) _, .inl ⟨Z.out, rfl⟩⟩
        · have Z : Hid (refB l = true) := hide (by rw [RR.out]; exact hr)
          go_wp2
          have TS := (T05.out.set (A' := A2) (n' := k) (cap' := cap2)).c
          have P6 := P5.out.setLow (a := ⟨w.heap.size, 0, none⟩) (by simp) (.slice A2 k cap2)
          exact bodyPost_ret (v := .tuple #[.agg #[.slice A2 k cap2], .bool true]) (by simp [results, Try.results33, go_sem, TS]) rfl ⟨Q5.out.setCell (p := ⟨w.heap.size, 0, none⟩) (Nat.le_refl _) _, .inr ⟨Z.out, A2, cap2, bs, by rw [HN.out], P6.more (by omega)⟩⟩
end Go.Proofs.Ytmmeabfeehnajaa
