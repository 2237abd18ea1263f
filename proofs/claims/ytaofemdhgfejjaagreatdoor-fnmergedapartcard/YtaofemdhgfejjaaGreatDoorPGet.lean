/-
  What Get tells, in the reference and in the program.
-/
import Derived.Test.YtaofemdhgfejjaaGreatDoorPFind
import Derived.Test.YtaofemdhgfejjaaGreatDoorPMapOkS
import Derived.Test.YtaofemdhgfejjaaGreatDoorPMapOkI
namespace Go.Proofs.YtaofemdhgfejjaaGreatDoor
open Go.RowKit

set_option maxRecDepth 100000 in
set_option maxHeartbeats 1000000 in
theorem l1Get_any (A : Option Addr) (l : List Pr) (cap : Nat) (key : ByteArray) (w : World) (B : Nat) (hl : l.length ≤ maxLen) (hin : PIn w B A l) :
    Calls Tryz.prog 59 #[.slice A l.length cap, .string key] w fun e w' => e = .returned (.tuple #[.string (valOf l key), .bool (hasB l key)]) ∧ w = w' := by
  have R := hide (l1At_any A l cap key w B hl hin)
  have hle := atN_le l key
  unfold maxLen at hl
  by_cases hlt : atN l key < l.length
  · obtain ⟨b, off, rfl, hbB, hc⟩ := hin.2 (by omega)
    obtain ⟨c1, c2⟩ := hc (atN l key) hlt
    have ne : ((atN l key : Int) == (l.length : Int)) = false := by rw [beq_eq_false_iff_ne]; omega
    by_cases he : (l[atN l key]'hlt).1 = key
    · have Z := hide (ret_sb (valOf_yes hlt he) (hasB_yes hlt he))
      have d1 := eqS_yes he
      generalize (l[atN l key]'hlt).1 = s at *
      generalize (l[atN l key]'hlt).2 = v at *
      generalize atN l key = m at *
      clear hin hc he
      generalize l.length = n at *
      go_enter Tryz.func59, Tryz.ntmps59
      go_wp2_with (go_at_call 80; refine R.out.mono ?_; rintro e w' ⟨rfl, rfl⟩)
      go_ret2
      exact ⟨Z.out.symm, rfl⟩
    · have Z := hide (ret_sb (valOf_no (hasB_no hlt he)) (hasB_no hlt he))
      have d1 := eqS_no he
      generalize (l[atN l key]'hlt).1 = s at *
      generalize (l[atN l key]'hlt).2 = v at *
      generalize atN l key = m at *
      clear hin hc he
      generalize l.length = n at *
      go_enter Tryz.func59, Tryz.ntmps59
      go_wp2_with (go_at_call 80; refine R.out.mono ?_; rintro e w' ⟨rfl, rfl⟩)
      go_ret2
      exact ⟨Z.out.symm, rfl⟩
  · have Z := hide (ret_sb (valOf_no (hasB_end hlt)) (hasB_end hlt))
    have ne : ((atN l key : Int) == (l.length : Int)) = true := by rw [beq_iff_eq]; omega
    generalize atN l key = m at *
    clear hin
    generalize l.length = n at *
    go_enter Tryz.func59, Tryz.ntmps59
    go_wp2_with (go_at_call 80; refine R.out.mono ?_; rintro e w' ⟨rfl, rfl⟩)
    go_ret2
    exact ⟨Z.out.symm, rfl⟩

theorem getB_no {l : List Pr} {k : ByteArray} (h : mapB l = false) : getB l k = false := by unfold getB; rw [h]; rfl
theorem getB_yes {l : List Pr} {k : ByteArray} (h : mapB l = true) : getB l k = hasB l k := by unfold getB; rw [h]; rfl
theorem getV_no {l : List Pr} {k : ByteArray} (h : mapB l = false) : getV l k = ByteArray.empty := by unfold getV; rw [h]; rfl
theorem getV_yes {l : List Pr} {k : ByteArray} (h : mapB l = true) : getV l k = valOf l k := by unfold getV; rw [h]; rfl

set_option maxRecDepth 100000 in
set_option maxHeartbeats 1000000 in
theorem specGet_any (A : Option Addr) (l : List Pr) (cap : Nat) (key : ByteArray) (w : World) (B : Nat) (hl : l.length ≤ maxLen) (hin : PIn w B A l) :
    Calls Tryz.prog 71 #[.slice A l.length cap, .string key] w fun e w' => e = .returned (.tuple #[.string (getV l key), .bool (getB l key)]) ∧ Quiet w w' := by
  cases hm : mapB l
  · have Z := hide (ret_sb (getV_no (k := key) hm) (getB_no (k := key) hm))
    go_enter Tryz.func71, Tryz.ntmps71
    go_wp2_with (go_at_call 28; refine (specMapOk_any A l cap _ B hl hin).mono ?_; rintro e w' ⟨rfl, q⟩)
    go_ret2
    exact ⟨Z.out.symm, q⟩
  · have Z := hide (ret_sb (getV_yes (k := key) hm) (getB_yes (k := key) hm))
    go_enter Tryz.func71, Tryz.ntmps71
    go_wp2_with (first | (go_at_call 28; refine (specMapOk_any A l cap _ B hl hin).mono ?_; rintro e w' ⟨rfl, q⟩) | (go_at_call 59; refine (l1Get_any A l cap key _ B hl (hin.quiet q)).mono ?_; rintro e w'' ⟨rfl, rfl⟩))
    go_ret2
    exact ⟨Z.out.symm, q⟩

set_option maxRecDepth 100000 in
set_option maxHeartbeats 1000000 in
theorem implGet_any (A : Option Addr) (l : List Pr) (cap : Nat) (key : ByteArray) (w : World) (hl : l.length ≤ maxLen) (hin : PIn w w.heap.size A l) :
    Calls Tryz.prog 13 #[.slice A l.length cap, .string key] w fun e w' => e = .returned (.tuple #[.string (getV l key), .bool (getB l key)]) ∧ Below w.heap.size w w' := by
  cases hm : mapB l
  · have Z := hide (ret_sb (getV_no (k := key) hm) (getB_no (k := key) hm))
    go_enter Tryz.func13, Tryz.ntmps13
    go_wp2_with (go_at_call 14; refine (implMapOk_any A l cap _ hl hin).mono ?_; rintro e w' ⟨rfl, q⟩)
    go_ret2
    exact ⟨Z.out.symm, q⟩
  · have h40 := (mapB_iff.1 hm).1
    have HR := hide (mapB_iff.1 hm).2.2
    have R := hide (implMapOk_any A l cap w hl hin)
    have hle := atN_le l key
    cases hh : hasB l key
    · have Z2 := hide (ret_sb ((getV_yes (k := key) hm).trans (valOf_no hh)) ((getB_yes (k := key) hm).trans hh))
      go_enter Tryz.func13, Tryz.ntmps13
      go_wp2_with fail
      refine R.out.mono ?_
      rintro e w1 ⟨rfl, b1⟩
      have in1 := (hin.below b1).more b1.size
      go_wp2_with fail
      refine (place_any A l cap key _ (by omega) in1 HR.out).mono ?_
      rintro e w2 ⟨rfl, b2⟩
      go_wp2
      go_ret2
      exact ⟨Z2.out.symm, b1.trans (b2.mono b1.size)⟩
    · obtain ⟨hlt, he⟩ := hasB_iff.1 hh
      have Z2 := hide (ret_sb ((getV_yes (k := key) hm).trans (valOf_yes hlt he)) ((getB_yes (k := key) hm).trans hh))
      have HA := hide (hin.2 (by omega))
      go_enter Tryz.func13, Tryz.ntmps13
      go_wp2_with fail
      refine R.out.mono ?_
      rintro e w1 ⟨rfl, b1⟩
      have in1 := (hin.below b1).more b1.size
      go_wp2_with fail
      refine (place_any A l cap key _ (by omega) in1 HR.out).mono ?_
      rintro e w2 ⟨rfl, b2⟩
      have in2 := in1.below b2
      obtain ⟨b, off, rfl, hbB, hc⟩ := in2.2 (by omega)
      obtain ⟨c1, c2⟩ := hc (atN l key) hlt
      have BB := hide (b1.trans (b2.mono b1.size))
      generalize (l[atN l key]'hlt).1 = s at *
      generalize (l[atN l key]'hlt).2 = v at *
      generalize atN l key = m at *
      clear hc in1 in2 b1 b2 he HA R hin
      go_wp2
      go_ret2
      exact ⟨Z2.out.symm, BB.out⟩
end Go.Proofs.YtaofemdhgfejjaaGreatDoor
