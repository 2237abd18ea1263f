/-
  Closed facts of the program, for a seat of many laws.
-/
import Derived.Test.YtmiknjccdcploaaGreatDoorGoLe
import Derived.Test.YtmiknjccdcploaaGreatDoorChecked
import Derived.JoinedOf
namespace Go.Proofs.YtmiknjccdcploaaGreatDoor
set_option maxRecDepth 100000 in
theorem cfa : laidOutB Tryz.pinned.checked.prog = true := by kernel_rfl
set_option maxRecDepth 100000 in
theorem cfb : mapsRowed Tryz.pinned.checked.prog = true := by kernel_rfl
set_option maxRecDepth 100000 in
theorem cfd : Tryz.pinned.checked.prog.stopsHeard = true := by kernel_rfl
set_option maxRecDepth 100000 in
theorem cfe : Tryz.pinned.checked.prog.mayEnter = true := by kernel_rfl
set_option maxRecDepth 100000 in
theorem cff : (false == Tryz.pinned.checked.prog.liftsFinal) = true := by kernel_rfl
end Go.Proofs.YtmiknjccdcploaaGreatDoor
