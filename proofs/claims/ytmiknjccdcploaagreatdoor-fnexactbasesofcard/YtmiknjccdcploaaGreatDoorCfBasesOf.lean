/-
  Closed facts of the row of laws.FnExactBasesOf.
-/
import Derived.Test.YtmiknjccdcploaaGreatDoorCfAll
namespace Go.Proofs.YtmiknjccdcploaaGreatDoor.ExBasesOf
set_option maxRecDepth 100000 in
theorem cf1 : (Rows.fnExactBasesOfRow.inPlace == Tryz.pinned.checked.prog.inPlace 3) = true := by kernel_rfl
set_option maxRecDepth 100000 in
theorem cf2 : (Rows.fnExactBasesOfRow.unfollowed == Tryz.pinned.checked.prog.unfollowed 3) = true := by kernel_rfl
set_option maxRecDepth 100000 in
theorem cf3 : (Rows.fnExactBasesOfRow.recurses == Tryz.pinned.checked.prog.recurses 3) = true := by kernel_rfl
set_option maxRecDepth 100000 in
theorem cf4 : (Rows.fnExactBasesOfRow.named == Tryz.pinned.checked.prog.varsNamed 3) = true := by kernel_rfl
set_option maxRecDepth 100000 in
theorem cwf : Rows.fnExactBasesOfRow.wfByText (OpenSpec.ofChange Rows.fnExactBasesOfSpec) = true := by kernel_rfl
set_option maxRecDepth 100000 in
theorem cgo : true = Rows.fnExactBasesOfRow.goesBy Tryz.pinned.checked.prog := by kernel_rfl
end Go.Proofs.YtmiknjccdcploaaGreatDoor.ExBasesOf
