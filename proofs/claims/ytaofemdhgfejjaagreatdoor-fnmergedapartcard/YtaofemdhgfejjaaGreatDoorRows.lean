/-
  NARROWER THAN 'FOR EVERY INPUT', by the rows' own cells (each row's printed sentence says how): FnMerged: ifaces, laid · FnResolved: ifaces, laid · FnMergedApart: ifaces, laid · FnResolvedSides: ifaces, laid.
  DERIVED. THE GIVEN ROWS OF THIS SEAT. 4 by the template 'for every input the law returns true; each argument reads behind the call as it read before'; 0 by the template 'total and deterministic' (their statements: YtaofemdhgfejjaaGreatDoorTotals.lean).
  GIVEN WITH THE SEED: the statements are not yours to turn. If you find one false, say at which input.
  Laid BY PROGRAM, IN A SANDBOX (cutbox-rows.mjs): the forced cells as the released guide's own fill.sh prints them over the translation 004f931f28286f5f… (all of the seat's roots in one cut). By AI agents, Wed Nov 11 2026. No macro, syntax, notation, axiom, sorry.
-/
import Derived.Test.YtaofemdhgfejjaaGreatDoorChecked
import GoSem.Claim
import GoSem.ClaimJoined
import GoSem.ClaimMapViews
import Derived.JoinedTies
import Derived.KernelRfl
namespace Go.Proofs.YtaofemdhgfejjaaGreatDoor
/- THE CELL 'sum', in the pinned program and in every row, IS THE sha256 OF THE DUMP (.gsa) THAT YtaofemdhgfejjaaGreatDoorProg.lean LOADS. Nothing in Lean hashes anything: it is a label: what it is worth is what the hold of that sum in a sandbox is worth. -/
noncomputable def Tryz.pinned : Pinned := { name := "ytaofemdhgfejjaagreatdoor", sum := "004f931f28286f5fdb823206dcf6ddd455d37a5c2e1a83033ecb26d7d369651d", checked := Tryz.checked }
namespace Rows
def none {H : Type} : Left H := { results := [], args := [] }

/- WHAT THE LISTED PACKAGE-LEVEL VARIABLES READ AS WHEN THE CALL BEGINS. Each datum BY PROGRAM (the guide's laid-datum.mjs) off the statement by which the dump's own 'gosem.cut.vars' lays the variable. In a bare row this is a premise. The card (YtaofemdhgfejjaaGreatDoorCards.lean) ties it to the program's text. -/
def laid_errors_errorType {H : Type} : DataW H := .iface "internal/reflectlite.rtype" (.agg [.ptr (.lit (.string [101, 114, 114, 111, 114]))])
def laid_loop_example_g00652_impl_errNotRight {H : Type} : DataW H := .iface "*errors.errorString" (.ptr (.agg [.lit (.string [105, 116, 32, 105, 115, 32, 110, 111, 116, 32, 114, 105, 103, 104, 116])]))

/-- 'laws.FnMerged': WHATEVER THE INPUT: true; the input reads as it did. -/
def fnMergedSpec : ChangeSpec := { name := "fnMerged", vars := ["loop.example/g00652/impl.errNotRight"], fn := fun _ => fun
  | [d, g1] => { results := [.lit (.bool true)], args := [d], vars := [g1] }
  | _ => none }
def fnMergedRow : OpenClaim := { program := "ytaofemdhgfejjaagreatdoor", sum := "004f931f28286f5fdb823206dcf6ddd455d37a5c2e1a83033ecb26d7d369651d", func := "loop.example/g00652/laws.FnMerged", spec := "fnMerged", inPlace := ["internal/bytealg.abigen_runtime_cmpstring", "internal/reflectlite.TypeOf", "internal/reflectlite.ValueOf", "(internal/reflectlite.Value).Type", "(internal/reflectlite.Value).IsNil", "(internal/reflectlite.Value).Elem", "(internal/reflectlite.Value).Set"], unfollowed := true, recurses := true, named := ["loop.example/g00652/impl.errNotRight", "errors.errorType"], ifaces := true, apart := false, laid := [("errors.errorType", laid_errors_errorType), ("loop.example/g00652/impl.errNotRight", laid_loop_example_g00652_impl_errNotRight)] }
def FnMergedSaid : Prop := fnMergedRow.holds Tryz.pinned (OpenSpec.ofChange fnMergedSpec)

/-- ITS FALSE NEIGHBOUR: 'it returns false'. Refute it at one input. -/
def fnMergedWrong : ChangeSpec := { name := "fnMerged", vars := ["loop.example/g00652/impl.errNotRight"], fn := fun _ => fun
  | [d, g1] => { results := [.lit (.bool false)], args := [d], vars := [g1] }
  | _ => none }
def FnMergedWrongFalsely : Prop := fnMergedRow.holds Tryz.pinned (OpenSpec.ofChange fnMergedWrong)

/-- 'laws.FnResolved': WHATEVER THE INPUT: true; the input reads as it did. -/
def fnResolvedSpec : ChangeSpec := { name := "fnResolved", vars := ["loop.example/g00652/impl.errNotRight"], fn := fun _ => fun
  | [d, g1] => { results := [.lit (.bool true)], args := [d], vars := [g1] }
  | _ => none }
def fnResolvedRow : OpenClaim := { program := "ytaofemdhgfejjaagreatdoor", sum := "004f931f28286f5fdb823206dcf6ddd455d37a5c2e1a83033ecb26d7d369651d", func := "loop.example/g00652/laws.FnResolved", spec := "fnResolved", inPlace := ["internal/bytealg.abigen_runtime_cmpstring", "internal/reflectlite.TypeOf", "internal/reflectlite.ValueOf", "(internal/reflectlite.Value).Type", "(internal/reflectlite.Value).IsNil", "(internal/reflectlite.Value).Elem", "(internal/reflectlite.Value).Set"], unfollowed := true, recurses := true, named := ["loop.example/g00652/impl.errNotRight", "errors.errorType"], ifaces := true, apart := false, laid := [("errors.errorType", laid_errors_errorType), ("loop.example/g00652/impl.errNotRight", laid_loop_example_g00652_impl_errNotRight)] }
def FnResolvedSaid : Prop := fnResolvedRow.holds Tryz.pinned (OpenSpec.ofChange fnResolvedSpec)

/-- ITS FALSE NEIGHBOUR: 'it returns false'. Refute it at one input. -/
def fnResolvedWrong : ChangeSpec := { name := "fnResolved", vars := ["loop.example/g00652/impl.errNotRight"], fn := fun _ => fun
  | [d, g1] => { results := [.lit (.bool false)], args := [d], vars := [g1] }
  | _ => none }
def FnResolvedWrongFalsely : Prop := fnResolvedRow.holds Tryz.pinned (OpenSpec.ofChange fnResolvedWrong)

/-- 'laws.FnMergedApart': WHATEVER THE INPUT: true; the input reads as it did. -/
def fnMergedApartSpec : ChangeSpec := { name := "fnMergedApart", vars := ["loop.example/g00652/impl.errNotRight"], fn := fun _ => fun
  | [d, g1] => { results := [.lit (.bool true)], args := [d], vars := [g1] }
  | _ => none }
def fnMergedApartRow : OpenClaim := { program := "ytaofemdhgfejjaagreatdoor", sum := "004f931f28286f5fdb823206dcf6ddd455d37a5c2e1a83033ecb26d7d369651d", func := "loop.example/g00652/laws.FnMergedApart", spec := "fnMergedApart", inPlace := ["internal/bytealg.abigen_runtime_cmpstring", "internal/reflectlite.TypeOf", "internal/reflectlite.ValueOf", "(internal/reflectlite.Value).Type", "(internal/reflectlite.Value).IsNil", "(internal/reflectlite.Value).Elem", "(internal/reflectlite.Value).Set"], unfollowed := true, recurses := true, named := ["loop.example/g00652/impl.errNotRight", "errors.errorType"], ifaces := true, apart := false, laid := [("errors.errorType", laid_errors_errorType), ("loop.example/g00652/impl.errNotRight", laid_loop_example_g00652_impl_errNotRight)] }
def FnMergedApartSaid : Prop := fnMergedApartRow.holds Tryz.pinned (OpenSpec.ofChange fnMergedApartSpec)

/-- ITS FALSE NEIGHBOUR: 'it returns false'. Refute it at one input. -/
def fnMergedApartWrong : ChangeSpec := { name := "fnMergedApart", vars := ["loop.example/g00652/impl.errNotRight"], fn := fun _ => fun
  | [d, g1] => { results := [.lit (.bool false)], args := [d], vars := [g1] }
  | _ => none }
def FnMergedApartWrongFalsely : Prop := fnMergedApartRow.holds Tryz.pinned (OpenSpec.ofChange fnMergedApartWrong)

/-- 'laws.FnResolvedSides': WHATEVER THE INPUT: true; the input reads as it did. -/
def fnResolvedSidesSpec : ChangeSpec := { name := "fnResolvedSides", vars := ["loop.example/g00652/impl.errNotRight"], fn := fun _ => fun
  | [d, g1] => { results := [.lit (.bool true)], args := [d], vars := [g1] }
  | _ => none }
def fnResolvedSidesRow : OpenClaim := { program := "ytaofemdhgfejjaagreatdoor", sum := "004f931f28286f5fdb823206dcf6ddd455d37a5c2e1a83033ecb26d7d369651d", func := "loop.example/g00652/laws.FnResolvedSides", spec := "fnResolvedSides", inPlace := ["internal/bytealg.abigen_runtime_cmpstring", "internal/reflectlite.TypeOf", "internal/reflectlite.ValueOf", "(internal/reflectlite.Value).Type", "(internal/reflectlite.Value).IsNil", "(internal/reflectlite.Value).Elem", "(internal/reflectlite.Value).Set"], unfollowed := true, recurses := true, named := ["loop.example/g00652/impl.errNotRight", "errors.errorType"], ifaces := true, apart := false, laid := [("errors.errorType", laid_errors_errorType), ("loop.example/g00652/impl.errNotRight", laid_loop_example_g00652_impl_errNotRight)] }
def FnResolvedSidesSaid : Prop := fnResolvedSidesRow.holds Tryz.pinned (OpenSpec.ofChange fnResolvedSidesSpec)

/-- ITS FALSE NEIGHBOUR: 'it returns false'. Refute it at one input. -/
def fnResolvedSidesWrong : ChangeSpec := { name := "fnResolvedSides", vars := ["loop.example/g00652/impl.errNotRight"], fn := fun _ => fun
  | [d, g1] => { results := [.lit (.bool false)], args := [d], vars := [g1] }
  | _ => none }
def FnResolvedSidesWrongFalsely : Prop := fnResolvedSidesRow.holds Tryz.pinned (OpenSpec.ofChange fnResolvedSidesWrong)

/- THE SECOND FORM. 'bulk': how many values and letters a reading holds, each counted each time it is reached (what is shared counts as often as it is met; a slice's spare places count too). A statement '..UptoSaid' is the law's where the arguments, and the package variables that the reading takes, are together of bulk at most 1048576: NARROWER than '..Said'. Prove '..Said' where nothing that the law and all that it calls make is longer than what came in: it says more and counts as full. Else prove '..UptoSaid'. A law counts once. -/
mutual
def uptoBulk {H : Type} : DataW H → Nat
  | .lit (.string bytes) => bytes.length + 1
  | .lit _ => 1
  | .nil => 1
  | .ptr d => uptoBulk d + 1
  | .slice elems spare => uptoBulkAll elems + uptoBulkAll spare + 1
  | .agg parts => uptoBulkAll parts + 1
  | .iface _ d => uptoBulk d + 1
  | .map entries => uptoBulkEntries entries + 1
  | .held _ => 1
def uptoBulkAll {H : Type} : List (DataW H) → Nat
  | [] => 0
  | d :: r => uptoBulk d + uptoBulkAll r
def uptoBulkEntries {H : Type} : List (Lit × DataW H) → Nat
  | [] => 0
  | x :: r => uptoBulkEntry x + uptoBulkEntries r
def uptoBulkEntry {H : Type} : Lit × DataW H → Nat
  | (.string bytes, d) => bytes.length + uptoBulk d + 1
  | (_, d) => uptoBulk d + 1
 end
def uptoSmall : (H : Type) → List (DataW H) → Bool := fun _ ds => decide (uptoBulkAll ds ≤ 1048576)
def OpenSpec.upto (s : _root_.Go.ChangeSpec) : _root_.Go.OpenSpec := { _root_.Go.OpenSpec.ofChange s with cond := some uptoSmall }

/-- 'laws.FnMerged', WHERE WHAT IT READS IS OF BULK AT MOST 1048576: true; the input reads as it did. -/
def fnMergedUptoRow : OpenClaim := { program := "ytaofemdhgfejjaagreatdoor", sum := "004f931f28286f5fdb823206dcf6ddd455d37a5c2e1a83033ecb26d7d369651d", func := "loop.example/g00652/laws.FnMerged", spec := "fnMerged", inPlace := ["internal/bytealg.abigen_runtime_cmpstring", "internal/reflectlite.TypeOf", "internal/reflectlite.ValueOf", "(internal/reflectlite.Value).Type", "(internal/reflectlite.Value).IsNil", "(internal/reflectlite.Value).Elem", "(internal/reflectlite.Value).Set"], unfollowed := true, recurses := true, named := ["loop.example/g00652/impl.errNotRight", "errors.errorType"], ifaces := true, apart := false, laid := [("errors.errorType", laid_errors_errorType), ("loop.example/g00652/impl.errNotRight", laid_loop_example_g00652_impl_errNotRight)], narrowed := true }
def FnMergedUptoSaid : Prop := fnMergedUptoRow.holds Tryz.pinned (OpenSpec.upto fnMergedSpec)

/-- 'laws.FnResolved', WHERE WHAT IT READS IS OF BULK AT MOST 1048576: true; the input reads as it did. -/
def fnResolvedUptoRow : OpenClaim := { program := "ytaofemdhgfejjaagreatdoor", sum := "004f931f28286f5fdb823206dcf6ddd455d37a5c2e1a83033ecb26d7d369651d", func := "loop.example/g00652/laws.FnResolved", spec := "fnResolved", inPlace := ["internal/bytealg.abigen_runtime_cmpstring", "internal/reflectlite.TypeOf", "internal/reflectlite.ValueOf", "(internal/reflectlite.Value).Type", "(internal/reflectlite.Value).IsNil", "(internal/reflectlite.Value).Elem", "(internal/reflectlite.Value).Set"], unfollowed := true, recurses := true, named := ["loop.example/g00652/impl.errNotRight", "errors.errorType"], ifaces := true, apart := false, laid := [("errors.errorType", laid_errors_errorType), ("loop.example/g00652/impl.errNotRight", laid_loop_example_g00652_impl_errNotRight)], narrowed := true }
def FnResolvedUptoSaid : Prop := fnResolvedUptoRow.holds Tryz.pinned (OpenSpec.upto fnResolvedSpec)

/-- 'laws.FnMergedApart', WHERE WHAT IT READS IS OF BULK AT MOST 1048576: true; the input reads as it did. -/
def fnMergedApartUptoRow : OpenClaim := { program := "ytaofemdhgfejjaagreatdoor", sum := "004f931f28286f5fdb823206dcf6ddd455d37a5c2e1a83033ecb26d7d369651d", func := "loop.example/g00652/laws.FnMergedApart", spec := "fnMergedApart", inPlace := ["internal/bytealg.abigen_runtime_cmpstring", "internal/reflectlite.TypeOf", "internal/reflectlite.ValueOf", "(internal/reflectlite.Value).Type", "(internal/reflectlite.Value).IsNil", "(internal/reflectlite.Value).Elem", "(internal/reflectlite.Value).Set"], unfollowed := true, recurses := true, named := ["loop.example/g00652/impl.errNotRight", "errors.errorType"], ifaces := true, apart := false, laid := [("errors.errorType", laid_errors_errorType), ("loop.example/g00652/impl.errNotRight", laid_loop_example_g00652_impl_errNotRight)], narrowed := true }
def FnMergedApartUptoSaid : Prop := fnMergedApartUptoRow.holds Tryz.pinned (OpenSpec.upto fnMergedApartSpec)

/-- 'laws.FnResolvedSides', WHERE WHAT IT READS IS OF BULK AT MOST 1048576: true; the input reads as it did. -/
def fnResolvedSidesUptoRow : OpenClaim := { program := "ytaofemdhgfejjaagreatdoor", sum := "004f931f28286f5fdb823206dcf6ddd455d37a5c2e1a83033ecb26d7d369651d", func := "loop.example/g00652/laws.FnResolvedSides", spec := "fnResolvedSides", inPlace := ["internal/bytealg.abigen_runtime_cmpstring", "internal/reflectlite.TypeOf", "internal/reflectlite.ValueOf", "(internal/reflectlite.Value).Type", "(internal/reflectlite.Value).IsNil", "(internal/reflectlite.Value).Elem", "(internal/reflectlite.Value).Set"], unfollowed := true, recurses := true, named := ["loop.example/g00652/impl.errNotRight", "errors.errorType"], ifaces := true, apart := false, laid := [("errors.errorType", laid_errors_errorType), ("loop.example/g00652/impl.errNotRight", laid_loop_example_g00652_impl_errNotRight)], narrowed := true }
def FnResolvedSidesUptoSaid : Prop := fnResolvedSidesUptoRow.holds Tryz.pinned (OpenSpec.upto fnResolvedSidesSpec)

end Rows
end Go.Proofs.YtaofemdhgfejjaaGreatDoor
