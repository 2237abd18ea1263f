/-
  NARROWER THAN 'FOR EVERY INPUT', by the rows' own cells (each row's printed sentence says how): FnMergedOne: ifaces, laid · FnMergedKeys: ifaces, laid · FnExactMerged: ifaces, laid · FnExactResolved: ifaces, laid.
  DERIVED. THE GIVEN ROWS OF THIS SEAT. 4 by the template 'for every input the law returns true; each argument reads behind the call as it read before'; 0 by the template 'total and deterministic' (their statements: YtaofemdhgfejjaaDoorTotals.lean).
  GIVEN WITH THE SEED: the statements are not yours to turn. If you find one false, say at which input.
  Laid BY PROGRAM, IN A SANDBOX (cutbox-rows.mjs): the forced cells as the released guide's own fill.sh prints them over the translation 1368332c954da3a9… (all of the seat's roots in one cut). By AI agents, Wed Nov 11 2026. No macro, syntax, notation, axiom, sorry.
-/
import Derived.Test.YtaofemdhgfejjaaDoorChecked
import GoSem.Claim
import GoSem.ClaimJoined
import GoSem.ClaimMapViews
import Derived.JoinedTies
import Derived.KernelRfl
namespace Go.Proofs.YtaofemdhgfejjaaDoor
/- THE CELL 'sum', in the pinned program and in every row, IS THE sha256 OF THE DUMP (.gsa) THAT YtaofemdhgfejjaaDoorProg.lean LOADS. Nothing in Lean hashes anything: it is a label: what it is worth is what the hold of that sum in a sandbox is worth. -/
noncomputable def Tryd.pinned : Pinned := { name := "ytaofemdhgfejjaadoor", sum := "1368332c954da3a9fabf37c3221454e6b03d5b5a46a5c4c6e549260b28e62753", checked := Tryd.checked }
namespace Rows
def none {H : Type} : Left H := { results := [], args := [] }

/- WHAT THE LISTED PACKAGE-LEVEL VARIABLES READ AS WHEN THE CALL BEGINS. Each datum BY PROGRAM (the guide's laid-datum.mjs) off the statement by which the dump's own 'gosem.cut.vars' lays the variable. In a bare row this is a premise. The card (YtaofemdhgfejjaaDoorCards.lean) ties it to the program's text. -/
def laid_errors_errorType {H : Type} : DataW H := .iface "internal/reflectlite.rtype" (.agg [.ptr (.lit (.string [101, 114, 114, 111, 114]))])
def laid_loop_example_g00652_impl_errNotRight {H : Type} : DataW H := .iface "*errors.errorString" (.ptr (.agg [.lit (.string [105, 116, 32, 105, 115, 32, 110, 111, 116, 32, 114, 105, 103, 104, 116])]))

/-- 'laws.FnMergedOne': WHATEVER THE INPUT: true; the input reads as it did. -/
def fnMergedOneSpec : ChangeSpec := { name := "fnMergedOne", vars := ["loop.example/g00652/impl.errNotRight"], fn := fun _ => fun
  | [d, g1] => { results := [.lit (.bool true)], args := [d], vars := [g1] }
  | _ => none }
def fnMergedOneRow : OpenClaim := { program := "ytaofemdhgfejjaadoor", sum := "1368332c954da3a9fabf37c3221454e6b03d5b5a46a5c4c6e549260b28e62753", func := "loop.example/g00652/laws.FnMergedOne", spec := "fnMergedOne", inPlace := ["internal/bytealg.abigen_runtime_cmpstring", "internal/reflectlite.TypeOf", "internal/reflectlite.ValueOf", "(internal/reflectlite.Value).Type", "(internal/reflectlite.Value).IsNil", "(internal/reflectlite.Value).Elem", "(internal/reflectlite.Value).Set"], unfollowed := true, recurses := true, named := ["loop.example/g00652/impl.errNotRight", "errors.errorType"], ifaces := true, apart := false, laid := [("errors.errorType", laid_errors_errorType), ("loop.example/g00652/impl.errNotRight", laid_loop_example_g00652_impl_errNotRight)] }
def FnMergedOneSaid : Prop := fnMergedOneRow.holds Tryd.pinned (OpenSpec.ofChange fnMergedOneSpec)

/-- ITS FALSE NEIGHBOUR: 'it returns false'. Refute it at one input. -/
def fnMergedOneWrong : ChangeSpec := { name := "fnMergedOne", vars := ["loop.example/g00652/impl.errNotRight"], fn := fun _ => fun
  | [d, g1] => { results := [.lit (.bool false)], args := [d], vars := [g1] }
  | _ => none }
def FnMergedOneWrongFalsely : Prop := fnMergedOneRow.holds Tryd.pinned (OpenSpec.ofChange fnMergedOneWrong)

/-- 'laws.FnMergedKeys': WHATEVER THE INPUT: true; the input reads as it did. -/
def fnMergedKeysSpec : ChangeSpec := { name := "fnMergedKeys", vars := ["loop.example/g00652/impl.errNotRight"], fn := fun _ => fun
  | [d, g1] => { results := [.lit (.bool true)], args := [d], vars := [g1] }
  | _ => none }
def fnMergedKeysRow : OpenClaim := { program := "ytaofemdhgfejjaadoor", sum := "1368332c954da3a9fabf37c3221454e6b03d5b5a46a5c4c6e549260b28e62753", func := "loop.example/g00652/laws.FnMergedKeys", spec := "fnMergedKeys", inPlace := ["internal/bytealg.abigen_runtime_cmpstring", "internal/reflectlite.TypeOf", "internal/reflectlite.ValueOf", "(internal/reflectlite.Value).Type", "(internal/reflectlite.Value).IsNil", "(internal/reflectlite.Value).Elem", "(internal/reflectlite.Value).Set"], unfollowed := true, recurses := true, named := ["loop.example/g00652/impl.errNotRight", "errors.errorType"], ifaces := true, apart := false, laid := [("errors.errorType", laid_errors_errorType), ("loop.example/g00652/impl.errNotRight", laid_loop_example_g00652_impl_errNotRight)] }
def FnMergedKeysSaid : Prop := fnMergedKeysRow.holds Tryd.pinned (OpenSpec.ofChange fnMergedKeysSpec)

/-- ITS FALSE NEIGHBOUR: 'it returns false'. Refute it at one input. -/
def fnMergedKeysWrong : ChangeSpec := { name := "fnMergedKeys", vars := ["loop.example/g00652/impl.errNotRight"], fn := fun _ => fun
  | [d, g1] => { results := [.lit (.bool false)], args := [d], vars := [g1] }
  | _ => none }
def FnMergedKeysWrongFalsely : Prop := fnMergedKeysRow.holds Tryd.pinned (OpenSpec.ofChange fnMergedKeysWrong)

/-- 'laws.FnExactMerged': WHATEVER THE INPUT: true; the input reads as it did. -/
def fnExactMergedSpec : ChangeSpec := { name := "fnExactMerged", vars := ["loop.example/g00652/impl.errNotRight"], fn := fun _ => fun
  | [d1, d2, d3, g1] => { results := [.lit (.bool true)], args := [d1, d2, d3], vars := [g1] }
  | _ => none }
def fnExactMergedRow : OpenClaim := { program := "ytaofemdhgfejjaadoor", sum := "1368332c954da3a9fabf37c3221454e6b03d5b5a46a5c4c6e549260b28e62753", func := "loop.example/g00652/laws.FnExactMerged", spec := "fnExactMerged", inPlace := ["internal/bytealg.abigen_runtime_cmpstring", "internal/reflectlite.TypeOf", "internal/reflectlite.ValueOf", "(internal/reflectlite.Value).Type", "(internal/reflectlite.Value).IsNil", "(internal/reflectlite.Value).Elem", "(internal/reflectlite.Value).Set"], unfollowed := true, recurses := true, named := ["loop.example/g00652/impl.errNotRight", "errors.errorType"], ifaces := true, apart := false, laid := [("errors.errorType", laid_errors_errorType), ("loop.example/g00652/impl.errNotRight", laid_loop_example_g00652_impl_errNotRight)] }
def FnExactMergedSaid : Prop := fnExactMergedRow.holds Tryd.pinned (OpenSpec.ofChange fnExactMergedSpec)

/-- ITS FALSE NEIGHBOUR: 'it returns false'. Refute it at one input. -/
def fnExactMergedWrong : ChangeSpec := { name := "fnExactMerged", vars := ["loop.example/g00652/impl.errNotRight"], fn := fun _ => fun
  | [d1, d2, d3, g1] => { results := [.lit (.bool false)], args := [d1, d2, d3], vars := [g1] }
  | _ => none }
def FnExactMergedWrongFalsely : Prop := fnExactMergedRow.holds Tryd.pinned (OpenSpec.ofChange fnExactMergedWrong)

/-- 'laws.FnExactResolved': WHATEVER THE INPUT: true; the input reads as it did. -/
def fnExactResolvedSpec : ChangeSpec := { name := "fnExactResolved", vars := ["loop.example/g00652/impl.errNotRight"], fn := fun _ => fun
  | [d1, d2, d3, d4, g1] => { results := [.lit (.bool true)], args := [d1, d2, d3, d4], vars := [g1] }
  | _ => none }
def fnExactResolvedRow : OpenClaim := { program := "ytaofemdhgfejjaadoor", sum := "1368332c954da3a9fabf37c3221454e6b03d5b5a46a5c4c6e549260b28e62753", func := "loop.example/g00652/laws.FnExactResolved", spec := "fnExactResolved", inPlace := ["internal/bytealg.abigen_runtime_cmpstring", "internal/reflectlite.TypeOf", "internal/reflectlite.ValueOf", "(internal/reflectlite.Value).Type", "(internal/reflectlite.Value).IsNil", "(internal/reflectlite.Value).Elem", "(internal/reflectlite.Value).Set"], unfollowed := true, recurses := true, named := ["loop.example/g00652/impl.errNotRight", "errors.errorType"], ifaces := true, apart := false, laid := [("errors.errorType", laid_errors_errorType), ("loop.example/g00652/impl.errNotRight", laid_loop_example_g00652_impl_errNotRight)] }
def FnExactResolvedSaid : Prop := fnExactResolvedRow.holds Tryd.pinned (OpenSpec.ofChange fnExactResolvedSpec)

/-- ITS FALSE NEIGHBOUR: 'it returns false'. Refute it at one input. -/
def fnExactResolvedWrong : ChangeSpec := { name := "fnExactResolved", vars := ["loop.example/g00652/impl.errNotRight"], fn := fun _ => fun
  | [d1, d2, d3, d4, g1] => { results := [.lit (.bool false)], args := [d1, d2, d3, d4], vars := [g1] }
  | _ => none }
def FnExactResolvedWrongFalsely : Prop := fnExactResolvedRow.holds Tryd.pinned (OpenSpec.ofChange fnExactResolvedWrong)

/- THE SECOND FORM. 'bulk': how many values and letters a reading holds, each counted each time it is reached (what is shared counts as often as it is met; a slice's spare places count too). A statement '..UptoSaid' is the law's where the arguments, and the package variables that the reading takes, are together of bulk at most 1048576: NARROWER than '..Said'. Prove '..Said' where nothing that the law and all that it calls make is longer than what came in: it says more and counts as full. Else prove '..UptoSaid'. A law counts once. -/
mutual
def uptoBulk {H : Type} : DataW H → Nat
  | .lit (.string bytes) => bytes.length + 1
  | .lit _ => 1
  | .nil => 1
  | .ptr d => uptoBulk d + 1
  | .slice elems spare => uptoBulkAll elems + uptoBulkAll spare + 1
  | .agg parts => uptoBulkAll parts + 1
  | .iface _ d => uptoBulk d + 1
  | .map entries => uptoBulkEntries entries + 1
  | .held _ => 1
def uptoBulkAll {H : Type} : List (DataW H) → Nat
  | [] => 0
  | d :: r => uptoBulk d + uptoBulkAll r
def uptoBulkEntries {H : Type} : List (Lit × DataW H) → Nat
  | [] => 0
  | x :: r => uptoBulkEntry x + uptoBulkEntries r
def uptoBulkEntry {H : Type} : Lit × DataW H → Nat
  | (.string bytes, d) => bytes.length + uptoBulk d + 1
  | (_, d) => uptoBulk d + 1
 end
def uptoSmall : (H : Type) → List (DataW H) → Bool := fun _ ds => decide (uptoBulkAll ds ≤ 1048576)
def OpenSpec.upto (s : _root_.Go.ChangeSpec) : _root_.Go.OpenSpec := { _root_.Go.OpenSpec.ofChange s with cond := some uptoSmall }

/-- 'laws.FnMergedOne', WHERE WHAT IT READS IS OF BULK AT MOST 1048576: true; the input reads as it did. -/
def fnMergedOneUptoRow : OpenClaim := { program := "ytaofemdhgfejjaadoor", sum := "1368332c954da3a9fabf37c3221454e6b03d5b5a46a5c4c6e549260b28e62753", func := "loop.example/g00652/laws.FnMergedOne", spec := "fnMergedOne", inPlace := ["internal/bytealg.abigen_runtime_cmpstring", "internal/reflectlite.TypeOf", "internal/reflectlite.ValueOf", "(internal/reflectlite.Value).Type", "(internal/reflectlite.Value).IsNil", "(internal/reflectlite.Value).Elem", "(internal/reflectlite.Value).Set"], unfollowed := true, recurses := true, named := ["loop.example/g00652/impl.errNotRight", "errors.errorType"], ifaces := true, apart := false, laid := [("errors.errorType", laid_errors_errorType), ("loop.example/g00652/impl.errNotRight", laid_loop_example_g00652_impl_errNotRight)], narrowed := true }
def FnMergedOneUptoSaid : Prop := fnMergedOneUptoRow.holds Tryd.pinned (OpenSpec.upto fnMergedOneSpec)

/-- 'laws.FnMergedKeys', WHERE WHAT IT READS IS OF BULK AT MOST 1048576: true; the input reads as it did. -/
def fnMergedKeysUptoRow : OpenClaim := { program := "ytaofemdhgfejjaadoor", sum := "1368332c954da3a9fabf37c3221454e6b03d5b5a46a5c4c6e549260b28e62753", func := "loop.example/g00652/laws.FnMergedKeys", spec := "fnMergedKeys", inPlace := ["internal/bytealg.abigen_runtime_cmpstring", "internal/reflectlite.TypeOf", "internal/reflectlite.ValueOf", "(internal/reflectlite.Value).Type", "(internal/reflectlite.Value).IsNil", "(internal/reflectlite.Value).Elem", "(internal/reflectlite.Value).Set"], unfollowed := true, recurses := true, named := ["loop.example/g00652/impl.errNotRight", "errors.errorType"], ifaces := true, apart := false, laid := [("errors.errorType", laid_errors_errorType), ("loop.example/g00652/impl.errNotRight", laid_loop_example_g00652_impl_errNotRight)], narrowed := true }
def FnMergedKeysUptoSaid : Prop := fnMergedKeysUptoRow.holds Tryd.pinned (OpenSpec.upto fnMergedKeysSpec)

/-- 'laws.FnExactMerged', WHERE WHAT IT READS IS OF BULK AT MOST 1048576: true; the input reads as it did. -/
def fnExactMergedUptoRow : OpenClaim := { program := "ytaofemdhgfejjaadoor", sum := "1368332c954da3a9fabf37c3221454e6b03d5b5a46a5c4c6e549260b28e62753", func := "loop.example/g00652/laws.FnExactMerged", spec := "fnExactMerged", inPlace := ["internal/bytealg.abigen_runtime_cmpstring", "internal/reflectlite.TypeOf", "internal/reflectlite.ValueOf", "(internal/reflectlite.Value).Type", "(internal/reflectlite.Value).IsNil", "(internal/reflectlite.Value).Elem", "(internal/reflectlite.Value).Set"], unfollowed := true, recurses := true, named := ["loop.example/g00652/impl.errNotRight", "errors.errorType"], ifaces := true, apart := false, laid := [("errors.errorType", laid_errors_errorType), ("loop.example/g00652/impl.errNotRight", laid_loop_example_g00652_impl_errNotRight)], narrowed := true }
def FnExactMergedUptoSaid : Prop := fnExactMergedUptoRow.holds Tryd.pinned (OpenSpec.upto fnExactMergedSpec)

/-- 'laws.FnExactResolved', WHERE WHAT IT READS IS OF BULK AT MOST 1048576: true; the input reads as it did. -/
def fnExactResolvedUptoRow : OpenClaim := { program := "ytaofemdhgfejjaadoor", sum := "1368332c954da3a9fabf37c3221454e6b03d5b5a46a5c4c6e549260b28e62753", func := "loop.example/g00652/laws.FnExactResolved", spec := "fnExactResolved", inPlace := ["internal/bytealg.abigen_runtime_cmpstring", "internal/reflectlite.TypeOf", "internal/reflectlite.ValueOf", "(internal/reflectlite.Value).Type", "(internal/reflectlite.Value).IsNil", "(internal/reflectlite.Value).Elem", "(internal/reflectlite.Value).Set"], unfollowed := true, recurses := true, named := ["loop.example/g00652/impl.errNotRight", "errors.errorType"], ifaces := true, apart := false, laid := [("errors.errorType", laid_errors_errorType), ("loop.example/g00652/impl.errNotRight", laid_loop_example_g00652_impl_errNotRight)], narrowed := true }
def FnExactResolvedUptoSaid : Prop := fnExactResolvedUptoRow.holds Tryd.pinned (OpenSpec.upto fnExactResolvedSpec)

end Rows
end Go.Proofs.YtaofemdhgfejjaaDoor
