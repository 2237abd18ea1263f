/-
  No cell of these rows narrows 'for every input' (looked for: loops, veiled, ifaces, maps, wideKeys, modest, calm, conditions, laid).
  DERIVED. THE GIVEN ROWS OF THIS SEAT. 9 by the template 'for every input the law returns true; each argument reads behind the call as it read before'; 0 by the template 'total and deterministic' (their statements: YtcpalnkcjcgaeaaTotals.lean).
  GIVEN WITH THE SEED: the statements are not yours to turn. If you find one false, say at which input.
  Laid BY PROGRAM, IN A SANDBOX (cutbox-rows.mjs): the forced cells as the released guide's own fill.sh prints them over the translation 9f088a785150642d… (all of the seat's roots in one cut). By AI agents, Wed Nov 11 2026. No macro, syntax, notation, axiom, sorry.
-/
import Derived.Test.YtcpalnkcjcgaeaaChecked
import GoSem.Claim
import GoSem.ClaimJoined
import GoSem.ClaimMapViews
import Derived.JoinedTies
import Derived.KernelRfl
namespace Go.Proofs.Ytcpalnkcjcgaeaa
/- THE CELL 'sum', in the pinned program and in every row, IS THE sha256 OF THE DUMP (.gsa) THAT YtcpalnkcjcgaeaaProg.lean LOADS. Nothing in Lean hashes anything: it is a label: what it is worth is what the hold of that sum in a sandbox is worth. -/
noncomputable def Try.pinned : Pinned := { name := "ytcpalnkcjcgaeaa", sum := "9f088a785150642d7f60227a2e38494fc3808ab816c00ea7083db9b413196689", checked := Try.checked }
namespace Rows
def none {H : Type} : Left H := { results := [], args := [] }

/-- 'laws.FnDiffs': WHATEVER THE INPUT: true; the input reads as it did. -/
def fnDiffsSpec : ChangeSpec := { name := "fnDiffs", fn := fun _ => fun
  | [d] => { results := [.lit (.bool true)], args := [d] }
  | _ => none }
def fnDiffsRow : OpenClaim := { program := "ytcpalnkcjcgaeaa", sum := "9f088a785150642d7f60227a2e38494fc3808ab816c00ea7083db9b413196689", func := "loop.example/g00652/laws.FnDiffs", spec := "fnDiffs", inPlace := ["internal/abi.NoEscape", "internal/bytealg.abigen_runtime_cmpstring"], unfollowed := true, recurses := true, apart := false }
def FnDiffsSaid : Prop := fnDiffsRow.holds Try.pinned (OpenSpec.ofChange fnDiffsSpec)

/-- ITS FALSE NEIGHBOUR: 'it returns false'. Refute it at one input. -/
def fnDiffsWrong : ChangeSpec := { name := "fnDiffs", fn := fun _ => fun
  | [d] => { results := [.lit (.bool false)], args := [d] }
  | _ => none }
def FnDiffsWrongFalsely : Prop := fnDiffsRow.holds Try.pinned (OpenSpec.ofChange fnDiffsWrong)

/-- 'laws.FnApplied': WHATEVER THE INPUT: true; the input reads as it did. -/
def fnAppliedSpec : ChangeSpec := { name := "fnApplied", fn := fun _ => fun
  | [d] => { results := [.lit (.bool true)], args := [d] }
  | _ => none }
def fnAppliedRow : OpenClaim := { program := "ytcpalnkcjcgaeaa", sum := "9f088a785150642d7f60227a2e38494fc3808ab816c00ea7083db9b413196689", func := "loop.example/g00652/laws.FnApplied", spec := "fnApplied", inPlace := ["internal/bytealg.abigen_runtime_cmpstring"], unfollowed := true, recurses := true, apart := false }
def FnAppliedSaid : Prop := fnAppliedRow.holds Try.pinned (OpenSpec.ofChange fnAppliedSpec)

/-- ITS FALSE NEIGHBOUR: 'it returns false'. Refute it at one input. -/
def fnAppliedWrong : ChangeSpec := { name := "fnApplied", fn := fun _ => fun
  | [d] => { results := [.lit (.bool false)], args := [d] }
  | _ => none }
def FnAppliedWrongFalsely : Prop := fnAppliedRow.holds Try.pinned (OpenSpec.ofChange fnAppliedWrong)

/-- 'laws.FnDiffsJoined': WHATEVER THE INPUT: true; the input reads as it did. -/
def fnDiffsJoinedSpec : ChangeSpec := { name := "fnDiffsJoined", fn := fun _ => fun
  | [d] => { results := [.lit (.bool true)], args := [d] }
  | _ => none }
def fnDiffsJoinedRow : OpenClaim := { program := "ytcpalnkcjcgaeaa", sum := "9f088a785150642d7f60227a2e38494fc3808ab816c00ea7083db9b413196689", func := "loop.example/g00652/laws.FnDiffsJoined", spec := "fnDiffsJoined", inPlace := ["internal/bytealg.abigen_runtime_cmpstring"], unfollowed := true, recurses := true, apart := false }
def FnDiffsJoinedSaid : Prop := fnDiffsJoinedRow.holds Try.pinned (OpenSpec.ofChange fnDiffsJoinedSpec)

/-- ITS FALSE NEIGHBOUR: 'it returns false'. Refute it at one input. -/
def fnDiffsJoinedWrong : ChangeSpec := { name := "fnDiffsJoined", fn := fun _ => fun
  | [d] => { results := [.lit (.bool false)], args := [d] }
  | _ => none }
def FnDiffsJoinedWrongFalsely : Prop := fnDiffsJoinedRow.holds Try.pinned (OpenSpec.ofChange fnDiffsJoinedWrong)

/-- 'laws.FnDiffKeys': WHATEVER THE INPUT: true; the input reads as it did. -/
def fnDiffKeysSpec : ChangeSpec := { name := "fnDiffKeys", fn := fun _ => fun
  | [d] => { results := [.lit (.bool true)], args := [d] }
  | _ => none }
def fnDiffKeysRow : OpenClaim := { program := "ytcpalnkcjcgaeaa", sum := "9f088a785150642d7f60227a2e38494fc3808ab816c00ea7083db9b413196689", func := "loop.example/g00652/laws.FnDiffKeys", spec := "fnDiffKeys", inPlace := ["internal/bytealg.abigen_runtime_cmpstring"], unfollowed := true, recurses := true, apart := false }
def FnDiffKeysSaid : Prop := fnDiffKeysRow.holds Try.pinned (OpenSpec.ofChange fnDiffKeysSpec)

/-- ITS FALSE NEIGHBOUR: 'it returns false'. Refute it at one input. -/
def fnDiffKeysWrong : ChangeSpec := { name := "fnDiffKeys", fn := fun _ => fun
  | [d] => { results := [.lit (.bool false)], args := [d] }
  | _ => none }
def FnDiffKeysWrongFalsely : Prop := fnDiffKeysRow.holds Try.pinned (OpenSpec.ofChange fnDiffKeysWrong)

/-- 'laws.FnAppliedNone': WHATEVER THE INPUT: true; the input reads as it did. -/
def fnAppliedNoneSpec : ChangeSpec := { name := "fnAppliedNone", fn := fun _ => fun
  | [d] => { results := [.lit (.bool true)], args := [d] }
  | _ => none }
def fnAppliedNoneRow : OpenClaim := { program := "ytcpalnkcjcgaeaa", sum := "9f088a785150642d7f60227a2e38494fc3808ab816c00ea7083db9b413196689", func := "loop.example/g00652/laws.FnAppliedNone", spec := "fnAppliedNone", inPlace := ["internal/bytealg.abigen_runtime_cmpstring"], unfollowed := true, recurses := true, apart := false }
def FnAppliedNoneSaid : Prop := fnAppliedNoneRow.holds Try.pinned (OpenSpec.ofChange fnAppliedNoneSpec)

/-- ITS FALSE NEIGHBOUR: 'it returns false'. Refute it at one input. -/
def fnAppliedNoneWrong : ChangeSpec := { name := "fnAppliedNone", fn := fun _ => fun
  | [d] => { results := [.lit (.bool false)], args := [d] }
  | _ => none }
def FnAppliedNoneWrongFalsely : Prop := fnAppliedNoneRow.holds Try.pinned (OpenSpec.ofChange fnAppliedNoneWrong)

/-- 'laws.FnExactDiffOf': WHATEVER THE INPUT: true; the input reads as it did. -/
def fnExactDiffOfSpec : ChangeSpec := { name := "fnExactDiffOf", fn := fun _ => fun
  | [d1, d2] => { results := [.lit (.bool true)], args := [d1, d2] }
  | _ => none }
def fnExactDiffOfRow : OpenClaim := { program := "ytcpalnkcjcgaeaa", sum := "9f088a785150642d7f60227a2e38494fc3808ab816c00ea7083db9b413196689", func := "loop.example/g00652/laws.FnExactDiffOf", spec := "fnExactDiffOf", unfollowed := true, recurses := true, apart := false }
def FnExactDiffOfSaid : Prop := fnExactDiffOfRow.holds Try.pinned (OpenSpec.ofChange fnExactDiffOfSpec)

/-- ITS FALSE NEIGHBOUR: 'it returns false'. Refute it at one input. -/
def fnExactDiffOfWrong : ChangeSpec := { name := "fnExactDiffOf", fn := fun _ => fun
  | [d1, d2] => { results := [.lit (.bool false)], args := [d1, d2] }
  | _ => none }
def FnExactDiffOfWrongFalsely : Prop := fnExactDiffOfRow.holds Try.pinned (OpenSpec.ofChange fnExactDiffOfWrong)

/-- 'laws.FnExactApplied': WHATEVER THE INPUT: true; the input reads as it did. -/
def fnExactAppliedSpec : ChangeSpec := { name := "fnExactApplied", fn := fun _ => fun
  | [d1, d2] => { results := [.lit (.bool true)], args := [d1, d2] }
  | _ => none }
def fnExactAppliedRow : OpenClaim := { program := "ytcpalnkcjcgaeaa", sum := "9f088a785150642d7f60227a2e38494fc3808ab816c00ea7083db9b413196689", func := "loop.example/g00652/laws.FnExactApplied", spec := "fnExactApplied", inPlace := ["internal/bytealg.abigen_runtime_cmpstring"], unfollowed := true, recurses := true, apart := false }
def FnExactAppliedSaid : Prop := fnExactAppliedRow.holds Try.pinned (OpenSpec.ofChange fnExactAppliedSpec)

/-- ITS FALSE NEIGHBOUR: 'it returns false'. Refute it at one input. -/
def fnExactAppliedWrong : ChangeSpec := { name := "fnExactApplied", fn := fun _ => fun
  | [d1, d2] => { results := [.lit (.bool false)], args := [d1, d2] }
  | _ => none }
def FnExactAppliedWrongFalsely : Prop := fnExactAppliedRow.holds Try.pinned (OpenSpec.ofChange fnExactAppliedWrong)

/-- 'laws.FnExactInverse': WHATEVER THE INPUT: true; the input reads as it did. -/
def fnExactInverseSpec : ChangeSpec := { name := "fnExactInverse", fn := fun _ => fun
  | [d] => { results := [.lit (.bool true)], args := [d] }
  | _ => none }
def fnExactInverseRow : OpenClaim := { program := "ytcpalnkcjcgaeaa", sum := "9f088a785150642d7f60227a2e38494fc3808ab816c00ea7083db9b413196689", func := "loop.example/g00652/laws.FnExactInverse", spec := "fnExactInverse", apart := false }
def FnExactInverseSaid : Prop := fnExactInverseRow.holds Try.pinned (OpenSpec.ofChange fnExactInverseSpec)

/-- ITS FALSE NEIGHBOUR: 'it returns false'. Refute it at one input. -/
def fnExactInverseWrong : ChangeSpec := { name := "fnExactInverse", fn := fun _ => fun
  | [d] => { results := [.lit (.bool false)], args := [d] }
  | _ => none }
def FnExactInverseWrongFalsely : Prop := fnExactInverseRow.holds Try.pinned (OpenSpec.ofChange fnExactInverseWrong)

/-- 'laws.FnExactDiffText': WHATEVER THE INPUT: true; the input reads as it did. -/
def fnExactDiffTextSpec : ChangeSpec := { name := "fnExactDiffText", fn := fun _ => fun
  | [d] => { results := [.lit (.bool true)], args := [d] }
  | _ => none }
def fnExactDiffTextRow : OpenClaim := { program := "ytcpalnkcjcgaeaa", sum := "9f088a785150642d7f60227a2e38494fc3808ab816c00ea7083db9b413196689", func := "loop.example/g00652/laws.FnExactDiffText", spec := "fnExactDiffText", inPlace := ["internal/abi.NoEscape"], apart := false }
def FnExactDiffTextSaid : Prop := fnExactDiffTextRow.holds Try.pinned (OpenSpec.ofChange fnExactDiffTextSpec)

/-- ITS FALSE NEIGHBOUR: 'it returns false'. Refute it at one input. -/
def fnExactDiffTextWrong : ChangeSpec := { name := "fnExactDiffText", fn := fun _ => fun
  | [d] => { results := [.lit (.bool false)], args := [d] }
  | _ => none }
def FnExactDiffTextWrongFalsely : Prop := fnExactDiffTextRow.holds Try.pinned (OpenSpec.ofChange fnExactDiffTextWrong)

/- THE SECOND FORM. 'bulk': how many values and letters a reading holds, each counted each time it is reached (what is shared counts as often as it is met; a slice's spare places count too). A statement '..UptoSaid' is the law's where the arguments, and the package variables that the reading takes, are together of bulk at most 1048576: NARROWER than '..Said'. Prove '..Said' where nothing that the law and all that it calls make is longer than what came in: it says more and counts as full. Else prove '..UptoSaid'. A law counts once. -/
mutual
def uptoBulk {H : Type} : DataW H → Nat
  | .lit (.string bytes) => bytes.length + 1
  | .lit _ => 1
  | .nil => 1
  | .ptr d => uptoBulk d + 1
  | .slice elems spare => uptoBulkAll elems + uptoBulkAll spare + 1
  | .agg parts => uptoBulkAll parts + 1
  | .iface _ d => uptoBulk d + 1
  | .map entries => uptoBulkEntries entries + 1
  | .held _ => 1
def uptoBulkAll {H : Type} : List (DataW H) → Nat
  | [] => 0
  | d :: r => uptoBulk d + uptoBulkAll r
def uptoBulkEntries {H : Type} : List (Lit × DataW H) → Nat
  | [] => 0
  | x :: r => uptoBulkEntry x + uptoBulkEntries r
def uptoBulkEntry {H : Type} : Lit × DataW H → Nat
  | (.string bytes, d) => bytes.length + uptoBulk d + 1
  | (_, d) => uptoBulk d + 1
 end
def uptoSmall : (H : Type) → List (DataW H) → Bool := fun _ ds => decide (uptoBulkAll ds ≤ 1048576)
def OpenSpec.upto (s : _root_.Go.ChangeSpec) : _root_.Go.OpenSpec := { _root_.Go.OpenSpec.ofChange s with cond := some uptoSmall }

/-- 'laws.FnDiffs', WHERE WHAT IT READS IS OF BULK AT MOST 1048576: true; the input reads as it did. -/
def fnDiffsUptoRow : OpenClaim := { program := "ytcpalnkcjcgaeaa", sum := "9f088a785150642d7f60227a2e38494fc3808ab816c00ea7083db9b413196689", func := "loop.example/g00652/laws.FnDiffs", spec := "fnDiffs", inPlace := ["internal/abi.NoEscape", "internal/bytealg.abigen_runtime_cmpstring"], unfollowed := true, recurses := true, apart := false, narrowed := true }
def FnDiffsUptoSaid : Prop := fnDiffsUptoRow.holds Try.pinned (OpenSpec.upto fnDiffsSpec)

/-- 'laws.FnApplied', WHERE WHAT IT READS IS OF BULK AT MOST 1048576: true; the input reads as it did. -/
def fnAppliedUptoRow : OpenClaim := { program := "ytcpalnkcjcgaeaa", sum := "9f088a785150642d7f60227a2e38494fc3808ab816c00ea7083db9b413196689", func := "loop.example/g00652/laws.FnApplied", spec := "fnApplied", inPlace := ["internal/bytealg.abigen_runtime_cmpstring"], unfollowed := true, recurses := true, apart := false, narrowed := true }
def FnAppliedUptoSaid : Prop := fnAppliedUptoRow.holds Try.pinned (OpenSpec.upto fnAppliedSpec)

/-- 'laws.FnDiffsJoined', WHERE WHAT IT READS IS OF BULK AT MOST 1048576: true; the input reads as it did. -/
def fnDiffsJoinedUptoRow : OpenClaim := { program := "ytcpalnkcjcgaeaa", sum := "9f088a785150642d7f60227a2e38494fc3808ab816c00ea7083db9b413196689", func := "loop.example/g00652/laws.FnDiffsJoined", spec := "fnDiffsJoined", inPlace := ["internal/bytealg.abigen_runtime_cmpstring"], unfollowed := true, recurses := true, apart := false, narrowed := true }
def FnDiffsJoinedUptoSaid : Prop := fnDiffsJoinedUptoRow.holds Try.pinned (OpenSpec.upto fnDiffsJoinedSpec)

/-- 'laws.FnDiffKeys', WHERE WHAT IT READS IS OF BULK AT MOST 1048576: true; the input reads as it did. -/
def fnDiffKeysUptoRow : OpenClaim := { program := "ytcpalnkcjcgaeaa", sum := "9f088a785150642d7f60227a2e38494fc3808ab816c00ea7083db9b413196689", func := "loop.example/g00652/laws.FnDiffKeys", spec := "fnDiffKeys", inPlace := ["internal/bytealg.abigen_runtime_cmpstring"], unfollowed := true, recurses := true, apart := false, narrowed := true }
def FnDiffKeysUptoSaid : Prop := fnDiffKeysUptoRow.holds Try.pinned (OpenSpec.upto fnDiffKeysSpec)

/-- 'laws.FnAppliedNone', WHERE WHAT IT READS IS OF BULK AT MOST 1048576: true; the input reads as it did. -/
def fnAppliedNoneUptoRow : OpenClaim := { program := "ytcpalnkcjcgaeaa", sum := "9f088a785150642d7f60227a2e38494fc3808ab816c00ea7083db9b413196689", func := "loop.example/g00652/laws.FnAppliedNone", spec := "fnAppliedNone", inPlace := ["internal/bytealg.abigen_runtime_cmpstring"], unfollowed := true, recurses := true, apart := false, narrowed := true }
def FnAppliedNoneUptoSaid : Prop := fnAppliedNoneUptoRow.holds Try.pinned (OpenSpec.upto fnAppliedNoneSpec)

/-- 'laws.FnExactDiffOf', WHERE WHAT IT READS IS OF BULK AT MOST 1048576: true; the input reads as it did. -/
def fnExactDiffOfUptoRow : OpenClaim := { program := "ytcpalnkcjcgaeaa", sum := "9f088a785150642d7f60227a2e38494fc3808ab816c00ea7083db9b413196689", func := "loop.example/g00652/laws.FnExactDiffOf", spec := "fnExactDiffOf", unfollowed := true, recurses := true, apart := false, narrowed := true }
def FnExactDiffOfUptoSaid : Prop := fnExactDiffOfUptoRow.holds Try.pinned (OpenSpec.upto fnExactDiffOfSpec)

/-- 'laws.FnExactApplied', WHERE WHAT IT READS IS OF BULK AT MOST 1048576: true; the input reads as it did. -/
def fnExactAppliedUptoRow : OpenClaim := { program := "ytcpalnkcjcgaeaa", sum := "9f088a785150642d7f60227a2e38494fc3808ab816c00ea7083db9b413196689", func := "loop.example/g00652/laws.FnExactApplied", spec := "fnExactApplied", inPlace := ["internal/bytealg.abigen_runtime_cmpstring"], unfollowed := true, recurses := true, apart := false, narrowed := true }
def FnExactAppliedUptoSaid : Prop := fnExactAppliedUptoRow.holds Try.pinned (OpenSpec.upto fnExactAppliedSpec)

/-- 'laws.FnExactInverse', WHERE WHAT IT READS IS OF BULK AT MOST 1048576: true; the input reads as it did. -/
def fnExactInverseUptoRow : OpenClaim := { program := "ytcpalnkcjcgaeaa", sum := "9f088a785150642d7f60227a2e38494fc3808ab816c00ea7083db9b413196689", func := "loop.example/g00652/laws.FnExactInverse", spec := "fnExactInverse", apart := false, narrowed := true }
def FnExactInverseUptoSaid : Prop := fnExactInverseUptoRow.holds Try.pinned (OpenSpec.upto fnExactInverseSpec)

/-- 'laws.FnExactDiffText', WHERE WHAT IT READS IS OF BULK AT MOST 1048576: true; the input reads as it did. -/
def fnExactDiffTextUptoRow : OpenClaim := { program := "ytcpalnkcjcgaeaa", sum := "9f088a785150642d7f60227a2e38494fc3808ab816c00ea7083db9b413196689", func := "loop.example/g00652/laws.FnExactDiffText", spec := "fnExactDiffText", inPlace := ["internal/abi.NoEscape"], apart := false, narrowed := true }
def FnExactDiffTextUptoSaid : Prop := fnExactDiffTextUptoRow.holds Try.pinned (OpenSpec.upto fnExactDiffTextSpec)

end Rows
end Go.Proofs.Ytcpalnkcjcgaeaa
