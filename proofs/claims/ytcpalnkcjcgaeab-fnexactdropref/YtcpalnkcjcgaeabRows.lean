/-
  No cell of these rows narrows 'for every input' (looked for: loops, veiled, ifaces, maps, wideKeys, modest, calm, conditions, laid).
  DERIVED. THE GIVEN ROWS OF THIS SEAT. 5 by the template 'for every input the law returns true; each argument reads behind the call as it read before'; 0 by the template 'total and deterministic' (their statements: YtcpalnkcjcgaeabTotals.lean).
  GIVEN WITH THE SEED: the statements are not yours to turn. If you find one false, say at which input.
  Laid BY PROGRAM, IN A SANDBOX (cutbox-rows.mjs): the forced cells as the released guide's own fill.sh prints them over the translation 6326afbbfde9cac4… (all of the seat's roots in one cut). By AI agents, Wed Nov 11 2026. No macro, syntax, notation, axiom, sorry.
-/
import Derived.Test.YtcpalnkcjcgaeabChecked
import GoSem.Claim
import GoSem.ClaimJoined
import GoSem.ClaimMapViews
import Derived.JoinedTies
import Derived.KernelRfl
namespace Go.Proofs.Ytcpalnkcjcgaeab
/- THE CELL 'sum', in the pinned program and in every row, IS THE sha256 OF THE DUMP (.gsa) THAT YtcpalnkcjcgaeabProg.lean LOADS. Nothing in Lean hashes anything: it is a label: what it is worth is what the hold of that sum in a sandbox is worth. -/
noncomputable def Try.pinned : Pinned := { name := "ytcpalnkcjcgaeab", sum := "6326afbbfde9cac42de60684247a2a810185c4618939fc08db45e351562e6226", checked := Try.checked }
namespace Rows
def none {H : Type} : Left H := { results := [], args := [] }

/-- 'laws.FnExactRefsOk': WHATEVER THE INPUT: true; the input reads as it did. -/
def fnExactRefsOkSpec : ChangeSpec := { name := "fnExactRefsOk", fn := fun _ => fun
  | [d] => { results := [.lit (.bool true)], args := [d] }
  | _ => none }
def fnExactRefsOkRow : OpenClaim := { program := "ytcpalnkcjcgaeab", sum := "6326afbbfde9cac42de60684247a2a810185c4618939fc08db45e351562e6226", func := "loop.example/g00652/laws.FnExactRefsOk", spec := "fnExactRefsOk", unfollowed := true, recurses := true, apart := false }
def FnExactRefsOkSaid : Prop := fnExactRefsOkRow.holds Try.pinned (OpenSpec.ofChange fnExactRefsOkSpec)

/-- ITS FALSE NEIGHBOUR: 'it returns false'. Refute it at one input. -/
def fnExactRefsOkWrong : ChangeSpec := { name := "fnExactRefsOk", fn := fun _ => fun
  | [d] => { results := [.lit (.bool false)], args := [d] }
  | _ => none }
def FnExactRefsOkWrongFalsely : Prop := fnExactRefsOkRow.holds Try.pinned (OpenSpec.ofChange fnExactRefsOkWrong)

/-- 'laws.FnExactRefOf': WHATEVER THE INPUT: true; the input reads as it did. -/
def fnExactRefOfSpec : ChangeSpec := { name := "fnExactRefOf", fn := fun _ => fun
  | [d1, d2] => { results := [.lit (.bool true)], args := [d1, d2] }
  | _ => none }
def fnExactRefOfRow : OpenClaim := { program := "ytcpalnkcjcgaeab", sum := "6326afbbfde9cac42de60684247a2a810185c4618939fc08db45e351562e6226", func := "loop.example/g00652/laws.FnExactRefOf", spec := "fnExactRefOf", inPlace := ["internal/bytealg.abigen_runtime_cmpstring"], unfollowed := true, recurses := true, apart := false }
def FnExactRefOfSaid : Prop := fnExactRefOfRow.holds Try.pinned (OpenSpec.ofChange fnExactRefOfSpec)

/-- ITS FALSE NEIGHBOUR: 'it returns false'. Refute it at one input. -/
def fnExactRefOfWrong : ChangeSpec := { name := "fnExactRefOf", fn := fun _ => fun
  | [d1, d2] => { results := [.lit (.bool false)], args := [d1, d2] }
  | _ => none }
def FnExactRefOfWrongFalsely : Prop := fnExactRefOfRow.holds Try.pinned (OpenSpec.ofChange fnExactRefOfWrong)

/-- 'laws.FnExactSetRef': WHATEVER THE INPUT: true; the input reads as it did. -/
def fnExactSetRefSpec : ChangeSpec := { name := "fnExactSetRef", fn := fun _ => fun
  | [d1, d2, d3] => { results := [.lit (.bool true)], args := [d1, d2, d3] }
  | _ => none }
def fnExactSetRefRow : OpenClaim := { program := "ytcpalnkcjcgaeab", sum := "6326afbbfde9cac42de60684247a2a810185c4618939fc08db45e351562e6226", func := "loop.example/g00652/laws.FnExactSetRef", spec := "fnExactSetRef", inPlace := ["internal/bytealg.abigen_runtime_cmpstring"], unfollowed := true, recurses := true, apart := false }
def FnExactSetRefSaid : Prop := fnExactSetRefRow.holds Try.pinned (OpenSpec.ofChange fnExactSetRefSpec)

/-- ITS FALSE NEIGHBOUR: 'it returns false'. Refute it at one input. -/
def fnExactSetRefWrong : ChangeSpec := { name := "fnExactSetRef", fn := fun _ => fun
  | [d1, d2, d3] => { results := [.lit (.bool false)], args := [d1, d2, d3] }
  | _ => none }
def FnExactSetRefWrongFalsely : Prop := fnExactSetRefRow.holds Try.pinned (OpenSpec.ofChange fnExactSetRefWrong)

/-- 'laws.FnExactSwapRef': WHATEVER THE INPUT: true; the input reads as it did. -/
def fnExactSwapRefSpec : ChangeSpec := { name := "fnExactSwapRef", fn := fun _ => fun
  | [d1, d2, d3, d4] => { results := [.lit (.bool true)], args := [d1, d2, d3, d4] }
  | _ => none }
def fnExactSwapRefRow : OpenClaim := { program := "ytcpalnkcjcgaeab", sum := "6326afbbfde9cac42de60684247a2a810185c4618939fc08db45e351562e6226", func := "loop.example/g00652/laws.FnExactSwapRef", spec := "fnExactSwapRef", inPlace := ["internal/bytealg.abigen_runtime_cmpstring"], unfollowed := true, recurses := true, apart := false }
def FnExactSwapRefSaid : Prop := fnExactSwapRefRow.holds Try.pinned (OpenSpec.ofChange fnExactSwapRefSpec)

/-- ITS FALSE NEIGHBOUR: 'it returns false'. Refute it at one input. -/
def fnExactSwapRefWrong : ChangeSpec := { name := "fnExactSwapRef", fn := fun _ => fun
  | [d1, d2, d3, d4] => { results := [.lit (.bool false)], args := [d1, d2, d3, d4] }
  | _ => none }
def FnExactSwapRefWrongFalsely : Prop := fnExactSwapRefRow.holds Try.pinned (OpenSpec.ofChange fnExactSwapRefWrong)

/-- 'laws.FnExactDropRef': WHATEVER THE INPUT: true; the input reads as it did. -/
def fnExactDropRefSpec : ChangeSpec := { name := "fnExactDropRef", fn := fun _ => fun
  | [d1, d2] => { results := [.lit (.bool true)], args := [d1, d2] }
  | _ => none }
def fnExactDropRefRow : OpenClaim := { program := "ytcpalnkcjcgaeab", sum := "6326afbbfde9cac42de60684247a2a810185c4618939fc08db45e351562e6226", func := "loop.example/g00652/laws.FnExactDropRef", spec := "fnExactDropRef", inPlace := ["internal/bytealg.abigen_runtime_cmpstring"], unfollowed := true, recurses := true, apart := false }
def FnExactDropRefSaid : Prop := fnExactDropRefRow.holds Try.pinned (OpenSpec.ofChange fnExactDropRefSpec)

/-- ITS FALSE NEIGHBOUR: 'it returns false'. Refute it at one input. -/
def fnExactDropRefWrong : ChangeSpec := { name := "fnExactDropRef", fn := fun _ => fun
  | [d1, d2] => { results := [.lit (.bool false)], args := [d1, d2] }
  | _ => none }
def FnExactDropRefWrongFalsely : Prop := fnExactDropRefRow.holds Try.pinned (OpenSpec.ofChange fnExactDropRefWrong)

/- THE SECOND FORM. 'bulk': how many values and letters a reading holds, each counted each time it is reached (what is shared counts as often as it is met; a slice's spare places count too). A statement '..UptoSaid' is the law's where the arguments, and the package variables that the reading takes, are together of bulk at most 1048576: NARROWER than '..Said'. Prove '..Said' where nothing that the law and all that it calls make is longer than what came in: it says more and counts as full. Else prove '..UptoSaid'. A law counts once. -/
mutual
def uptoBulk {H : Type} : DataW H → Nat
  | .lit (.string bytes) => bytes.length + 1
  | .lit _ => 1
  | .nil => 1
  | .ptr d => uptoBulk d + 1
  | .slice elems spare => uptoBulkAll elems + uptoBulkAll spare + 1
  | .agg parts => uptoBulkAll parts + 1
  | .iface _ d => uptoBulk d + 1
  | .map entries => uptoBulkEntries entries + 1
  | .held _ => 1
def uptoBulkAll {H : Type} : List (DataW H) → Nat
  | [] => 0
  | d :: r => uptoBulk d + uptoBulkAll r
def uptoBulkEntries {H : Type} : List (Lit × DataW H) → Nat
  | [] => 0
  | x :: r => uptoBulkEntry x + uptoBulkEntries r
def uptoBulkEntry {H : Type} : Lit × DataW H → Nat
  | (.string bytes, d) => bytes.length + uptoBulk d + 1
  | (_, d) => uptoBulk d + 1
 end
def uptoSmall : (H : Type) → List (DataW H) → Bool := fun _ ds => decide (uptoBulkAll ds ≤ 1048576)
def OpenSpec.upto (s : _root_.Go.ChangeSpec) : _root_.Go.OpenSpec := { _root_.Go.OpenSpec.ofChange s with cond := some uptoSmall }

/-- 'laws.FnExactRefsOk', WHERE WHAT IT READS IS OF BULK AT MOST 1048576: true; the input reads as it did. -/
def fnExactRefsOkUptoRow : OpenClaim := { program := "ytcpalnkcjcgaeab", sum := "6326afbbfde9cac42de60684247a2a810185c4618939fc08db45e351562e6226", func := "loop.example/g00652/laws.FnExactRefsOk", spec := "fnExactRefsOk", unfollowed := true, recurses := true, apart := false, narrowed := true }
def FnExactRefsOkUptoSaid : Prop := fnExactRefsOkUptoRow.holds Try.pinned (OpenSpec.upto fnExactRefsOkSpec)

/-- 'laws.FnExactRefOf', WHERE WHAT IT READS IS OF BULK AT MOST 1048576: true; the input reads as it did. -/
def fnExactRefOfUptoRow : OpenClaim := { program := "ytcpalnkcjcgaeab", sum := "6326afbbfde9cac42de60684247a2a810185c4618939fc08db45e351562e6226", func := "loop.example/g00652/laws.FnExactRefOf", spec := "fnExactRefOf", inPlace := ["internal/bytealg.abigen_runtime_cmpstring"], unfollowed := true, recurses := true, apart := false, narrowed := true }
def FnExactRefOfUptoSaid : Prop := fnExactRefOfUptoRow.holds Try.pinned (OpenSpec.upto fnExactRefOfSpec)

/-- 'laws.FnExactSetRef', WHERE WHAT IT READS IS OF BULK AT MOST 1048576: true; the input reads as it did. -/
def fnExactSetRefUptoRow : OpenClaim := { program := "ytcpalnkcjcgaeab", sum := "6326afbbfde9cac42de60684247a2a810185c4618939fc08db45e351562e6226", func := "loop.example/g00652/laws.FnExactSetRef", spec := "fnExactSetRef", inPlace := ["internal/bytealg.abigen_runtime_cmpstring"], unfollowed := true, recurses := true, apart := false, narrowed := true }
def FnExactSetRefUptoSaid : Prop := fnExactSetRefUptoRow.holds Try.pinned (OpenSpec.upto fnExactSetRefSpec)

/-- 'laws.FnExactSwapRef', WHERE WHAT IT READS IS OF BULK AT MOST 1048576: true; the input reads as it did. -/
def fnExactSwapRefUptoRow : OpenClaim := { program := "ytcpalnkcjcgaeab", sum := "6326afbbfde9cac42de60684247a2a810185c4618939fc08db45e351562e6226", func := "loop.example/g00652/laws.FnExactSwapRef", spec := "fnExactSwapRef", inPlace := ["internal/bytealg.abigen_runtime_cmpstring"], unfollowed := true, recurses := true, apart := false, narrowed := true }
def FnExactSwapRefUptoSaid : Prop := fnExactSwapRefUptoRow.holds Try.pinned (OpenSpec.upto fnExactSwapRefSpec)

/-- 'laws.FnExactDropRef', WHERE WHAT IT READS IS OF BULK AT MOST 1048576: true; the input reads as it did. -/
def fnExactDropRefUptoRow : OpenClaim := { program := "ytcpalnkcjcgaeab", sum := "6326afbbfde9cac42de60684247a2a810185c4618939fc08db45e351562e6226", func := "loop.example/g00652/laws.FnExactDropRef", spec := "fnExactDropRef", inPlace := ["internal/bytealg.abigen_runtime_cmpstring"], unfollowed := true, recurses := true, apart := false, narrowed := true }
def FnExactDropRefUptoSaid : Prop := fnExactDropRefUptoRow.holds Try.pinned (OpenSpec.upto fnExactDropRefSpec)

end Rows
end Go.Proofs.Ytcpalnkcjcgaeab
