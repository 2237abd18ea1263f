/-
  No cell of these rows narrows 'for every input' (looked for: loops, veiled, ifaces, maps, wideKeys, modest, calm, conditions, laid).
  DERIVED. THE GIVEN ROWS OF THIS SEAT. 6 by the template 'for every input the law returns true; each argument reads behind the call as it read before'; 0 by the template 'total and deterministic' (their statements: YtmmeabfeehnajaaTotals.lean).
  GIVEN WITH THE SEED: the statements are not yours to turn. If you find one false, say at which input.
  Laid BY PROGRAM, IN A SANDBOX (cutbox-rows.mjs): the forced cells as the released guide's own fill.sh prints them over the translation 15ea9e6c81f2c10c… (all of the seat's roots in one cut). By AI agents, Wed Nov 11 2026. No macro, syntax, notation, axiom, sorry.
-/
import Derived.Test.YtmmeabfeehnajaaChecked
import GoSem.Claim
import GoSem.ClaimJoined
import GoSem.ClaimMapViews
import Derived.JoinedTies
import Derived.KernelRfl
namespace Go.Proofs.Ytmmeabfeehnajaa
/- THE CELL 'sum', in the pinned program and in every row, IS THE sha256 OF THE DUMP (.gsa) THAT YtmmeabfeehnajaaProg.lean LOADS. Nothing in Lean hashes anything: it is a label: what it is worth is what the hold of that sum in a sandbox is worth. -/
noncomputable def Try.pinned : Pinned := { name := "ytmmeabfeehnajaa", sum := "15ea9e6c81f2c10cd4765b032afa2992f9ba2ef4e05031706ea4fbef34cdb95f", checked := Try.checked }
namespace Rows
def none {H : Type} : Left H := { results := [], args := [] }

/-- 'laws.FnSetRef': WHATEVER THE INPUT: true; the input reads as it did. -/
def fnSetRefSpec : ChangeSpec := { name := "fnSetRef", fn := fun _ => fun
  | [d] => { results := [.lit (.bool true)], args := [d] }
  | _ => none }
def fnSetRefRow : OpenClaim := { program := "ytmmeabfeehnajaa", sum := "15ea9e6c81f2c10cd4765b032afa2992f9ba2ef4e05031706ea4fbef34cdb95f", func := "loop.example/g00652/laws.FnSetRef", spec := "fnSetRef", inPlace := ["internal/bytealg.abigen_runtime_cmpstring"], unfollowed := true, recurses := true, apart := false }
def FnSetRefSaid : Prop := fnSetRefRow.holds Try.pinned (OpenSpec.ofChange fnSetRefSpec)

/-- ITS FALSE NEIGHBOUR: 'it returns false'. Refute it at one input. -/
def fnSetRefWrong : ChangeSpec := { name := "fnSetRef", fn := fun _ => fun
  | [d] => { results := [.lit (.bool false)], args := [d] }
  | _ => none }
def FnSetRefWrongFalsely : Prop := fnSetRefRow.holds Try.pinned (OpenSpec.ofChange fnSetRefWrong)

/-- 'laws.FnDropRef': WHATEVER THE INPUT: true; the input reads as it did. -/
def fnDropRefSpec : ChangeSpec := { name := "fnDropRef", fn := fun _ => fun
  | [d] => { results := [.lit (.bool true)], args := [d] }
  | _ => none }
def fnDropRefRow : OpenClaim := { program := "ytmmeabfeehnajaa", sum := "15ea9e6c81f2c10cd4765b032afa2992f9ba2ef4e05031706ea4fbef34cdb95f", func := "loop.example/g00652/laws.FnDropRef", spec := "fnDropRef", inPlace := ["internal/bytealg.abigen_runtime_cmpstring"], unfollowed := true, recurses := true, apart := false }
def FnDropRefSaid : Prop := fnDropRefRow.holds Try.pinned (OpenSpec.ofChange fnDropRefSpec)

/-- ITS FALSE NEIGHBOUR: 'it returns false'. Refute it at one input. -/
def fnDropRefWrong : ChangeSpec := { name := "fnDropRef", fn := fun _ => fun
  | [d] => { results := [.lit (.bool false)], args := [d] }
  | _ => none }
def FnDropRefWrongFalsely : Prop := fnDropRefRow.holds Try.pinned (OpenSpec.ofChange fnDropRefWrong)

/-- 'laws.FnSwapRef': WHATEVER THE INPUT: true; the input reads as it did. -/
def fnSwapRefSpec : ChangeSpec := { name := "fnSwapRef", fn := fun _ => fun
  | [d] => { results := [.lit (.bool true)], args := [d] }
  | _ => none }
def fnSwapRefRow : OpenClaim := { program := "ytmmeabfeehnajaa", sum := "15ea9e6c81f2c10cd4765b032afa2992f9ba2ef4e05031706ea4fbef34cdb95f", func := "loop.example/g00652/laws.FnSwapRef", spec := "fnSwapRef", inPlace := ["internal/bytealg.abigen_runtime_cmpstring"], unfollowed := true, recurses := true, apart := false }
def FnSwapRefSaid : Prop := fnSwapRefRow.holds Try.pinned (OpenSpec.ofChange fnSwapRefSpec)

/-- ITS FALSE NEIGHBOUR: 'it returns false'. Refute it at one input. -/
def fnSwapRefWrong : ChangeSpec := { name := "fnSwapRef", fn := fun _ => fun
  | [d] => { results := [.lit (.bool false)], args := [d] }
  | _ => none }
def FnSwapRefWrongFalsely : Prop := fnSwapRefRow.holds Try.pinned (OpenSpec.ofChange fnSwapRefWrong)

/-- 'laws.FnRefsOrder': WHATEVER THE INPUT: true; the input reads as it did. -/
def fnRefsOrderSpec : ChangeSpec := { name := "fnRefsOrder", fn := fun _ => fun
  | [d] => { results := [.lit (.bool true)], args := [d] }
  | _ => none }
def fnRefsOrderRow : OpenClaim := { program := "ytmmeabfeehnajaa", sum := "15ea9e6c81f2c10cd4765b032afa2992f9ba2ef4e05031706ea4fbef34cdb95f", func := "loop.example/g00652/laws.FnRefsOrder", spec := "fnRefsOrder", inPlace := ["internal/bytealg.abigen_runtime_cmpstring"], unfollowed := true, recurses := true, apart := false }
def FnRefsOrderSaid : Prop := fnRefsOrderRow.holds Try.pinned (OpenSpec.ofChange fnRefsOrderSpec)

/-- ITS FALSE NEIGHBOUR: 'it returns false'. Refute it at one input. -/
def fnRefsOrderWrong : ChangeSpec := { name := "fnRefsOrder", fn := fun _ => fun
  | [d] => { results := [.lit (.bool false)], args := [d] }
  | _ => none }
def FnRefsOrderWrongFalsely : Prop := fnRefsOrderRow.holds Try.pinned (OpenSpec.ofChange fnRefsOrderWrong)

/-- 'laws.FnSwapBack': WHATEVER THE INPUT: true; the input reads as it did. -/
def fnSwapBackSpec : ChangeSpec := { name := "fnSwapBack", fn := fun _ => fun
  | [d] => { results := [.lit (.bool true)], args := [d] }
  | _ => none }
def fnSwapBackRow : OpenClaim := { program := "ytmmeabfeehnajaa", sum := "15ea9e6c81f2c10cd4765b032afa2992f9ba2ef4e05031706ea4fbef34cdb95f", func := "loop.example/g00652/laws.FnSwapBack", spec := "fnSwapBack", inPlace := ["internal/bytealg.abigen_runtime_cmpstring"], unfollowed := true, recurses := true, apart := false }
def FnSwapBackSaid : Prop := fnSwapBackRow.holds Try.pinned (OpenSpec.ofChange fnSwapBackSpec)

/-- ITS FALSE NEIGHBOUR: 'it returns false'. Refute it at one input. -/
def fnSwapBackWrong : ChangeSpec := { name := "fnSwapBack", fn := fun _ => fun
  | [d] => { results := [.lit (.bool false)], args := [d] }
  | _ => none }
def FnSwapBackWrongFalsely : Prop := fnSwapBackRow.holds Try.pinned (OpenSpec.ofChange fnSwapBackWrong)

/-- 'laws.FnCommitLong': WHATEVER THE INPUT: true; the input reads as it did. -/
def fnCommitLongSpec : ChangeSpec := { name := "fnCommitLong", fn := fun _ => fun
  | [d] => { results := [.lit (.bool true)], args := [d] }
  | _ => none }
def fnCommitLongRow : OpenClaim := { program := "ytmmeabfeehnajaa", sum := "15ea9e6c81f2c10cd4765b032afa2992f9ba2ef4e05031706ea4fbef34cdb95f", func := "loop.example/g00652/laws.FnCommitLong", spec := "fnCommitLong", inPlace := ["internal/abi.NoEscape"], apart := false }
def FnCommitLongSaid : Prop := fnCommitLongRow.holds Try.pinned (OpenSpec.ofChange fnCommitLongSpec)

/-- ITS FALSE NEIGHBOUR: 'it returns false'. Refute it at one input. -/
def fnCommitLongWrong : ChangeSpec := { name := "fnCommitLong", fn := fun _ => fun
  | [d] => { results := [.lit (.bool false)], args := [d] }
  | _ => none }
def FnCommitLongWrongFalsely : Prop := fnCommitLongRow.holds Try.pinned (OpenSpec.ofChange fnCommitLongWrong)

/- THE SECOND FORM. 'bulk': how many values and letters a reading holds, each counted each time it is reached (what is shared counts as often as it is met; a slice's spare places count too). A statement '..UptoSaid' is the law's where the arguments, and the package variables that the reading takes, are together of bulk at most 1048576: NARROWER than '..Said'. Prove '..Said' where nothing that the law and all that it calls make is longer than what came in: it says more and counts as full. Else prove '..UptoSaid'. A law counts once. -/
mutual
def uptoBulk {H : Type} : DataW H → Nat
  | .lit (.string bytes) => bytes.length + 1
  | .lit _ => 1
  | .nil => 1
  | .ptr d => uptoBulk d + 1
  | .slice elems spare => uptoBulkAll elems + uptoBulkAll spare + 1
  | .agg parts => uptoBulkAll parts + 1
  | .iface _ d => uptoBulk d + 1
  | .map entries => uptoBulkEntries entries + 1
  | .held _ => 1
def uptoBulkAll {H : Type} : List (DataW H) → Nat
  | [] => 0
  | d :: r => uptoBulk d + uptoBulkAll r
def uptoBulkEntries {H : Type} : List (Lit × DataW H) → Nat
  | [] => 0
  | x :: r => uptoBulkEntry x + uptoBulkEntries r
def uptoBulkEntry {H : Type} : Lit × DataW H → Nat
  | (.string bytes, d) => bytes.length + uptoBulk d + 1
  | (_, d) => uptoBulk d + 1
 end
def uptoSmall : (H : Type) → List (DataW H) → Bool := fun _ ds => decide (uptoBulkAll ds ≤ 1048576)
def OpenSpec.upto (s : _root_.Go.ChangeSpec) : _root_.Go.OpenSpec := { _root_.Go.OpenSpec.ofChange s with cond := some uptoSmall }

/-- 'laws.FnSetRef', WHERE WHAT IT READS IS OF BULK AT MOST 1048576: true; the input reads as it did. -/
def fnSetRefUptoRow : OpenClaim := { program := "ytmmeabfeehnajaa", sum := "15ea9e6c81f2c10cd4765b032afa2992f9ba2ef4e05031706ea4fbef34cdb95f", func := "loop.example/g00652/laws.FnSetRef", spec := "fnSetRef", inPlace := ["internal/bytealg.abigen_runtime_cmpstring"], unfollowed := true, recurses := true, apart := false, narrowed := true }
def FnSetRefUptoSaid : Prop := fnSetRefUptoRow.holds Try.pinned (OpenSpec.upto fnSetRefSpec)

/-- 'laws.FnDropRef', WHERE WHAT IT READS IS OF BULK AT MOST 1048576: true; the input reads as it did. -/
def fnDropRefUptoRow : OpenClaim := { program := "ytmmeabfeehnajaa", sum := "15ea9e6c81f2c10cd4765b032afa2992f9ba2ef4e05031706ea4fbef34cdb95f", func := "loop.example/g00652/laws.FnDropRef", spec := "fnDropRef", inPlace := ["internal/bytealg.abigen_runtime_cmpstring"], unfollowed := true, recurses := true, apart := false, narrowed := true }
def FnDropRefUptoSaid : Prop := fnDropRefUptoRow.holds Try.pinned (OpenSpec.upto fnDropRefSpec)

/-- 'laws.FnSwapRef', WHERE WHAT IT READS IS OF BULK AT MOST 1048576: true; the input reads as it did. -/
def fnSwapRefUptoRow : OpenClaim := { program := "ytmmeabfeehnajaa", sum := "15ea9e6c81f2c10cd4765b032afa2992f9ba2ef4e05031706ea4fbef34cdb95f", func := "loop.example/g00652/laws.FnSwapRef", spec := "fnSwapRef", inPlace := ["internal/bytealg.abigen_runtime_cmpstring"], unfollowed := true, recurses := true, apart := false, narrowed := true }
def FnSwapRefUptoSaid : Prop := fnSwapRefUptoRow.holds Try.pinned (OpenSpec.upto fnSwapRefSpec)

/-- 'laws.FnRefsOrder', WHERE WHAT IT READS IS OF BULK AT MOST 1048576: true; the input reads as it did. -/
def fnRefsOrderUptoRow : OpenClaim := { program := "ytmmeabfeehnajaa", sum := "15ea9e6c81f2c10cd4765b032afa2992f9ba2ef4e05031706ea4fbef34cdb95f", func := "loop.example/g00652/laws.FnRefsOrder", spec := "fnRefsOrder", inPlace := ["internal/bytealg.abigen_runtime_cmpstring"], unfollowed := true, recurses := true, apart := false, narrowed := true }
def FnRefsOrderUptoSaid : Prop := fnRefsOrderUptoRow.holds Try.pinned (OpenSpec.upto fnRefsOrderSpec)

/-- 'laws.FnSwapBack', WHERE WHAT IT READS IS OF BULK AT MOST 1048576: true; the input reads as it did. -/
def fnSwapBackUptoRow : OpenClaim := { program := "ytmmeabfeehnajaa", sum := "15ea9e6c81f2c10cd4765b032afa2992f9ba2ef4e05031706ea4fbef34cdb95f", func := "loop.example/g00652/laws.FnSwapBack", spec := "fnSwapBack", inPlace := ["internal/bytealg.abigen_runtime_cmpstring"], unfollowed := true, recurses := true, apart := false, narrowed := true }
def FnSwapBackUptoSaid : Prop := fnSwapBackUptoRow.holds Try.pinned (OpenSpec.upto fnSwapBackSpec)

/-- 'laws.FnCommitLong', WHERE WHAT IT READS IS OF BULK AT MOST 1048576: true; the input reads as it did. -/
def fnCommitLongUptoRow : OpenClaim := { program := "ytmmeabfeehnajaa", sum := "15ea9e6c81f2c10cd4765b032afa2992f9ba2ef4e05031706ea4fbef34cdb95f", func := "loop.example/g00652/laws.FnCommitLong", spec := "fnCommitLong", inPlace := ["internal/abi.NoEscape"], apart := false, narrowed := true }
def FnCommitLongUptoSaid : Prop := fnCommitLongUptoRow.holds Try.pinned (OpenSpec.upto fnCommitLongSpec)

end Rows
end Go.Proofs.Ytmmeabfeehnajaa
