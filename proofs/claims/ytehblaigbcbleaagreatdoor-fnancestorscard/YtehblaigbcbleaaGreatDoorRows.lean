/-
  NARROWER THAN 'FOR EVERY INPUT', by the rows' own cells (each row's printed sentence says how): FnCommitTwice: ifaces, laid · FnSameTree: ifaces, laid · FnCommitted: ifaces, laid · FnAncestors: ifaces, laid · FnIsAncestor: ifaces, laid · FnBases: ifaces, laid · FnBaseSelf: ifaces, laid.
  DERIVED. THE GIVEN ROWS OF THIS SEAT. 7 by the template 'for every input the law returns true; each argument reads behind the call as it read before'; 0 by the template 'total and deterministic' (their statements: YtehblaigbcbleaaGreatDoorTotals.lean).
  GIVEN WITH THE SEED: the statements are not yours to turn. If you find one false, say at which input.
  Laid BY PROGRAM, IN A SANDBOX (cutbox-rows.mjs): the forced cells as the released guide's own fill.sh prints them over the translation 0fd84dfe47df5252… (all of the seat's roots in one cut). By AI agents, Wed Nov 11 2026. No macro, syntax, notation, axiom, sorry.
-/
import Derived.Test.YtehblaigbcbleaaGreatDoorChecked
import GoSem.Claim
import GoSem.ClaimJoined
import GoSem.ClaimMapViews
import Derived.JoinedTies
import Derived.KernelRfl
namespace Go.Proofs.YtehblaigbcbleaaGreatDoor
/- THE CELL 'sum', in the pinned program and in every row, IS THE sha256 OF THE DUMP (.gsa) THAT YtehblaigbcbleaaGreatDoorProg.lean LOADS. Nothing in Lean hashes anything: it is a label: what it is worth is what the hold of that sum in a sandbox is worth. -/
noncomputable def Tryz.pinned : Pinned := { name := "ytehblaigbcbleaagreatdoor", sum := "0fd84dfe47df5252fc01ea213647113e2990b307c07f204237f0a48315e9bc68", checked := Tryz.checked }
namespace Rows
def none {H : Type} : Left H := { results := [], args := [] }

/- WHAT THE LISTED PACKAGE-LEVEL VARIABLES READ AS WHEN THE CALL BEGINS. Each datum BY PROGRAM (the guide's laid-datum.mjs) off the statement by which the dump's own 'gosem.cut.vars' lays the variable. In a bare row this is a premise. The card (YtehblaigbcbleaaGreatDoorCards.lean) ties it to the program's text. -/
def laid_loop_example_g00652_impl_shaFirst {H : Type} : DataW H := .agg [.lit (.int .u32 1779033703), .lit (.int .u32 3144134277), .lit (.int .u32 1013904242), .lit (.int .u32 2773480762), .lit (.int .u32 1359893119), .lit (.int .u32 2600822924), .lit (.int .u32 528734635), .lit (.int .u32 1541459225)]
def laid_loop_example_g00652_impl_shaRounds {H : Type} : DataW H := .agg [.lit (.int .u32 1116352408), .lit (.int .u32 1899447441), .lit (.int .u32 3049323471), .lit (.int .u32 3921009573), .lit (.int .u32 961987163), .lit (.int .u32 1508970993), .lit (.int .u32 2453635748), .lit (.int .u32 2870763221), .lit (.int .u32 3624381080), .lit (.int .u32 310598401), .lit (.int .u32 607225278), .lit (.int .u32 1426881987), .lit (.int .u32 1925078388), .lit (.int .u32 2162078206), .lit (.int .u32 2614888103), .lit (.int .u32 3248222580), .lit (.int .u32 3835390401), .lit (.int .u32 4022224774), .lit (.int .u32 264347078), .lit (.int .u32 604807628), .lit (.int .u32 770255983), .lit (.int .u32 1249150122), .lit (.int .u32 1555081692), .lit (.int .u32 1996064986), .lit (.int .u32 2554220882), .lit (.int .u32 2821834349), .lit (.int .u32 2952996808), .lit (.int .u32 3210313671), .lit (.int .u32 3336571891), .lit (.int .u32 3584528711), .lit (.int .u32 113926993), .lit (.int .u32 338241895), .lit (.int .u32 666307205), .lit (.int .u32 773529912), .lit (.int .u32 1294757372), .lit (.int .u32 1396182291), .lit (.int .u32 1695183700), .lit (.int .u32 1986661051), .lit (.int .u32 2177026350), .lit (.int .u32 2456956037), .lit (.int .u32 2730485921), .lit (.int .u32 2820302411), .lit (.int .u32 3259730800), .lit (.int .u32 3345764771), .lit (.int .u32 3516065817), .lit (.int .u32 3600352804), .lit (.int .u32 4094571909), .lit (.int .u32 275423344), .lit (.int .u32 430227734), .lit (.int .u32 506948616), .lit (.int .u32 659060556), .lit (.int .u32 883997877), .lit (.int .u32 958139571), .lit (.int .u32 1322822218), .lit (.int .u32 1537002063), .lit (.int .u32 1747873779), .lit (.int .u32 1955562222), .lit (.int .u32 2024104815), .lit (.int .u32 2227730452), .lit (.int .u32 2361852424), .lit (.int .u32 2428436474), .lit (.int .u32 2756734187), .lit (.int .u32 3204031479), .lit (.int .u32 3329325298)]
def laid_loop_example_g00652_impl_errNoCommit {H : Type} : DataW H := .iface "*errors.errorString" (.ptr (.agg [.lit (.string [116, 104, 101, 32, 116, 101, 120, 116, 32, 105, 115, 32, 110, 111, 32, 99, 111, 109, 109, 105, 116, 39, 115])]))

/-- 'laws.FnCommitTwice': WHATEVER THE INPUT: true; the input reads as it did. -/
def fnCommitTwiceSpec : ChangeSpec := { name := "fnCommitTwice", vars := ["loop.example/g00652/impl.shaFirst", "loop.example/g00652/impl.shaRounds", "loop.example/g00652/impl.errNoCommit"], fn := fun _ => fun
  | [d, g1, g2, g3] => { results := [.lit (.bool true)], args := [d], vars := [g1, g2, g3] }
  | _ => none }
def fnCommitTwiceRow : OpenClaim := { program := "ytehblaigbcbleaagreatdoor", sum := "0fd84dfe47df5252fc01ea213647113e2990b307c07f204237f0a48315e9bc68", func := "loop.example/g00652/laws.FnCommitTwice", spec := "fnCommitTwice", inPlace := ["internal/bytealg.IndexByteString", "internal/bytealg.IndexString", "internal/abi.NoEscape"], unfollowed := true, recurses := true, named := ["loop.example/g00652/impl.shaFirst", "loop.example/g00652/impl.shaRounds", "internal/bytealg.MaxLen", "loop.example/g00652/impl.errNoCommit"], ifaces := true, apart := false, laid := [("loop.example/g00652/impl.shaFirst", laid_loop_example_g00652_impl_shaFirst), ("loop.example/g00652/impl.shaRounds", laid_loop_example_g00652_impl_shaRounds), ("loop.example/g00652/impl.errNoCommit", laid_loop_example_g00652_impl_errNoCommit)] }
def FnCommitTwiceSaid : Prop := fnCommitTwiceRow.holds Tryz.pinned (OpenSpec.ofChange fnCommitTwiceSpec)

/-- ITS FALSE NEIGHBOUR: 'it returns false'. Refute it at one input. -/
def fnCommitTwiceWrong : ChangeSpec := { name := "fnCommitTwice", vars := ["loop.example/g00652/impl.shaFirst", "loop.example/g00652/impl.shaRounds", "loop.example/g00652/impl.errNoCommit"], fn := fun _ => fun
  | [d, g1, g2, g3] => { results := [.lit (.bool false)], args := [d], vars := [g1, g2, g3] }
  | _ => none }
def FnCommitTwiceWrongFalsely : Prop := fnCommitTwiceRow.holds Tryz.pinned (OpenSpec.ofChange fnCommitTwiceWrong)

/-- 'laws.FnSameTree': WHATEVER THE INPUT: true; the input reads as it did. -/
def fnSameTreeSpec : ChangeSpec := { name := "fnSameTree", vars := ["loop.example/g00652/impl.shaFirst", "loop.example/g00652/impl.shaRounds", "loop.example/g00652/impl.errNoCommit"], fn := fun _ => fun
  | [d, g1, g2, g3] => { results := [.lit (.bool true)], args := [d], vars := [g1, g2, g3] }
  | _ => none }
def fnSameTreeRow : OpenClaim := { program := "ytehblaigbcbleaagreatdoor", sum := "0fd84dfe47df5252fc01ea213647113e2990b307c07f204237f0a48315e9bc68", func := "loop.example/g00652/laws.FnSameTree", spec := "fnSameTree", inPlace := ["internal/bytealg.IndexByteString", "internal/bytealg.IndexString", "internal/abi.NoEscape"], unfollowed := true, recurses := true, named := ["loop.example/g00652/impl.shaFirst", "loop.example/g00652/impl.shaRounds", "loop.example/g00652/impl.errNoCommit", "internal/bytealg.MaxLen"], ifaces := true, apart := false, laid := [("loop.example/g00652/impl.shaFirst", laid_loop_example_g00652_impl_shaFirst), ("loop.example/g00652/impl.shaRounds", laid_loop_example_g00652_impl_shaRounds), ("loop.example/g00652/impl.errNoCommit", laid_loop_example_g00652_impl_errNoCommit)] }
def FnSameTreeSaid : Prop := fnSameTreeRow.holds Tryz.pinned (OpenSpec.ofChange fnSameTreeSpec)

/-- ITS FALSE NEIGHBOUR: 'it returns false'. Refute it at one input. -/
def fnSameTreeWrong : ChangeSpec := { name := "fnSameTree", vars := ["loop.example/g00652/impl.shaFirst", "loop.example/g00652/impl.shaRounds", "loop.example/g00652/impl.errNoCommit"], fn := fun _ => fun
  | [d, g1, g2, g3] => { results := [.lit (.bool false)], args := [d], vars := [g1, g2, g3] }
  | _ => none }
def FnSameTreeWrongFalsely : Prop := fnSameTreeRow.holds Tryz.pinned (OpenSpec.ofChange fnSameTreeWrong)

/-- 'laws.FnCommitted': WHATEVER THE INPUT: true; the input reads as it did. -/
def fnCommittedSpec : ChangeSpec := { name := "fnCommitted", vars := ["loop.example/g00652/impl.shaFirst", "loop.example/g00652/impl.shaRounds", "loop.example/g00652/impl.errNoCommit"], fn := fun _ => fun
  | [d, g1, g2, g3] => { results := [.lit (.bool true)], args := [d], vars := [g1, g2, g3] }
  | _ => none }
def fnCommittedRow : OpenClaim := { program := "ytehblaigbcbleaagreatdoor", sum := "0fd84dfe47df5252fc01ea213647113e2990b307c07f204237f0a48315e9bc68", func := "loop.example/g00652/laws.FnCommitted", spec := "fnCommitted", inPlace := ["internal/bytealg.IndexByteString", "internal/bytealg.IndexString", "internal/abi.NoEscape"], unfollowed := true, recurses := true, named := ["loop.example/g00652/impl.shaFirst", "loop.example/g00652/impl.shaRounds", "internal/bytealg.MaxLen", "loop.example/g00652/impl.errNoCommit"], ifaces := true, apart := false, laid := [("loop.example/g00652/impl.shaFirst", laid_loop_example_g00652_impl_shaFirst), ("loop.example/g00652/impl.shaRounds", laid_loop_example_g00652_impl_shaRounds), ("loop.example/g00652/impl.errNoCommit", laid_loop_example_g00652_impl_errNoCommit)] }
def FnCommittedSaid : Prop := fnCommittedRow.holds Tryz.pinned (OpenSpec.ofChange fnCommittedSpec)

/-- ITS FALSE NEIGHBOUR: 'it returns false'. Refute it at one input. -/
def fnCommittedWrong : ChangeSpec := { name := "fnCommitted", vars := ["loop.example/g00652/impl.shaFirst", "loop.example/g00652/impl.shaRounds", "loop.example/g00652/impl.errNoCommit"], fn := fun _ => fun
  | [d, g1, g2, g3] => { results := [.lit (.bool false)], args := [d], vars := [g1, g2, g3] }
  | _ => none }
def FnCommittedWrongFalsely : Prop := fnCommittedRow.holds Tryz.pinned (OpenSpec.ofChange fnCommittedWrong)

/-- 'laws.FnAncestors': WHATEVER THE INPUT: true; the input reads as it did. -/
def fnAncestorsSpec : ChangeSpec := { name := "fnAncestors", vars := ["loop.example/g00652/impl.shaFirst", "loop.example/g00652/impl.shaRounds", "loop.example/g00652/impl.errNoCommit"], fn := fun _ => fun
  | [d, g1, g2, g3] => { results := [.lit (.bool true)], args := [d], vars := [g1, g2, g3] }
  | _ => none }
def fnAncestorsRow : OpenClaim := { program := "ytehblaigbcbleaagreatdoor", sum := "0fd84dfe47df5252fc01ea213647113e2990b307c07f204237f0a48315e9bc68", func := "loop.example/g00652/laws.FnAncestors", spec := "fnAncestors", inPlace := ["internal/bytealg.IndexByteString", "internal/bytealg.IndexString"], unfollowed := true, recurses := true, named := ["loop.example/g00652/impl.shaFirst", "loop.example/g00652/impl.shaRounds", "internal/bytealg.MaxLen", "loop.example/g00652/impl.errNoCommit"], ifaces := true, apart := false, laid := [("loop.example/g00652/impl.shaFirst", laid_loop_example_g00652_impl_shaFirst), ("loop.example/g00652/impl.shaRounds", laid_loop_example_g00652_impl_shaRounds), ("loop.example/g00652/impl.errNoCommit", laid_loop_example_g00652_impl_errNoCommit)] }
def FnAncestorsSaid : Prop := fnAncestorsRow.holds Tryz.pinned (OpenSpec.ofChange fnAncestorsSpec)

/-- ITS FALSE NEIGHBOUR: 'it returns false'. Refute it at one input. -/
def fnAncestorsWrong : ChangeSpec := { name := "fnAncestors", vars := ["loop.example/g00652/impl.shaFirst", "loop.example/g00652/impl.shaRounds", "loop.example/g00652/impl.errNoCommit"], fn := fun _ => fun
  | [d, g1, g2, g3] => { results := [.lit (.bool false)], args := [d], vars := [g1, g2, g3] }
  | _ => none }
def FnAncestorsWrongFalsely : Prop := fnAncestorsRow.holds Tryz.pinned (OpenSpec.ofChange fnAncestorsWrong)

/-- 'laws.FnIsAncestor': WHATEVER THE INPUT: true; the input reads as it did. -/
def fnIsAncestorSpec : ChangeSpec := { name := "fnIsAncestor", vars := ["loop.example/g00652/impl.shaFirst", "loop.example/g00652/impl.shaRounds", "loop.example/g00652/impl.errNoCommit"], fn := fun _ => fun
  | [d, g1, g2, g3] => { results := [.lit (.bool true)], args := [d], vars := [g1, g2, g3] }
  | _ => none }
def fnIsAncestorRow : OpenClaim := { program := "ytehblaigbcbleaagreatdoor", sum := "0fd84dfe47df5252fc01ea213647113e2990b307c07f204237f0a48315e9bc68", func := "loop.example/g00652/laws.FnIsAncestor", spec := "fnIsAncestor", inPlace := ["internal/bytealg.IndexByteString", "internal/bytealg.IndexString"], unfollowed := true, recurses := true, named := ["loop.example/g00652/impl.shaFirst", "loop.example/g00652/impl.shaRounds", "internal/bytealg.MaxLen", "loop.example/g00652/impl.errNoCommit"], ifaces := true, apart := false, laid := [("loop.example/g00652/impl.shaFirst", laid_loop_example_g00652_impl_shaFirst), ("loop.example/g00652/impl.shaRounds", laid_loop_example_g00652_impl_shaRounds), ("loop.example/g00652/impl.errNoCommit", laid_loop_example_g00652_impl_errNoCommit)] }
def FnIsAncestorSaid : Prop := fnIsAncestorRow.holds Tryz.pinned (OpenSpec.ofChange fnIsAncestorSpec)

/-- ITS FALSE NEIGHBOUR: 'it returns false'. Refute it at one input. -/
def fnIsAncestorWrong : ChangeSpec := { name := "fnIsAncestor", vars := ["loop.example/g00652/impl.shaFirst", "loop.example/g00652/impl.shaRounds", "loop.example/g00652/impl.errNoCommit"], fn := fun _ => fun
  | [d, g1, g2, g3] => { results := [.lit (.bool false)], args := [d], vars := [g1, g2, g3] }
  | _ => none }
def FnIsAncestorWrongFalsely : Prop := fnIsAncestorRow.holds Tryz.pinned (OpenSpec.ofChange fnIsAncestorWrong)

/-- 'laws.FnBases': WHATEVER THE INPUT: true; the input reads as it did. -/
def fnBasesSpec : ChangeSpec := { name := "fnBases", vars := ["loop.example/g00652/impl.shaFirst", "loop.example/g00652/impl.shaRounds", "loop.example/g00652/impl.errNoCommit"], fn := fun _ => fun
  | [d, g1, g2, g3] => { results := [.lit (.bool true)], args := [d], vars := [g1, g2, g3] }
  | _ => none }
def fnBasesRow : OpenClaim := { program := "ytehblaigbcbleaagreatdoor", sum := "0fd84dfe47df5252fc01ea213647113e2990b307c07f204237f0a48315e9bc68", func := "loop.example/g00652/laws.FnBases", spec := "fnBases", inPlace := ["internal/bytealg.IndexByteString", "internal/bytealg.IndexString"], unfollowed := true, recurses := true, named := ["loop.example/g00652/impl.shaFirst", "loop.example/g00652/impl.shaRounds", "internal/bytealg.MaxLen", "loop.example/g00652/impl.errNoCommit"], ifaces := true, apart := false, laid := [("loop.example/g00652/impl.shaFirst", laid_loop_example_g00652_impl_shaFirst), ("loop.example/g00652/impl.shaRounds", laid_loop_example_g00652_impl_shaRounds), ("loop.example/g00652/impl.errNoCommit", laid_loop_example_g00652_impl_errNoCommit)] }
def FnBasesSaid : Prop := fnBasesRow.holds Tryz.pinned (OpenSpec.ofChange fnBasesSpec)

/-- ITS FALSE NEIGHBOUR: 'it returns false'. Refute it at one input. -/
def fnBasesWrong : ChangeSpec := { name := "fnBases", vars := ["loop.example/g00652/impl.shaFirst", "loop.example/g00652/impl.shaRounds", "loop.example/g00652/impl.errNoCommit"], fn := fun _ => fun
  | [d, g1, g2, g3] => { results := [.lit (.bool false)], args := [d], vars := [g1, g2, g3] }
  | _ => none }
def FnBasesWrongFalsely : Prop := fnBasesRow.holds Tryz.pinned (OpenSpec.ofChange fnBasesWrong)

/-- 'laws.FnBaseSelf': WHATEVER THE INPUT: true; the input reads as it did. -/
def fnBaseSelfSpec : ChangeSpec := { name := "fnBaseSelf", vars := ["loop.example/g00652/impl.shaFirst", "loop.example/g00652/impl.shaRounds", "loop.example/g00652/impl.errNoCommit"], fn := fun _ => fun
  | [d, g1, g2, g3] => { results := [.lit (.bool true)], args := [d], vars := [g1, g2, g3] }
  | _ => none }
def fnBaseSelfRow : OpenClaim := { program := "ytehblaigbcbleaagreatdoor", sum := "0fd84dfe47df5252fc01ea213647113e2990b307c07f204237f0a48315e9bc68", func := "loop.example/g00652/laws.FnBaseSelf", spec := "fnBaseSelf", inPlace := ["internal/bytealg.IndexByteString", "internal/bytealg.IndexString"], unfollowed := true, recurses := true, named := ["loop.example/g00652/impl.shaFirst", "loop.example/g00652/impl.shaRounds", "internal/bytealg.MaxLen", "loop.example/g00652/impl.errNoCommit"], ifaces := true, apart := false, laid := [("loop.example/g00652/impl.shaFirst", laid_loop_example_g00652_impl_shaFirst), ("loop.example/g00652/impl.shaRounds", laid_loop_example_g00652_impl_shaRounds), ("loop.example/g00652/impl.errNoCommit", laid_loop_example_g00652_impl_errNoCommit)] }
def FnBaseSelfSaid : Prop := fnBaseSelfRow.holds Tryz.pinned (OpenSpec.ofChange fnBaseSelfSpec)

/-- ITS FALSE NEIGHBOUR: 'it returns false'. Refute it at one input. -/
def fnBaseSelfWrong : ChangeSpec := { name := "fnBaseSelf", vars := ["loop.example/g00652/impl.shaFirst", "loop.example/g00652/impl.shaRounds", "loop.example/g00652/impl.errNoCommit"], fn := fun _ => fun
  | [d, g1, g2, g3] => { results := [.lit (.bool false)], args := [d], vars := [g1, g2, g3] }
  | _ => none }
def FnBaseSelfWrongFalsely : Prop := fnBaseSelfRow.holds Tryz.pinned (OpenSpec.ofChange fnBaseSelfWrong)

/- THE SECOND FORM. 'bulk': how many values and letters a reading holds, each counted each time it is reached (what is shared counts as often as it is met; a slice's spare places count too). A statement '..UptoSaid' is the law's where the arguments, and the package variables that the reading takes, are together of bulk at most 1048576: NARROWER than '..Said'. Prove '..Said' where nothing that the law and all that it calls make is longer than what came in: it says more and counts as full. Else prove '..UptoSaid'. A law counts once. -/
mutual
def uptoBulk {H : Type} : DataW H → Nat
  | .lit (.string bytes) => bytes.length + 1
  | .lit _ => 1
  | .nil => 1
  | .ptr d => uptoBulk d + 1
  | .slice elems spare => uptoBulkAll elems + uptoBulkAll spare + 1
  | .agg parts => uptoBulkAll parts + 1
  | .iface _ d => uptoBulk d + 1
  | .map entries => uptoBulkEntries entries + 1
  | .held _ => 1
def uptoBulkAll {H : Type} : List (DataW H) → Nat
  | [] => 0
  | d :: r => uptoBulk d + uptoBulkAll r
def uptoBulkEntries {H : Type} : List (Lit × DataW H) → Nat
  | [] => 0
  | x :: r => uptoBulkEntry x + uptoBulkEntries r
def uptoBulkEntry {H : Type} : Lit × DataW H → Nat
  | (.string bytes, d) => bytes.length + uptoBulk d + 1
  | (_, d) => uptoBulk d + 1
 end
def uptoSmall : (H : Type) → List (DataW H) → Bool := fun _ ds => decide (uptoBulkAll ds ≤ 1048576)
def OpenSpec.upto (s : _root_.Go.ChangeSpec) : _root_.Go.OpenSpec := { _root_.Go.OpenSpec.ofChange s with cond := some uptoSmall }

/-- 'laws.FnCommitTwice', WHERE WHAT IT READS IS OF BULK AT MOST 1048576: true; the input reads as it did. -/
def fnCommitTwiceUptoRow : OpenClaim := { program := "ytehblaigbcbleaagreatdoor", sum := "0fd84dfe47df5252fc01ea213647113e2990b307c07f204237f0a48315e9bc68", func := "loop.example/g00652/laws.FnCommitTwice", spec := "fnCommitTwice", inPlace := ["internal/bytealg.IndexByteString", "internal/bytealg.IndexString", "internal/abi.NoEscape"], unfollowed := true, recurses := true, named := ["loop.example/g00652/impl.shaFirst", "loop.example/g00652/impl.shaRounds", "internal/bytealg.MaxLen", "loop.example/g00652/impl.errNoCommit"], ifaces := true, apart := false, laid := [("loop.example/g00652/impl.shaFirst", laid_loop_example_g00652_impl_shaFirst), ("loop.example/g00652/impl.shaRounds", laid_loop_example_g00652_impl_shaRounds), ("loop.example/g00652/impl.errNoCommit", laid_loop_example_g00652_impl_errNoCommit)], narrowed := true }
def FnCommitTwiceUptoSaid : Prop := fnCommitTwiceUptoRow.holds Tryz.pinned (OpenSpec.upto fnCommitTwiceSpec)

/-- 'laws.FnSameTree', WHERE WHAT IT READS IS OF BULK AT MOST 1048576: true; the input reads as it did. -/
def fnSameTreeUptoRow : OpenClaim := { program := "ytehblaigbcbleaagreatdoor", sum := "0fd84dfe47df5252fc01ea213647113e2990b307c07f204237f0a48315e9bc68", func := "loop.example/g00652/laws.FnSameTree", spec := "fnSameTree", inPlace := ["internal/bytealg.IndexByteString", "internal/bytealg.IndexString", "internal/abi.NoEscape"], unfollowed := true, recurses := true, named := ["loop.example/g00652/impl.shaFirst", "loop.example/g00652/impl.shaRounds", "loop.example/g00652/impl.errNoCommit", "internal/bytealg.MaxLen"], ifaces := true, apart := false, laid := [("loop.example/g00652/impl.shaFirst", laid_loop_example_g00652_impl_shaFirst), ("loop.example/g00652/impl.shaRounds", laid_loop_example_g00652_impl_shaRounds), ("loop.example/g00652/impl.errNoCommit", laid_loop_example_g00652_impl_errNoCommit)], narrowed := true }
def FnSameTreeUptoSaid : Prop := fnSameTreeUptoRow.holds Tryz.pinned (OpenSpec.upto fnSameTreeSpec)

/-- 'laws.FnCommitted', WHERE WHAT IT READS IS OF BULK AT MOST 1048576: true; the input reads as it did. -/
def fnCommittedUptoRow : OpenClaim := { program := "ytehblaigbcbleaagreatdoor", sum := "0fd84dfe47df5252fc01ea213647113e2990b307c07f204237f0a48315e9bc68", func := "loop.example/g00652/laws.FnCommitted", spec := "fnCommitted", inPlace := ["internal/bytealg.IndexByteString", "internal/bytealg.IndexString", "internal/abi.NoEscape"], unfollowed := true, recurses := true, named := ["loop.example/g00652/impl.shaFirst", "loop.example/g00652/impl.shaRounds", "internal/bytealg.MaxLen", "loop.example/g00652/impl.errNoCommit"], ifaces := true, apart := false, laid := [("loop.example/g00652/impl.shaFirst", laid_loop_example_g00652_impl_shaFirst), ("loop.example/g00652/impl.shaRounds", laid_loop_example_g00652_impl_shaRounds), ("loop.example/g00652/impl.errNoCommit", laid_loop_example_g00652_impl_errNoCommit)], narrowed := true }
def FnCommittedUptoSaid : Prop := fnCommittedUptoRow.holds Tryz.pinned (OpenSpec.upto fnCommittedSpec)

/-- 'laws.FnAncestors', WHERE WHAT IT READS IS OF BULK AT MOST 1048576: true; the input reads as it did. -/
def fnAncestorsUptoRow : OpenClaim := { program := "ytehblaigbcbleaagreatdoor", sum := "0fd84dfe47df5252fc01ea213647113e2990b307c07f204237f0a48315e9bc68", func := "loop.example/g00652/laws.FnAncestors", spec := "fnAncestors", inPlace := ["internal/bytealg.IndexByteString", "internal/bytealg.IndexString"], unfollowed := true, recurses := true, named := ["loop.example/g00652/impl.shaFirst", "loop.example/g00652/impl.shaRounds", "internal/bytealg.MaxLen", "loop.example/g00652/impl.errNoCommit"], ifaces := true, apart := false, laid := [("loop.example/g00652/impl.shaFirst", laid_loop_example_g00652_impl_shaFirst), ("loop.example/g00652/impl.shaRounds", laid_loop_example_g00652_impl_shaRounds), ("loop.example/g00652/impl.errNoCommit", laid_loop_example_g00652_impl_errNoCommit)], narrowed := true }
def FnAncestorsUptoSaid : Prop := fnAncestorsUptoRow.holds Tryz.pinned (OpenSpec.upto fnAncestorsSpec)

/-- 'laws.FnIsAncestor', WHERE WHAT IT READS IS OF BULK AT MOST 1048576: true; the input reads as it did. -/
def fnIsAncestorUptoRow : OpenClaim := { program := "ytehblaigbcbleaagreatdoor", sum := "0fd84dfe47df5252fc01ea213647113e2990b307c07f204237f0a48315e9bc68", func := "loop.example/g00652/laws.FnIsAncestor", spec := "fnIsAncestor", inPlace := ["internal/bytealg.IndexByteString", "internal/bytealg.IndexString"], unfollowed := true, recurses := true, named := ["loop.example/g00652/impl.shaFirst", "loop.example/g00652/impl.shaRounds", "internal/bytealg.MaxLen", "loop.example/g00652/impl.errNoCommit"], ifaces := true, apart := false, laid := [("loop.example/g00652/impl.shaFirst", laid_loop_example_g00652_impl_shaFirst), ("loop.example/g00652/impl.shaRounds", laid_loop_example_g00652_impl_shaRounds), ("loop.example/g00652/impl.errNoCommit", laid_loop_example_g00652_impl_errNoCommit)], narrowed := true }
def FnIsAncestorUptoSaid : Prop := fnIsAncestorUptoRow.holds Tryz.pinned (OpenSpec.upto fnIsAncestorSpec)

/-- 'laws.FnBases', WHERE WHAT IT READS IS OF BULK AT MOST 1048576: true; the input reads as it did. -/
def fnBasesUptoRow : OpenClaim := { program := "ytehblaigbcbleaagreatdoor", sum := "0fd84dfe47df5252fc01ea213647113e2990b307c07f204237f0a48315e9bc68", func := "loop.example/g00652/laws.FnBases", spec := "fnBases", inPlace := ["internal/bytealg.IndexByteString", "internal/bytealg.IndexString"], unfollowed := true, recurses := true, named := ["loop.example/g00652/impl.shaFirst", "loop.example/g00652/impl.shaRounds", "internal/bytealg.MaxLen", "loop.example/g00652/impl.errNoCommit"], ifaces := true, apart := false, laid := [("loop.example/g00652/impl.shaFirst", laid_loop_example_g00652_impl_shaFirst), ("loop.example/g00652/impl.shaRounds", laid_loop_example_g00652_impl_shaRounds), ("loop.example/g00652/impl.errNoCommit", laid_loop_example_g00652_impl_errNoCommit)], narrowed := true }
def FnBasesUptoSaid : Prop := fnBasesUptoRow.holds Tryz.pinned (OpenSpec.upto fnBasesSpec)

/-- 'laws.FnBaseSelf', WHERE WHAT IT READS IS OF BULK AT MOST 1048576: true; the input reads as it did. -/
def fnBaseSelfUptoRow : OpenClaim := { program := "ytehblaigbcbleaagreatdoor", sum := "0fd84dfe47df5252fc01ea213647113e2990b307c07f204237f0a48315e9bc68", func := "loop.example/g00652/laws.FnBaseSelf", spec := "fnBaseSelf", inPlace := ["internal/bytealg.IndexByteString", "internal/bytealg.IndexString"], unfollowed := true, recurses := true, named := ["loop.example/g00652/impl.shaFirst", "loop.example/g00652/impl.shaRounds", "internal/bytealg.MaxLen", "loop.example/g00652/impl.errNoCommit"], ifaces := true, apart := false, laid := [("loop.example/g00652/impl.shaFirst", laid_loop_example_g00652_impl_shaFirst), ("loop.example/g00652/impl.shaRounds", laid_loop_example_g00652_impl_shaRounds), ("loop.example/g00652/impl.errNoCommit", laid_loop_example_g00652_impl_errNoCommit)], narrowed := true }
def FnBaseSelfUptoSaid : Prop := fnBaseSelfUptoRow.holds Tryz.pinned (OpenSpec.upto fnBaseSelfSpec)

end Rows
end Go.Proofs.YtehblaigbcbleaaGreatDoor
