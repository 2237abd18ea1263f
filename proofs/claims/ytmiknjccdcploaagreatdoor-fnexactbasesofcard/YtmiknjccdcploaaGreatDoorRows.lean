/-
  NARROWER THAN 'FOR EVERY INPUT', by the rows' own cells (each row's printed sentence says how): FnExactBasesOf: ifaces, laid · FnExactMergeCommit: ifaces, laid · FnExactForward: ifaces, laid · FnExactReached: ifaces, laid · FnExactSwept: ifaces, laid · FnExactMissing: ifaces, laid · FnExactWanted: ifaces, laid · FnExactFetched: ifaces, laid · FnExactPickOf: ifaces, laid · FnExactPicked: ifaces, laid · FnExactReverted: ifaces, laid · FnExactRebased: ifaces, laid · FnExactBlameOf: ifaces, laid · FnExactCommitted: ifaces, laid.
  DERIVED. THE GIVEN ROWS OF THIS SEAT. 14 by the template 'for every input the law returns true; each argument reads behind the call as it read before'; 0 by the template 'total and deterministic' (their statements: YtmiknjccdcploaaGreatDoorTotals.lean).
  GIVEN WITH THE SEED: the statements are not yours to turn. If you find one false, say at which input.
  Laid BY PROGRAM, IN A SANDBOX (cutbox-rows.mjs): the forced cells as the released guide's own fill.sh prints them over the translation 86b1c9259a5eb78a… (all of the seat's roots in one cut). By AI agents, Wed Nov 11 2026. No macro, syntax, notation, axiom, sorry.
-/
import Derived.Test.YtmiknjccdcploaaGreatDoorChecked
import GoSem.Claim
import GoSem.ClaimJoined
import GoSem.ClaimMapViews
import Derived.JoinedTies
import Derived.KernelRfl
namespace Go.Proofs.YtmiknjccdcploaaGreatDoor
/- THE CELL 'sum', in the pinned program and in every row, IS THE sha256 OF THE DUMP (.gsa) THAT YtmiknjccdcploaaGreatDoorProg.lean LOADS. Nothing in Lean hashes anything: it is a label: what it is worth is what the hold of that sum in a sandbox is worth. -/
noncomputable def Tryz.pinned : Pinned := { name := "ytmiknjccdcploaagreatdoor", sum := "86b1c9259a5eb78ac4a55bdf2d967798d3407c167e710c586445cb705a530540", checked := Tryz.checked }
namespace Rows
def none {H : Type} : Left H := { results := [], args := [] }

/- WHAT THE LISTED PACKAGE-LEVEL VARIABLES READ AS WHEN THE CALL BEGINS. Each datum BY PROGRAM (the guide's laid-datum.mjs) off the statement by which the dump's own 'gosem.cut.vars' lays the variable. In a bare row this is a premise. The card (YtmiknjccdcploaaGreatDoorCards.lean) ties it to the program's text. -/
def laid_loop_example_g00652_impl_shaFirst {H : Type} : DataW H := .agg [.lit (.int .u32 1779033703), .lit (.int .u32 3144134277), .lit (.int .u32 1013904242), .lit (.int .u32 2773480762), .lit (.int .u32 1359893119), .lit (.int .u32 2600822924), .lit (.int .u32 528734635), .lit (.int .u32 1541459225)]
def laid_loop_example_g00652_impl_shaRounds {H : Type} : DataW H := .agg [.lit (.int .u32 1116352408), .lit (.int .u32 1899447441), .lit (.int .u32 3049323471), .lit (.int .u32 3921009573), .lit (.int .u32 961987163), .lit (.int .u32 1508970993), .lit (.int .u32 2453635748), .lit (.int .u32 2870763221), .lit (.int .u32 3624381080), .lit (.int .u32 310598401), .lit (.int .u32 607225278), .lit (.int .u32 1426881987), .lit (.int .u32 1925078388), .lit (.int .u32 2162078206), .lit (.int .u32 2614888103), .lit (.int .u32 3248222580), .lit (.int .u32 3835390401), .lit (.int .u32 4022224774), .lit (.int .u32 264347078), .lit (.int .u32 604807628), .lit (.int .u32 770255983), .lit (.int .u32 1249150122), .lit (.int .u32 1555081692), .lit (.int .u32 1996064986), .lit (.int .u32 2554220882), .lit (.int .u32 2821834349), .lit (.int .u32 2952996808), .lit (.int .u32 3210313671), .lit (.int .u32 3336571891), .lit (.int .u32 3584528711), .lit (.int .u32 113926993), .lit (.int .u32 338241895), .lit (.int .u32 666307205), .lit (.int .u32 773529912), .lit (.int .u32 1294757372), .lit (.int .u32 1396182291), .lit (.int .u32 1695183700), .lit (.int .u32 1986661051), .lit (.int .u32 2177026350), .lit (.int .u32 2456956037), .lit (.int .u32 2730485921), .lit (.int .u32 2820302411), .lit (.int .u32 3259730800), .lit (.int .u32 3345764771), .lit (.int .u32 3516065817), .lit (.int .u32 3600352804), .lit (.int .u32 4094571909), .lit (.int .u32 275423344), .lit (.int .u32 430227734), .lit (.int .u32 506948616), .lit (.int .u32 659060556), .lit (.int .u32 883997877), .lit (.int .u32 958139571), .lit (.int .u32 1322822218), .lit (.int .u32 1537002063), .lit (.int .u32 1747873779), .lit (.int .u32 1955562222), .lit (.int .u32 2024104815), .lit (.int .u32 2227730452), .lit (.int .u32 2361852424), .lit (.int .u32 2428436474), .lit (.int .u32 2756734187), .lit (.int .u32 3204031479), .lit (.int .u32 3329325298)]
def laid_loop_example_g00652_impl_errNoCommit {H : Type} : DataW H := .iface "*errors.errorString" (.ptr (.agg [.lit (.string [116, 104, 101, 32, 116, 101, 120, 116, 32, 105, 115, 32, 110, 111, 32, 99, 111, 109, 109, 105, 116, 39, 115])]))
def laid_errors_errorType {H : Type} : DataW H := .iface "internal/reflectlite.rtype" (.agg [.ptr (.lit (.string [101, 114, 114, 111, 114]))])
def laid_loop_example_g00652_impl_errNotRight {H : Type} : DataW H := .iface "*errors.errorString" (.ptr (.agg [.lit (.string [105, 116, 32, 105, 115, 32, 110, 111, 116, 32, 114, 105, 103, 104, 116])]))

/-- 'laws.FnExactBasesOf': WHATEVER THE INPUT: true; the input reads as it did. -/
def fnExactBasesOfSpec : ChangeSpec := { name := "fnExactBasesOf", vars := ["loop.example/g00652/impl.shaFirst", "loop.example/g00652/impl.shaRounds", "loop.example/g00652/impl.errNoCommit"], fn := fun _ => fun
  | [d1, d2, d3, g1, g2, g3] => { results := [.lit (.bool true)], args := [d1, d2, d3], vars := [g1, g2, g3] }
  | _ => none }
def fnExactBasesOfRow : OpenClaim := { program := "ytmiknjccdcploaagreatdoor", sum := "86b1c9259a5eb78ac4a55bdf2d967798d3407c167e710c586445cb705a530540", func := "loop.example/g00652/laws.FnExactBasesOf", spec := "fnExactBasesOf", inPlace := ["internal/bytealg.IndexByteString", "internal/bytealg.IndexString"], unfollowed := true, recurses := true, named := ["loop.example/g00652/impl.shaFirst", "loop.example/g00652/impl.shaRounds", "internal/bytealg.MaxLen", "loop.example/g00652/impl.errNoCommit"], ifaces := true, plainKeys := false, leaving := true, apart := false, laid := [("loop.example/g00652/impl.shaFirst", laid_loop_example_g00652_impl_shaFirst), ("loop.example/g00652/impl.shaRounds", laid_loop_example_g00652_impl_shaRounds), ("loop.example/g00652/impl.errNoCommit", laid_loop_example_g00652_impl_errNoCommit)] }
def FnExactBasesOfSaid : Prop := fnExactBasesOfRow.holds Tryz.pinned (OpenSpec.ofChange fnExactBasesOfSpec)

/-- ITS FALSE NEIGHBOUR: 'it returns false'. Refute it at one input. -/
def fnExactBasesOfWrong : ChangeSpec := { name := "fnExactBasesOf", vars := ["loop.example/g00652/impl.shaFirst", "loop.example/g00652/impl.shaRounds", "loop.example/g00652/impl.errNoCommit"], fn := fun _ => fun
  | [d1, d2, d3, g1, g2, g3] => { results := [.lit (.bool false)], args := [d1, d2, d3], vars := [g1, g2, g3] }
  | _ => none }
def FnExactBasesOfWrongFalsely : Prop := fnExactBasesOfRow.holds Tryz.pinned (OpenSpec.ofChange fnExactBasesOfWrong)

/-- 'laws.FnExactMergeCommit': WHATEVER THE INPUT: true; the input reads as it did. -/
def fnExactMergeCommitSpec : ChangeSpec := { name := "fnExactMergeCommit", vars := ["loop.example/g00652/impl.errNotRight", "loop.example/g00652/impl.shaFirst", "loop.example/g00652/impl.shaRounds", "loop.example/g00652/impl.errNoCommit"], fn := fun _ => fun
  | [d1, d2, d3, d4, g1, g2, g3, g4] => { results := [.lit (.bool true)], args := [d1, d2, d3, d4], vars := [g1, g2, g3, g4] }
  | _ => none }
def fnExactMergeCommitRow : OpenClaim := { program := "ytmiknjccdcploaagreatdoor", sum := "86b1c9259a5eb78ac4a55bdf2d967798d3407c167e710c586445cb705a530540", func := "loop.example/g00652/laws.FnExactMergeCommit", spec := "fnExactMergeCommit", inPlace := ["internal/bytealg.IndexByteString", "internal/bytealg.IndexString", "internal/bytealg.abigen_runtime_cmpstring", "internal/abi.NoEscape", "internal/reflectlite.ValueOf", "(internal/reflectlite.Value).Type", "(internal/reflectlite.Value).IsNil", "internal/reflectlite.TypeOf", "(internal/reflectlite.Value).Elem", "(internal/reflectlite.Value).Set"], unfollowed := true, recurses := true, named := ["loop.example/g00652/impl.errNotRight", "loop.example/g00652/impl.shaFirst", "loop.example/g00652/impl.shaRounds", "internal/bytealg.MaxLen", "loop.example/g00652/impl.errNoCommit", "errors.errorType"], ifaces := true, plainKeys := false, leaving := true, apart := false, laid := [("errors.errorType", laid_errors_errorType), ("loop.example/g00652/impl.shaFirst", laid_loop_example_g00652_impl_shaFirst), ("loop.example/g00652/impl.shaRounds", laid_loop_example_g00652_impl_shaRounds), ("loop.example/g00652/impl.errNoCommit", laid_loop_example_g00652_impl_errNoCommit), ("loop.example/g00652/impl.errNotRight", laid_loop_example_g00652_impl_errNotRight)] }
def FnExactMergeCommitSaid : Prop := fnExactMergeCommitRow.holds Tryz.pinned (OpenSpec.ofChange fnExactMergeCommitSpec)

/-- ITS FALSE NEIGHBOUR: 'it returns false'. Refute it at one input. -/
def fnExactMergeCommitWrong : ChangeSpec := { name := "fnExactMergeCommit", vars := ["loop.example/g00652/impl.errNotRight", "loop.example/g00652/impl.shaFirst", "loop.example/g00652/impl.shaRounds", "loop.example/g00652/impl.errNoCommit"], fn := fun _ => fun
  | [d1, d2, d3, d4, g1, g2, g3, g4] => { results := [.lit (.bool false)], args := [d1, d2, d3, d4], vars := [g1, g2, g3, g4] }
  | _ => none }
def FnExactMergeCommitWrongFalsely : Prop := fnExactMergeCommitRow.holds Tryz.pinned (OpenSpec.ofChange fnExactMergeCommitWrong)

/-- 'laws.FnExactForward': WHATEVER THE INPUT: true; the input reads as it did. -/
def fnExactForwardSpec : ChangeSpec := { name := "fnExactForward", vars := ["loop.example/g00652/impl.shaFirst", "loop.example/g00652/impl.shaRounds", "loop.example/g00652/impl.errNoCommit"], fn := fun _ => fun
  | [d1, d2, d3, d4, g1, g2, g3] => { results := [.lit (.bool true)], args := [d1, d2, d3, d4], vars := [g1, g2, g3] }
  | _ => none }
def fnExactForwardRow : OpenClaim := { program := "ytmiknjccdcploaagreatdoor", sum := "86b1c9259a5eb78ac4a55bdf2d967798d3407c167e710c586445cb705a530540", func := "loop.example/g00652/laws.FnExactForward", spec := "fnExactForward", inPlace := ["internal/bytealg.IndexByteString", "internal/bytealg.IndexString", "internal/bytealg.abigen_runtime_cmpstring"], unfollowed := true, recurses := true, named := ["loop.example/g00652/impl.shaFirst", "loop.example/g00652/impl.shaRounds", "internal/bytealg.MaxLen", "loop.example/g00652/impl.errNoCommit"], ifaces := true, plainKeys := false, leaving := true, apart := false, laid := [("loop.example/g00652/impl.shaFirst", laid_loop_example_g00652_impl_shaFirst), ("loop.example/g00652/impl.shaRounds", laid_loop_example_g00652_impl_shaRounds), ("loop.example/g00652/impl.errNoCommit", laid_loop_example_g00652_impl_errNoCommit)] }
def FnExactForwardSaid : Prop := fnExactForwardRow.holds Tryz.pinned (OpenSpec.ofChange fnExactForwardSpec)

/-- ITS FALSE NEIGHBOUR: 'it returns false'. Refute it at one input. -/
def fnExactForwardWrong : ChangeSpec := { name := "fnExactForward", vars := ["loop.example/g00652/impl.shaFirst", "loop.example/g00652/impl.shaRounds", "loop.example/g00652/impl.errNoCommit"], fn := fun _ => fun
  | [d1, d2, d3, d4, g1, g2, g3] => { results := [.lit (.bool false)], args := [d1, d2, d3, d4], vars := [g1, g2, g3] }
  | _ => none }
def FnExactForwardWrongFalsely : Prop := fnExactForwardRow.holds Tryz.pinned (OpenSpec.ofChange fnExactForwardWrong)

/-- 'laws.FnExactReached': WHATEVER THE INPUT: true; the input reads as it did. -/
def fnExactReachedSpec : ChangeSpec := { name := "fnExactReached", vars := ["loop.example/g00652/impl.shaFirst", "loop.example/g00652/impl.shaRounds", "loop.example/g00652/impl.errNoCommit"], fn := fun _ => fun
  | [d1, d2, g1, g2, g3] => { results := [.lit (.bool true)], args := [d1, d2], vars := [g1, g2, g3] }
  | _ => none }
def fnExactReachedRow : OpenClaim := { program := "ytmiknjccdcploaagreatdoor", sum := "86b1c9259a5eb78ac4a55bdf2d967798d3407c167e710c586445cb705a530540", func := "loop.example/g00652/laws.FnExactReached", spec := "fnExactReached", inPlace := ["internal/bytealg.IndexByteString", "internal/bytealg.IndexString"], unfollowed := true, recurses := true, named := ["loop.example/g00652/impl.shaFirst", "loop.example/g00652/impl.shaRounds", "internal/bytealg.MaxLen", "loop.example/g00652/impl.errNoCommit"], ifaces := true, plainKeys := false, leaving := true, apart := false, laid := [("loop.example/g00652/impl.shaFirst", laid_loop_example_g00652_impl_shaFirst), ("loop.example/g00652/impl.shaRounds", laid_loop_example_g00652_impl_shaRounds), ("loop.example/g00652/impl.errNoCommit", laid_loop_example_g00652_impl_errNoCommit)] }
def FnExactReachedSaid : Prop := fnExactReachedRow.holds Tryz.pinned (OpenSpec.ofChange fnExactReachedSpec)

/-- ITS FALSE NEIGHBOUR: 'it returns false'. Refute it at one input. -/
def fnExactReachedWrong : ChangeSpec := { name := "fnExactReached", vars := ["loop.example/g00652/impl.shaFirst", "loop.example/g00652/impl.shaRounds", "loop.example/g00652/impl.errNoCommit"], fn := fun _ => fun
  | [d1, d2, g1, g2, g3] => { results := [.lit (.bool false)], args := [d1, d2], vars := [g1, g2, g3] }
  | _ => none }
def FnExactReachedWrongFalsely : Prop := fnExactReachedRow.holds Tryz.pinned (OpenSpec.ofChange fnExactReachedWrong)

/-- 'laws.FnExactSwept': WHATEVER THE INPUT: true; the input reads as it did. -/
def fnExactSweptSpec : ChangeSpec := { name := "fnExactSwept", vars := ["loop.example/g00652/impl.shaFirst", "loop.example/g00652/impl.shaRounds", "loop.example/g00652/impl.errNoCommit"], fn := fun _ => fun
  | [d1, d2, g1, g2, g3] => { results := [.lit (.bool true)], args := [d1, d2], vars := [g1, g2, g3] }
  | _ => none }
def fnExactSweptRow : OpenClaim := { program := "ytmiknjccdcploaagreatdoor", sum := "86b1c9259a5eb78ac4a55bdf2d967798d3407c167e710c586445cb705a530540", func := "loop.example/g00652/laws.FnExactSwept", spec := "fnExactSwept", inPlace := ["internal/bytealg.IndexByteString", "internal/bytealg.IndexString"], unfollowed := true, recurses := true, named := ["loop.example/g00652/impl.shaFirst", "loop.example/g00652/impl.shaRounds", "internal/bytealg.MaxLen", "loop.example/g00652/impl.errNoCommit"], ifaces := true, plainKeys := false, leaving := true, apart := false, laid := [("loop.example/g00652/impl.shaFirst", laid_loop_example_g00652_impl_shaFirst), ("loop.example/g00652/impl.shaRounds", laid_loop_example_g00652_impl_shaRounds), ("loop.example/g00652/impl.errNoCommit", laid_loop_example_g00652_impl_errNoCommit)] }
def FnExactSweptSaid : Prop := fnExactSweptRow.holds Tryz.pinned (OpenSpec.ofChange fnExactSweptSpec)

/-- ITS FALSE NEIGHBOUR: 'it returns false'. Refute it at one input. -/
def fnExactSweptWrong : ChangeSpec := { name := "fnExactSwept", vars := ["loop.example/g00652/impl.shaFirst", "loop.example/g00652/impl.shaRounds", "loop.example/g00652/impl.errNoCommit"], fn := fun _ => fun
  | [d1, d2, g1, g2, g3] => { results := [.lit (.bool false)], args := [d1, d2], vars := [g1, g2, g3] }
  | _ => none }
def FnExactSweptWrongFalsely : Prop := fnExactSweptRow.holds Tryz.pinned (OpenSpec.ofChange fnExactSweptWrong)

/-- 'laws.FnExactMissing': WHATEVER THE INPUT: true; the input reads as it did. -/
def fnExactMissingSpec : ChangeSpec := { name := "fnExactMissing", vars := ["loop.example/g00652/impl.shaFirst", "loop.example/g00652/impl.shaRounds", "loop.example/g00652/impl.errNoCommit"], fn := fun _ => fun
  | [d1, d2, g1, g2, g3] => { results := [.lit (.bool true)], args := [d1, d2], vars := [g1, g2, g3] }
  | _ => none }
def fnExactMissingRow : OpenClaim := { program := "ytmiknjccdcploaagreatdoor", sum := "86b1c9259a5eb78ac4a55bdf2d967798d3407c167e710c586445cb705a530540", func := "loop.example/g00652/laws.FnExactMissing", spec := "fnExactMissing", inPlace := ["internal/bytealg.IndexByteString", "internal/bytealg.IndexString"], unfollowed := true, recurses := true, named := ["loop.example/g00652/impl.shaFirst", "loop.example/g00652/impl.shaRounds", "internal/bytealg.MaxLen", "loop.example/g00652/impl.errNoCommit"], ifaces := true, plainKeys := false, leaving := true, apart := false, laid := [("loop.example/g00652/impl.shaFirst", laid_loop_example_g00652_impl_shaFirst), ("loop.example/g00652/impl.shaRounds", laid_loop_example_g00652_impl_shaRounds), ("loop.example/g00652/impl.errNoCommit", laid_loop_example_g00652_impl_errNoCommit)] }
def FnExactMissingSaid : Prop := fnExactMissingRow.holds Tryz.pinned (OpenSpec.ofChange fnExactMissingSpec)

/-- ITS FALSE NEIGHBOUR: 'it returns false'. Refute it at one input. -/
def fnExactMissingWrong : ChangeSpec := { name := "fnExactMissing", vars := ["loop.example/g00652/impl.shaFirst", "loop.example/g00652/impl.shaRounds", "loop.example/g00652/impl.errNoCommit"], fn := fun _ => fun
  | [d1, d2, g1, g2, g3] => { results := [.lit (.bool false)], args := [d1, d2], vars := [g1, g2, g3] }
  | _ => none }
def FnExactMissingWrongFalsely : Prop := fnExactMissingRow.holds Tryz.pinned (OpenSpec.ofChange fnExactMissingWrong)

/-- 'laws.FnExactWanted': WHATEVER THE INPUT: true; the input reads as it did. -/
def fnExactWantedSpec : ChangeSpec := { name := "fnExactWanted", vars := ["loop.example/g00652/impl.shaFirst", "loop.example/g00652/impl.shaRounds", "loop.example/g00652/impl.errNoCommit"], fn := fun _ => fun
  | [d1, d2, d3, g1, g2, g3] => { results := [.lit (.bool true)], args := [d1, d2, d3], vars := [g1, g2, g3] }
  | _ => none }
def fnExactWantedRow : OpenClaim := { program := "ytmiknjccdcploaagreatdoor", sum := "86b1c9259a5eb78ac4a55bdf2d967798d3407c167e710c586445cb705a530540", func := "loop.example/g00652/laws.FnExactWanted", spec := "fnExactWanted", inPlace := ["internal/bytealg.IndexByteString", "internal/bytealg.IndexString"], unfollowed := true, recurses := true, named := ["loop.example/g00652/impl.shaFirst", "loop.example/g00652/impl.shaRounds", "internal/bytealg.MaxLen", "loop.example/g00652/impl.errNoCommit"], ifaces := true, plainKeys := false, leaving := true, apart := false, laid := [("loop.example/g00652/impl.shaFirst", laid_loop_example_g00652_impl_shaFirst), ("loop.example/g00652/impl.shaRounds", laid_loop_example_g00652_impl_shaRounds), ("loop.example/g00652/impl.errNoCommit", laid_loop_example_g00652_impl_errNoCommit)] }
def FnExactWantedSaid : Prop := fnExactWantedRow.holds Tryz.pinned (OpenSpec.ofChange fnExactWantedSpec)

/-- ITS FALSE NEIGHBOUR: 'it returns false'. Refute it at one input. -/
def fnExactWantedWrong : ChangeSpec := { name := "fnExactWanted", vars := ["loop.example/g00652/impl.shaFirst", "loop.example/g00652/impl.shaRounds", "loop.example/g00652/impl.errNoCommit"], fn := fun _ => fun
  | [d1, d2, d3, g1, g2, g3] => { results := [.lit (.bool false)], args := [d1, d2, d3], vars := [g1, g2, g3] }
  | _ => none }
def FnExactWantedWrongFalsely : Prop := fnExactWantedRow.holds Tryz.pinned (OpenSpec.ofChange fnExactWantedWrong)

/-- 'laws.FnExactFetched': WHATEVER THE INPUT: true; the input reads as it did. -/
def fnExactFetchedSpec : ChangeSpec := { name := "fnExactFetched", vars := ["loop.example/g00652/impl.shaFirst", "loop.example/g00652/impl.shaRounds", "loop.example/g00652/impl.errNoCommit"], fn := fun _ => fun
  | [d1, d2, d3, g1, g2, g3] => { results := [.lit (.bool true)], args := [d1, d2, d3], vars := [g1, g2, g3] }
  | _ => none }
def fnExactFetchedRow : OpenClaim := { program := "ytmiknjccdcploaagreatdoor", sum := "86b1c9259a5eb78ac4a55bdf2d967798d3407c167e710c586445cb705a530540", func := "loop.example/g00652/laws.FnExactFetched", spec := "fnExactFetched", inPlace := ["internal/bytealg.IndexByteString", "internal/bytealg.IndexString"], unfollowed := true, recurses := true, named := ["loop.example/g00652/impl.shaFirst", "loop.example/g00652/impl.shaRounds", "internal/bytealg.MaxLen", "loop.example/g00652/impl.errNoCommit"], ifaces := true, plainKeys := false, leaving := true, apart := false, laid := [("loop.example/g00652/impl.shaFirst", laid_loop_example_g00652_impl_shaFirst), ("loop.example/g00652/impl.shaRounds", laid_loop_example_g00652_impl_shaRounds), ("loop.example/g00652/impl.errNoCommit", laid_loop_example_g00652_impl_errNoCommit)] }
def FnExactFetchedSaid : Prop := fnExactFetchedRow.holds Tryz.pinned (OpenSpec.ofChange fnExactFetchedSpec)

/-- ITS FALSE NEIGHBOUR: 'it returns false'. Refute it at one input. -/
def fnExactFetchedWrong : ChangeSpec := { name := "fnExactFetched", vars := ["loop.example/g00652/impl.shaFirst", "loop.example/g00652/impl.shaRounds", "loop.example/g00652/impl.errNoCommit"], fn := fun _ => fun
  | [d1, d2, d3, g1, g2, g3] => { results := [.lit (.bool false)], args := [d1, d2, d3], vars := [g1, g2, g3] }
  | _ => none }
def FnExactFetchedWrongFalsely : Prop := fnExactFetchedRow.holds Tryz.pinned (OpenSpec.ofChange fnExactFetchedWrong)

/-- 'laws.FnExactPickOf': WHATEVER THE INPUT: true; the input reads as it did. -/
def fnExactPickOfSpec : ChangeSpec := { name := "fnExactPickOf", vars := ["loop.example/g00652/impl.errNotRight", "loop.example/g00652/impl.shaFirst", "loop.example/g00652/impl.shaRounds", "loop.example/g00652/impl.errNoCommit"], fn := fun _ => fun
  | [d1, d2, g1, g2, g3, g4] => { results := [.lit (.bool true)], args := [d1, d2], vars := [g1, g2, g3, g4] }
  | _ => none }
def fnExactPickOfRow : OpenClaim := { program := "ytmiknjccdcploaagreatdoor", sum := "86b1c9259a5eb78ac4a55bdf2d967798d3407c167e710c586445cb705a530540", func := "loop.example/g00652/laws.FnExactPickOf", spec := "fnExactPickOf", inPlace := ["internal/bytealg.IndexByteString", "internal/bytealg.IndexString"], unfollowed := true, recurses := true, named := ["loop.example/g00652/impl.errNotRight", "loop.example/g00652/impl.shaFirst", "loop.example/g00652/impl.shaRounds", "internal/bytealg.MaxLen", "loop.example/g00652/impl.errNoCommit"], ifaces := true, plainKeys := false, leaving := true, apart := false, laid := [("loop.example/g00652/impl.shaFirst", laid_loop_example_g00652_impl_shaFirst), ("loop.example/g00652/impl.shaRounds", laid_loop_example_g00652_impl_shaRounds), ("loop.example/g00652/impl.errNoCommit", laid_loop_example_g00652_impl_errNoCommit), ("loop.example/g00652/impl.errNotRight", laid_loop_example_g00652_impl_errNotRight)] }
def FnExactPickOfSaid : Prop := fnExactPickOfRow.holds Tryz.pinned (OpenSpec.ofChange fnExactPickOfSpec)

/-- ITS FALSE NEIGHBOUR: 'it returns false'. Refute it at one input. -/
def fnExactPickOfWrong : ChangeSpec := { name := "fnExactPickOf", vars := ["loop.example/g00652/impl.errNotRight", "loop.example/g00652/impl.shaFirst", "loop.example/g00652/impl.shaRounds", "loop.example/g00652/impl.errNoCommit"], fn := fun _ => fun
  | [d1, d2, g1, g2, g3, g4] => { results := [.lit (.bool false)], args := [d1, d2], vars := [g1, g2, g3, g4] }
  | _ => none }
def FnExactPickOfWrongFalsely : Prop := fnExactPickOfRow.holds Tryz.pinned (OpenSpec.ofChange fnExactPickOfWrong)

/-- 'laws.FnExactPicked': WHATEVER THE INPUT: true; the input reads as it did. -/
def fnExactPickedSpec : ChangeSpec := { name := "fnExactPicked", vars := ["loop.example/g00652/impl.errNotRight", "loop.example/g00652/impl.shaFirst", "loop.example/g00652/impl.shaRounds", "loop.example/g00652/impl.errNoCommit"], fn := fun _ => fun
  | [d1, d2, d3, g1, g2, g3, g4] => { results := [.lit (.bool true)], args := [d1, d2, d3], vars := [g1, g2, g3, g4] }
  | _ => none }
def fnExactPickedRow : OpenClaim := { program := "ytmiknjccdcploaagreatdoor", sum := "86b1c9259a5eb78ac4a55bdf2d967798d3407c167e710c586445cb705a530540", func := "loop.example/g00652/laws.FnExactPicked", spec := "fnExactPicked", inPlace := ["internal/bytealg.IndexByteString", "internal/bytealg.IndexString", "internal/bytealg.abigen_runtime_cmpstring", "internal/abi.NoEscape"], unfollowed := true, recurses := true, named := ["loop.example/g00652/impl.errNotRight", "loop.example/g00652/impl.shaFirst", "loop.example/g00652/impl.shaRounds", "internal/bytealg.MaxLen", "loop.example/g00652/impl.errNoCommit"], ifaces := true, plainKeys := false, leaving := true, apart := false, laid := [("loop.example/g00652/impl.shaFirst", laid_loop_example_g00652_impl_shaFirst), ("loop.example/g00652/impl.shaRounds", laid_loop_example_g00652_impl_shaRounds), ("loop.example/g00652/impl.errNoCommit", laid_loop_example_g00652_impl_errNoCommit), ("loop.example/g00652/impl.errNotRight", laid_loop_example_g00652_impl_errNotRight)] }
def FnExactPickedSaid : Prop := fnExactPickedRow.holds Tryz.pinned (OpenSpec.ofChange fnExactPickedSpec)

/-- ITS FALSE NEIGHBOUR: 'it returns false'. Refute it at one input. -/
def fnExactPickedWrong : ChangeSpec := { name := "fnExactPicked", vars := ["loop.example/g00652/impl.errNotRight", "loop.example/g00652/impl.shaFirst", "loop.example/g00652/impl.shaRounds", "loop.example/g00652/impl.errNoCommit"], fn := fun _ => fun
  | [d1, d2, d3, g1, g2, g3, g4] => { results := [.lit (.bool false)], args := [d1, d2, d3], vars := [g1, g2, g3, g4] }
  | _ => none }
def FnExactPickedWrongFalsely : Prop := fnExactPickedRow.holds Tryz.pinned (OpenSpec.ofChange fnExactPickedWrong)

/-- 'laws.FnExactReverted': WHATEVER THE INPUT: true; the input reads as it did. -/
def fnExactRevertedSpec : ChangeSpec := { name := "fnExactReverted", vars := ["loop.example/g00652/impl.errNotRight", "loop.example/g00652/impl.shaFirst", "loop.example/g00652/impl.shaRounds", "loop.example/g00652/impl.errNoCommit"], fn := fun _ => fun
  | [d1, d2, d3, g1, g2, g3, g4] => { results := [.lit (.bool true)], args := [d1, d2, d3], vars := [g1, g2, g3, g4] }
  | _ => none }
def fnExactRevertedRow : OpenClaim := { program := "ytmiknjccdcploaagreatdoor", sum := "86b1c9259a5eb78ac4a55bdf2d967798d3407c167e710c586445cb705a530540", func := "loop.example/g00652/laws.FnExactReverted", spec := "fnExactReverted", inPlace := ["internal/bytealg.IndexByteString", "internal/bytealg.IndexString", "internal/bytealg.abigen_runtime_cmpstring", "internal/abi.NoEscape"], unfollowed := true, recurses := true, named := ["loop.example/g00652/impl.errNotRight", "loop.example/g00652/impl.shaFirst", "loop.example/g00652/impl.shaRounds", "internal/bytealg.MaxLen", "loop.example/g00652/impl.errNoCommit"], ifaces := true, plainKeys := false, leaving := true, apart := false, laid := [("loop.example/g00652/impl.shaFirst", laid_loop_example_g00652_impl_shaFirst), ("loop.example/g00652/impl.shaRounds", laid_loop_example_g00652_impl_shaRounds), ("loop.example/g00652/impl.errNoCommit", laid_loop_example_g00652_impl_errNoCommit), ("loop.example/g00652/impl.errNotRight", laid_loop_example_g00652_impl_errNotRight)] }
def FnExactRevertedSaid : Prop := fnExactRevertedRow.holds Tryz.pinned (OpenSpec.ofChange fnExactRevertedSpec)

/-- ITS FALSE NEIGHBOUR: 'it returns false'. Refute it at one input. -/
def fnExactRevertedWrong : ChangeSpec := { name := "fnExactReverted", vars := ["loop.example/g00652/impl.errNotRight", "loop.example/g00652/impl.shaFirst", "loop.example/g00652/impl.shaRounds", "loop.example/g00652/impl.errNoCommit"], fn := fun _ => fun
  | [d1, d2, d3, g1, g2, g3, g4] => { results := [.lit (.bool false)], args := [d1, d2, d3], vars := [g1, g2, g3, g4] }
  | _ => none }
def FnExactRevertedWrongFalsely : Prop := fnExactRevertedRow.holds Tryz.pinned (OpenSpec.ofChange fnExactRevertedWrong)

/-- 'laws.FnExactRebased': WHATEVER THE INPUT: true; the input reads as it did. -/
def fnExactRebasedSpec : ChangeSpec := { name := "fnExactRebased", vars := ["loop.example/g00652/impl.errNotRight", "loop.example/g00652/impl.shaFirst", "loop.example/g00652/impl.shaRounds", "loop.example/g00652/impl.errNoCommit"], fn := fun _ => fun
  | [d1, d2, d3, g1, g2, g3, g4] => { results := [.lit (.bool true)], args := [d1, d2, d3], vars := [g1, g2, g3, g4] }
  | _ => none }
def fnExactRebasedRow : OpenClaim := { program := "ytmiknjccdcploaagreatdoor", sum := "86b1c9259a5eb78ac4a55bdf2d967798d3407c167e710c586445cb705a530540", func := "loop.example/g00652/laws.FnExactRebased", spec := "fnExactRebased", inPlace := ["internal/bytealg.IndexByteString", "internal/bytealg.IndexString", "internal/bytealg.abigen_runtime_cmpstring", "internal/abi.NoEscape"], unfollowed := true, recurses := true, named := ["loop.example/g00652/impl.errNotRight", "loop.example/g00652/impl.shaFirst", "loop.example/g00652/impl.shaRounds", "internal/bytealg.MaxLen", "loop.example/g00652/impl.errNoCommit"], ifaces := true, plainKeys := false, leaving := true, apart := false, laid := [("loop.example/g00652/impl.shaFirst", laid_loop_example_g00652_impl_shaFirst), ("loop.example/g00652/impl.shaRounds", laid_loop_example_g00652_impl_shaRounds), ("loop.example/g00652/impl.errNoCommit", laid_loop_example_g00652_impl_errNoCommit), ("loop.example/g00652/impl.errNotRight", laid_loop_example_g00652_impl_errNotRight)] }
def FnExactRebasedSaid : Prop := fnExactRebasedRow.holds Tryz.pinned (OpenSpec.ofChange fnExactRebasedSpec)

/-- ITS FALSE NEIGHBOUR: 'it returns false'. Refute it at one input. -/
def fnExactRebasedWrong : ChangeSpec := { name := "fnExactRebased", vars := ["loop.example/g00652/impl.errNotRight", "loop.example/g00652/impl.shaFirst", "loop.example/g00652/impl.shaRounds", "loop.example/g00652/impl.errNoCommit"], fn := fun _ => fun
  | [d1, d2, d3, g1, g2, g3, g4] => { results := [.lit (.bool false)], args := [d1, d2, d3], vars := [g1, g2, g3, g4] }
  | _ => none }
def FnExactRebasedWrongFalsely : Prop := fnExactRebasedRow.holds Tryz.pinned (OpenSpec.ofChange fnExactRebasedWrong)

/-- 'laws.FnExactBlameOf': WHATEVER THE INPUT: true; the input reads as it did. -/
def fnExactBlameOfSpec : ChangeSpec := { name := "fnExactBlameOf", vars := ["loop.example/g00652/impl.errNotRight", "loop.example/g00652/impl.shaFirst", "loop.example/g00652/impl.shaRounds", "loop.example/g00652/impl.errNoCommit"], fn := fun _ => fun
  | [d1, d2, g1, g2, g3, g4] => { results := [.lit (.bool true)], args := [d1, d2], vars := [g1, g2, g3, g4] }
  | _ => none }
def fnExactBlameOfRow : OpenClaim := { program := "ytmiknjccdcploaagreatdoor", sum := "86b1c9259a5eb78ac4a55bdf2d967798d3407c167e710c586445cb705a530540", func := "loop.example/g00652/laws.FnExactBlameOf", spec := "fnExactBlameOf", inPlace := ["internal/bytealg.IndexByteString", "internal/bytealg.IndexString", "internal/bytealg.abigen_runtime_cmpstring"], unfollowed := true, recurses := true, named := ["loop.example/g00652/impl.errNotRight", "loop.example/g00652/impl.shaFirst", "loop.example/g00652/impl.shaRounds", "internal/bytealg.MaxLen", "loop.example/g00652/impl.errNoCommit"], ifaces := true, plainKeys := false, leaving := true, apart := false, laid := [("loop.example/g00652/impl.shaFirst", laid_loop_example_g00652_impl_shaFirst), ("loop.example/g00652/impl.shaRounds", laid_loop_example_g00652_impl_shaRounds), ("loop.example/g00652/impl.errNoCommit", laid_loop_example_g00652_impl_errNoCommit), ("loop.example/g00652/impl.errNotRight", laid_loop_example_g00652_impl_errNotRight)] }
def FnExactBlameOfSaid : Prop := fnExactBlameOfRow.holds Tryz.pinned (OpenSpec.ofChange fnExactBlameOfSpec)

/-- ITS FALSE NEIGHBOUR: 'it returns false'. Refute it at one input. -/
def fnExactBlameOfWrong : ChangeSpec := { name := "fnExactBlameOf", vars := ["loop.example/g00652/impl.errNotRight", "loop.example/g00652/impl.shaFirst", "loop.example/g00652/impl.shaRounds", "loop.example/g00652/impl.errNoCommit"], fn := fun _ => fun
  | [d1, d2, g1, g2, g3, g4] => { results := [.lit (.bool false)], args := [d1, d2], vars := [g1, g2, g3, g4] }
  | _ => none }
def FnExactBlameOfWrongFalsely : Prop := fnExactBlameOfRow.holds Tryz.pinned (OpenSpec.ofChange fnExactBlameOfWrong)

/-- 'laws.FnExactCommitted': WHATEVER THE INPUT: true; the input reads as it did. -/
def fnExactCommittedSpec : ChangeSpec := { name := "fnExactCommitted", vars := ["loop.example/g00652/impl.shaFirst", "loop.example/g00652/impl.shaRounds", "loop.example/g00652/impl.errNoCommit"], fn := fun _ => fun
  | [d1, d2, d3, d4, g1, g2, g3] => { results := [.lit (.bool true)], args := [d1, d2, d3, d4], vars := [g1, g2, g3] }
  | _ => none }
def fnExactCommittedRow : OpenClaim := { program := "ytmiknjccdcploaagreatdoor", sum := "86b1c9259a5eb78ac4a55bdf2d967798d3407c167e710c586445cb705a530540", func := "loop.example/g00652/laws.FnExactCommitted", spec := "fnExactCommitted", inPlace := ["internal/bytealg.IndexByteString", "internal/bytealg.IndexString", "internal/abi.NoEscape"], unfollowed := true, recurses := true, named := ["loop.example/g00652/impl.shaFirst", "loop.example/g00652/impl.shaRounds", "internal/bytealg.MaxLen", "loop.example/g00652/impl.errNoCommit"], ifaces := true, plainKeys := false, leaving := true, apart := false, laid := [("loop.example/g00652/impl.shaFirst", laid_loop_example_g00652_impl_shaFirst), ("loop.example/g00652/impl.shaRounds", laid_loop_example_g00652_impl_shaRounds), ("loop.example/g00652/impl.errNoCommit", laid_loop_example_g00652_impl_errNoCommit)] }
def FnExactCommittedSaid : Prop := fnExactCommittedRow.holds Tryz.pinned (OpenSpec.ofChange fnExactCommittedSpec)

/-- ITS FALSE NEIGHBOUR: 'it returns false'. Refute it at one input. -/
def fnExactCommittedWrong : ChangeSpec := { name := "fnExactCommitted", vars := ["loop.example/g00652/impl.shaFirst", "loop.example/g00652/impl.shaRounds", "loop.example/g00652/impl.errNoCommit"], fn := fun _ => fun
  | [d1, d2, d3, d4, g1, g2, g3] => { results := [.lit (.bool false)], args := [d1, d2, d3, d4], vars := [g1, g2, g3] }
  | _ => none }
def FnExactCommittedWrongFalsely : Prop := fnExactCommittedRow.holds Tryz.pinned (OpenSpec.ofChange fnExactCommittedWrong)

/- THE SECOND FORM. 'bulk': how many values and letters a reading holds, each counted each time it is reached (what is shared counts as often as it is met; a slice's spare places count too). A statement '..UptoSaid' is the law's where the arguments, and the package variables that the reading takes, are together of bulk at most 1048576: NARROWER than '..Said'. Prove '..Said' where nothing that the law and all that it calls make is longer than what came in: it says more and counts as full. Else prove '..UptoSaid'. A law counts once. -/
mutual
def uptoBulk {H : Type} : DataW H → Nat
  | .lit (.string bytes) => bytes.length + 1
  | .lit _ => 1
  | .nil => 1
  | .ptr d => uptoBulk d + 1
  | .slice elems spare => uptoBulkAll elems + uptoBulkAll spare + 1
  | .agg parts => uptoBulkAll parts + 1
  | .iface _ d => uptoBulk d + 1
  | .map entries => uptoBulkEntries entries + 1
  | .held _ => 1
def uptoBulkAll {H : Type} : List (DataW H) → Nat
  | [] => 0
  | d :: r => uptoBulk d + uptoBulkAll r
def uptoBulkEntries {H : Type} : List (Lit × DataW H) → Nat
  | [] => 0
  | x :: r => uptoBulkEntry x + uptoBulkEntries r
def uptoBulkEntry {H : Type} : Lit × DataW H → Nat
  | (.string bytes, d) => bytes.length + uptoBulk d + 1
  | (_, d) => uptoBulk d + 1
 end
def uptoSmall : (H : Type) → List (DataW H) → Bool := fun _ ds => decide (uptoBulkAll ds ≤ 1048576)
def OpenSpec.upto (s : _root_.Go.ChangeSpec) : _root_.Go.OpenSpec := { _root_.Go.OpenSpec.ofChange s with cond := some uptoSmall }

/-- 'laws.FnExactBasesOf', WHERE WHAT IT READS IS OF BULK AT MOST 1048576: true; the input reads as it did. -/
def fnExactBasesOfUptoRow : OpenClaim := { program := "ytmiknjccdcploaagreatdoor", sum := "86b1c9259a5eb78ac4a55bdf2d967798d3407c167e710c586445cb705a530540", func := "loop.example/g00652/laws.FnExactBasesOf", spec := "fnExactBasesOf", inPlace := ["internal/bytealg.IndexByteString", "internal/bytealg.IndexString"], unfollowed := true, recurses := true, named := ["loop.example/g00652/impl.shaFirst", "loop.example/g00652/impl.shaRounds", "internal/bytealg.MaxLen", "loop.example/g00652/impl.errNoCommit"], ifaces := true, plainKeys := false, leaving := true, apart := false, laid := [("loop.example/g00652/impl.shaFirst", laid_loop_example_g00652_impl_shaFirst), ("loop.example/g00652/impl.shaRounds", laid_loop_example_g00652_impl_shaRounds), ("loop.example/g00652/impl.errNoCommit", laid_loop_example_g00652_impl_errNoCommit)], narrowed := true }
def FnExactBasesOfUptoSaid : Prop := fnExactBasesOfUptoRow.holds Tryz.pinned (OpenSpec.upto fnExactBasesOfSpec)

/-- 'laws.FnExactMergeCommit', WHERE WHAT IT READS IS OF BULK AT MOST 1048576: true; the input reads as it did. -/
def fnExactMergeCommitUptoRow : OpenClaim := { program := "ytmiknjccdcploaagreatdoor", sum := "86b1c9259a5eb78ac4a55bdf2d967798d3407c167e710c586445cb705a530540", func := "loop.example/g00652/laws.FnExactMergeCommit", spec := "fnExactMergeCommit", inPlace := ["internal/bytealg.IndexByteString", "internal/bytealg.IndexString", "internal/bytealg.abigen_runtime_cmpstring", "internal/abi.NoEscape", "internal/reflectlite.ValueOf", "(internal/reflectlite.Value).Type", "(internal/reflectlite.Value).IsNil", "internal/reflectlite.TypeOf", "(internal/reflectlite.Value).Elem", "(internal/reflectlite.Value).Set"], unfollowed := true, recurses := true, named := ["loop.example/g00652/impl.errNotRight", "loop.example/g00652/impl.shaFirst", "loop.example/g00652/impl.shaRounds", "internal/bytealg.MaxLen", "loop.example/g00652/impl.errNoCommit", "errors.errorType"], ifaces := true, plainKeys := false, leaving := true, apart := false, laid := [("errors.errorType", laid_errors_errorType), ("loop.example/g00652/impl.shaFirst", laid_loop_example_g00652_impl_shaFirst), ("loop.example/g00652/impl.shaRounds", laid_loop_example_g00652_impl_shaRounds), ("loop.example/g00652/impl.errNoCommit", laid_loop_example_g00652_impl_errNoCommit), ("loop.example/g00652/impl.errNotRight", laid_loop_example_g00652_impl_errNotRight)], narrowed := true }
def FnExactMergeCommitUptoSaid : Prop := fnExactMergeCommitUptoRow.holds Tryz.pinned (OpenSpec.upto fnExactMergeCommitSpec)

/-- 'laws.FnExactForward', WHERE WHAT IT READS IS OF BULK AT MOST 1048576: true; the input reads as it did. -/
def fnExactForwardUptoRow : OpenClaim := { program := "ytmiknjccdcploaagreatdoor", sum := "86b1c9259a5eb78ac4a55bdf2d967798d3407c167e710c586445cb705a530540", func := "loop.example/g00652/laws.FnExactForward", spec := "fnExactForward", inPlace := ["internal/bytealg.IndexByteString", "internal/bytealg.IndexString", "internal/bytealg.abigen_runtime_cmpstring"], unfollowed := true, recurses := true, named := ["loop.example/g00652/impl.shaFirst", "loop.example/g00652/impl.shaRounds", "internal/bytealg.MaxLen", "loop.example/g00652/impl.errNoCommit"], ifaces := true, plainKeys := false, leaving := true, apart := false, laid := [("loop.example/g00652/impl.shaFirst", laid_loop_example_g00652_impl_shaFirst), ("loop.example/g00652/impl.shaRounds", laid_loop_example_g00652_impl_shaRounds), ("loop.example/g00652/impl.errNoCommit", laid_loop_example_g00652_impl_errNoCommit)], narrowed := true }
def FnExactForwardUptoSaid : Prop := fnExactForwardUptoRow.holds Tryz.pinned (OpenSpec.upto fnExactForwardSpec)

/-- 'laws.FnExactReached', WHERE WHAT IT READS IS OF BULK AT MOST 1048576: true; the input reads as it did. -/
def fnExactReachedUptoRow : OpenClaim := { program := "ytmiknjccdcploaagreatdoor", sum := "86b1c9259a5eb78ac4a55bdf2d967798d3407c167e710c586445cb705a530540", func := "loop.example/g00652/laws.FnExactReached", spec := "fnExactReached", inPlace := ["internal/bytealg.IndexByteString", "internal/bytealg.IndexString"], unfollowed := true, recurses := true, named := ["loop.example/g00652/impl.shaFirst", "loop.example/g00652/impl.shaRounds", "internal/bytealg.MaxLen", "loop.example/g00652/impl.errNoCommit"], ifaces := true, plainKeys := false, leaving := true, apart := false, laid := [("loop.example/g00652/impl.shaFirst", laid_loop_example_g00652_impl_shaFirst), ("loop.example/g00652/impl.shaRounds", laid_loop_example_g00652_impl_shaRounds), ("loop.example/g00652/impl.errNoCommit", laid_loop_example_g00652_impl_errNoCommit)], narrowed := true }
def FnExactReachedUptoSaid : Prop := fnExactReachedUptoRow.holds Tryz.pinned (OpenSpec.upto fnExactReachedSpec)

/-- 'laws.FnExactSwept', WHERE WHAT IT READS IS OF BULK AT MOST 1048576: true; the input reads as it did. -/
def fnExactSweptUptoRow : OpenClaim := { program := "ytmiknjccdcploaagreatdoor", sum := "86b1c9259a5eb78ac4a55bdf2d967798d3407c167e710c586445cb705a530540", func := "loop.example/g00652/laws.FnExactSwept", spec := "fnExactSwept", inPlace := ["internal/bytealg.IndexByteString", "internal/bytealg.IndexString"], unfollowed := true, recurses := true, named := ["loop.example/g00652/impl.shaFirst", "loop.example/g00652/impl.shaRounds", "internal/bytealg.MaxLen", "loop.example/g00652/impl.errNoCommit"], ifaces := true, plainKeys := false, leaving := true, apart := false, laid := [("loop.example/g00652/impl.shaFirst", laid_loop_example_g00652_impl_shaFirst), ("loop.example/g00652/impl.shaRounds", laid_loop_example_g00652_impl_shaRounds), ("loop.example/g00652/impl.errNoCommit", laid_loop_example_g00652_impl_errNoCommit)], narrowed := true }
def FnExactSweptUptoSaid : Prop := fnExactSweptUptoRow.holds Tryz.pinned (OpenSpec.upto fnExactSweptSpec)

/-- 'laws.FnExactMissing', WHERE WHAT IT READS IS OF BULK AT MOST 1048576: true; the input reads as it did. -/
def fnExactMissingUptoRow : OpenClaim := { program := "ytmiknjccdcploaagreatdoor", sum := "86b1c9259a5eb78ac4a55bdf2d967798d3407c167e710c586445cb705a530540", func := "loop.example/g00652/laws.FnExactMissing", spec := "fnExactMissing", inPlace := ["internal/bytealg.IndexByteString", "internal/bytealg.IndexString"], unfollowed := true, recurses := true, named := ["loop.example/g00652/impl.shaFirst", "loop.example/g00652/impl.shaRounds", "internal/bytealg.MaxLen", "loop.example/g00652/impl.errNoCommit"], ifaces := true, plainKeys := false, leaving := true, apart := false, laid := [("loop.example/g00652/impl.shaFirst", laid_loop_example_g00652_impl_shaFirst), ("loop.example/g00652/impl.shaRounds", laid_loop_example_g00652_impl_shaRounds), ("loop.example/g00652/impl.errNoCommit", laid_loop_example_g00652_impl_errNoCommit)], narrowed := true }
def FnExactMissingUptoSaid : Prop := fnExactMissingUptoRow.holds Tryz.pinned (OpenSpec.upto fnExactMissingSpec)

/-- 'laws.FnExactWanted', WHERE WHAT IT READS IS OF BULK AT MOST 1048576: true; the input reads as it did. -/
def fnExactWantedUptoRow : OpenClaim := { program := "ytmiknjccdcploaagreatdoor", sum := "86b1c9259a5eb78ac4a55bdf2d967798d3407c167e710c586445cb705a530540", func := "loop.example/g00652/laws.FnExactWanted", spec := "fnExactWanted", inPlace := ["internal/bytealg.IndexByteString", "internal/bytealg.IndexString"], unfollowed := true, recurses := true, named := ["loop.example/g00652/impl.shaFirst", "loop.example/g00652/impl.shaRounds", "internal/bytealg.MaxLen", "loop.example/g00652/impl.errNoCommit"], ifaces := true, plainKeys := false, leaving := true, apart := false, laid := [("loop.example/g00652/impl.shaFirst", laid_loop_example_g00652_impl_shaFirst), ("loop.example/g00652/impl.shaRounds", laid_loop_example_g00652_impl_shaRounds), ("loop.example/g00652/impl.errNoCommit", laid_loop_example_g00652_impl_errNoCommit)], narrowed := true }
def FnExactWantedUptoSaid : Prop := fnExactWantedUptoRow.holds Tryz.pinned (OpenSpec.upto fnExactWantedSpec)

/-- 'laws.FnExactFetched', WHERE WHAT IT READS IS OF BULK AT MOST 1048576: true; the input reads as it did. -/
def fnExactFetchedUptoRow : OpenClaim := { program := "ytmiknjccdcploaagreatdoor", sum := "86b1c9259a5eb78ac4a55bdf2d967798d3407c167e710c586445cb705a530540", func := "loop.example/g00652/laws.FnExactFetched", spec := "fnExactFetched", inPlace := ["internal/bytealg.IndexByteString", "internal/bytealg.IndexString"], unfollowed := true, recurses := true, named := ["loop.example/g00652/impl.shaFirst", "loop.example/g00652/impl.shaRounds", "internal/bytealg.MaxLen", "loop.example/g00652/impl.errNoCommit"], ifaces := true, plainKeys := false, leaving := true, apart := false, laid := [("loop.example/g00652/impl.shaFirst", laid_loop_example_g00652_impl_shaFirst), ("loop.example/g00652/impl.shaRounds", laid_loop_example_g00652_impl_shaRounds), ("loop.example/g00652/impl.errNoCommit", laid_loop_example_g00652_impl_errNoCommit)], narrowed := true }
def FnExactFetchedUptoSaid : Prop := fnExactFetchedUptoRow.holds Tryz.pinned (OpenSpec.upto fnExactFetchedSpec)

/-- 'laws.FnExactPickOf', WHERE WHAT IT READS IS OF BULK AT MOST 1048576: true; the input reads as it did. -/
def fnExactPickOfUptoRow : OpenClaim := { program := "ytmiknjccdcploaagreatdoor", sum := "86b1c9259a5eb78ac4a55bdf2d967798d3407c167e710c586445cb705a530540", func := "loop.example/g00652/laws.FnExactPickOf", spec := "fnExactPickOf", inPlace := ["internal/bytealg.IndexByteString", "internal/bytealg.IndexString"], unfollowed := true, recurses := true, named := ["loop.example/g00652/impl.errNotRight", "loop.example/g00652/impl.shaFirst", "loop.example/g00652/impl.shaRounds", "internal/bytealg.MaxLen", "loop.example/g00652/impl.errNoCommit"], ifaces := true, plainKeys := false, leaving := true, apart := false, laid := [("loop.example/g00652/impl.shaFirst", laid_loop_example_g00652_impl_shaFirst), ("loop.example/g00652/impl.shaRounds", laid_loop_example_g00652_impl_shaRounds), ("loop.example/g00652/impl.errNoCommit", laid_loop_example_g00652_impl_errNoCommit), ("loop.example/g00652/impl.errNotRight", laid_loop_example_g00652_impl_errNotRight)], narrowed := true }
def FnExactPickOfUptoSaid : Prop := fnExactPickOfUptoRow.holds Tryz.pinned (OpenSpec.upto fnExactPickOfSpec)

/-- 'laws.FnExactPicked', WHERE WHAT IT READS IS OF BULK AT MOST 1048576: true; the input reads as it did. -/
def fnExactPickedUptoRow : OpenClaim := { program := "ytmiknjccdcploaagreatdoor", sum := "86b1c9259a5eb78ac4a55bdf2d967798d3407c167e710c586445cb705a530540", func := "loop.example/g00652/laws.FnExactPicked", spec := "fnExactPicked", inPlace := ["internal/bytealg.IndexByteString", "internal/bytealg.IndexString", "internal/bytealg.abigen_runtime_cmpstring", "internal/abi.NoEscape"], unfollowed := true, recurses := true, named := ["loop.example/g00652/impl.errNotRight", "loop.example/g00652/impl.shaFirst", "loop.example/g00652/impl.shaRounds", "internal/bytealg.MaxLen", "loop.example/g00652/impl.errNoCommit"], ifaces := true, plainKeys := false, leaving := true, apart := false, laid := [("loop.example/g00652/impl.shaFirst", laid_loop_example_g00652_impl_shaFirst), ("loop.example/g00652/impl.shaRounds", laid_loop_example_g00652_impl_shaRounds), ("loop.example/g00652/impl.errNoCommit", laid_loop_example_g00652_impl_errNoCommit), ("loop.example/g00652/impl.errNotRight", laid_loop_example_g00652_impl_errNotRight)], narrowed := true }
def FnExactPickedUptoSaid : Prop := fnExactPickedUptoRow.holds Tryz.pinned (OpenSpec.upto fnExactPickedSpec)

/-- 'laws.FnExactReverted', WHERE WHAT IT READS IS OF BULK AT MOST 1048576: true; the input reads as it did. -/
def fnExactRevertedUptoRow : OpenClaim := { program := "ytmiknjccdcploaagreatdoor", sum := "86b1c9259a5eb78ac4a55bdf2d967798d3407c167e710c586445cb705a530540", func := "loop.example/g00652/laws.FnExactReverted", spec := "fnExactReverted", inPlace := ["internal/bytealg.IndexByteString", "internal/bytealg.IndexString", "internal/bytealg.abigen_runtime_cmpstring", "internal/abi.NoEscape"], unfollowed := true, recurses := true, named := ["loop.example/g00652/impl.errNotRight", "loop.example/g00652/impl.shaFirst", "loop.example/g00652/impl.shaRounds", "internal/bytealg.MaxLen", "loop.example/g00652/impl.errNoCommit"], ifaces := true, plainKeys := false, leaving := true, apart := false, laid := [("loop.example/g00652/impl.shaFirst", laid_loop_example_g00652_impl_shaFirst), ("loop.example/g00652/impl.shaRounds", laid_loop_example_g00652_impl_shaRounds), ("loop.example/g00652/impl.errNoCommit", laid_loop_example_g00652_impl_errNoCommit), ("loop.example/g00652/impl.errNotRight", laid_loop_example_g00652_impl_errNotRight)], narrowed := true }
def FnExactRevertedUptoSaid : Prop := fnExactRevertedUptoRow.holds Tryz.pinned (OpenSpec.upto fnExactRevertedSpec)

/-- 'laws.FnExactRebased', WHERE WHAT IT READS IS OF BULK AT MOST 1048576: true; the input reads as it did. -/
def fnExactRebasedUptoRow : OpenClaim := { program := "ytmiknjccdcploaagreatdoor", sum := "86b1c9259a5eb78ac4a55bdf2d967798d3407c167e710c586445cb705a530540", func := "loop.example/g00652/laws.FnExactRebased", spec := "fnExactRebased", inPlace := ["internal/bytealg.IndexByteString", "internal/bytealg.IndexString", "internal/bytealg.abigen_runtime_cmpstring", "internal/abi.NoEscape"], unfollowed := true, recurses := true, named := ["loop.example/g00652/impl.errNotRight", "loop.example/g00652/impl.shaFirst", "loop.example/g00652/impl.shaRounds", "internal/bytealg.MaxLen", "loop.example/g00652/impl.errNoCommit"], ifaces := true, plainKeys := false, leaving := true, apart := false, laid := [("loop.example/g00652/impl.shaFirst", laid_loop_example_g00652_impl_shaFirst), ("loop.example/g00652/impl.shaRounds", laid_loop_example_g00652_impl_shaRounds), ("loop.example/g00652/impl.errNoCommit", laid_loop_example_g00652_impl_errNoCommit), ("loop.example/g00652/impl.errNotRight", laid_loop_example_g00652_impl_errNotRight)], narrowed := true }
def FnExactRebasedUptoSaid : Prop := fnExactRebasedUptoRow.holds Tryz.pinned (OpenSpec.upto fnExactRebasedSpec)

/-- 'laws.FnExactBlameOf', WHERE WHAT IT READS IS OF BULK AT MOST 1048576: true; the input reads as it did. -/
def fnExactBlameOfUptoRow : OpenClaim := { program := "ytmiknjccdcploaagreatdoor", sum := "86b1c9259a5eb78ac4a55bdf2d967798d3407c167e710c586445cb705a530540", func := "loop.example/g00652/laws.FnExactBlameOf", spec := "fnExactBlameOf", inPlace := ["internal/bytealg.IndexByteString", "internal/bytealg.IndexString", "internal/bytealg.abigen_runtime_cmpstring"], unfollowed := true, recurses := true, named := ["loop.example/g00652/impl.errNotRight", "loop.example/g00652/impl.shaFirst", "loop.example/g00652/impl.shaRounds", "internal/bytealg.MaxLen", "loop.example/g00652/impl.errNoCommit"], ifaces := true, plainKeys := false, leaving := true, apart := false, laid := [("loop.example/g00652/impl.shaFirst", laid_loop_example_g00652_impl_shaFirst), ("loop.example/g00652/impl.shaRounds", laid_loop_example_g00652_impl_shaRounds), ("loop.example/g00652/impl.errNoCommit", laid_loop_example_g00652_impl_errNoCommit), ("loop.example/g00652/impl.errNotRight", laid_loop_example_g00652_impl_errNotRight)], narrowed := true }
def FnExactBlameOfUptoSaid : Prop := fnExactBlameOfUptoRow.holds Tryz.pinned (OpenSpec.upto fnExactBlameOfSpec)

/-- 'laws.FnExactCommitted', WHERE WHAT IT READS IS OF BULK AT MOST 1048576: true; the input reads as it did. -/
def fnExactCommittedUptoRow : OpenClaim := { program := "ytmiknjccdcploaagreatdoor", sum := "86b1c9259a5eb78ac4a55bdf2d967798d3407c167e710c586445cb705a530540", func := "loop.example/g00652/laws.FnExactCommitted", spec := "fnExactCommitted", inPlace := ["internal/bytealg.IndexByteString", "internal/bytealg.IndexString", "internal/abi.NoEscape"], unfollowed := true, recurses := true, named := ["loop.example/g00652/impl.shaFirst", "loop.example/g00652/impl.shaRounds", "internal/bytealg.MaxLen", "loop.example/g00652/impl.errNoCommit"], ifaces := true, plainKeys := false, leaving := true, apart := false, laid := [("loop.example/g00652/impl.shaFirst", laid_loop_example_g00652_impl_shaFirst), ("loop.example/g00652/impl.shaRounds", laid_loop_example_g00652_impl_shaRounds), ("loop.example/g00652/impl.errNoCommit", laid_loop_example_g00652_impl_errNoCommit)], narrowed := true }
def FnExactCommittedUptoSaid : Prop := fnExactCommittedUptoRow.holds Tryz.pinned (OpenSpec.upto fnExactCommittedSpec)

end Rows
end Go.Proofs.YtmiknjccdcploaaGreatDoor
