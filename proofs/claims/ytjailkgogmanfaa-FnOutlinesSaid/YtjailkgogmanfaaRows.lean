/-
  No cell of these rows narrows 'for every input' (looked for: loops, veiled, ifaces, maps, wideKeys, modest, calm, conditions, laid).
  DERIVED. THE GIVEN ROWS OF THIS SEAT. 13 by the template 'for every input the law returns true; each argument reads behind the call as it read before'; 0 by the template 'total and deterministic' (their statements: YtjailkgogmanfaaTotals.lean).
  GIVEN WITH THE SEED: the statements are not yours to turn. If you find one false, say at which input.
  Laid BY PROGRAM, IN A SANDBOX (cutbox-rows.mjs): the forced cells as the released guide's own fill.sh prints them over the translation 9841e8b66bf44b9e… (all of the seat's roots in one cut). By AI agents, Wed Nov 11 2026. No macro, syntax, notation, axiom, sorry.
-/
import Derived.Test.YtjailkgogmanfaaChecked
import GoSem.Claim
import GoSem.ClaimJoined
import GoSem.ClaimMapViews
import Derived.JoinedTies
import Derived.KernelRfl
namespace Go.Proofs.Ytjailkgogmanfaa
/- THE CELL 'sum', in the pinned program and in every row, IS THE sha256 OF THE DUMP (.gsa) THAT YtjailkgogmanfaaProg.lean LOADS. Nothing in Lean hashes anything: it is a label: what it is worth is what the hold of that sum in a sandbox is worth. -/
noncomputable def Try.pinned : Pinned := { name := "ytjailkgogmanfaa", sum := "9841e8b66bf44b9ef4858bc23a75ee8313701939b1afb0143925cc679bdea146", checked := Try.checked }
namespace Rows
def none {H : Type} : Left H := { results := [], args := [] }

/-- 'laws.FnJoined': WHATEVER THE INPUT: true; the input reads as it did. -/
def fnJoinedSpec : ChangeSpec := { name := "fnJoined", fn := fun _ => fun
  | [d] => { results := [.lit (.bool true)], args := [d] }
  | _ => none }
def fnJoinedRow : OpenClaim := { program := "ytjailkgogmanfaa", sum := "9841e8b66bf44b9ef4858bc23a75ee8313701939b1afb0143925cc679bdea146", func := "loop.example/g01055/laws.FnJoined", spec := "fnJoined", unfollowed := true, recurses := true, plainKeys := false, apart := false }
def FnJoinedSaid : Prop := fnJoinedRow.holds Try.pinned (OpenSpec.ofChange fnJoinedSpec)

/-- ITS FALSE NEIGHBOUR: 'it returns false'. Refute it at one input. -/
def fnJoinedWrong : ChangeSpec := { name := "fnJoined", fn := fun _ => fun
  | [d] => { results := [.lit (.bool false)], args := [d] }
  | _ => none }
def FnJoinedWrongFalsely : Prop := fnJoinedRow.holds Try.pinned (OpenSpec.ofChange fnJoinedWrong)

/-- 'laws.FnOutlines': WHATEVER THE INPUT: true; the input reads as it did. -/
def fnOutlinesSpec : ChangeSpec := { name := "fnOutlines", fn := fun _ => fun
  | [d] => { results := [.lit (.bool true)], args := [d] }
  | _ => none }
def fnOutlinesRow : OpenClaim := { program := "ytjailkgogmanfaa", sum := "9841e8b66bf44b9ef4858bc23a75ee8313701939b1afb0143925cc679bdea146", func := "loop.example/g01055/laws.FnOutlines", spec := "fnOutlines", unfollowed := true, recurses := true, plainKeys := false, apart := false }
def FnOutlinesSaid : Prop := fnOutlinesRow.holds Try.pinned (OpenSpec.ofChange fnOutlinesSpec)

/-- ITS FALSE NEIGHBOUR: 'it returns false'. Refute it at one input. -/
def fnOutlinesWrong : ChangeSpec := { name := "fnOutlines", fn := fun _ => fun
  | [d] => { results := [.lit (.bool false)], args := [d] }
  | _ => none }
def FnOutlinesWrongFalsely : Prop := fnOutlinesRow.holds Try.pinned (OpenSpec.ofChange fnOutlinesWrong)

/-- 'laws.FnExactIsClosed': WHATEVER THE INPUT: true; the input reads as it did. -/
def fnExactIsClosedSpec : ChangeSpec := { name := "fnExactIsClosed", fn := fun _ => fun
  | [d] => { results := [.lit (.bool true)], args := [d] }
  | _ => none }
def fnExactIsClosedRow : OpenClaim := { program := "ytjailkgogmanfaa", sum := "9841e8b66bf44b9ef4858bc23a75ee8313701939b1afb0143925cc679bdea146", func := "loop.example/g01055/laws.FnExactIsClosed", spec := "fnExactIsClosed", unfollowed := true, recurses := true, plainKeys := false, apart := false }
def FnExactIsClosedSaid : Prop := fnExactIsClosedRow.holds Try.pinned (OpenSpec.ofChange fnExactIsClosedSpec)

/-- ITS FALSE NEIGHBOUR: 'it returns false'. Refute it at one input. -/
def fnExactIsClosedWrong : ChangeSpec := { name := "fnExactIsClosed", fn := fun _ => fun
  | [d] => { results := [.lit (.bool false)], args := [d] }
  | _ => none }
def FnExactIsClosedWrongFalsely : Prop := fnExactIsClosedRow.holds Try.pinned (OpenSpec.ofChange fnExactIsClosedWrong)

/-- 'laws.FnExactTwiceArea': WHATEVER THE INPUT: true; the input reads as it did. -/
def fnExactTwiceAreaSpec : ChangeSpec := { name := "fnExactTwiceArea", fn := fun _ => fun
  | [d] => { results := [.lit (.bool true)], args := [d] }
  | _ => none }
def fnExactTwiceAreaRow : OpenClaim := { program := "ytjailkgogmanfaa", sum := "9841e8b66bf44b9ef4858bc23a75ee8313701939b1afb0143925cc679bdea146", func := "loop.example/g01055/laws.FnExactTwiceArea", spec := "fnExactTwiceArea", unfollowed := true, recurses := true, plainKeys := false, apart := false }
def FnExactTwiceAreaSaid : Prop := fnExactTwiceAreaRow.holds Try.pinned (OpenSpec.ofChange fnExactTwiceAreaSpec)

/-- ITS FALSE NEIGHBOUR: 'it returns false'. Refute it at one input. -/
def fnExactTwiceAreaWrong : ChangeSpec := { name := "fnExactTwiceArea", fn := fun _ => fun
  | [d] => { results := [.lit (.bool false)], args := [d] }
  | _ => none }
def FnExactTwiceAreaWrongFalsely : Prop := fnExactTwiceAreaRow.holds Try.pinned (OpenSpec.ofChange fnExactTwiceAreaWrong)

/-- 'laws.FnExactJoinTwo': WHATEVER THE INPUT: true; the input reads as it did. -/
def fnExactJoinTwoSpec : ChangeSpec := { name := "fnExactJoinTwo", fn := fun _ => fun
  | [d1, d2] => { results := [.lit (.bool true)], args := [d1, d2] }
  | _ => none }
def fnExactJoinTwoRow : OpenClaim := { program := "ytjailkgogmanfaa", sum := "9841e8b66bf44b9ef4858bc23a75ee8313701939b1afb0143925cc679bdea146", func := "loop.example/g01055/laws.FnExactJoinTwo", spec := "fnExactJoinTwo", unfollowed := true, recurses := true, plainKeys := false, apart := false }
def FnExactJoinTwoSaid : Prop := fnExactJoinTwoRow.holds Try.pinned (OpenSpec.ofChange fnExactJoinTwoSpec)

/-- ITS FALSE NEIGHBOUR: 'it returns false'. Refute it at one input. -/
def fnExactJoinTwoWrong : ChangeSpec := { name := "fnExactJoinTwo", fn := fun _ => fun
  | [d1, d2] => { results := [.lit (.bool false)], args := [d1, d2] }
  | _ => none }
def FnExactJoinTwoWrongFalsely : Prop := fnExactJoinTwoRow.holds Try.pinned (OpenSpec.ofChange fnExactJoinTwoWrong)

/-- 'laws.FnExactJoinAll': WHATEVER THE INPUT: true; the input reads as it did. -/
def fnExactJoinAllSpec : ChangeSpec := { name := "fnExactJoinAll", fn := fun _ => fun
  | [d] => { results := [.lit (.bool true)], args := [d] }
  | _ => none }
def fnExactJoinAllRow : OpenClaim := { program := "ytjailkgogmanfaa", sum := "9841e8b66bf44b9ef4858bc23a75ee8313701939b1afb0143925cc679bdea146", func := "loop.example/g01055/laws.FnExactJoinAll", spec := "fnExactJoinAll", unfollowed := true, recurses := true, plainKeys := false, apart := false }
def FnExactJoinAllSaid : Prop := fnExactJoinAllRow.holds Try.pinned (OpenSpec.ofChange fnExactJoinAllSpec)

/-- ITS FALSE NEIGHBOUR: 'it returns false'. Refute it at one input. -/
def fnExactJoinAllWrong : ChangeSpec := { name := "fnExactJoinAll", fn := fun _ => fun
  | [d] => { results := [.lit (.bool false)], args := [d] }
  | _ => none }
def FnExactJoinAllWrongFalsely : Prop := fnExactJoinAllRow.holds Try.pinned (OpenSpec.ofChange fnExactJoinAllWrong)

/-- 'laws.FnExactLooseEnds': WHATEVER THE INPUT: true; the input reads as it did. -/
def fnExactLooseEndsSpec : ChangeSpec := { name := "fnExactLooseEnds", fn := fun _ => fun
  | [d] => { results := [.lit (.bool true)], args := [d] }
  | _ => none }
def fnExactLooseEndsRow : OpenClaim := { program := "ytjailkgogmanfaa", sum := "9841e8b66bf44b9ef4858bc23a75ee8313701939b1afb0143925cc679bdea146", func := "loop.example/g01055/laws.FnExactLooseEnds", spec := "fnExactLooseEnds", unfollowed := true, recurses := true, plainKeys := false, apart := false }
def FnExactLooseEndsSaid : Prop := fnExactLooseEndsRow.holds Try.pinned (OpenSpec.ofChange fnExactLooseEndsSpec)

/-- ITS FALSE NEIGHBOUR: 'it returns false'. Refute it at one input. -/
def fnExactLooseEndsWrong : ChangeSpec := { name := "fnExactLooseEnds", fn := fun _ => fun
  | [d] => { results := [.lit (.bool false)], args := [d] }
  | _ => none }
def FnExactLooseEndsWrongFalsely : Prop := fnExactLooseEndsRow.holds Try.pinned (OpenSpec.ofChange fnExactLooseEndsWrong)

/-- 'laws.FnExactLeftTurned': WHATEVER THE INPUT: true; the input reads as it did. -/
def fnExactLeftTurnedSpec : ChangeSpec := { name := "fnExactLeftTurned", fn := fun _ => fun
  | [d] => { results := [.lit (.bool true)], args := [d] }
  | _ => none }
def fnExactLeftTurnedRow : OpenClaim := { program := "ytjailkgogmanfaa", sum := "9841e8b66bf44b9ef4858bc23a75ee8313701939b1afb0143925cc679bdea146", func := "loop.example/g01055/laws.FnExactLeftTurned", spec := "fnExactLeftTurned", unfollowed := true, recurses := true, plainKeys := false, apart := false }
def FnExactLeftTurnedSaid : Prop := fnExactLeftTurnedRow.holds Try.pinned (OpenSpec.ofChange fnExactLeftTurnedSpec)

/-- ITS FALSE NEIGHBOUR: 'it returns false'. Refute it at one input. -/
def fnExactLeftTurnedWrong : ChangeSpec := { name := "fnExactLeftTurned", fn := fun _ => fun
  | [d] => { results := [.lit (.bool false)], args := [d] }
  | _ => none }
def FnExactLeftTurnedWrongFalsely : Prop := fnExactLeftTurnedRow.holds Try.pinned (OpenSpec.ofChange fnExactLeftTurnedWrong)

/-- 'laws.FnExactInsideOf': WHATEVER THE INPUT: true; the input reads as it did. -/
def fnExactInsideOfSpec : ChangeSpec := { name := "fnExactInsideOf", fn := fun _ => fun
  | [d1, d2] => { results := [.lit (.bool true)], args := [d1, d2] }
  | _ => none }
def fnExactInsideOfRow : OpenClaim := { program := "ytjailkgogmanfaa", sum := "9841e8b66bf44b9ef4858bc23a75ee8313701939b1afb0143925cc679bdea146", func := "loop.example/g01055/laws.FnExactInsideOf", spec := "fnExactInsideOf", unfollowed := true, recurses := true, plainKeys := false, apart := false }
def FnExactInsideOfSaid : Prop := fnExactInsideOfRow.holds Try.pinned (OpenSpec.ofChange fnExactInsideOfSpec)

/-- ITS FALSE NEIGHBOUR: 'it returns false'. Refute it at one input. -/
def fnExactInsideOfWrong : ChangeSpec := { name := "fnExactInsideOf", fn := fun _ => fun
  | [d1, d2] => { results := [.lit (.bool false)], args := [d1, d2] }
  | _ => none }
def FnExactInsideOfWrongFalsely : Prop := fnExactInsideOfRow.holds Try.pinned (OpenSpec.ofChange fnExactInsideOfWrong)

/-- 'laws.FnExactGreatestOutline': WHATEVER THE INPUT: true; the input reads as it did. -/
def fnExactGreatestOutlineSpec : ChangeSpec := { name := "fnExactGreatestOutline", fn := fun _ => fun
  | [d] => { results := [.lit (.bool true)], args := [d] }
  | _ => none }
def fnExactGreatestOutlineRow : OpenClaim := { program := "ytjailkgogmanfaa", sum := "9841e8b66bf44b9ef4858bc23a75ee8313701939b1afb0143925cc679bdea146", func := "loop.example/g01055/laws.FnExactGreatestOutline", spec := "fnExactGreatestOutline", unfollowed := true, recurses := true, plainKeys := false, apart := false }
def FnExactGreatestOutlineSaid : Prop := fnExactGreatestOutlineRow.holds Try.pinned (OpenSpec.ofChange fnExactGreatestOutlineSpec)

/-- ITS FALSE NEIGHBOUR: 'it returns false'. Refute it at one input. -/
def fnExactGreatestOutlineWrong : ChangeSpec := { name := "fnExactGreatestOutline", fn := fun _ => fun
  | [d] => { results := [.lit (.bool false)], args := [d] }
  | _ => none }
def FnExactGreatestOutlineWrongFalsely : Prop := fnExactGreatestOutlineRow.holds Try.pinned (OpenSpec.ofChange fnExactGreatestOutlineWrong)

/-- 'laws.FnExactMoveChain': WHATEVER THE INPUT: true; the input reads as it did. -/
def fnExactMoveChainSpec : ChangeSpec := { name := "fnExactMoveChain", fn := fun _ => fun
  | [d1, d2, d3] => { results := [.lit (.bool true)], args := [d1, d2, d3] }
  | _ => none }
def fnExactMoveChainRow : OpenClaim := { program := "ytjailkgogmanfaa", sum := "9841e8b66bf44b9ef4858bc23a75ee8313701939b1afb0143925cc679bdea146", func := "loop.example/g01055/laws.FnExactMoveChain", spec := "fnExactMoveChain", unfollowed := true, recurses := true, plainKeys := false, apart := false }
def FnExactMoveChainSaid : Prop := fnExactMoveChainRow.holds Try.pinned (OpenSpec.ofChange fnExactMoveChainSpec)

/-- ITS FALSE NEIGHBOUR: 'it returns false'. Refute it at one input. -/
def fnExactMoveChainWrong : ChangeSpec := { name := "fnExactMoveChain", fn := fun _ => fun
  | [d1, d2, d3] => { results := [.lit (.bool false)], args := [d1, d2, d3] }
  | _ => none }
def FnExactMoveChainWrongFalsely : Prop := fnExactMoveChainRow.holds Try.pinned (OpenSpec.ofChange fnExactMoveChainWrong)

/-- 'laws.FnChainSides': WHATEVER THE INPUT: true; the input reads as it did. -/
def fnChainSidesSpec : ChangeSpec := { name := "fnChainSides", fn := fun _ => fun
  | [d] => { results := [.lit (.bool true)], args := [d] }
  | _ => none }
def fnChainSidesRow : OpenClaim := { program := "ytjailkgogmanfaa", sum := "9841e8b66bf44b9ef4858bc23a75ee8313701939b1afb0143925cc679bdea146", func := "loop.example/g01055/laws.FnChainSides", spec := "fnChainSides", unfollowed := true, recurses := true, plainKeys := false, apart := false }
def FnChainSidesSaid : Prop := fnChainSidesRow.holds Try.pinned (OpenSpec.ofChange fnChainSidesSpec)

/-- ITS FALSE NEIGHBOUR: 'it returns false'. Refute it at one input. -/
def fnChainSidesWrong : ChangeSpec := { name := "fnChainSides", fn := fun _ => fun
  | [d] => { results := [.lit (.bool false)], args := [d] }
  | _ => none }
def FnChainSidesWrongFalsely : Prop := fnChainSidesRow.holds Try.pinned (OpenSpec.ofChange fnChainSidesWrong)

/-- 'laws.FnExactReverseChain': WHATEVER THE INPUT: true; the input reads as it did. -/
def fnExactReverseChainSpec : ChangeSpec := { name := "fnExactReverseChain", fn := fun _ => fun
  | [d] => { results := [.lit (.bool true)], args := [d] }
  | _ => none }
def fnExactReverseChainRow : OpenClaim := { program := "ytjailkgogmanfaa", sum := "9841e8b66bf44b9ef4858bc23a75ee8313701939b1afb0143925cc679bdea146", func := "loop.example/g01055/laws.FnExactReverseChain", spec := "fnExactReverseChain", unfollowed := true, recurses := true, plainKeys := false, apart := false }
def FnExactReverseChainSaid : Prop := fnExactReverseChainRow.holds Try.pinned (OpenSpec.ofChange fnExactReverseChainSpec)

/-- ITS FALSE NEIGHBOUR: 'it returns false'. Refute it at one input. -/
def fnExactReverseChainWrong : ChangeSpec := { name := "fnExactReverseChain", fn := fun _ => fun
  | [d] => { results := [.lit (.bool false)], args := [d] }
  | _ => none }
def FnExactReverseChainWrongFalsely : Prop := fnExactReverseChainRow.holds Try.pinned (OpenSpec.ofChange fnExactReverseChainWrong)

/- THE SECOND FORM. 'bulk': how many values and letters a reading holds, each counted each time it is reached (what is shared counts as often as it is met; a slice's spare places count too). A statement '..UptoSaid' is the law's where the arguments, and the package variables that the reading takes, are together of bulk at most 1048576: NARROWER than '..Said'. Prove '..Said' where nothing that the law and all that it calls make is longer than what came in: it says more and counts as full. Else prove '..UptoSaid'. A law counts once. -/
mutual
def uptoBulk {H : Type} : DataW H → Nat
  | .lit (.string bytes) => bytes.length + 1
  | .lit _ => 1
  | .nil => 1
  | .ptr d => uptoBulk d + 1
  | .slice elems spare => uptoBulkAll elems + uptoBulkAll spare + 1
  | .agg parts => uptoBulkAll parts + 1
  | .iface _ d => uptoBulk d + 1
  | .map entries => uptoBulkEntries entries + 1
  | .held _ => 1
def uptoBulkAll {H : Type} : List (DataW H) → Nat
  | [] => 0
  | d :: r => uptoBulk d + uptoBulkAll r
def uptoBulkEntries {H : Type} : List (Lit × DataW H) → Nat
  | [] => 0
  | x :: r => uptoBulkEntry x + uptoBulkEntries r
def uptoBulkEntry {H : Type} : Lit × DataW H → Nat
  | (.string bytes, d) => bytes.length + uptoBulk d + 1
  | (_, d) => uptoBulk d + 1
 end
def uptoSmall : (H : Type) → List (DataW H) → Bool := fun _ ds => decide (uptoBulkAll ds ≤ 1048576)
def OpenSpec.upto (s : _root_.Go.ChangeSpec) : _root_.Go.OpenSpec := { _root_.Go.OpenSpec.ofChange s with cond := some uptoSmall }

/-- 'laws.FnJoined', WHERE WHAT IT READS IS OF BULK AT MOST 1048576: true; the input reads as it did. -/
def fnJoinedUptoRow : OpenClaim := { program := "ytjailkgogmanfaa", sum := "9841e8b66bf44b9ef4858bc23a75ee8313701939b1afb0143925cc679bdea146", func := "loop.example/g01055/laws.FnJoined", spec := "fnJoined", unfollowed := true, recurses := true, plainKeys := false, apart := false, narrowed := true }
def FnJoinedUptoSaid : Prop := fnJoinedUptoRow.holds Try.pinned (OpenSpec.upto fnJoinedSpec)

/-- 'laws.FnOutlines', WHERE WHAT IT READS IS OF BULK AT MOST 1048576: true; the input reads as it did. -/
def fnOutlinesUptoRow : OpenClaim := { program := "ytjailkgogmanfaa", sum := "9841e8b66bf44b9ef4858bc23a75ee8313701939b1afb0143925cc679bdea146", func := "loop.example/g01055/laws.FnOutlines", spec := "fnOutlines", unfollowed := true, recurses := true, plainKeys := false, apart := false, narrowed := true }
def FnOutlinesUptoSaid : Prop := fnOutlinesUptoRow.holds Try.pinned (OpenSpec.upto fnOutlinesSpec)

/-- 'laws.FnExactIsClosed', WHERE WHAT IT READS IS OF BULK AT MOST 1048576: true; the input reads as it did. -/
def fnExactIsClosedUptoRow : OpenClaim := { program := "ytjailkgogmanfaa", sum := "9841e8b66bf44b9ef4858bc23a75ee8313701939b1afb0143925cc679bdea146", func := "loop.example/g01055/laws.FnExactIsClosed", spec := "fnExactIsClosed", unfollowed := true, recurses := true, plainKeys := false, apart := false, narrowed := true }
def FnExactIsClosedUptoSaid : Prop := fnExactIsClosedUptoRow.holds Try.pinned (OpenSpec.upto fnExactIsClosedSpec)

/-- 'laws.FnExactTwiceArea', WHERE WHAT IT READS IS OF BULK AT MOST 1048576: true; the input reads as it did. -/
def fnExactTwiceAreaUptoRow : OpenClaim := { program := "ytjailkgogmanfaa", sum := "9841e8b66bf44b9ef4858bc23a75ee8313701939b1afb0143925cc679bdea146", func := "loop.example/g01055/laws.FnExactTwiceArea", spec := "fnExactTwiceArea", unfollowed := true, recurses := true, plainKeys := false, apart := false, narrowed := true }
def FnExactTwiceAreaUptoSaid : Prop := fnExactTwiceAreaUptoRow.holds Try.pinned (OpenSpec.upto fnExactTwiceAreaSpec)

/-- 'laws.FnExactJoinTwo', WHERE WHAT IT READS IS OF BULK AT MOST 1048576: true; the input reads as it did. -/
def fnExactJoinTwoUptoRow : OpenClaim := { program := "ytjailkgogmanfaa", sum := "9841e8b66bf44b9ef4858bc23a75ee8313701939b1afb0143925cc679bdea146", func := "loop.example/g01055/laws.FnExactJoinTwo", spec := "fnExactJoinTwo", unfollowed := true, recurses := true, plainKeys := false, apart := false, narrowed := true }
def FnExactJoinTwoUptoSaid : Prop := fnExactJoinTwoUptoRow.holds Try.pinned (OpenSpec.upto fnExactJoinTwoSpec)

/-- 'laws.FnExactJoinAll', WHERE WHAT IT READS IS OF BULK AT MOST 1048576: true; the input reads as it did. -/
def fnExactJoinAllUptoRow : OpenClaim := { program := "ytjailkgogmanfaa", sum := "9841e8b66bf44b9ef4858bc23a75ee8313701939b1afb0143925cc679bdea146", func := "loop.example/g01055/laws.FnExactJoinAll", spec := "fnExactJoinAll", unfollowed := true, recurses := true, plainKeys := false, apart := false, narrowed := true }
def FnExactJoinAllUptoSaid : Prop := fnExactJoinAllUptoRow.holds Try.pinned (OpenSpec.upto fnExactJoinAllSpec)

/-- 'laws.FnExactLooseEnds', WHERE WHAT IT READS IS OF BULK AT MOST 1048576: true; the input reads as it did. -/
def fnExactLooseEndsUptoRow : OpenClaim := { program := "ytjailkgogmanfaa", sum := "9841e8b66bf44b9ef4858bc23a75ee8313701939b1afb0143925cc679bdea146", func := "loop.example/g01055/laws.FnExactLooseEnds", spec := "fnExactLooseEnds", unfollowed := true, recurses := true, plainKeys := false, apart := false, narrowed := true }
def FnExactLooseEndsUptoSaid : Prop := fnExactLooseEndsUptoRow.holds Try.pinned (OpenSpec.upto fnExactLooseEndsSpec)

/-- 'laws.FnExactLeftTurned', WHERE WHAT IT READS IS OF BULK AT MOST 1048576: true; the input reads as it did. -/
def fnExactLeftTurnedUptoRow : OpenClaim := { program := "ytjailkgogmanfaa", sum := "9841e8b66bf44b9ef4858bc23a75ee8313701939b1afb0143925cc679bdea146", func := "loop.example/g01055/laws.FnExactLeftTurned", spec := "fnExactLeftTurned", unfollowed := true, recurses := true, plainKeys := false, apart := false, narrowed := true }
def FnExactLeftTurnedUptoSaid : Prop := fnExactLeftTurnedUptoRow.holds Try.pinned (OpenSpec.upto fnExactLeftTurnedSpec)

/-- 'laws.FnExactInsideOf', WHERE WHAT IT READS IS OF BULK AT MOST 1048576: true; the input reads as it did. -/
def fnExactInsideOfUptoRow : OpenClaim := { program := "ytjailkgogmanfaa", sum := "9841e8b66bf44b9ef4858bc23a75ee8313701939b1afb0143925cc679bdea146", func := "loop.example/g01055/laws.FnExactInsideOf", spec := "fnExactInsideOf", unfollowed := true, recurses := true, plainKeys := false, apart := false, narrowed := true }
def FnExactInsideOfUptoSaid : Prop := fnExactInsideOfUptoRow.holds Try.pinned (OpenSpec.upto fnExactInsideOfSpec)

/-- 'laws.FnExactGreatestOutline', WHERE WHAT IT READS IS OF BULK AT MOST 1048576: true; the input reads as it did. -/
def fnExactGreatestOutlineUptoRow : OpenClaim := { program := "ytjailkgogmanfaa", sum := "9841e8b66bf44b9ef4858bc23a75ee8313701939b1afb0143925cc679bdea146", func := "loop.example/g01055/laws.FnExactGreatestOutline", spec := "fnExactGreatestOutline", unfollowed := true, recurses := true, plainKeys := false, apart := false, narrowed := true }
def FnExactGreatestOutlineUptoSaid : Prop := fnExactGreatestOutlineUptoRow.holds Try.pinned (OpenSpec.upto fnExactGreatestOutlineSpec)

/-- 'laws.FnExactMoveChain', WHERE WHAT IT READS IS OF BULK AT MOST 1048576: true; the input reads as it did. -/
def fnExactMoveChainUptoRow : OpenClaim := { program := "ytjailkgogmanfaa", sum := "9841e8b66bf44b9ef4858bc23a75ee8313701939b1afb0143925cc679bdea146", func := "loop.example/g01055/laws.FnExactMoveChain", spec := "fnExactMoveChain", unfollowed := true, recurses := true, plainKeys := false, apart := false, narrowed := true }
def FnExactMoveChainUptoSaid : Prop := fnExactMoveChainUptoRow.holds Try.pinned (OpenSpec.upto fnExactMoveChainSpec)

/-- 'laws.FnChainSides', WHERE WHAT IT READS IS OF BULK AT MOST 1048576: true; the input reads as it did. -/
def fnChainSidesUptoRow : OpenClaim := { program := "ytjailkgogmanfaa", sum := "9841e8b66bf44b9ef4858bc23a75ee8313701939b1afb0143925cc679bdea146", func := "loop.example/g01055/laws.FnChainSides", spec := "fnChainSides", unfollowed := true, recurses := true, plainKeys := false, apart := false, narrowed := true }
def FnChainSidesUptoSaid : Prop := fnChainSidesUptoRow.holds Try.pinned (OpenSpec.upto fnChainSidesSpec)

/-- 'laws.FnExactReverseChain', WHERE WHAT IT READS IS OF BULK AT MOST 1048576: true; the input reads as it did. -/
def fnExactReverseChainUptoRow : OpenClaim := { program := "ytjailkgogmanfaa", sum := "9841e8b66bf44b9ef4858bc23a75ee8313701939b1afb0143925cc679bdea146", func := "loop.example/g01055/laws.FnExactReverseChain", spec := "fnExactReverseChain", unfollowed := true, recurses := true, plainKeys := false, apart := false, narrowed := true }
def FnExactReverseChainUptoSaid : Prop := fnExactReverseChainUptoRow.holds Try.pinned (OpenSpec.upto fnExactReverseChainSpec)

end Rows
end Go.Proofs.Ytjailkgogmanfaa
