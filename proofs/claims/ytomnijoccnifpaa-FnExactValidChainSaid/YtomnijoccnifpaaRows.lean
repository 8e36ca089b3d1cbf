/-
  No cell of these rows narrows 'for every input' (looked for: loops, veiled, ifaces, maps, wideKeys, modest, calm, conditions, laid).
  DERIVED. THE GIVEN ROWS OF THIS SEAT. 8 by the template 'for every input the law returns true; each argument reads behind the call as it read before'; 0 by the template 'total and deterministic' (their statements: YtomnijoccnifpaaTotals.lean).
  GIVEN WITH THE SEED: the statements are not yours to turn. If you find one false, say at which input.
  Laid BY PROGRAM, IN A SANDBOX (cutbox-rows.mjs): the forced cells as the released guide's own fill.sh prints them over the translation a08b2fa9ca1659aa… (all of the seat's roots in one cut). By AI agents, Wed Nov 11 2026. No macro, syntax, notation, axiom, sorry.
-/
import Derived.Test.YtomnijoccnifpaaChecked
import GoSem.Claim
import GoSem.ClaimJoined
import GoSem.ClaimMapViews
import Derived.JoinedTies
import Derived.KernelRfl
namespace Go.Proofs.Ytomnijoccnifpaa
/- THE CELL 'sum', in the pinned program and in every row, IS THE sha256 OF THE DUMP (.gsa) THAT YtomnijoccnifpaaProg.lean LOADS. Nothing in Lean hashes anything: it is a label: what it is worth is what the hold of that sum in a sandbox is worth. -/
noncomputable def Try.pinned : Pinned := { name := "ytomnijoccnifpaa", sum := "a08b2fa9ca1659aaa346b0fde43986eda798ddcd7c05f25258bafb911186560f", checked := Try.checked }
namespace Rows
def none {H : Type} : Left H := { results := [], args := [] }

/-- 'laws.FnChainSides': WHATEVER THE INPUT: true; the input reads as it did. -/
def fnChainSidesSpec : ChangeSpec := { name := "fnChainSides", fn := fun _ => fun
  | [d] => { results := [.lit (.bool true)], args := [d] }
  | _ => none }
def fnChainSidesRow : OpenClaim := { program := "ytomnijoccnifpaa", sum := "a08b2fa9ca1659aaa346b0fde43986eda798ddcd7c05f25258bafb911186560f", func := "loop.example/g01055/laws.FnChainSides", spec := "fnChainSides", unfollowed := true, recurses := true, apart := false }
def FnChainSidesSaid : Prop := fnChainSidesRow.holds Try.pinned (OpenSpec.ofChange fnChainSidesSpec)

/-- ITS FALSE NEIGHBOUR: 'it returns false'. Refute it at one input. -/
def fnChainSidesWrong : ChangeSpec := { name := "fnChainSides", fn := fun _ => fun
  | [d] => { results := [.lit (.bool false)], args := [d] }
  | _ => none }
def FnChainSidesWrongFalsely : Prop := fnChainSidesRow.holds Try.pinned (OpenSpec.ofChange fnChainSidesWrong)

/-- 'laws.FnExactValidChain': WHATEVER THE INPUT: true; the input reads as it did. -/
def fnExactValidChainSpec : ChangeSpec := { name := "fnExactValidChain", fn := fun _ => fun
  | [d] => { results := [.lit (.bool true)], args := [d] }
  | _ => none }
def fnExactValidChainRow : OpenClaim := { program := "ytomnijoccnifpaa", sum := "a08b2fa9ca1659aaa346b0fde43986eda798ddcd7c05f25258bafb911186560f", func := "loop.example/g01055/laws.FnExactValidChain", spec := "fnExactValidChain", unfollowed := true, recurses := true, apart := false }
def FnExactValidChainSaid : Prop := fnExactValidChainRow.holds Try.pinned (OpenSpec.ofChange fnExactValidChainSpec)

/-- ITS FALSE NEIGHBOUR: 'it returns false'. Refute it at one input. -/
def fnExactValidChainWrong : ChangeSpec := { name := "fnExactValidChain", fn := fun _ => fun
  | [d] => { results := [.lit (.bool false)], args := [d] }
  | _ => none }
def FnExactValidChainWrongFalsely : Prop := fnExactValidChainRow.holds Try.pinned (OpenSpec.ofChange fnExactValidChainWrong)

/-- 'laws.FnExactSameChain': WHATEVER THE INPUT: true; the input reads as it did. -/
def fnExactSameChainSpec : ChangeSpec := { name := "fnExactSameChain", fn := fun _ => fun
  | [d1, d2] => { results := [.lit (.bool true)], args := [d1, d2] }
  | _ => none }
def fnExactSameChainRow : OpenClaim := { program := "ytomnijoccnifpaa", sum := "a08b2fa9ca1659aaa346b0fde43986eda798ddcd7c05f25258bafb911186560f", func := "loop.example/g01055/laws.FnExactSameChain", spec := "fnExactSameChain", apart := false }
def FnExactSameChainSaid : Prop := fnExactSameChainRow.holds Try.pinned (OpenSpec.ofChange fnExactSameChainSpec)

/-- ITS FALSE NEIGHBOUR: 'it returns false'. Refute it at one input. -/
def fnExactSameChainWrong : ChangeSpec := { name := "fnExactSameChain", fn := fun _ => fun
  | [d1, d2] => { results := [.lit (.bool false)], args := [d1, d2] }
  | _ => none }
def FnExactSameChainWrongFalsely : Prop := fnExactSameChainRow.holds Try.pinned (OpenSpec.ofChange fnExactSameChainWrong)

/-- 'laws.FnExactStaysWithin': WHATEVER THE INPUT: true; the input reads as it did. -/
def fnExactStaysWithinSpec : ChangeSpec := { name := "fnExactStaysWithin", fn := fun _ => fun
  | [d1, d2, d3, d4] => { results := [.lit (.bool true)], args := [d1, d2, d3, d4] }
  | _ => none }
def fnExactStaysWithinRow : OpenClaim := { program := "ytomnijoccnifpaa", sum := "a08b2fa9ca1659aaa346b0fde43986eda798ddcd7c05f25258bafb911186560f", func := "loop.example/g01055/laws.FnExactStaysWithin", spec := "fnExactStaysWithin", unfollowed := true, recurses := true, apart := false }
def FnExactStaysWithinSaid : Prop := fnExactStaysWithinRow.holds Try.pinned (OpenSpec.ofChange fnExactStaysWithinSpec)

/-- ITS FALSE NEIGHBOUR: 'it returns false'. Refute it at one input. -/
def fnExactStaysWithinWrong : ChangeSpec := { name := "fnExactStaysWithin", fn := fun _ => fun
  | [d1, d2, d3, d4] => { results := [.lit (.bool false)], args := [d1, d2, d3, d4] }
  | _ => none }
def FnExactStaysWithinWrongFalsely : Prop := fnExactStaysWithinRow.holds Try.pinned (OpenSpec.ofChange fnExactStaysWithinWrong)

/-- 'laws.FnExactPickPoints': WHATEVER THE INPUT: true; the input reads as it did. -/
def fnExactPickPointsSpec : ChangeSpec := { name := "fnExactPickPoints", fn := fun _ => fun
  | [d1, d2] => { results := [.lit (.bool true)], args := [d1, d2] }
  | _ => none }
def fnExactPickPointsRow : OpenClaim := { program := "ytomnijoccnifpaa", sum := "a08b2fa9ca1659aaa346b0fde43986eda798ddcd7c05f25258bafb911186560f", func := "loop.example/g01055/laws.FnExactPickPoints", spec := "fnExactPickPoints", unfollowed := true, recurses := true, apart := false }
def FnExactPickPointsSaid : Prop := fnExactPickPointsRow.holds Try.pinned (OpenSpec.ofChange fnExactPickPointsSpec)

/-- ITS FALSE NEIGHBOUR: 'it returns false'. Refute it at one input. -/
def fnExactPickPointsWrong : ChangeSpec := { name := "fnExactPickPoints", fn := fun _ => fun
  | [d1, d2] => { results := [.lit (.bool false)], args := [d1, d2] }
  | _ => none }
def FnExactPickPointsWrongFalsely : Prop := fnExactPickPointsRow.holds Try.pinned (OpenSpec.ofChange fnExactPickPointsWrong)

/-- 'laws.FnExactReverseChain': WHATEVER THE INPUT: true; the input reads as it did. -/
def fnExactReverseChainSpec : ChangeSpec := { name := "fnExactReverseChain", fn := fun _ => fun
  | [d] => { results := [.lit (.bool true)], args := [d] }
  | _ => none }
def fnExactReverseChainRow : OpenClaim := { program := "ytomnijoccnifpaa", sum := "a08b2fa9ca1659aaa346b0fde43986eda798ddcd7c05f25258bafb911186560f", func := "loop.example/g01055/laws.FnExactReverseChain", spec := "fnExactReverseChain", unfollowed := true, recurses := true, apart := false }
def FnExactReverseChainSaid : Prop := fnExactReverseChainRow.holds Try.pinned (OpenSpec.ofChange fnExactReverseChainSpec)

/-- ITS FALSE NEIGHBOUR: 'it returns false'. Refute it at one input. -/
def fnExactReverseChainWrong : ChangeSpec := { name := "fnExactReverseChain", fn := fun _ => fun
  | [d] => { results := [.lit (.bool false)], args := [d] }
  | _ => none }
def FnExactReverseChainWrongFalsely : Prop := fnExactReverseChainRow.holds Try.pinned (OpenSpec.ofChange fnExactReverseChainWrong)

/-- 'laws.FnExactLengthBounds': WHATEVER THE INPUT: true; the input reads as it did. -/
def fnExactLengthBoundsSpec : ChangeSpec := { name := "fnExactLengthBounds", fn := fun _ => fun
  | [d] => { results := [.lit (.bool true)], args := [d] }
  | _ => none }
def fnExactLengthBoundsRow : OpenClaim := { program := "ytomnijoccnifpaa", sum := "a08b2fa9ca1659aaa346b0fde43986eda798ddcd7c05f25258bafb911186560f", func := "loop.example/g01055/laws.FnExactLengthBounds", spec := "fnExactLengthBounds", unfollowed := true, recurses := true, apart := false }
def FnExactLengthBoundsSaid : Prop := fnExactLengthBoundsRow.holds Try.pinned (OpenSpec.ofChange fnExactLengthBoundsSpec)

/-- ITS FALSE NEIGHBOUR: 'it returns false'. Refute it at one input. -/
def fnExactLengthBoundsWrong : ChangeSpec := { name := "fnExactLengthBounds", fn := fun _ => fun
  | [d] => { results := [.lit (.bool false)], args := [d] }
  | _ => none }
def FnExactLengthBoundsWrongFalsely : Prop := fnExactLengthBoundsRow.holds Try.pinned (OpenSpec.ofChange fnExactLengthBoundsWrong)

/-- 'laws.FnExactTurnsAside': WHATEVER THE INPUT: true; the input reads as it did. -/
def fnExactTurnsAsideSpec : ChangeSpec := { name := "fnExactTurnsAside", fn := fun _ => fun
  | [d] => { results := [.lit (.bool true)], args := [d] }
  | _ => none }
def fnExactTurnsAsideRow : OpenClaim := { program := "ytomnijoccnifpaa", sum := "a08b2fa9ca1659aaa346b0fde43986eda798ddcd7c05f25258bafb911186560f", func := "loop.example/g01055/laws.FnExactTurnsAside", spec := "fnExactTurnsAside", unfollowed := true, recurses := true, apart := false }
def FnExactTurnsAsideSaid : Prop := fnExactTurnsAsideRow.holds Try.pinned (OpenSpec.ofChange fnExactTurnsAsideSpec)

/-- ITS FALSE NEIGHBOUR: 'it returns false'. Refute it at one input. -/
def fnExactTurnsAsideWrong : ChangeSpec := { name := "fnExactTurnsAside", fn := fun _ => fun
  | [d] => { results := [.lit (.bool false)], args := [d] }
  | _ => none }
def FnExactTurnsAsideWrongFalsely : Prop := fnExactTurnsAsideRow.holds Try.pinned (OpenSpec.ofChange fnExactTurnsAsideWrong)

/- THE SECOND FORM. 'bulk': how many values and letters a reading holds, each counted each time it is reached (what is shared counts as often as it is met; a slice's spare places count too). A statement '..UptoSaid' is the law's where the arguments, and the package variables that the reading takes, are together of bulk at most 1048576: NARROWER than '..Said'. Prove '..Said' where nothing that the law and all that it calls make is longer than what came in: it says more and counts as full. Else prove '..UptoSaid'. A law counts once. -/
mutual
def uptoBulk {H : Type} : DataW H → Nat
  | .lit (.string bytes) => bytes.length + 1
  | .lit _ => 1
  | .nil => 1
  | .ptr d => uptoBulk d + 1
  | .slice elems spare => uptoBulkAll elems + uptoBulkAll spare + 1
  | .agg parts => uptoBulkAll parts + 1
  | .iface _ d => uptoBulk d + 1
  | .map entries => uptoBulkEntries entries + 1
  | .held _ => 1
def uptoBulkAll {H : Type} : List (DataW H) → Nat
  | [] => 0
  | d :: r => uptoBulk d + uptoBulkAll r
def uptoBulkEntries {H : Type} : List (Lit × DataW H) → Nat
  | [] => 0
  | x :: r => uptoBulkEntry x + uptoBulkEntries r
def uptoBulkEntry {H : Type} : Lit × DataW H → Nat
  | (.string bytes, d) => bytes.length + uptoBulk d + 1
  | (_, d) => uptoBulk d + 1
 end
def uptoSmall : (H : Type) → List (DataW H) → Bool := fun _ ds => decide (uptoBulkAll ds ≤ 1048576)
def OpenSpec.upto (s : _root_.Go.ChangeSpec) : _root_.Go.OpenSpec := { _root_.Go.OpenSpec.ofChange s with cond := some uptoSmall }

/-- 'laws.FnChainSides', WHERE WHAT IT READS IS OF BULK AT MOST 1048576: true; the input reads as it did. -/
def fnChainSidesUptoRow : OpenClaim := { program := "ytomnijoccnifpaa", sum := "a08b2fa9ca1659aaa346b0fde43986eda798ddcd7c05f25258bafb911186560f", func := "loop.example/g01055/laws.FnChainSides", spec := "fnChainSides", unfollowed := true, recurses := true, apart := false, narrowed := true }
def FnChainSidesUptoSaid : Prop := fnChainSidesUptoRow.holds Try.pinned (OpenSpec.upto fnChainSidesSpec)

/-- 'laws.FnExactValidChain', WHERE WHAT IT READS IS OF BULK AT MOST 1048576: true; the input reads as it did. -/
def fnExactValidChainUptoRow : OpenClaim := { program := "ytomnijoccnifpaa", sum := "a08b2fa9ca1659aaa346b0fde43986eda798ddcd7c05f25258bafb911186560f", func := "loop.example/g01055/laws.FnExactValidChain", spec := "fnExactValidChain", unfollowed := true, recurses := true, apart := false, narrowed := true }
def FnExactValidChainUptoSaid : Prop := fnExactValidChainUptoRow.holds Try.pinned (OpenSpec.upto fnExactValidChainSpec)

/-- 'laws.FnExactSameChain', WHERE WHAT IT READS IS OF BULK AT MOST 1048576: true; the input reads as it did. -/
def fnExactSameChainUptoRow : OpenClaim := { program := "ytomnijoccnifpaa", sum := "a08b2fa9ca1659aaa346b0fde43986eda798ddcd7c05f25258bafb911186560f", func := "loop.example/g01055/laws.FnExactSameChain", spec := "fnExactSameChain", apart := false, narrowed := true }
def FnExactSameChainUptoSaid : Prop := fnExactSameChainUptoRow.holds Try.pinned (OpenSpec.upto fnExactSameChainSpec)

/-- 'laws.FnExactStaysWithin', WHERE WHAT IT READS IS OF BULK AT MOST 1048576: true; the input reads as it did. -/
def fnExactStaysWithinUptoRow : OpenClaim := { program := "ytomnijoccnifpaa", sum := "a08b2fa9ca1659aaa346b0fde43986eda798ddcd7c05f25258bafb911186560f", func := "loop.example/g01055/laws.FnExactStaysWithin", spec := "fnExactStaysWithin", unfollowed := true, recurses := true, apart := false, narrowed := true }
def FnExactStaysWithinUptoSaid : Prop := fnExactStaysWithinUptoRow.holds Try.pinned (OpenSpec.upto fnExactStaysWithinSpec)

/-- 'laws.FnExactPickPoints', WHERE WHAT IT READS IS OF BULK AT MOST 1048576: true; the input reads as it did. -/
def fnExactPickPointsUptoRow : OpenClaim := { program := "ytomnijoccnifpaa", sum := "a08b2fa9ca1659aaa346b0fde43986eda798ddcd7c05f25258bafb911186560f", func := "loop.example/g01055/laws.FnExactPickPoints", spec := "fnExactPickPoints", unfollowed := true, recurses := true, apart := false, narrowed := true }
def FnExactPickPointsUptoSaid : Prop := fnExactPickPointsUptoRow.holds Try.pinned (OpenSpec.upto fnExactPickPointsSpec)

/-- 'laws.FnExactReverseChain', WHERE WHAT IT READS IS OF BULK AT MOST 1048576: true; the input reads as it did. -/
def fnExactReverseChainUptoRow : OpenClaim := { program := "ytomnijoccnifpaa", sum := "a08b2fa9ca1659aaa346b0fde43986eda798ddcd7c05f25258bafb911186560f", func := "loop.example/g01055/laws.FnExactReverseChain", spec := "fnExactReverseChain", unfollowed := true, recurses := true, apart := false, narrowed := true }
def FnExactReverseChainUptoSaid : Prop := fnExactReverseChainUptoRow.holds Try.pinned (OpenSpec.upto fnExactReverseChainSpec)

/-- 'laws.FnExactLengthBounds', WHERE WHAT IT READS IS OF BULK AT MOST 1048576: true; the input reads as it did. -/
def fnExactLengthBoundsUptoRow : OpenClaim := { program := "ytomnijoccnifpaa", sum := "a08b2fa9ca1659aaa346b0fde43986eda798ddcd7c05f25258bafb911186560f", func := "loop.example/g01055/laws.FnExactLengthBounds", spec := "fnExactLengthBounds", unfollowed := true, recurses := true, apart := false, narrowed := true }
def FnExactLengthBoundsUptoSaid : Prop := fnExactLengthBoundsUptoRow.holds Try.pinned (OpenSpec.upto fnExactLengthBoundsSpec)

/-- 'laws.FnExactTurnsAside', WHERE WHAT IT READS IS OF BULK AT MOST 1048576: true; the input reads as it did. -/
def fnExactTurnsAsideUptoRow : OpenClaim := { program := "ytomnijoccnifpaa", sum := "a08b2fa9ca1659aaa346b0fde43986eda798ddcd7c05f25258bafb911186560f", func := "loop.example/g01055/laws.FnExactTurnsAside", spec := "fnExactTurnsAside", unfollowed := true, recurses := true, apart := false, narrowed := true }
def FnExactTurnsAsideUptoSaid : Prop := fnExactTurnsAsideUptoRow.holds Try.pinned (OpenSpec.upto fnExactTurnsAsideSpec)

end Rows
end Go.Proofs.Ytomnijoccnifpaa
