/-
  No cell of these rows narrows 'for every input' (looked for: loops, veiled, ifaces, maps, wideKeys, modest, calm, conditions, laid).
  DERIVED. THE GIVEN ROWS OF THIS SEAT. 10 by the template 'for every input the law returns true; each argument reads behind the call as it read before'; 0 by the template 'total and deterministic' (their statements: YtpekchihdmhkkaaTotals.lean).
  GIVEN WITH THE SEED: the statements are not yours to turn. If you find one false, say at which input.
  Laid BY PROGRAM, IN A SANDBOX (cutbox-rows.mjs): the forced cells as the released guide's own fill.sh prints them over the translation 884c479503c97276… (all of the seat's roots in one cut). By AI agents, Wed Nov 11 2026. No macro, syntax, notation, axiom, sorry.
-/
import Derived.Test.YtpekchihdmhkkaaChecked
import GoSem.Claim
import GoSem.ClaimJoined
import GoSem.ClaimMapViews
import Derived.JoinedTies
import Derived.KernelRfl
namespace Go.Proofs.Ytpekchihdmhkkaa
/- THE CELL 'sum', in the pinned program and in every row, IS THE sha256 OF THE DUMP (.gsa) THAT YtpekchihdmhkkaaProg.lean LOADS. Nothing in Lean hashes anything: it is a label: what it is worth is what the hold of that sum in a sandbox is worth. -/
noncomputable def Try.pinned : Pinned := { name := "ytpekchihdmhkkaa", sum := "884c479503c97276622c78dda2747b3527a29fcaf6d36c0e8b62114f61855d45", checked := Try.checked }
namespace Rows
def none {H : Type} : Left H := { results := [], args := [] }

/-- 'laws.FnExactValidGrid': WHATEVER THE INPUT: true; the input reads as it did. -/
def fnExactValidGridSpec : ChangeSpec := { name := "fnExactValidGrid", fn := fun _ => fun
  | [d] => { results := [.lit (.bool true)], args := [d] }
  | _ => none }
def fnExactValidGridRow : OpenClaim := { program := "ytpekchihdmhkkaa", sum := "884c479503c97276622c78dda2747b3527a29fcaf6d36c0e8b62114f61855d45", func := "loop.example/g01055/laws.FnExactValidGrid", spec := "fnExactValidGrid", unfollowed := true, recurses := true, apart := false }
def FnExactValidGridSaid : Prop := fnExactValidGridRow.holds Try.pinned (OpenSpec.ofChange fnExactValidGridSpec)

/-- ITS FALSE NEIGHBOUR: 'it returns false'. Refute it at one input. -/
def fnExactValidGridWrong : ChangeSpec := { name := "fnExactValidGrid", fn := fun _ => fun
  | [d] => { results := [.lit (.bool false)], args := [d] }
  | _ => none }
def FnExactValidGridWrongFalsely : Prop := fnExactValidGridRow.holds Try.pinned (OpenSpec.ofChange fnExactValidGridWrong)

/-- 'laws.FnExactLandsOf': WHATEVER THE INPUT: true; the input reads as it did. -/
def fnExactLandsOfSpec : ChangeSpec := { name := "fnExactLandsOf", fn := fun _ => fun
  | [d] => { results := [.lit (.bool true)], args := [d] }
  | _ => none }
def fnExactLandsOfRow : OpenClaim := { program := "ytpekchihdmhkkaa", sum := "884c479503c97276622c78dda2747b3527a29fcaf6d36c0e8b62114f61855d45", func := "loop.example/g01055/laws.FnExactLandsOf", spec := "fnExactLandsOf", inPlace := ["internal/abi.NoEscape", "internal/bytealg.MakeNoZero"], unfollowed := true, recurses := true, apart := false }
def FnExactLandsOfSaid : Prop := fnExactLandsOfRow.holds Try.pinned (OpenSpec.ofChange fnExactLandsOfSpec)

/-- ITS FALSE NEIGHBOUR: 'it returns false'. Refute it at one input. -/
def fnExactLandsOfWrong : ChangeSpec := { name := "fnExactLandsOf", fn := fun _ => fun
  | [d] => { results := [.lit (.bool false)], args := [d] }
  | _ => none }
def FnExactLandsOfWrongFalsely : Prop := fnExactLandsOfRow.holds Try.pinned (OpenSpec.ofChange fnExactLandsOfWrong)

/-- 'laws.FnExactCellsOf': WHATEVER THE INPUT: true; the input reads as it did. -/
def fnExactCellsOfSpec : ChangeSpec := { name := "fnExactCellsOf", fn := fun _ => fun
  | [d1, d2] => { results := [.lit (.bool true)], args := [d1, d2] }
  | _ => none }
def fnExactCellsOfRow : OpenClaim := { program := "ytpekchihdmhkkaa", sum := "884c479503c97276622c78dda2747b3527a29fcaf6d36c0e8b62114f61855d45", func := "loop.example/g01055/laws.FnExactCellsOf", spec := "fnExactCellsOf", inPlace := ["internal/abi.NoEscape", "internal/bytealg.MakeNoZero", "internal/bytealg.Count", "internal/bytealg.IndexByte", "internal/bytealg.Index"], unfollowed := true, recurses := true, named := ["internal/bytealg.MaxLen"], apart := false }
def FnExactCellsOfSaid : Prop := fnExactCellsOfRow.holds Try.pinned (OpenSpec.ofChange fnExactCellsOfSpec)

/-- ITS FALSE NEIGHBOUR: 'it returns false'. Refute it at one input. -/
def fnExactCellsOfWrong : ChangeSpec := { name := "fnExactCellsOf", fn := fun _ => fun
  | [d1, d2] => { results := [.lit (.bool false)], args := [d1, d2] }
  | _ => none }
def FnExactCellsOfWrongFalsely : Prop := fnExactCellsOfRow.holds Try.pinned (OpenSpec.ofChange fnExactCellsOfWrong)

/-- 'laws.FnExactGridBorders': WHATEVER THE INPUT: true; the input reads as it did. -/
def fnExactGridBordersSpec : ChangeSpec := { name := "fnExactGridBorders", fn := fun _ => fun
  | [d] => { results := [.lit (.bool true)], args := [d] }
  | _ => none }
def fnExactGridBordersRow : OpenClaim := { program := "ytpekchihdmhkkaa", sum := "884c479503c97276622c78dda2747b3527a29fcaf6d36c0e8b62114f61855d45", func := "loop.example/g01055/laws.FnExactGridBorders", spec := "fnExactGridBorders", inPlace := ["internal/abi.NoEscape", "internal/bytealg.MakeNoZero"], unfollowed := true, recurses := true, apart := false }
def FnExactGridBordersSaid : Prop := fnExactGridBordersRow.holds Try.pinned (OpenSpec.ofChange fnExactGridBordersSpec)

/-- ITS FALSE NEIGHBOUR: 'it returns false'. Refute it at one input. -/
def fnExactGridBordersWrong : ChangeSpec := { name := "fnExactGridBorders", fn := fun _ => fun
  | [d] => { results := [.lit (.bool false)], args := [d] }
  | _ => none }
def FnExactGridBordersWrongFalsely : Prop := fnExactGridBordersRow.holds Try.pinned (OpenSpec.ofChange fnExactGridBordersWrong)

/-- 'laws.FnExactIslandsOf': WHATEVER THE INPUT: true; the input reads as it did. -/
def fnExactIslandsOfSpec : ChangeSpec := { name := "fnExactIslandsOf", fn := fun _ => fun
  | [d1, d2] => { results := [.lit (.bool true)], args := [d1, d2] }
  | _ => none }
def fnExactIslandsOfRow : OpenClaim := { program := "ytpekchihdmhkkaa", sum := "884c479503c97276622c78dda2747b3527a29fcaf6d36c0e8b62114f61855d45", func := "loop.example/g01055/laws.FnExactIslandsOf", spec := "fnExactIslandsOf", inPlace := ["internal/abi.NoEscape", "internal/bytealg.MakeNoZero", "internal/bytealg.Count", "internal/bytealg.IndexByte", "internal/bytealg.Index"], unfollowed := true, recurses := true, named := ["internal/bytealg.MaxLen"], apart := false }
def FnExactIslandsOfSaid : Prop := fnExactIslandsOfRow.holds Try.pinned (OpenSpec.ofChange fnExactIslandsOfSpec)

/-- ITS FALSE NEIGHBOUR: 'it returns false'. Refute it at one input. -/
def fnExactIslandsOfWrong : ChangeSpec := { name := "fnExactIslandsOf", fn := fun _ => fun
  | [d1, d2] => { results := [.lit (.bool false)], args := [d1, d2] }
  | _ => none }
def FnExactIslandsOfWrongFalsely : Prop := fnExactIslandsOfRow.holds Try.pinned (OpenSpec.ofChange fnExactIslandsOfWrong)

/-- 'laws.FnExactSeasOf': WHATEVER THE INPUT: true; the input reads as it did. -/
def fnExactSeasOfSpec : ChangeSpec := { name := "fnExactSeasOf", fn := fun _ => fun
  | [d] => { results := [.lit (.bool true)], args := [d] }
  | _ => none }
def fnExactSeasOfRow : OpenClaim := { program := "ytpekchihdmhkkaa", sum := "884c479503c97276622c78dda2747b3527a29fcaf6d36c0e8b62114f61855d45", func := "loop.example/g01055/laws.FnExactSeasOf", spec := "fnExactSeasOf", inPlace := ["internal/abi.NoEscape", "internal/bytealg.MakeNoZero"], unfollowed := true, recurses := true, apart := false }
def FnExactSeasOfSaid : Prop := fnExactSeasOfRow.holds Try.pinned (OpenSpec.ofChange fnExactSeasOfSpec)

/-- ITS FALSE NEIGHBOUR: 'it returns false'. Refute it at one input. -/
def fnExactSeasOfWrong : ChangeSpec := { name := "fnExactSeasOf", fn := fun _ => fun
  | [d] => { results := [.lit (.bool false)], args := [d] }
  | _ => none }
def FnExactSeasOfWrongFalsely : Prop := fnExactSeasOfRow.holds Try.pinned (OpenSpec.ofChange fnExactSeasOfWrong)

/-- 'laws.FnExactCoastOf': WHATEVER THE INPUT: true; the input reads as it did. -/
def fnExactCoastOfSpec : ChangeSpec := { name := "fnExactCoastOf", fn := fun _ => fun
  | [d1, d2] => { results := [.lit (.bool true)], args := [d1, d2] }
  | _ => none }
def fnExactCoastOfRow : OpenClaim := { program := "ytpekchihdmhkkaa", sum := "884c479503c97276622c78dda2747b3527a29fcaf6d36c0e8b62114f61855d45", func := "loop.example/g01055/laws.FnExactCoastOf", spec := "fnExactCoastOf", inPlace := ["internal/abi.NoEscape", "internal/bytealg.MakeNoZero", "internal/bytealg.Count", "internal/bytealg.IndexByte", "internal/bytealg.Index"], unfollowed := true, recurses := true, named := ["internal/bytealg.MaxLen"], apart := false }
def FnExactCoastOfSaid : Prop := fnExactCoastOfRow.holds Try.pinned (OpenSpec.ofChange fnExactCoastOfSpec)

/-- ITS FALSE NEIGHBOUR: 'it returns false'. Refute it at one input. -/
def fnExactCoastOfWrong : ChangeSpec := { name := "fnExactCoastOf", fn := fun _ => fun
  | [d1, d2] => { results := [.lit (.bool false)], args := [d1, d2] }
  | _ => none }
def FnExactCoastOfWrongFalsely : Prop := fnExactCoastOfRow.holds Try.pinned (OpenSpec.ofChange fnExactCoastOfWrong)

/-- 'laws.FnExactTurnGrid': WHATEVER THE INPUT: true; the input reads as it did. -/
def fnExactTurnGridSpec : ChangeSpec := { name := "fnExactTurnGrid", fn := fun _ => fun
  | [d1, d2] => { results := [.lit (.bool true)], args := [d1, d2] }
  | _ => none }
def fnExactTurnGridRow : OpenClaim := { program := "ytpekchihdmhkkaa", sum := "884c479503c97276622c78dda2747b3527a29fcaf6d36c0e8b62114f61855d45", func := "loop.example/g01055/laws.FnExactTurnGrid", spec := "fnExactTurnGrid", unfollowed := true, recurses := true, apart := false }
def FnExactTurnGridSaid : Prop := fnExactTurnGridRow.holds Try.pinned (OpenSpec.ofChange fnExactTurnGridSpec)

/-- ITS FALSE NEIGHBOUR: 'it returns false'. Refute it at one input. -/
def fnExactTurnGridWrong : ChangeSpec := { name := "fnExactTurnGrid", fn := fun _ => fun
  | [d1, d2] => { results := [.lit (.bool false)], args := [d1, d2] }
  | _ => none }
def FnExactTurnGridWrongFalsely : Prop := fnExactTurnGridRow.holds Try.pinned (OpenSpec.ofChange fnExactTurnGridWrong)

/-- 'laws.FnExactLandlockedOf': WHATEVER THE INPUT: true; the input reads as it did. -/
def fnExactLandlockedOfSpec : ChangeSpec := { name := "fnExactLandlockedOf", fn := fun _ => fun
  | [d] => { results := [.lit (.bool true)], args := [d] }
  | _ => none }
def fnExactLandlockedOfRow : OpenClaim := { program := "ytpekchihdmhkkaa", sum := "884c479503c97276622c78dda2747b3527a29fcaf6d36c0e8b62114f61855d45", func := "loop.example/g01055/laws.FnExactLandlockedOf", spec := "fnExactLandlockedOf", inPlace := ["internal/abi.NoEscape", "internal/bytealg.MakeNoZero"], unfollowed := true, recurses := true, apart := false }
def FnExactLandlockedOfSaid : Prop := fnExactLandlockedOfRow.holds Try.pinned (OpenSpec.ofChange fnExactLandlockedOfSpec)

/-- ITS FALSE NEIGHBOUR: 'it returns false'. Refute it at one input. -/
def fnExactLandlockedOfWrong : ChangeSpec := { name := "fnExactLandlockedOf", fn := fun _ => fun
  | [d] => { results := [.lit (.bool false)], args := [d] }
  | _ => none }
def FnExactLandlockedOfWrongFalsely : Prop := fnExactLandlockedOfRow.holds Try.pinned (OpenSpec.ofChange fnExactLandlockedOfWrong)

/-- 'laws.FnExactGreatestLand': WHATEVER THE INPUT: true; the input reads as it did. -/
def fnExactGreatestLandSpec : ChangeSpec := { name := "fnExactGreatestLand", fn := fun _ => fun
  | [d] => { results := [.lit (.bool true)], args := [d] }
  | _ => none }
def fnExactGreatestLandRow : OpenClaim := { program := "ytpekchihdmhkkaa", sum := "884c479503c97276622c78dda2747b3527a29fcaf6d36c0e8b62114f61855d45", func := "loop.example/g01055/laws.FnExactGreatestLand", spec := "fnExactGreatestLand", inPlace := ["internal/abi.NoEscape", "internal/bytealg.MakeNoZero", "internal/bytealg.Count", "internal/bytealg.IndexByte", "internal/bytealg.Index"], unfollowed := true, recurses := true, named := ["internal/bytealg.MaxLen"], apart := false }
def FnExactGreatestLandSaid : Prop := fnExactGreatestLandRow.holds Try.pinned (OpenSpec.ofChange fnExactGreatestLandSpec)

/-- ITS FALSE NEIGHBOUR: 'it returns false'. Refute it at one input. -/
def fnExactGreatestLandWrong : ChangeSpec := { name := "fnExactGreatestLand", fn := fun _ => fun
  | [d] => { results := [.lit (.bool false)], args := [d] }
  | _ => none }
def FnExactGreatestLandWrongFalsely : Prop := fnExactGreatestLandRow.holds Try.pinned (OpenSpec.ofChange fnExactGreatestLandWrong)

/- THE SECOND FORM. 'bulk': how many values and letters a reading holds, each counted each time it is reached (what is shared counts as often as it is met; a slice's spare places count too). A statement '..UptoSaid' is the law's where the arguments, and the package variables that the reading takes, are together of bulk at most 1048576: NARROWER than '..Said'. Prove '..Said' where nothing that the law and all that it calls make is longer than what came in: it says more and counts as full. Else prove '..UptoSaid'. A law counts once. -/
mutual
def uptoBulk {H : Type} : DataW H → Nat
  | .lit (.string bytes) => bytes.length + 1
  | .lit _ => 1
  | .nil => 1
  | .ptr d => uptoBulk d + 1
  | .slice elems spare => uptoBulkAll elems + uptoBulkAll spare + 1
  | .agg parts => uptoBulkAll parts + 1
  | .iface _ d => uptoBulk d + 1
  | .map entries => uptoBulkEntries entries + 1
  | .held _ => 1
def uptoBulkAll {H : Type} : List (DataW H) → Nat
  | [] => 0
  | d :: r => uptoBulk d + uptoBulkAll r
def uptoBulkEntries {H : Type} : List (Lit × DataW H) → Nat
  | [] => 0
  | x :: r => uptoBulkEntry x + uptoBulkEntries r
def uptoBulkEntry {H : Type} : Lit × DataW H → Nat
  | (.string bytes, d) => bytes.length + uptoBulk d + 1
  | (_, d) => uptoBulk d + 1
 end
def uptoSmall : (H : Type) → List (DataW H) → Bool := fun _ ds => decide (uptoBulkAll ds ≤ 1048576)
def OpenSpec.upto (s : _root_.Go.ChangeSpec) : _root_.Go.OpenSpec := { _root_.Go.OpenSpec.ofChange s with cond := some uptoSmall }

/-- 'laws.FnExactValidGrid', WHERE WHAT IT READS IS OF BULK AT MOST 1048576: true; the input reads as it did. -/
def fnExactValidGridUptoRow : OpenClaim := { program := "ytpekchihdmhkkaa", sum := "884c479503c97276622c78dda2747b3527a29fcaf6d36c0e8b62114f61855d45", func := "loop.example/g01055/laws.FnExactValidGrid", spec := "fnExactValidGrid", unfollowed := true, recurses := true, apart := false, narrowed := true }
def FnExactValidGridUptoSaid : Prop := fnExactValidGridUptoRow.holds Try.pinned (OpenSpec.upto fnExactValidGridSpec)

/-- 'laws.FnExactLandsOf', WHERE WHAT IT READS IS OF BULK AT MOST 1048576: true; the input reads as it did. -/
def fnExactLandsOfUptoRow : OpenClaim := { program := "ytpekchihdmhkkaa", sum := "884c479503c97276622c78dda2747b3527a29fcaf6d36c0e8b62114f61855d45", func := "loop.example/g01055/laws.FnExactLandsOf", spec := "fnExactLandsOf", inPlace := ["internal/abi.NoEscape", "internal/bytealg.MakeNoZero"], unfollowed := true, recurses := true, apart := false, narrowed := true }
def FnExactLandsOfUptoSaid : Prop := fnExactLandsOfUptoRow.holds Try.pinned (OpenSpec.upto fnExactLandsOfSpec)

/-- 'laws.FnExactCellsOf', WHERE WHAT IT READS IS OF BULK AT MOST 1048576: true; the input reads as it did. -/
def fnExactCellsOfUptoRow : OpenClaim := { program := "ytpekchihdmhkkaa", sum := "884c479503c97276622c78dda2747b3527a29fcaf6d36c0e8b62114f61855d45", func := "loop.example/g01055/laws.FnExactCellsOf", spec := "fnExactCellsOf", inPlace := ["internal/abi.NoEscape", "internal/bytealg.MakeNoZero", "internal/bytealg.Count", "internal/bytealg.IndexByte", "internal/bytealg.Index"], unfollowed := true, recurses := true, named := ["internal/bytealg.MaxLen"], apart := false, narrowed := true }
def FnExactCellsOfUptoSaid : Prop := fnExactCellsOfUptoRow.holds Try.pinned (OpenSpec.upto fnExactCellsOfSpec)

/-- 'laws.FnExactGridBorders', WHERE WHAT IT READS IS OF BULK AT MOST 1048576: true; the input reads as it did. -/
def fnExactGridBordersUptoRow : OpenClaim := { program := "ytpekchihdmhkkaa", sum := "884c479503c97276622c78dda2747b3527a29fcaf6d36c0e8b62114f61855d45", func := "loop.example/g01055/laws.FnExactGridBorders", spec := "fnExactGridBorders", inPlace := ["internal/abi.NoEscape", "internal/bytealg.MakeNoZero"], unfollowed := true, recurses := true, apart := false, narrowed := true }
def FnExactGridBordersUptoSaid : Prop := fnExactGridBordersUptoRow.holds Try.pinned (OpenSpec.upto fnExactGridBordersSpec)

/-- 'laws.FnExactIslandsOf', WHERE WHAT IT READS IS OF BULK AT MOST 1048576: true; the input reads as it did. -/
def fnExactIslandsOfUptoRow : OpenClaim := { program := "ytpekchihdmhkkaa", sum := "884c479503c97276622c78dda2747b3527a29fcaf6d36c0e8b62114f61855d45", func := "loop.example/g01055/laws.FnExactIslandsOf", spec := "fnExactIslandsOf", inPlace := ["internal/abi.NoEscape", "internal/bytealg.MakeNoZero", "internal/bytealg.Count", "internal/bytealg.IndexByte", "internal/bytealg.Index"], unfollowed := true, recurses := true, named := ["internal/bytealg.MaxLen"], apart := false, narrowed := true }
def FnExactIslandsOfUptoSaid : Prop := fnExactIslandsOfUptoRow.holds Try.pinned (OpenSpec.upto fnExactIslandsOfSpec)

/-- 'laws.FnExactSeasOf', WHERE WHAT IT READS IS OF BULK AT MOST 1048576: true; the input reads as it did. -/
def fnExactSeasOfUptoRow : OpenClaim := { program := "ytpekchihdmhkkaa", sum := "884c479503c97276622c78dda2747b3527a29fcaf6d36c0e8b62114f61855d45", func := "loop.example/g01055/laws.FnExactSeasOf", spec := "fnExactSeasOf", inPlace := ["internal/abi.NoEscape", "internal/bytealg.MakeNoZero"], unfollowed := true, recurses := true, apart := false, narrowed := true }
def FnExactSeasOfUptoSaid : Prop := fnExactSeasOfUptoRow.holds Try.pinned (OpenSpec.upto fnExactSeasOfSpec)

/-- 'laws.FnExactCoastOf', WHERE WHAT IT READS IS OF BULK AT MOST 1048576: true; the input reads as it did. -/
def fnExactCoastOfUptoRow : OpenClaim := { program := "ytpekchihdmhkkaa", sum := "884c479503c97276622c78dda2747b3527a29fcaf6d36c0e8b62114f61855d45", func := "loop.example/g01055/laws.FnExactCoastOf", spec := "fnExactCoastOf", inPlace := ["internal/abi.NoEscape", "internal/bytealg.MakeNoZero", "internal/bytealg.Count", "internal/bytealg.IndexByte", "internal/bytealg.Index"], unfollowed := true, recurses := true, named := ["internal/bytealg.MaxLen"], apart := false, narrowed := true }
def FnExactCoastOfUptoSaid : Prop := fnExactCoastOfUptoRow.holds Try.pinned (OpenSpec.upto fnExactCoastOfSpec)

/-- 'laws.FnExactTurnGrid', WHERE WHAT IT READS IS OF BULK AT MOST 1048576: true; the input reads as it did. -/
def fnExactTurnGridUptoRow : OpenClaim := { program := "ytpekchihdmhkkaa", sum := "884c479503c97276622c78dda2747b3527a29fcaf6d36c0e8b62114f61855d45", func := "loop.example/g01055/laws.FnExactTurnGrid", spec := "fnExactTurnGrid", unfollowed := true, recurses := true, apart := false, narrowed := true }
def FnExactTurnGridUptoSaid : Prop := fnExactTurnGridUptoRow.holds Try.pinned (OpenSpec.upto fnExactTurnGridSpec)

/-- 'laws.FnExactLandlockedOf', WHERE WHAT IT READS IS OF BULK AT MOST 1048576: true; the input reads as it did. -/
def fnExactLandlockedOfUptoRow : OpenClaim := { program := "ytpekchihdmhkkaa", sum := "884c479503c97276622c78dda2747b3527a29fcaf6d36c0e8b62114f61855d45", func := "loop.example/g01055/laws.FnExactLandlockedOf", spec := "fnExactLandlockedOf", inPlace := ["internal/abi.NoEscape", "internal/bytealg.MakeNoZero"], unfollowed := true, recurses := true, apart := false, narrowed := true }
def FnExactLandlockedOfUptoSaid : Prop := fnExactLandlockedOfUptoRow.holds Try.pinned (OpenSpec.upto fnExactLandlockedOfSpec)

/-- 'laws.FnExactGreatestLand', WHERE WHAT IT READS IS OF BULK AT MOST 1048576: true; the input reads as it did. -/
def fnExactGreatestLandUptoRow : OpenClaim := { program := "ytpekchihdmhkkaa", sum := "884c479503c97276622c78dda2747b3527a29fcaf6d36c0e8b62114f61855d45", func := "loop.example/g01055/laws.FnExactGreatestLand", spec := "fnExactGreatestLand", inPlace := ["internal/abi.NoEscape", "internal/bytealg.MakeNoZero", "internal/bytealg.Count", "internal/bytealg.IndexByte", "internal/bytealg.Index"], unfollowed := true, recurses := true, named := ["internal/bytealg.MaxLen"], apart := false, narrowed := true }
def FnExactGreatestLandUptoSaid : Prop := fnExactGreatestLandUptoRow.holds Try.pinned (OpenSpec.upto fnExactGreatestLandSpec)

end Rows
end Go.Proofs.Ytpekchihdmhkkaa
