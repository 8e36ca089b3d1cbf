/-
  No cell of these rows narrows 'for every input' (looked for: loops, veiled, ifaces, maps, wideKeys, modest, calm, conditions, laid).
  DERIVED. THE GIVEN ROWS OF THIS SEAT. 11 by the template 'for every input the law returns true; each argument reads behind the call as it read before'; 0 by the template 'total and deterministic' (their statements: YtbggbgfmahnjkaaTotals.lean).
  GIVEN WITH THE SEED: the statements are not yours to turn. If you find one false, say at which input.
  Laid BY PROGRAM, IN A SANDBOX (cutbox-rows.mjs): the forced cells as the released guide's own fill.sh prints them over the translation cb47abd7f91ba3f5… (all of the seat's roots in one cut). By AI agents, Wed Nov 11 2026. No macro, syntax, notation, axiom, sorry.
-/
import Derived.Test.YtbggbgfmahnjkaaChecked
import GoSem.Claim
import GoSem.ClaimJoined
import GoSem.ClaimMapViews
import Derived.JoinedTies
import Derived.KernelRfl
namespace Go.Proofs.Ytbggbgfmahnjkaa
/- THE CELL 'sum', in the pinned program and in every row, IS THE sha256 OF THE DUMP (.gsa) THAT YtbggbgfmahnjkaaProg.lean LOADS. Nothing in Lean hashes anything: it is a label: what it is worth is what the hold of that sum in a sandbox is worth. -/
noncomputable def Try.pinned : Pinned := { name := "ytbggbgfmahnjkaa", sum := "cb47abd7f91ba3f5707e7a8a596ad2da4a582d3af10e1750ecdd094b4318b276", checked := Try.checked }
namespace Rows
def none {H : Type} : Left H := { results := [], args := [] }

/-- 'laws.FnDistances': WHATEVER THE INPUT: true; the input reads as it did. -/
def fnDistancesSpec : ChangeSpec := { name := "fnDistances", fn := fun _ => fun
  | [d1, d2] => { results := [.lit (.bool true)], args := [d1, d2] }
  | _ => none }
def fnDistancesRow : OpenClaim := { program := "ytbggbgfmahnjkaa", sum := "cb47abd7f91ba3f5707e7a8a596ad2da4a582d3af10e1750ecdd094b4318b276", func := "loop.example/g01055/laws.FnDistances", spec := "fnDistances", unfollowed := true, recurses := true, apart := false }
def FnDistancesSaid : Prop := fnDistancesRow.holds Try.pinned (OpenSpec.ofChange fnDistancesSpec)

/-- ITS FALSE NEIGHBOUR: 'it returns false'. Refute it at one input. -/
def fnDistancesWrong : ChangeSpec := { name := "fnDistances", fn := fun _ => fun
  | [d1, d2] => { results := [.lit (.bool false)], args := [d1, d2] }
  | _ => none }
def FnDistancesWrongFalsely : Prop := fnDistancesRow.holds Try.pinned (OpenSpec.ofChange fnDistancesWrong)

/-- 'laws.FnSpotRoutes': WHATEVER THE INPUT: true; the input reads as it did. -/
def fnSpotRoutesSpec : ChangeSpec := { name := "fnSpotRoutes", fn := fun _ => fun
  | [d1, d2] => { results := [.lit (.bool true)], args := [d1, d2] }
  | _ => none }
def fnSpotRoutesRow : OpenClaim := { program := "ytbggbgfmahnjkaa", sum := "cb47abd7f91ba3f5707e7a8a596ad2da4a582d3af10e1750ecdd094b4318b276", func := "loop.example/g01055/laws.FnSpotRoutes", spec := "fnSpotRoutes", unfollowed := true, recurses := true, apart := false }
def FnSpotRoutesSaid : Prop := fnSpotRoutesRow.holds Try.pinned (OpenSpec.ofChange fnSpotRoutesSpec)

/-- ITS FALSE NEIGHBOUR: 'it returns false'. Refute it at one input. -/
def fnSpotRoutesWrong : ChangeSpec := { name := "fnSpotRoutes", fn := fun _ => fun
  | [d1, d2] => { results := [.lit (.bool false)], args := [d1, d2] }
  | _ => none }
def FnSpotRoutesWrongFalsely : Prop := fnSpotRoutesRow.holds Try.pinned (OpenSpec.ofChange fnSpotRoutesWrong)

/-- 'laws.FnExactCosDistance': WHATEVER THE INPUT: true; the input reads as it did. -/
def fnExactCosDistanceSpec : ChangeSpec := { name := "fnExactCosDistance", fn := fun _ => fun
  | [d1, d2] => { results := [.lit (.bool true)], args := [d1, d2] }
  | _ => none }
def fnExactCosDistanceRow : OpenClaim := { program := "ytbggbgfmahnjkaa", sum := "cb47abd7f91ba3f5707e7a8a596ad2da4a582d3af10e1750ecdd094b4318b276", func := "loop.example/g01055/laws.FnExactCosDistance", spec := "fnExactCosDistance", unfollowed := true, recurses := true, apart := false }
def FnExactCosDistanceSaid : Prop := fnExactCosDistanceRow.holds Try.pinned (OpenSpec.ofChange fnExactCosDistanceSpec)

/-- ITS FALSE NEIGHBOUR: 'it returns false'. Refute it at one input. -/
def fnExactCosDistanceWrong : ChangeSpec := { name := "fnExactCosDistance", fn := fun _ => fun
  | [d1, d2] => { results := [.lit (.bool false)], args := [d1, d2] }
  | _ => none }
def FnExactCosDistanceWrongFalsely : Prop := fnExactCosDistanceRow.holds Try.pinned (OpenSpec.ofChange fnExactCosDistanceWrong)

/-- 'laws.FnExactDistanceOf': WHATEVER THE INPUT: true; the input reads as it did. -/
def fnExactDistanceOfSpec : ChangeSpec := { name := "fnExactDistanceOf", fn := fun _ => fun
  | [d1, d2] => { results := [.lit (.bool true)], args := [d1, d2] }
  | _ => none }
def fnExactDistanceOfRow : OpenClaim := { program := "ytbggbgfmahnjkaa", sum := "cb47abd7f91ba3f5707e7a8a596ad2da4a582d3af10e1750ecdd094b4318b276", func := "loop.example/g01055/laws.FnExactDistanceOf", spec := "fnExactDistanceOf", unfollowed := true, recurses := true, apart := false }
def FnExactDistanceOfSaid : Prop := fnExactDistanceOfRow.holds Try.pinned (OpenSpec.ofChange fnExactDistanceOfSpec)

/-- ITS FALSE NEIGHBOUR: 'it returns false'. Refute it at one input. -/
def fnExactDistanceOfWrong : ChangeSpec := { name := "fnExactDistanceOf", fn := fun _ => fun
  | [d1, d2] => { results := [.lit (.bool false)], args := [d1, d2] }
  | _ => none }
def FnExactDistanceOfWrongFalsely : Prop := fnExactDistanceOfRow.holds Try.pinned (OpenSpec.ofChange fnExactDistanceOfWrong)

/-- 'laws.FnExactNearestSpot': WHATEVER THE INPUT: true; the input reads as it did. -/
def fnExactNearestSpotSpec : ChangeSpec := { name := "fnExactNearestSpot", fn := fun _ => fun
  | [d1, d2] => { results := [.lit (.bool true)], args := [d1, d2] }
  | _ => none }
def fnExactNearestSpotRow : OpenClaim := { program := "ytbggbgfmahnjkaa", sum := "cb47abd7f91ba3f5707e7a8a596ad2da4a582d3af10e1750ecdd094b4318b276", func := "loop.example/g01055/laws.FnExactNearestSpot", spec := "fnExactNearestSpot", unfollowed := true, recurses := true, apart := false }
def FnExactNearestSpotSaid : Prop := fnExactNearestSpotRow.holds Try.pinned (OpenSpec.ofChange fnExactNearestSpotSpec)

/-- ITS FALSE NEIGHBOUR: 'it returns false'. Refute it at one input. -/
def fnExactNearestSpotWrong : ChangeSpec := { name := "fnExactNearestSpot", fn := fun _ => fun
  | [d1, d2] => { results := [.lit (.bool false)], args := [d1, d2] }
  | _ => none }
def FnExactNearestSpotWrongFalsely : Prop := fnExactNearestSpotRow.holds Try.pinned (OpenSpec.ofChange fnExactNearestSpotWrong)

/-- 'laws.FnExactSpotsWithin': WHATEVER THE INPUT: true; the input reads as it did. -/
def fnExactSpotsWithinSpec : ChangeSpec := { name := "fnExactSpotsWithin", fn := fun _ => fun
  | [d1, d2, d3] => { results := [.lit (.bool true)], args := [d1, d2, d3] }
  | _ => none }
def fnExactSpotsWithinRow : OpenClaim := { program := "ytbggbgfmahnjkaa", sum := "cb47abd7f91ba3f5707e7a8a596ad2da4a582d3af10e1750ecdd094b4318b276", func := "loop.example/g01055/laws.FnExactSpotsWithin", spec := "fnExactSpotsWithin", unfollowed := true, recurses := true, apart := false }
def FnExactSpotsWithinSaid : Prop := fnExactSpotsWithinRow.holds Try.pinned (OpenSpec.ofChange fnExactSpotsWithinSpec)

/-- ITS FALSE NEIGHBOUR: 'it returns false'. Refute it at one input. -/
def fnExactSpotsWithinWrong : ChangeSpec := { name := "fnExactSpotsWithin", fn := fun _ => fun
  | [d1, d2, d3] => { results := [.lit (.bool false)], args := [d1, d2, d3] }
  | _ => none }
def FnExactSpotsWithinWrongFalsely : Prop := fnExactSpotsWithinRow.holds Try.pinned (OpenSpec.ofChange fnExactSpotsWithinWrong)

/-- 'laws.FnExactFarthestPair': WHATEVER THE INPUT: true; the input reads as it did. -/
def fnExactFarthestPairSpec : ChangeSpec := { name := "fnExactFarthestPair", fn := fun _ => fun
  | [d] => { results := [.lit (.bool true)], args := [d] }
  | _ => none }
def fnExactFarthestPairRow : OpenClaim := { program := "ytbggbgfmahnjkaa", sum := "cb47abd7f91ba3f5707e7a8a596ad2da4a582d3af10e1750ecdd094b4318b276", func := "loop.example/g01055/laws.FnExactFarthestPair", spec := "fnExactFarthestPair", unfollowed := true, recurses := true, apart := false }
def FnExactFarthestPairSaid : Prop := fnExactFarthestPairRow.holds Try.pinned (OpenSpec.ofChange fnExactFarthestPairSpec)

/-- ITS FALSE NEIGHBOUR: 'it returns false'. Refute it at one input. -/
def fnExactFarthestPairWrong : ChangeSpec := { name := "fnExactFarthestPair", fn := fun _ => fun
  | [d] => { results := [.lit (.bool false)], args := [d] }
  | _ => none }
def FnExactFarthestPairWrongFalsely : Prop := fnExactFarthestPairRow.holds Try.pinned (OpenSpec.ofChange fnExactFarthestPairWrong)

/-- 'laws.FnExactRouteLength': WHATEVER THE INPUT: true; the input reads as it did. -/
def fnExactRouteLengthSpec : ChangeSpec := { name := "fnExactRouteLength", fn := fun _ => fun
  | [d] => { results := [.lit (.bool true)], args := [d] }
  | _ => none }
def fnExactRouteLengthRow : OpenClaim := { program := "ytbggbgfmahnjkaa", sum := "cb47abd7f91ba3f5707e7a8a596ad2da4a582d3af10e1750ecdd094b4318b276", func := "loop.example/g01055/laws.FnExactRouteLength", spec := "fnExactRouteLength", unfollowed := true, recurses := true, apart := false }
def FnExactRouteLengthSaid : Prop := fnExactRouteLengthRow.holds Try.pinned (OpenSpec.ofChange fnExactRouteLengthSpec)

/-- ITS FALSE NEIGHBOUR: 'it returns false'. Refute it at one input. -/
def fnExactRouteLengthWrong : ChangeSpec := { name := "fnExactRouteLength", fn := fun _ => fun
  | [d] => { results := [.lit (.bool false)], args := [d] }
  | _ => none }
def FnExactRouteLengthWrongFalsely : Prop := fnExactRouteLengthRow.holds Try.pinned (OpenSpec.ofChange fnExactRouteLengthWrong)

/-- 'laws.FnExactShortestRoute': WHATEVER THE INPUT: true; the input reads as it did. -/
def fnExactShortestRouteSpec : ChangeSpec := { name := "fnExactShortestRoute", fn := fun _ => fun
  | [d] => { results := [.lit (.bool true)], args := [d] }
  | _ => none }
def fnExactShortestRouteRow : OpenClaim := { program := "ytbggbgfmahnjkaa", sum := "cb47abd7f91ba3f5707e7a8a596ad2da4a582d3af10e1750ecdd094b4318b276", func := "loop.example/g01055/laws.FnExactShortestRoute", spec := "fnExactShortestRoute", unfollowed := true, recurses := true, apart := false }
def FnExactShortestRouteSaid : Prop := fnExactShortestRouteRow.holds Try.pinned (OpenSpec.ofChange fnExactShortestRouteSpec)

/-- ITS FALSE NEIGHBOUR: 'it returns false'. Refute it at one input. -/
def fnExactShortestRouteWrong : ChangeSpec := { name := "fnExactShortestRoute", fn := fun _ => fun
  | [d] => { results := [.lit (.bool false)], args := [d] }
  | _ => none }
def FnExactShortestRouteWrongFalsely : Prop := fnExactShortestRouteRow.holds Try.pinned (OpenSpec.ofChange fnExactShortestRouteWrong)

/-- 'laws.FnExactMiddleSpot': WHATEVER THE INPUT: true; the input reads as it did. -/
def fnExactMiddleSpotSpec : ChangeSpec := { name := "fnExactMiddleSpot", fn := fun _ => fun
  | [d] => { results := [.lit (.bool true)], args := [d] }
  | _ => none }
def fnExactMiddleSpotRow : OpenClaim := { program := "ytbggbgfmahnjkaa", sum := "cb47abd7f91ba3f5707e7a8a596ad2da4a582d3af10e1750ecdd094b4318b276", func := "loop.example/g01055/laws.FnExactMiddleSpot", spec := "fnExactMiddleSpot", unfollowed := true, recurses := true, apart := false }
def FnExactMiddleSpotSaid : Prop := fnExactMiddleSpotRow.holds Try.pinned (OpenSpec.ofChange fnExactMiddleSpotSpec)

/-- ITS FALSE NEIGHBOUR: 'it returns false'. Refute it at one input. -/
def fnExactMiddleSpotWrong : ChangeSpec := { name := "fnExactMiddleSpot", fn := fun _ => fun
  | [d] => { results := [.lit (.bool false)], args := [d] }
  | _ => none }
def FnExactMiddleSpotWrongFalsely : Prop := fnExactMiddleSpotRow.holds Try.pinned (OpenSpec.ofChange fnExactMiddleSpotWrong)

/-- 'laws.FnExactDistanceTable': WHATEVER THE INPUT: true; the input reads as it did. -/
def fnExactDistanceTableSpec : ChangeSpec := { name := "fnExactDistanceTable", fn := fun _ => fun
  | [d] => { results := [.lit (.bool true)], args := [d] }
  | _ => none }
def fnExactDistanceTableRow : OpenClaim := { program := "ytbggbgfmahnjkaa", sum := "cb47abd7f91ba3f5707e7a8a596ad2da4a582d3af10e1750ecdd094b4318b276", func := "loop.example/g01055/laws.FnExactDistanceTable", spec := "fnExactDistanceTable", unfollowed := true, recurses := true, apart := false }
def FnExactDistanceTableSaid : Prop := fnExactDistanceTableRow.holds Try.pinned (OpenSpec.ofChange fnExactDistanceTableSpec)

/-- ITS FALSE NEIGHBOUR: 'it returns false'. Refute it at one input. -/
def fnExactDistanceTableWrong : ChangeSpec := { name := "fnExactDistanceTable", fn := fun _ => fun
  | [d] => { results := [.lit (.bool false)], args := [d] }
  | _ => none }
def FnExactDistanceTableWrongFalsely : Prop := fnExactDistanceTableRow.holds Try.pinned (OpenSpec.ofChange fnExactDistanceTableWrong)

/- THE SECOND FORM. 'bulk': how many values and letters a reading holds, each counted each time it is reached (what is shared counts as often as it is met; a slice's spare places count too). A statement '..UptoSaid' is the law's where the arguments, and the package variables that the reading takes, are together of bulk at most 1048576: NARROWER than '..Said'. Prove '..Said' where nothing that the law and all that it calls make is longer than what came in: it says more and counts as full. Else prove '..UptoSaid'. A law counts once. -/
mutual
def uptoBulk {H : Type} : DataW H → Nat
  | .lit (.string bytes) => bytes.length + 1
  | .lit _ => 1
  | .nil => 1
  | .ptr d => uptoBulk d + 1
  | .slice elems spare => uptoBulkAll elems + uptoBulkAll spare + 1
  | .agg parts => uptoBulkAll parts + 1
  | .iface _ d => uptoBulk d + 1
  | .map entries => uptoBulkEntries entries + 1
  | .held _ => 1
def uptoBulkAll {H : Type} : List (DataW H) → Nat
  | [] => 0
  | d :: r => uptoBulk d + uptoBulkAll r
def uptoBulkEntries {H : Type} : List (Lit × DataW H) → Nat
  | [] => 0
  | x :: r => uptoBulkEntry x + uptoBulkEntries r
def uptoBulkEntry {H : Type} : Lit × DataW H → Nat
  | (.string bytes, d) => bytes.length + uptoBulk d + 1
  | (_, d) => uptoBulk d + 1
 end
def uptoSmall : (H : Type) → List (DataW H) → Bool := fun _ ds => decide (uptoBulkAll ds ≤ 1048576)
def OpenSpec.upto (s : _root_.Go.ChangeSpec) : _root_.Go.OpenSpec := { _root_.Go.OpenSpec.ofChange s with cond := some uptoSmall }

/-- 'laws.FnDistances', WHERE WHAT IT READS IS OF BULK AT MOST 1048576: true; the input reads as it did. -/
def fnDistancesUptoRow : OpenClaim := { program := "ytbggbgfmahnjkaa", sum := "cb47abd7f91ba3f5707e7a8a596ad2da4a582d3af10e1750ecdd094b4318b276", func := "loop.example/g01055/laws.FnDistances", spec := "fnDistances", unfollowed := true, recurses := true, apart := false, narrowed := true }
def FnDistancesUptoSaid : Prop := fnDistancesUptoRow.holds Try.pinned (OpenSpec.upto fnDistancesSpec)

/-- 'laws.FnSpotRoutes', WHERE WHAT IT READS IS OF BULK AT MOST 1048576: true; the input reads as it did. -/
def fnSpotRoutesUptoRow : OpenClaim := { program := "ytbggbgfmahnjkaa", sum := "cb47abd7f91ba3f5707e7a8a596ad2da4a582d3af10e1750ecdd094b4318b276", func := "loop.example/g01055/laws.FnSpotRoutes", spec := "fnSpotRoutes", unfollowed := true, recurses := true, apart := false, narrowed := true }
def FnSpotRoutesUptoSaid : Prop := fnSpotRoutesUptoRow.holds Try.pinned (OpenSpec.upto fnSpotRoutesSpec)

/-- 'laws.FnExactCosDistance', WHERE WHAT IT READS IS OF BULK AT MOST 1048576: true; the input reads as it did. -/
def fnExactCosDistanceUptoRow : OpenClaim := { program := "ytbggbgfmahnjkaa", sum := "cb47abd7f91ba3f5707e7a8a596ad2da4a582d3af10e1750ecdd094b4318b276", func := "loop.example/g01055/laws.FnExactCosDistance", spec := "fnExactCosDistance", unfollowed := true, recurses := true, apart := false, narrowed := true }
def FnExactCosDistanceUptoSaid : Prop := fnExactCosDistanceUptoRow.holds Try.pinned (OpenSpec.upto fnExactCosDistanceSpec)

/-- 'laws.FnExactDistanceOf', WHERE WHAT IT READS IS OF BULK AT MOST 1048576: true; the input reads as it did. -/
def fnExactDistanceOfUptoRow : OpenClaim := { program := "ytbggbgfmahnjkaa", sum := "cb47abd7f91ba3f5707e7a8a596ad2da4a582d3af10e1750ecdd094b4318b276", func := "loop.example/g01055/laws.FnExactDistanceOf", spec := "fnExactDistanceOf", unfollowed := true, recurses := true, apart := false, narrowed := true }
def FnExactDistanceOfUptoSaid : Prop := fnExactDistanceOfUptoRow.holds Try.pinned (OpenSpec.upto fnExactDistanceOfSpec)

/-- 'laws.FnExactNearestSpot', WHERE WHAT IT READS IS OF BULK AT MOST 1048576: true; the input reads as it did. -/
def fnExactNearestSpotUptoRow : OpenClaim := { program := "ytbggbgfmahnjkaa", sum := "cb47abd7f91ba3f5707e7a8a596ad2da4a582d3af10e1750ecdd094b4318b276", func := "loop.example/g01055/laws.FnExactNearestSpot", spec := "fnExactNearestSpot", unfollowed := true, recurses := true, apart := false, narrowed := true }
def FnExactNearestSpotUptoSaid : Prop := fnExactNearestSpotUptoRow.holds Try.pinned (OpenSpec.upto fnExactNearestSpotSpec)

/-- 'laws.FnExactSpotsWithin', WHERE WHAT IT READS IS OF BULK AT MOST 1048576: true; the input reads as it did. -/
def fnExactSpotsWithinUptoRow : OpenClaim := { program := "ytbggbgfmahnjkaa", sum := "cb47abd7f91ba3f5707e7a8a596ad2da4a582d3af10e1750ecdd094b4318b276", func := "loop.example/g01055/laws.FnExactSpotsWithin", spec := "fnExactSpotsWithin", unfollowed := true, recurses := true, apart := false, narrowed := true }
def FnExactSpotsWithinUptoSaid : Prop := fnExactSpotsWithinUptoRow.holds Try.pinned (OpenSpec.upto fnExactSpotsWithinSpec)

/-- 'laws.FnExactFarthestPair', WHERE WHAT IT READS IS OF BULK AT MOST 1048576: true; the input reads as it did. -/
def fnExactFarthestPairUptoRow : OpenClaim := { program := "ytbggbgfmahnjkaa", sum := "cb47abd7f91ba3f5707e7a8a596ad2da4a582d3af10e1750ecdd094b4318b276", func := "loop.example/g01055/laws.FnExactFarthestPair", spec := "fnExactFarthestPair", unfollowed := true, recurses := true, apart := false, narrowed := true }
def FnExactFarthestPairUptoSaid : Prop := fnExactFarthestPairUptoRow.holds Try.pinned (OpenSpec.upto fnExactFarthestPairSpec)

/-- 'laws.FnExactRouteLength', WHERE WHAT IT READS IS OF BULK AT MOST 1048576: true; the input reads as it did. -/
def fnExactRouteLengthUptoRow : OpenClaim := { program := "ytbggbgfmahnjkaa", sum := "cb47abd7f91ba3f5707e7a8a596ad2da4a582d3af10e1750ecdd094b4318b276", func := "loop.example/g01055/laws.FnExactRouteLength", spec := "fnExactRouteLength", unfollowed := true, recurses := true, apart := false, narrowed := true }
def FnExactRouteLengthUptoSaid : Prop := fnExactRouteLengthUptoRow.holds Try.pinned (OpenSpec.upto fnExactRouteLengthSpec)

/-- 'laws.FnExactShortestRoute', WHERE WHAT IT READS IS OF BULK AT MOST 1048576: true; the input reads as it did. -/
def fnExactShortestRouteUptoRow : OpenClaim := { program := "ytbggbgfmahnjkaa", sum := "cb47abd7f91ba3f5707e7a8a596ad2da4a582d3af10e1750ecdd094b4318b276", func := "loop.example/g01055/laws.FnExactShortestRoute", spec := "fnExactShortestRoute", unfollowed := true, recurses := true, apart := false, narrowed := true }
def FnExactShortestRouteUptoSaid : Prop := fnExactShortestRouteUptoRow.holds Try.pinned (OpenSpec.upto fnExactShortestRouteSpec)

/-- 'laws.FnExactMiddleSpot', WHERE WHAT IT READS IS OF BULK AT MOST 1048576: true; the input reads as it did. -/
def fnExactMiddleSpotUptoRow : OpenClaim := { program := "ytbggbgfmahnjkaa", sum := "cb47abd7f91ba3f5707e7a8a596ad2da4a582d3af10e1750ecdd094b4318b276", func := "loop.example/g01055/laws.FnExactMiddleSpot", spec := "fnExactMiddleSpot", unfollowed := true, recurses := true, apart := false, narrowed := true }
def FnExactMiddleSpotUptoSaid : Prop := fnExactMiddleSpotUptoRow.holds Try.pinned (OpenSpec.upto fnExactMiddleSpotSpec)

/-- 'laws.FnExactDistanceTable', WHERE WHAT IT READS IS OF BULK AT MOST 1048576: true; the input reads as it did. -/
def fnExactDistanceTableUptoRow : OpenClaim := { program := "ytbggbgfmahnjkaa", sum := "cb47abd7f91ba3f5707e7a8a596ad2da4a582d3af10e1750ecdd094b4318b276", func := "loop.example/g01055/laws.FnExactDistanceTable", spec := "fnExactDistanceTable", unfollowed := true, recurses := true, apart := false, narrowed := true }
def FnExactDistanceTableUptoSaid : Prop := fnExactDistanceTableUptoRow.holds Try.pinned (OpenSpec.upto fnExactDistanceTableSpec)

end Rows
end Go.Proofs.Ytbggbgfmahnjkaa
