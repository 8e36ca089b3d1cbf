/-
  No cell of these rows narrows 'for every input' (looked for: loops, veiled, ifaces, maps, wideKeys, modest, calm, conditions, laid).
  DERIVED. THE GIVEN ROWS OF THIS SEAT. 13 by the template 'for every input the law returns true; each argument reads behind the call as it read before'; 0 by the template 'total and deterministic' (their statements: YtmfjpmimkpldjaaTotals.lean).
  GIVEN WITH THE SEED: the statements are not yours to turn. If you find one false, say at which input.
  Laid BY PROGRAM, IN A SANDBOX (cutbox-rows.mjs): the forced cells as the released guide's own fill.sh prints them over the translation f7f4fb6acbacac18… (all of the seat's roots in one cut). By AI agents, Wed Nov 11 2026. No macro, syntax, notation, axiom, sorry.
-/
import Derived.Test.YtmfjpmimkpldjaaChecked
import GoSem.Claim
import GoSem.ClaimJoined
import GoSem.ClaimMapViews
import Derived.JoinedTies
import Derived.KernelRfl
namespace Go.Proofs.Ytmfjpmimkpldjaa
/- THE CELL 'sum', in the pinned program and in every row, IS THE sha256 OF THE DUMP (.gsa) THAT YtmfjpmimkpldjaaProg.lean LOADS. Nothing in Lean hashes anything: it is a label: what it is worth is what the hold of that sum in a sandbox is worth. -/
noncomputable def Try.pinned : Pinned := { name := "ytmfjpmimkpldjaa", sum := "f7f4fb6acbacac18f56ef415c219b2006e135fe99b5d5b8dfda4b67ea86d7e7c", checked := Try.checked }
namespace Rows
def none {H : Type} : Left H := { results := [], args := [] }

/-- 'laws.FnLabels': WHATEVER THE INPUT: true; the input reads as it did. -/
def fnLabelsSpec : ChangeSpec := { name := "fnLabels", fn := fun _ => fun
  | [d] => { results := [.lit (.bool true)], args := [d] }
  | _ => none }
def fnLabelsRow : OpenClaim := { program := "ytmfjpmimkpldjaa", sum := "f7f4fb6acbacac18f56ef415c219b2006e135fe99b5d5b8dfda4b67ea86d7e7c", func := "loop.example/g01055/laws.FnLabels", spec := "fnLabels", inPlace := ["internal/reflectlite.ValueOf", "internal/reflectlite.Swapper", "(internal/reflectlite.Value).Len"], unfollowed := true, recurses := true, plainKeys := false, apart := false }
def FnLabelsSaid : Prop := fnLabelsRow.holds Try.pinned (OpenSpec.ofChange fnLabelsSpec)

/-- ITS FALSE NEIGHBOUR: 'it returns false'. Refute it at one input. -/
def fnLabelsWrong : ChangeSpec := { name := "fnLabels", fn := fun _ => fun
  | [d] => { results := [.lit (.bool false)], args := [d] }
  | _ => none }
def FnLabelsWrongFalsely : Prop := fnLabelsRow.holds Try.pinned (OpenSpec.ofChange fnLabelsWrong)

/-- 'laws.FnLabelsMeet': WHATEVER THE INPUT: true; the input reads as it did. -/
def fnLabelsMeetSpec : ChangeSpec := { name := "fnLabelsMeet", fn := fun _ => fun
  | [d1, d2] => { results := [.lit (.bool true)], args := [d1, d2] }
  | _ => none }
def fnLabelsMeetRow : OpenClaim := { program := "ytmfjpmimkpldjaa", sum := "f7f4fb6acbacac18f56ef415c219b2006e135fe99b5d5b8dfda4b67ea86d7e7c", func := "loop.example/g01055/laws.FnLabelsMeet", spec := "fnLabelsMeet", unfollowed := true, recurses := true, plainKeys := false, apart := false }
def FnLabelsMeetSaid : Prop := fnLabelsMeetRow.holds Try.pinned (OpenSpec.ofChange fnLabelsMeetSpec)

/-- ITS FALSE NEIGHBOUR: 'it returns false'. Refute it at one input. -/
def fnLabelsMeetWrong : ChangeSpec := { name := "fnLabelsMeet", fn := fun _ => fun
  | [d1, d2] => { results := [.lit (.bool false)], args := [d1, d2] }
  | _ => none }
def FnLabelsMeetWrongFalsely : Prop := fnLabelsMeetRow.holds Try.pinned (OpenSpec.ofChange fnLabelsMeetWrong)

/-- 'laws.FnJoined': WHATEVER THE INPUT: true; the input reads as it did. -/
def fnJoinedSpec : ChangeSpec := { name := "fnJoined", fn := fun _ => fun
  | [d] => { results := [.lit (.bool true)], args := [d] }
  | _ => none }
def fnJoinedRow : OpenClaim := { program := "ytmfjpmimkpldjaa", sum := "f7f4fb6acbacac18f56ef415c219b2006e135fe99b5d5b8dfda4b67ea86d7e7c", func := "loop.example/g01055/laws.FnJoined", spec := "fnJoined", unfollowed := true, recurses := true, plainKeys := false, apart := false }
def FnJoinedSaid : Prop := fnJoinedRow.holds Try.pinned (OpenSpec.ofChange fnJoinedSpec)

/-- ITS FALSE NEIGHBOUR: 'it returns false'. Refute it at one input. -/
def fnJoinedWrong : ChangeSpec := { name := "fnJoined", fn := fun _ => fun
  | [d] => { results := [.lit (.bool false)], args := [d] }
  | _ => none }
def FnJoinedWrongFalsely : Prop := fnJoinedRow.holds Try.pinned (OpenSpec.ofChange fnJoinedWrong)

/-- 'laws.FnExactJoinAll': WHATEVER THE INPUT: true; the input reads as it did. -/
def fnExactJoinAllSpec : ChangeSpec := { name := "fnExactJoinAll", fn := fun _ => fun
  | [d] => { results := [.lit (.bool true)], args := [d] }
  | _ => none }
def fnExactJoinAllRow : OpenClaim := { program := "ytmfjpmimkpldjaa", sum := "f7f4fb6acbacac18f56ef415c219b2006e135fe99b5d5b8dfda4b67ea86d7e7c", func := "loop.example/g01055/laws.FnExactJoinAll", spec := "fnExactJoinAll", unfollowed := true, recurses := true, plainKeys := false, apart := false }
def FnExactJoinAllSaid : Prop := fnExactJoinAllRow.holds Try.pinned (OpenSpec.ofChange fnExactJoinAllSpec)

/-- ITS FALSE NEIGHBOUR: 'it returns false'. Refute it at one input. -/
def fnExactJoinAllWrong : ChangeSpec := { name := "fnExactJoinAll", fn := fun _ => fun
  | [d] => { results := [.lit (.bool false)], args := [d] }
  | _ => none }
def FnExactJoinAllWrongFalsely : Prop := fnExactJoinAllRow.holds Try.pinned (OpenSpec.ofChange fnExactJoinAllWrong)

/-- 'laws.FnExactLooseEnds': WHATEVER THE INPUT: true; the input reads as it did. -/
def fnExactLooseEndsSpec : ChangeSpec := { name := "fnExactLooseEnds", fn := fun _ => fun
  | [d] => { results := [.lit (.bool true)], args := [d] }
  | _ => none }
def fnExactLooseEndsRow : OpenClaim := { program := "ytmfjpmimkpldjaa", sum := "f7f4fb6acbacac18f56ef415c219b2006e135fe99b5d5b8dfda4b67ea86d7e7c", func := "loop.example/g01055/laws.FnExactLooseEnds", spec := "fnExactLooseEnds", unfollowed := true, recurses := true, plainKeys := false, apart := false }
def FnExactLooseEndsSaid : Prop := fnExactLooseEndsRow.holds Try.pinned (OpenSpec.ofChange fnExactLooseEndsSpec)

/-- ITS FALSE NEIGHBOUR: 'it returns false'. Refute it at one input. -/
def fnExactLooseEndsWrong : ChangeSpec := { name := "fnExactLooseEnds", fn := fun _ => fun
  | [d] => { results := [.lit (.bool false)], args := [d] }
  | _ => none }
def FnExactLooseEndsWrongFalsely : Prop := fnExactLooseEndsRow.holds Try.pinned (OpenSpec.ofChange fnExactLooseEndsWrong)

/-- 'laws.FnExactValidLabels': WHATEVER THE INPUT: true; the input reads as it did. -/
def fnExactValidLabelsSpec : ChangeSpec := { name := "fnExactValidLabels", fn := fun _ => fun
  | [d] => { results := [.lit (.bool true)], args := [d] }
  | _ => none }
def fnExactValidLabelsRow : OpenClaim := { program := "ytmfjpmimkpldjaa", sum := "f7f4fb6acbacac18f56ef415c219b2006e135fe99b5d5b8dfda4b67ea86d7e7c", func := "loop.example/g01055/laws.FnExactValidLabels", spec := "fnExactValidLabels", plainKeys := false, apart := false }
def FnExactValidLabelsSaid : Prop := fnExactValidLabelsRow.holds Try.pinned (OpenSpec.ofChange fnExactValidLabelsSpec)

/-- ITS FALSE NEIGHBOUR: 'it returns false'. Refute it at one input. -/
def fnExactValidLabelsWrong : ChangeSpec := { name := "fnExactValidLabels", fn := fun _ => fun
  | [d] => { results := [.lit (.bool false)], args := [d] }
  | _ => none }
def FnExactValidLabelsWrongFalsely : Prop := fnExactValidLabelsRow.holds Try.pinned (OpenSpec.ofChange fnExactValidLabelsWrong)

/-- 'laws.FnExactLabelsMeet': WHATEVER THE INPUT: true; the input reads as it did. -/
def fnExactLabelsMeetSpec : ChangeSpec := { name := "fnExactLabelsMeet", fn := fun _ => fun
  | [d1, d2, d3, d4] => { results := [.lit (.bool true)], args := [d1, d2, d3, d4] }
  | _ => none }
def fnExactLabelsMeetRow : OpenClaim := { program := "ytmfjpmimkpldjaa", sum := "f7f4fb6acbacac18f56ef415c219b2006e135fe99b5d5b8dfda4b67ea86d7e7c", func := "loop.example/g01055/laws.FnExactLabelsMeet", spec := "fnExactLabelsMeet", plainKeys := false, apart := false }
def FnExactLabelsMeetSaid : Prop := fnExactLabelsMeetRow.holds Try.pinned (OpenSpec.ofChange fnExactLabelsMeetSpec)

/-- ITS FALSE NEIGHBOUR: 'it returns false'. Refute it at one input. -/
def fnExactLabelsMeetWrong : ChangeSpec := { name := "fnExactLabelsMeet", fn := fun _ => fun
  | [d1, d2, d3, d4] => { results := [.lit (.bool false)], args := [d1, d2, d3, d4] }
  | _ => none }
def FnExactLabelsMeetWrongFalsely : Prop := fnExactLabelsMeetRow.holds Try.pinned (OpenSpec.ofChange fnExactLabelsMeetWrong)

/-- 'laws.FnExactPlacesFault': WHATEVER THE INPUT: true; the input reads as it did. -/
def fnExactPlacesFaultSpec : ChangeSpec := { name := "fnExactPlacesFault", fn := fun _ => fun
  | [d1, d2] => { results := [.lit (.bool true)], args := [d1, d2] }
  | _ => none }
def fnExactPlacesFaultRow : OpenClaim := { program := "ytmfjpmimkpldjaa", sum := "f7f4fb6acbacac18f56ef415c219b2006e135fe99b5d5b8dfda4b67ea86d7e7c", func := "loop.example/g01055/laws.FnExactPlacesFault", spec := "fnExactPlacesFault", unfollowed := true, recurses := true, plainKeys := false, apart := false }
def FnExactPlacesFaultSaid : Prop := fnExactPlacesFaultRow.holds Try.pinned (OpenSpec.ofChange fnExactPlacesFaultSpec)

/-- ITS FALSE NEIGHBOUR: 'it returns false'. Refute it at one input. -/
def fnExactPlacesFaultWrong : ChangeSpec := { name := "fnExactPlacesFault", fn := fun _ => fun
  | [d1, d2] => { results := [.lit (.bool false)], args := [d1, d2] }
  | _ => none }
def FnExactPlacesFaultWrongFalsely : Prop := fnExactPlacesFaultRow.holds Try.pinned (OpenSpec.ofChange fnExactPlacesFaultWrong)

/-- 'laws.FnExactWeightPlaced': WHATEVER THE INPUT: true; the input reads as it did. -/
def fnExactWeightPlacedSpec : ChangeSpec := { name := "fnExactWeightPlaced", fn := fun _ => fun
  | [d1, d2] => { results := [.lit (.bool true)], args := [d1, d2] }
  | _ => none }
def fnExactWeightPlacedRow : OpenClaim := { program := "ytmfjpmimkpldjaa", sum := "f7f4fb6acbacac18f56ef415c219b2006e135fe99b5d5b8dfda4b67ea86d7e7c", func := "loop.example/g01055/laws.FnExactWeightPlaced", spec := "fnExactWeightPlaced", unfollowed := true, recurses := true, plainKeys := false, apart := false }
def FnExactWeightPlacedSaid : Prop := fnExactWeightPlacedRow.holds Try.pinned (OpenSpec.ofChange fnExactWeightPlacedSpec)

/-- ITS FALSE NEIGHBOUR: 'it returns false'. Refute it at one input. -/
def fnExactWeightPlacedWrong : ChangeSpec := { name := "fnExactWeightPlaced", fn := fun _ => fun
  | [d1, d2] => { results := [.lit (.bool false)], args := [d1, d2] }
  | _ => none }
def FnExactWeightPlacedWrongFalsely : Prop := fnExactWeightPlacedRow.holds Try.pinned (OpenSpec.ofChange fnExactWeightPlacedWrong)

/-- 'laws.FnExactBestPlaces': WHATEVER THE INPUT: true; the input reads as it did. -/
def fnExactBestPlacesSpec : ChangeSpec := { name := "fnExactBestPlaces", fn := fun _ => fun
  | [d] => { results := [.lit (.bool true)], args := [d] }
  | _ => none }
def fnExactBestPlacesRow : OpenClaim := { program := "ytmfjpmimkpldjaa", sum := "f7f4fb6acbacac18f56ef415c219b2006e135fe99b5d5b8dfda4b67ea86d7e7c", func := "loop.example/g01055/laws.FnExactBestPlaces", spec := "fnExactBestPlaces", unfollowed := true, recurses := true, plainKeys := false, apart := false }
def FnExactBestPlacesSaid : Prop := fnExactBestPlacesRow.holds Try.pinned (OpenSpec.ofChange fnExactBestPlacesSpec)

/-- ITS FALSE NEIGHBOUR: 'it returns false'. Refute it at one input. -/
def fnExactBestPlacesWrong : ChangeSpec := { name := "fnExactBestPlaces", fn := fun _ => fun
  | [d] => { results := [.lit (.bool false)], args := [d] }
  | _ => none }
def FnExactBestPlacesWrongFalsely : Prop := fnExactBestPlacesRow.holds Try.pinned (OpenSpec.ofChange fnExactBestPlacesWrong)

/-- 'laws.FnExactGreedyPlaces': WHATEVER THE INPUT: true; the input reads as it did. -/
def fnExactGreedyPlacesSpec : ChangeSpec := { name := "fnExactGreedyPlaces", fn := fun _ => fun
  | [d] => { results := [.lit (.bool true)], args := [d] }
  | _ => none }
def fnExactGreedyPlacesRow : OpenClaim := { program := "ytmfjpmimkpldjaa", sum := "f7f4fb6acbacac18f56ef415c219b2006e135fe99b5d5b8dfda4b67ea86d7e7c", func := "loop.example/g01055/laws.FnExactGreedyPlaces", spec := "fnExactGreedyPlaces", inPlace := ["internal/reflectlite.ValueOf", "internal/reflectlite.Swapper", "(internal/reflectlite.Value).Len"], unfollowed := true, recurses := true, plainKeys := false, apart := false }
def FnExactGreedyPlacesSaid : Prop := fnExactGreedyPlacesRow.holds Try.pinned (OpenSpec.ofChange fnExactGreedyPlacesSpec)

/-- ITS FALSE NEIGHBOUR: 'it returns false'. Refute it at one input. -/
def fnExactGreedyPlacesWrong : ChangeSpec := { name := "fnExactGreedyPlaces", fn := fun _ => fun
  | [d] => { results := [.lit (.bool false)], args := [d] }
  | _ => none }
def FnExactGreedyPlacesWrongFalsely : Prop := fnExactGreedyPlacesRow.holds Try.pinned (OpenSpec.ofChange fnExactGreedyPlacesWrong)

/-- 'laws.FnExactLeftOut': WHATEVER THE INPUT: true; the input reads as it did. -/
def fnExactLeftOutSpec : ChangeSpec := { name := "fnExactLeftOut", fn := fun _ => fun
  | [d1, d2] => { results := [.lit (.bool true)], args := [d1, d2] }
  | _ => none }
def fnExactLeftOutRow : OpenClaim := { program := "ytmfjpmimkpldjaa", sum := "f7f4fb6acbacac18f56ef415c219b2006e135fe99b5d5b8dfda4b67ea86d7e7c", func := "loop.example/g01055/laws.FnExactLeftOut", spec := "fnExactLeftOut", plainKeys := false, apart := false }
def FnExactLeftOutSaid : Prop := fnExactLeftOutRow.holds Try.pinned (OpenSpec.ofChange fnExactLeftOutSpec)

/-- ITS FALSE NEIGHBOUR: 'it returns false'. Refute it at one input. -/
def fnExactLeftOutWrong : ChangeSpec := { name := "fnExactLeftOut", fn := fun _ => fun
  | [d1, d2] => { results := [.lit (.bool false)], args := [d1, d2] }
  | _ => none }
def FnExactLeftOutWrongFalsely : Prop := fnExactLeftOutRow.holds Try.pinned (OpenSpec.ofChange fnExactLeftOutWrong)

/-- 'laws.FnExactRowFill': WHATEVER THE INPUT: true; the input reads as it did. -/
def fnExactRowFillSpec : ChangeSpec := { name := "fnExactRowFill", fn := fun _ => fun
  | [d1, d2, d3] => { results := [.lit (.bool true)], args := [d1, d2, d3] }
  | _ => none }
def fnExactRowFillRow : OpenClaim := { program := "ytmfjpmimkpldjaa", sum := "f7f4fb6acbacac18f56ef415c219b2006e135fe99b5d5b8dfda4b67ea86d7e7c", func := "loop.example/g01055/laws.FnExactRowFill", spec := "fnExactRowFill", unfollowed := true, recurses := true, plainKeys := false, apart := false }
def FnExactRowFillSaid : Prop := fnExactRowFillRow.holds Try.pinned (OpenSpec.ofChange fnExactRowFillSpec)

/-- ITS FALSE NEIGHBOUR: 'it returns false'. Refute it at one input. -/
def fnExactRowFillWrong : ChangeSpec := { name := "fnExactRowFill", fn := fun _ => fun
  | [d1, d2, d3] => { results := [.lit (.bool false)], args := [d1, d2, d3] }
  | _ => none }
def FnExactRowFillWrongFalsely : Prop := fnExactRowFillRow.holds Try.pinned (OpenSpec.ofChange fnExactRowFillWrong)

/- THE SECOND FORM. 'bulk': how many values and letters a reading holds, each counted each time it is reached (what is shared counts as often as it is met; a slice's spare places count too). A statement '..UptoSaid' is the law's where the arguments, and the package variables that the reading takes, are together of bulk at most 1048576: NARROWER than '..Said'. Prove '..Said' where nothing that the law and all that it calls make is longer than what came in: it says more and counts as full. Else prove '..UptoSaid'. A law counts once. -/
mutual
def uptoBulk {H : Type} : DataW H → Nat
  | .lit (.string bytes) => bytes.length + 1
  | .lit _ => 1
  | .nil => 1
  | .ptr d => uptoBulk d + 1
  | .slice elems spare => uptoBulkAll elems + uptoBulkAll spare + 1
  | .agg parts => uptoBulkAll parts + 1
  | .iface _ d => uptoBulk d + 1
  | .map entries => uptoBulkEntries entries + 1
  | .held _ => 1
def uptoBulkAll {H : Type} : List (DataW H) → Nat
  | [] => 0
  | d :: r => uptoBulk d + uptoBulkAll r
def uptoBulkEntries {H : Type} : List (Lit × DataW H) → Nat
  | [] => 0
  | x :: r => uptoBulkEntry x + uptoBulkEntries r
def uptoBulkEntry {H : Type} : Lit × DataW H → Nat
  | (.string bytes, d) => bytes.length + uptoBulk d + 1
  | (_, d) => uptoBulk d + 1
 end
def uptoSmall : (H : Type) → List (DataW H) → Bool := fun _ ds => decide (uptoBulkAll ds ≤ 1048576)
def OpenSpec.upto (s : _root_.Go.ChangeSpec) : _root_.Go.OpenSpec := { _root_.Go.OpenSpec.ofChange s with cond := some uptoSmall }

/-- 'laws.FnLabels', WHERE WHAT IT READS IS OF BULK AT MOST 1048576: true; the input reads as it did. -/
def fnLabelsUptoRow : OpenClaim := { program := "ytmfjpmimkpldjaa", sum := "f7f4fb6acbacac18f56ef415c219b2006e135fe99b5d5b8dfda4b67ea86d7e7c", func := "loop.example/g01055/laws.FnLabels", spec := "fnLabels", inPlace := ["internal/reflectlite.ValueOf", "internal/reflectlite.Swapper", "(internal/reflectlite.Value).Len"], unfollowed := true, recurses := true, plainKeys := false, apart := false, narrowed := true }
def FnLabelsUptoSaid : Prop := fnLabelsUptoRow.holds Try.pinned (OpenSpec.upto fnLabelsSpec)

/-- 'laws.FnLabelsMeet', WHERE WHAT IT READS IS OF BULK AT MOST 1048576: true; the input reads as it did. -/
def fnLabelsMeetUptoRow : OpenClaim := { program := "ytmfjpmimkpldjaa", sum := "f7f4fb6acbacac18f56ef415c219b2006e135fe99b5d5b8dfda4b67ea86d7e7c", func := "loop.example/g01055/laws.FnLabelsMeet", spec := "fnLabelsMeet", unfollowed := true, recurses := true, plainKeys := false, apart := false, narrowed := true }
def FnLabelsMeetUptoSaid : Prop := fnLabelsMeetUptoRow.holds Try.pinned (OpenSpec.upto fnLabelsMeetSpec)

/-- 'laws.FnJoined', WHERE WHAT IT READS IS OF BULK AT MOST 1048576: true; the input reads as it did. -/
def fnJoinedUptoRow : OpenClaim := { program := "ytmfjpmimkpldjaa", sum := "f7f4fb6acbacac18f56ef415c219b2006e135fe99b5d5b8dfda4b67ea86d7e7c", func := "loop.example/g01055/laws.FnJoined", spec := "fnJoined", unfollowed := true, recurses := true, plainKeys := false, apart := false, narrowed := true }
def FnJoinedUptoSaid : Prop := fnJoinedUptoRow.holds Try.pinned (OpenSpec.upto fnJoinedSpec)

/-- 'laws.FnExactJoinAll', WHERE WHAT IT READS IS OF BULK AT MOST 1048576: true; the input reads as it did. -/
def fnExactJoinAllUptoRow : OpenClaim := { program := "ytmfjpmimkpldjaa", sum := "f7f4fb6acbacac18f56ef415c219b2006e135fe99b5d5b8dfda4b67ea86d7e7c", func := "loop.example/g01055/laws.FnExactJoinAll", spec := "fnExactJoinAll", unfollowed := true, recurses := true, plainKeys := false, apart := false, narrowed := true }
def FnExactJoinAllUptoSaid : Prop := fnExactJoinAllUptoRow.holds Try.pinned (OpenSpec.upto fnExactJoinAllSpec)

/-- 'laws.FnExactLooseEnds', WHERE WHAT IT READS IS OF BULK AT MOST 1048576: true; the input reads as it did. -/
def fnExactLooseEndsUptoRow : OpenClaim := { program := "ytmfjpmimkpldjaa", sum := "f7f4fb6acbacac18f56ef415c219b2006e135fe99b5d5b8dfda4b67ea86d7e7c", func := "loop.example/g01055/laws.FnExactLooseEnds", spec := "fnExactLooseEnds", unfollowed := true, recurses := true, plainKeys := false, apart := false, narrowed := true }
def FnExactLooseEndsUptoSaid : Prop := fnExactLooseEndsUptoRow.holds Try.pinned (OpenSpec.upto fnExactLooseEndsSpec)

/-- 'laws.FnExactValidLabels', WHERE WHAT IT READS IS OF BULK AT MOST 1048576: true; the input reads as it did. -/
def fnExactValidLabelsUptoRow : OpenClaim := { program := "ytmfjpmimkpldjaa", sum := "f7f4fb6acbacac18f56ef415c219b2006e135fe99b5d5b8dfda4b67ea86d7e7c", func := "loop.example/g01055/laws.FnExactValidLabels", spec := "fnExactValidLabels", plainKeys := false, apart := false, narrowed := true }
def FnExactValidLabelsUptoSaid : Prop := fnExactValidLabelsUptoRow.holds Try.pinned (OpenSpec.upto fnExactValidLabelsSpec)

/-- 'laws.FnExactLabelsMeet', WHERE WHAT IT READS IS OF BULK AT MOST 1048576: true; the input reads as it did. -/
def fnExactLabelsMeetUptoRow : OpenClaim := { program := "ytmfjpmimkpldjaa", sum := "f7f4fb6acbacac18f56ef415c219b2006e135fe99b5d5b8dfda4b67ea86d7e7c", func := "loop.example/g01055/laws.FnExactLabelsMeet", spec := "fnExactLabelsMeet", plainKeys := false, apart := false, narrowed := true }
def FnExactLabelsMeetUptoSaid : Prop := fnExactLabelsMeetUptoRow.holds Try.pinned (OpenSpec.upto fnExactLabelsMeetSpec)

/-- 'laws.FnExactPlacesFault', WHERE WHAT IT READS IS OF BULK AT MOST 1048576: true; the input reads as it did. -/
def fnExactPlacesFaultUptoRow : OpenClaim := { program := "ytmfjpmimkpldjaa", sum := "f7f4fb6acbacac18f56ef415c219b2006e135fe99b5d5b8dfda4b67ea86d7e7c", func := "loop.example/g01055/laws.FnExactPlacesFault", spec := "fnExactPlacesFault", unfollowed := true, recurses := true, plainKeys := false, apart := false, narrowed := true }
def FnExactPlacesFaultUptoSaid : Prop := fnExactPlacesFaultUptoRow.holds Try.pinned (OpenSpec.upto fnExactPlacesFaultSpec)

/-- 'laws.FnExactWeightPlaced', WHERE WHAT IT READS IS OF BULK AT MOST 1048576: true; the input reads as it did. -/
def fnExactWeightPlacedUptoRow : OpenClaim := { program := "ytmfjpmimkpldjaa", sum := "f7f4fb6acbacac18f56ef415c219b2006e135fe99b5d5b8dfda4b67ea86d7e7c", func := "loop.example/g01055/laws.FnExactWeightPlaced", spec := "fnExactWeightPlaced", unfollowed := true, recurses := true, plainKeys := false, apart := false, narrowed := true }
def FnExactWeightPlacedUptoSaid : Prop := fnExactWeightPlacedUptoRow.holds Try.pinned (OpenSpec.upto fnExactWeightPlacedSpec)

/-- 'laws.FnExactBestPlaces', WHERE WHAT IT READS IS OF BULK AT MOST 1048576: true; the input reads as it did. -/
def fnExactBestPlacesUptoRow : OpenClaim := { program := "ytmfjpmimkpldjaa", sum := "f7f4fb6acbacac18f56ef415c219b2006e135fe99b5d5b8dfda4b67ea86d7e7c", func := "loop.example/g01055/laws.FnExactBestPlaces", spec := "fnExactBestPlaces", unfollowed := true, recurses := true, plainKeys := false, apart := false, narrowed := true }
def FnExactBestPlacesUptoSaid : Prop := fnExactBestPlacesUptoRow.holds Try.pinned (OpenSpec.upto fnExactBestPlacesSpec)

/-- 'laws.FnExactGreedyPlaces', WHERE WHAT IT READS IS OF BULK AT MOST 1048576: true; the input reads as it did. -/
def fnExactGreedyPlacesUptoRow : OpenClaim := { program := "ytmfjpmimkpldjaa", sum := "f7f4fb6acbacac18f56ef415c219b2006e135fe99b5d5b8dfda4b67ea86d7e7c", func := "loop.example/g01055/laws.FnExactGreedyPlaces", spec := "fnExactGreedyPlaces", inPlace := ["internal/reflectlite.ValueOf", "internal/reflectlite.Swapper", "(internal/reflectlite.Value).Len"], unfollowed := true, recurses := true, plainKeys := false, apart := false, narrowed := true }
def FnExactGreedyPlacesUptoSaid : Prop := fnExactGreedyPlacesUptoRow.holds Try.pinned (OpenSpec.upto fnExactGreedyPlacesSpec)

/-- 'laws.FnExactLeftOut', WHERE WHAT IT READS IS OF BULK AT MOST 1048576: true; the input reads as it did. -/
def fnExactLeftOutUptoRow : OpenClaim := { program := "ytmfjpmimkpldjaa", sum := "f7f4fb6acbacac18f56ef415c219b2006e135fe99b5d5b8dfda4b67ea86d7e7c", func := "loop.example/g01055/laws.FnExactLeftOut", spec := "fnExactLeftOut", plainKeys := false, apart := false, narrowed := true }
def FnExactLeftOutUptoSaid : Prop := fnExactLeftOutUptoRow.holds Try.pinned (OpenSpec.upto fnExactLeftOutSpec)

/-- 'laws.FnExactRowFill', WHERE WHAT IT READS IS OF BULK AT MOST 1048576: true; the input reads as it did. -/
def fnExactRowFillUptoRow : OpenClaim := { program := "ytmfjpmimkpldjaa", sum := "f7f4fb6acbacac18f56ef415c219b2006e135fe99b5d5b8dfda4b67ea86d7e7c", func := "loop.example/g01055/laws.FnExactRowFill", spec := "fnExactRowFill", unfollowed := true, recurses := true, plainKeys := false, apart := false, narrowed := true }
def FnExactRowFillUptoSaid : Prop := fnExactRowFillUptoRow.holds Try.pinned (OpenSpec.upto fnExactRowFillSpec)

end Rows
end Go.Proofs.Ytmfjpmimkpldjaa
