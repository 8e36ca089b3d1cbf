/-
  No cell of these rows narrows 'for every input' (looked for: loops, veiled, ifaces, maps, wideKeys, modest, calm, conditions, laid).
  DERIVED. THE GIVEN ROWS OF THIS SEAT. 10 by the template 'for every input the law returns true; each argument reads behind the call as it read before'; 0 by the template 'total and deterministic' (their statements: YtkgjncgfdoifbaaTotals.lean).
  GIVEN WITH THE SEED: the statements are not yours to turn. If you find one false, say at which input.
  Laid BY PROGRAM, IN A SANDBOX (cutbox-rows.mjs): the forced cells as the released guide's own fill.sh prints them over the translation 22c5378cf1894329… (all of the seat's roots in one cut). By AI agents, Wed Nov 11 2026. No macro, syntax, notation, axiom, sorry.
-/
import Derived.Test.YtkgjncgfdoifbaaChecked
import GoSem.Claim
import GoSem.ClaimJoined
import GoSem.ClaimMapViews
import Derived.JoinedTies
import Derived.KernelRfl
namespace Go.Proofs.Ytkgjncgfdoifbaa
/- THE CELL 'sum', in the pinned program and in every row, IS THE sha256 OF THE DUMP (.gsa) THAT YtkgjncgfdoifbaaProg.lean LOADS. Nothing in Lean hashes anything: it is a label: what it is worth is what the hold of that sum in a sandbox is worth. -/
noncomputable def Try.pinned : Pinned := { name := "ytkgjncgfdoifbaa", sum := "22c5378cf189432946c492714e3d44b83eb6fb6a3b9def69682991064a60371c", checked := Try.checked }
namespace Rows
def none {H : Type} : Left H := { results := [], args := [] }

/-- 'laws.FnSineTables': WHATEVER THE INPUT: true; the input reads as it did. -/
def fnSineTablesSpec : ChangeSpec := { name := "fnSineTables", fn := fun _ => fun
  | [d1, d2] => { results := [.lit (.bool true)], args := [d1, d2] }
  | _ => none }
def fnSineTablesRow : OpenClaim := { program := "ytkgjncgfdoifbaa", sum := "22c5378cf189432946c492714e3d44b83eb6fb6a3b9def69682991064a60371c", func := "loop.example/g01055/laws.FnSineTables", spec := "fnSineTables", recurses := true, apart := false }
def FnSineTablesSaid : Prop := fnSineTablesRow.holds Try.pinned (OpenSpec.ofChange fnSineTablesSpec)

/-- ITS FALSE NEIGHBOUR: 'it returns false'. Refute it at one input. -/
def fnSineTablesWrong : ChangeSpec := { name := "fnSineTables", fn := fun _ => fun
  | [d1, d2] => { results := [.lit (.bool false)], args := [d1, d2] }
  | _ => none }
def FnSineTablesWrongFalsely : Prop := fnSineTablesRow.holds Try.pinned (OpenSpec.ofChange fnSineTablesWrong)

/-- 'laws.FnExactSineOf': WHATEVER THE INPUT: true; the input reads as it did. -/
def fnExactSineOfSpec : ChangeSpec := { name := "fnExactSineOf", fn := fun _ => fun
  | [d] => { results := [.lit (.bool true)], args := [d] }
  | _ => none }
def fnExactSineOfRow : OpenClaim := { program := "ytkgjncgfdoifbaa", sum := "22c5378cf189432946c492714e3d44b83eb6fb6a3b9def69682991064a60371c", func := "loop.example/g01055/laws.FnExactSineOf", spec := "fnExactSineOf", recurses := true, apart := false }
def FnExactSineOfSaid : Prop := fnExactSineOfRow.holds Try.pinned (OpenSpec.ofChange fnExactSineOfSpec)

/-- ITS FALSE NEIGHBOUR: 'it returns false'. Refute it at one input. -/
def fnExactSineOfWrong : ChangeSpec := { name := "fnExactSineOf", fn := fun _ => fun
  | [d] => { results := [.lit (.bool false)], args := [d] }
  | _ => none }
def FnExactSineOfWrongFalsely : Prop := fnExactSineOfRow.holds Try.pinned (OpenSpec.ofChange fnExactSineOfWrong)

/-- 'laws.FnExactCosineOf': WHATEVER THE INPUT: true; the input reads as it did. -/
def fnExactCosineOfSpec : ChangeSpec := { name := "fnExactCosineOf", fn := fun _ => fun
  | [d] => { results := [.lit (.bool true)], args := [d] }
  | _ => none }
def fnExactCosineOfRow : OpenClaim := { program := "ytkgjncgfdoifbaa", sum := "22c5378cf189432946c492714e3d44b83eb6fb6a3b9def69682991064a60371c", func := "loop.example/g01055/laws.FnExactCosineOf", spec := "fnExactCosineOf", recurses := true, apart := false }
def FnExactCosineOfSaid : Prop := fnExactCosineOfRow.holds Try.pinned (OpenSpec.ofChange fnExactCosineOfSpec)

/-- ITS FALSE NEIGHBOUR: 'it returns false'. Refute it at one input. -/
def fnExactCosineOfWrong : ChangeSpec := { name := "fnExactCosineOf", fn := fun _ => fun
  | [d] => { results := [.lit (.bool false)], args := [d] }
  | _ => none }
def FnExactCosineOfWrongFalsely : Prop := fnExactCosineOfRow.holds Try.pinned (OpenSpec.ofChange fnExactCosineOfWrong)

/-- 'laws.FnExactTangentOf': WHATEVER THE INPUT: true; the input reads as it did. -/
def fnExactTangentOfSpec : ChangeSpec := { name := "fnExactTangentOf", fn := fun _ => fun
  | [d] => { results := [.lit (.bool true)], args := [d] }
  | _ => none }
def fnExactTangentOfRow : OpenClaim := { program := "ytkgjncgfdoifbaa", sum := "22c5378cf189432946c492714e3d44b83eb6fb6a3b9def69682991064a60371c", func := "loop.example/g01055/laws.FnExactTangentOf", spec := "fnExactTangentOf", recurses := true, apart := false }
def FnExactTangentOfSaid : Prop := fnExactTangentOfRow.holds Try.pinned (OpenSpec.ofChange fnExactTangentOfSpec)

/-- ITS FALSE NEIGHBOUR: 'it returns false'. Refute it at one input. -/
def fnExactTangentOfWrong : ChangeSpec := { name := "fnExactTangentOf", fn := fun _ => fun
  | [d] => { results := [.lit (.bool false)], args := [d] }
  | _ => none }
def FnExactTangentOfWrongFalsely : Prop := fnExactTangentOfRow.holds Try.pinned (OpenSpec.ofChange fnExactTangentOfWrong)

/-- 'laws.FnExactArcOf': WHATEVER THE INPUT: true; the input reads as it did. -/
def fnExactArcOfSpec : ChangeSpec := { name := "fnExactArcOf", fn := fun _ => fun
  | [d] => { results := [.lit (.bool true)], args := [d] }
  | _ => none }
def fnExactArcOfRow : OpenClaim := { program := "ytkgjncgfdoifbaa", sum := "22c5378cf189432946c492714e3d44b83eb6fb6a3b9def69682991064a60371c", func := "loop.example/g01055/laws.FnExactArcOf", spec := "fnExactArcOf", unfollowed := true, recurses := true, apart := false }
def FnExactArcOfSaid : Prop := fnExactArcOfRow.holds Try.pinned (OpenSpec.ofChange fnExactArcOfSpec)

/-- ITS FALSE NEIGHBOUR: 'it returns false'. Refute it at one input. -/
def fnExactArcOfWrong : ChangeSpec := { name := "fnExactArcOf", fn := fun _ => fun
  | [d] => { results := [.lit (.bool false)], args := [d] }
  | _ => none }
def FnExactArcOfWrongFalsely : Prop := fnExactArcOfRow.holds Try.pinned (OpenSpec.ofChange fnExactArcOfWrong)

/-- 'laws.FnExactChordOf': WHATEVER THE INPUT: true; the input reads as it did. -/
def fnExactChordOfSpec : ChangeSpec := { name := "fnExactChordOf", fn := fun _ => fun
  | [d] => { results := [.lit (.bool true)], args := [d] }
  | _ => none }
def fnExactChordOfRow : OpenClaim := { program := "ytkgjncgfdoifbaa", sum := "22c5378cf189432946c492714e3d44b83eb6fb6a3b9def69682991064a60371c", func := "loop.example/g01055/laws.FnExactChordOf", spec := "fnExactChordOf", recurses := true, apart := false }
def FnExactChordOfSaid : Prop := fnExactChordOfRow.holds Try.pinned (OpenSpec.ofChange fnExactChordOfSpec)

/-- ITS FALSE NEIGHBOUR: 'it returns false'. Refute it at one input. -/
def fnExactChordOfWrong : ChangeSpec := { name := "fnExactChordOf", fn := fun _ => fun
  | [d] => { results := [.lit (.bool false)], args := [d] }
  | _ => none }
def FnExactChordOfWrongFalsely : Prop := fnExactChordOfRow.holds Try.pinned (OpenSpec.ofChange fnExactChordOfWrong)

/-- 'laws.FnExactSineTable': WHATEVER THE INPUT: true; the input reads as it did. -/
def fnExactSineTableSpec : ChangeSpec := { name := "fnExactSineTable", fn := fun _ => fun
  | [d1, d2] => { results := [.lit (.bool true)], args := [d1, d2] }
  | _ => none }
def fnExactSineTableRow : OpenClaim := { program := "ytkgjncgfdoifbaa", sum := "22c5378cf189432946c492714e3d44b83eb6fb6a3b9def69682991064a60371c", func := "loop.example/g01055/laws.FnExactSineTable", spec := "fnExactSineTable", recurses := true, apart := false }
def FnExactSineTableSaid : Prop := fnExactSineTableRow.holds Try.pinned (OpenSpec.ofChange fnExactSineTableSpec)

/-- ITS FALSE NEIGHBOUR: 'it returns false'. Refute it at one input. -/
def fnExactSineTableWrong : ChangeSpec := { name := "fnExactSineTable", fn := fun _ => fun
  | [d1, d2] => { results := [.lit (.bool false)], args := [d1, d2] }
  | _ => none }
def FnExactSineTableWrongFalsely : Prop := fnExactSineTableRow.holds Try.pinned (OpenSpec.ofChange fnExactSineTableWrong)

/-- 'laws.FnExactBetweenSine': WHATEVER THE INPUT: true; the input reads as it did. -/
def fnExactBetweenSineSpec : ChangeSpec := { name := "fnExactBetweenSine", fn := fun _ => fun
  | [d1, d2] => { results := [.lit (.bool true)], args := [d1, d2] }
  | _ => none }
def fnExactBetweenSineRow : OpenClaim := { program := "ytkgjncgfdoifbaa", sum := "22c5378cf189432946c492714e3d44b83eb6fb6a3b9def69682991064a60371c", func := "loop.example/g01055/laws.FnExactBetweenSine", spec := "fnExactBetweenSine", recurses := true, apart := false }
def FnExactBetweenSineSaid : Prop := fnExactBetweenSineRow.holds Try.pinned (OpenSpec.ofChange fnExactBetweenSineSpec)

/-- ITS FALSE NEIGHBOUR: 'it returns false'. Refute it at one input. -/
def fnExactBetweenSineWrong : ChangeSpec := { name := "fnExactBetweenSine", fn := fun _ => fun
  | [d1, d2] => { results := [.lit (.bool false)], args := [d1, d2] }
  | _ => none }
def FnExactBetweenSineWrongFalsely : Prop := fnExactBetweenSineRow.holds Try.pinned (OpenSpec.ofChange fnExactBetweenSineWrong)

/-- 'laws.FnExactWidthAt': WHATEVER THE INPUT: true; the input reads as it did. -/
def fnExactWidthAtSpec : ChangeSpec := { name := "fnExactWidthAt", fn := fun _ => fun
  | [d1, d2] => { results := [.lit (.bool true)], args := [d1, d2] }
  | _ => none }
def fnExactWidthAtRow : OpenClaim := { program := "ytkgjncgfdoifbaa", sum := "22c5378cf189432946c492714e3d44b83eb6fb6a3b9def69682991064a60371c", func := "loop.example/g01055/laws.FnExactWidthAt", spec := "fnExactWidthAt", recurses := true, apart := false }
def FnExactWidthAtSaid : Prop := fnExactWidthAtRow.holds Try.pinned (OpenSpec.ofChange fnExactWidthAtSpec)

/-- ITS FALSE NEIGHBOUR: 'it returns false'. Refute it at one input. -/
def fnExactWidthAtWrong : ChangeSpec := { name := "fnExactWidthAt", fn := fun _ => fun
  | [d1, d2] => { results := [.lit (.bool false)], args := [d1, d2] }
  | _ => none }
def FnExactWidthAtWrongFalsely : Prop := fnExactWidthAtRow.holds Try.pinned (OpenSpec.ofChange fnExactWidthAtWrong)

/-- 'laws.FnExactWorstStep': WHATEVER THE INPUT: true; the input reads as it did. -/
def fnExactWorstStepSpec : ChangeSpec := { name := "fnExactWorstStep", fn := fun _ => fun
  | [d1, d2] => { results := [.lit (.bool true)], args := [d1, d2] }
  | _ => none }
def fnExactWorstStepRow : OpenClaim := { program := "ytkgjncgfdoifbaa", sum := "22c5378cf189432946c492714e3d44b83eb6fb6a3b9def69682991064a60371c", func := "loop.example/g01055/laws.FnExactWorstStep", spec := "fnExactWorstStep", recurses := true, apart := false }
def FnExactWorstStepSaid : Prop := fnExactWorstStepRow.holds Try.pinned (OpenSpec.ofChange fnExactWorstStepSpec)

/-- ITS FALSE NEIGHBOUR: 'it returns false'. Refute it at one input. -/
def fnExactWorstStepWrong : ChangeSpec := { name := "fnExactWorstStep", fn := fun _ => fun
  | [d1, d2] => { results := [.lit (.bool false)], args := [d1, d2] }
  | _ => none }
def FnExactWorstStepWrongFalsely : Prop := fnExactWorstStepRow.holds Try.pinned (OpenSpec.ofChange fnExactWorstStepWrong)

/- THE SECOND FORM. 'bulk': how many values and letters a reading holds, each counted each time it is reached (what is shared counts as often as it is met; a slice's spare places count too). A statement '..UptoSaid' is the law's where the arguments, and the package variables that the reading takes, are together of bulk at most 1048576: NARROWER than '..Said'. Prove '..Said' where nothing that the law and all that it calls make is longer than what came in: it says more and counts as full. Else prove '..UptoSaid'. A law counts once. -/
mutual
def uptoBulk {H : Type} : DataW H → Nat
  | .lit (.string bytes) => bytes.length + 1
  | .lit _ => 1
  | .nil => 1
  | .ptr d => uptoBulk d + 1
  | .slice elems spare => uptoBulkAll elems + uptoBulkAll spare + 1
  | .agg parts => uptoBulkAll parts + 1
  | .iface _ d => uptoBulk d + 1
  | .map entries => uptoBulkEntries entries + 1
  | .held _ => 1
def uptoBulkAll {H : Type} : List (DataW H) → Nat
  | [] => 0
  | d :: r => uptoBulk d + uptoBulkAll r
def uptoBulkEntries {H : Type} : List (Lit × DataW H) → Nat
  | [] => 0
  | x :: r => uptoBulkEntry x + uptoBulkEntries r
def uptoBulkEntry {H : Type} : Lit × DataW H → Nat
  | (.string bytes, d) => bytes.length + uptoBulk d + 1
  | (_, d) => uptoBulk d + 1
 end
def uptoSmall : (H : Type) → List (DataW H) → Bool := fun _ ds => decide (uptoBulkAll ds ≤ 1048576)
def OpenSpec.upto (s : _root_.Go.ChangeSpec) : _root_.Go.OpenSpec := { _root_.Go.OpenSpec.ofChange s with cond := some uptoSmall }

/-- 'laws.FnSineTables', WHERE WHAT IT READS IS OF BULK AT MOST 1048576: true; the input reads as it did. -/
def fnSineTablesUptoRow : OpenClaim := { program := "ytkgjncgfdoifbaa", sum := "22c5378cf189432946c492714e3d44b83eb6fb6a3b9def69682991064a60371c", func := "loop.example/g01055/laws.FnSineTables", spec := "fnSineTables", recurses := true, apart := false, narrowed := true }
def FnSineTablesUptoSaid : Prop := fnSineTablesUptoRow.holds Try.pinned (OpenSpec.upto fnSineTablesSpec)

/-- 'laws.FnExactSineOf', WHERE WHAT IT READS IS OF BULK AT MOST 1048576: true; the input reads as it did. -/
def fnExactSineOfUptoRow : OpenClaim := { program := "ytkgjncgfdoifbaa", sum := "22c5378cf189432946c492714e3d44b83eb6fb6a3b9def69682991064a60371c", func := "loop.example/g01055/laws.FnExactSineOf", spec := "fnExactSineOf", recurses := true, apart := false, narrowed := true }
def FnExactSineOfUptoSaid : Prop := fnExactSineOfUptoRow.holds Try.pinned (OpenSpec.upto fnExactSineOfSpec)

/-- 'laws.FnExactCosineOf', WHERE WHAT IT READS IS OF BULK AT MOST 1048576: true; the input reads as it did. -/
def fnExactCosineOfUptoRow : OpenClaim := { program := "ytkgjncgfdoifbaa", sum := "22c5378cf189432946c492714e3d44b83eb6fb6a3b9def69682991064a60371c", func := "loop.example/g01055/laws.FnExactCosineOf", spec := "fnExactCosineOf", recurses := true, apart := false, narrowed := true }
def FnExactCosineOfUptoSaid : Prop := fnExactCosineOfUptoRow.holds Try.pinned (OpenSpec.upto fnExactCosineOfSpec)

/-- 'laws.FnExactTangentOf', WHERE WHAT IT READS IS OF BULK AT MOST 1048576: true; the input reads as it did. -/
def fnExactTangentOfUptoRow : OpenClaim := { program := "ytkgjncgfdoifbaa", sum := "22c5378cf189432946c492714e3d44b83eb6fb6a3b9def69682991064a60371c", func := "loop.example/g01055/laws.FnExactTangentOf", spec := "fnExactTangentOf", recurses := true, apart := false, narrowed := true }
def FnExactTangentOfUptoSaid : Prop := fnExactTangentOfUptoRow.holds Try.pinned (OpenSpec.upto fnExactTangentOfSpec)

/-- 'laws.FnExactArcOf', WHERE WHAT IT READS IS OF BULK AT MOST 1048576: true; the input reads as it did. -/
def fnExactArcOfUptoRow : OpenClaim := { program := "ytkgjncgfdoifbaa", sum := "22c5378cf189432946c492714e3d44b83eb6fb6a3b9def69682991064a60371c", func := "loop.example/g01055/laws.FnExactArcOf", spec := "fnExactArcOf", unfollowed := true, recurses := true, apart := false, narrowed := true }
def FnExactArcOfUptoSaid : Prop := fnExactArcOfUptoRow.holds Try.pinned (OpenSpec.upto fnExactArcOfSpec)

/-- 'laws.FnExactChordOf', WHERE WHAT IT READS IS OF BULK AT MOST 1048576: true; the input reads as it did. -/
def fnExactChordOfUptoRow : OpenClaim := { program := "ytkgjncgfdoifbaa", sum := "22c5378cf189432946c492714e3d44b83eb6fb6a3b9def69682991064a60371c", func := "loop.example/g01055/laws.FnExactChordOf", spec := "fnExactChordOf", recurses := true, apart := false, narrowed := true }
def FnExactChordOfUptoSaid : Prop := fnExactChordOfUptoRow.holds Try.pinned (OpenSpec.upto fnExactChordOfSpec)

/-- 'laws.FnExactSineTable', WHERE WHAT IT READS IS OF BULK AT MOST 1048576: true; the input reads as it did. -/
def fnExactSineTableUptoRow : OpenClaim := { program := "ytkgjncgfdoifbaa", sum := "22c5378cf189432946c492714e3d44b83eb6fb6a3b9def69682991064a60371c", func := "loop.example/g01055/laws.FnExactSineTable", spec := "fnExactSineTable", recurses := true, apart := false, narrowed := true }
def FnExactSineTableUptoSaid : Prop := fnExactSineTableUptoRow.holds Try.pinned (OpenSpec.upto fnExactSineTableSpec)

/-- 'laws.FnExactBetweenSine', WHERE WHAT IT READS IS OF BULK AT MOST 1048576: true; the input reads as it did. -/
def fnExactBetweenSineUptoRow : OpenClaim := { program := "ytkgjncgfdoifbaa", sum := "22c5378cf189432946c492714e3d44b83eb6fb6a3b9def69682991064a60371c", func := "loop.example/g01055/laws.FnExactBetweenSine", spec := "fnExactBetweenSine", recurses := true, apart := false, narrowed := true }
def FnExactBetweenSineUptoSaid : Prop := fnExactBetweenSineUptoRow.holds Try.pinned (OpenSpec.upto fnExactBetweenSineSpec)

/-- 'laws.FnExactWidthAt', WHERE WHAT IT READS IS OF BULK AT MOST 1048576: true; the input reads as it did. -/
def fnExactWidthAtUptoRow : OpenClaim := { program := "ytkgjncgfdoifbaa", sum := "22c5378cf189432946c492714e3d44b83eb6fb6a3b9def69682991064a60371c", func := "loop.example/g01055/laws.FnExactWidthAt", spec := "fnExactWidthAt", recurses := true, apart := false, narrowed := true }
def FnExactWidthAtUptoSaid : Prop := fnExactWidthAtUptoRow.holds Try.pinned (OpenSpec.upto fnExactWidthAtSpec)

/-- 'laws.FnExactWorstStep', WHERE WHAT IT READS IS OF BULK AT MOST 1048576: true; the input reads as it did. -/
def fnExactWorstStepUptoRow : OpenClaim := { program := "ytkgjncgfdoifbaa", sum := "22c5378cf189432946c492714e3d44b83eb6fb6a3b9def69682991064a60371c", func := "loop.example/g01055/laws.FnExactWorstStep", spec := "fnExactWorstStep", recurses := true, apart := false, narrowed := true }
def FnExactWorstStepUptoSaid : Prop := fnExactWorstStepUptoRow.holds Try.pinned (OpenSpec.upto fnExactWorstStepSpec)

end Rows
end Go.Proofs.Ytkgjncgfdoifbaa
