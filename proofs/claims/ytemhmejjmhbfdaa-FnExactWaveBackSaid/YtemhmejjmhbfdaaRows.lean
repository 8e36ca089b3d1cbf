/-
  No cell of these rows narrows 'for every input' (looked for: loops, veiled, ifaces, maps, wideKeys, modest, calm, conditions, laid).
  DERIVED. THE GIVEN ROWS OF THIS SEAT. 11 by the template 'for every input the law returns true; each argument reads behind the call as it read before'; 0 by the template 'total and deterministic' (their statements: YtemhmejjmhbfdaaTotals.lean).
  GIVEN WITH THE SEED: the statements are not yours to turn. If you find one false, say at which input.
  Laid BY PROGRAM, IN A SANDBOX (cutbox-rows.mjs): the forced cells as the released guide's own fill.sh prints them over the translation 5ed8c4ea2f509887… (all of the seat's roots in one cut). By AI agents, Wed Nov 11 2026. No macro, syntax, notation, axiom, sorry.
-/
import Derived.Test.YtemhmejjmhbfdaaChecked
import GoSem.Claim
import GoSem.ClaimJoined
import GoSem.ClaimMapViews
import Derived.JoinedTies
import Derived.KernelRfl
namespace Go.Proofs.Ytemhmejjmhbfdaa
/- THE CELL 'sum', in the pinned program and in every row, IS THE sha256 OF THE DUMP (.gsa) THAT YtemhmejjmhbfdaaProg.lean LOADS. Nothing in Lean hashes anything: it is a label: what it is worth is what the hold of that sum in a sandbox is worth. -/
noncomputable def Try.pinned : Pinned := { name := "ytemhmejjmhbfdaa", sum := "5ed8c4ea2f5098878d46cef82a7b70ad08862860aec0362b1430e0a06581b7fe", checked := Try.checked }
namespace Rows
def none {H : Type} : Left H := { results := [], args := [] }

/-- 'laws.FnMaps': WHATEVER THE INPUT: true; the input reads as it did. -/
def fnMapsSpec : ChangeSpec := { name := "fnMaps", fn := fun _ => fun
  | [d] => { results := [.lit (.bool true)], args := [d] }
  | _ => none }
def fnMapsRow : OpenClaim := { program := "ytemhmejjmhbfdaa", sum := "5ed8c4ea2f5098878d46cef82a7b70ad08862860aec0362b1430e0a06581b7fe", func := "loop.example/g01055/laws.FnMaps", spec := "fnMaps", unfollowed := true, recurses := true, apart := false }
def FnMapsSaid : Prop := fnMapsRow.holds Try.pinned (OpenSpec.ofChange fnMapsSpec)

/-- ITS FALSE NEIGHBOUR: 'it returns false'. Refute it at one input. -/
def fnMapsWrong : ChangeSpec := { name := "fnMaps", fn := fun _ => fun
  | [d] => { results := [.lit (.bool false)], args := [d] }
  | _ => none }
def FnMapsWrongFalsely : Prop := fnMapsRow.holds Try.pinned (OpenSpec.ofChange fnMapsWrong)

/-- 'laws.FnScales': WHATEVER THE INPUT: true; the input reads as it did. -/
def fnScalesSpec : ChangeSpec := { name := "fnScales", fn := fun _ => fun
  | [d] => { results := [.lit (.bool true)], args := [d] }
  | _ => none }
def fnScalesRow : OpenClaim := { program := "ytemhmejjmhbfdaa", sum := "5ed8c4ea2f5098878d46cef82a7b70ad08862860aec0362b1430e0a06581b7fe", func := "loop.example/g01055/laws.FnScales", spec := "fnScales", unfollowed := true, recurses := true, apart := false }
def FnScalesSaid : Prop := fnScalesRow.holds Try.pinned (OpenSpec.ofChange fnScalesSpec)

/-- ITS FALSE NEIGHBOUR: 'it returns false'. Refute it at one input. -/
def fnScalesWrong : ChangeSpec := { name := "fnScales", fn := fun _ => fun
  | [d] => { results := [.lit (.bool false)], args := [d] }
  | _ => none }
def FnScalesWrongFalsely : Prop := fnScalesRow.holds Try.pinned (OpenSpec.ofChange fnScalesWrong)

/-- 'laws.FnOutlines': WHATEVER THE INPUT: true; the input reads as it did. -/
def fnOutlinesSpec : ChangeSpec := { name := "fnOutlines", fn := fun _ => fun
  | [d] => { results := [.lit (.bool true)], args := [d] }
  | _ => none }
def fnOutlinesRow : OpenClaim := { program := "ytemhmejjmhbfdaa", sum := "5ed8c4ea2f5098878d46cef82a7b70ad08862860aec0362b1430e0a06581b7fe", func := "loop.example/g01055/laws.FnOutlines", spec := "fnOutlines", unfollowed := true, recurses := true, apart := false }
def FnOutlinesSaid : Prop := fnOutlinesRow.holds Try.pinned (OpenSpec.ofChange fnOutlinesSpec)

/-- ITS FALSE NEIGHBOUR: 'it returns false'. Refute it at one input. -/
def fnOutlinesWrong : ChangeSpec := { name := "fnOutlines", fn := fun _ => fun
  | [d] => { results := [.lit (.bool false)], args := [d] }
  | _ => none }
def FnOutlinesWrongFalsely : Prop := fnOutlinesRow.holds Try.pinned (OpenSpec.ofChange fnOutlinesWrong)

/-- 'laws.FnExactStaysWithin': WHATEVER THE INPUT: true; the input reads as it did. -/
def fnExactStaysWithinSpec : ChangeSpec := { name := "fnExactStaysWithin", fn := fun _ => fun
  | [d1, d2, d3, d4] => { results := [.lit (.bool true)], args := [d1, d2, d3, d4] }
  | _ => none }
def fnExactStaysWithinRow : OpenClaim := { program := "ytemhmejjmhbfdaa", sum := "5ed8c4ea2f5098878d46cef82a7b70ad08862860aec0362b1430e0a06581b7fe", func := "loop.example/g01055/laws.FnExactStaysWithin", spec := "fnExactStaysWithin", unfollowed := true, recurses := true, apart := false }
def FnExactStaysWithinSaid : Prop := fnExactStaysWithinRow.holds Try.pinned (OpenSpec.ofChange fnExactStaysWithinSpec)

/-- ITS FALSE NEIGHBOUR: 'it returns false'. Refute it at one input. -/
def fnExactStaysWithinWrong : ChangeSpec := { name := "fnExactStaysWithin", fn := fun _ => fun
  | [d1, d2, d3, d4] => { results := [.lit (.bool false)], args := [d1, d2, d3, d4] }
  | _ => none }
def FnExactStaysWithinWrongFalsely : Prop := fnExactStaysWithinRow.holds Try.pinned (OpenSpec.ofChange fnExactStaysWithinWrong)

/-- 'laws.FnExactPickPoints': WHATEVER THE INPUT: true; the input reads as it did. -/
def fnExactPickPointsSpec : ChangeSpec := { name := "fnExactPickPoints", fn := fun _ => fun
  | [d1, d2] => { results := [.lit (.bool true)], args := [d1, d2] }
  | _ => none }
def fnExactPickPointsRow : OpenClaim := { program := "ytemhmejjmhbfdaa", sum := "5ed8c4ea2f5098878d46cef82a7b70ad08862860aec0362b1430e0a06581b7fe", func := "loop.example/g01055/laws.FnExactPickPoints", spec := "fnExactPickPoints", unfollowed := true, recurses := true, apart := false }
def FnExactPickPointsSaid : Prop := fnExactPickPointsRow.holds Try.pinned (OpenSpec.ofChange fnExactPickPointsSpec)

/-- ITS FALSE NEIGHBOUR: 'it returns false'. Refute it at one input. -/
def fnExactPickPointsWrong : ChangeSpec := { name := "fnExactPickPoints", fn := fun _ => fun
  | [d1, d2] => { results := [.lit (.bool false)], args := [d1, d2] }
  | _ => none }
def FnExactPickPointsWrongFalsely : Prop := fnExactPickPointsRow.holds Try.pinned (OpenSpec.ofChange fnExactPickPointsWrong)

/-- 'laws.FnExactPlateOf': WHATEVER THE INPUT: true; the input reads as it did. -/
def fnExactPlateOfSpec : ChangeSpec := { name := "fnExactPlateOf", fn := fun _ => fun
  | [d1, d2] => { results := [.lit (.bool true)], args := [d1, d2] }
  | _ => none }
def fnExactPlateOfRow : OpenClaim := { program := "ytemhmejjmhbfdaa", sum := "5ed8c4ea2f5098878d46cef82a7b70ad08862860aec0362b1430e0a06581b7fe", func := "loop.example/g01055/laws.FnExactPlateOf", spec := "fnExactPlateOf", unfollowed := true, recurses := true, apart := false }
def FnExactPlateOfSaid : Prop := fnExactPlateOfRow.holds Try.pinned (OpenSpec.ofChange fnExactPlateOfSpec)

/-- ITS FALSE NEIGHBOUR: 'it returns false'. Refute it at one input. -/
def fnExactPlateOfWrong : ChangeSpec := { name := "fnExactPlateOf", fn := fun _ => fun
  | [d1, d2] => { results := [.lit (.bool false)], args := [d1, d2] }
  | _ => none }
def FnExactPlateOfWrongFalsely : Prop := fnExactPlateOfRow.holds Try.pinned (OpenSpec.ofChange fnExactPlateOfWrong)

/-- 'laws.FnExactPlateBack': WHATEVER THE INPUT: true; the input reads as it did. -/
def fnExactPlateBackSpec : ChangeSpec := { name := "fnExactPlateBack", fn := fun _ => fun
  | [d1, d2] => { results := [.lit (.bool true)], args := [d1, d2] }
  | _ => none }
def fnExactPlateBackRow : OpenClaim := { program := "ytemhmejjmhbfdaa", sum := "5ed8c4ea2f5098878d46cef82a7b70ad08862860aec0362b1430e0a06581b7fe", func := "loop.example/g01055/laws.FnExactPlateBack", spec := "fnExactPlateBack", unfollowed := true, recurses := true, apart := false }
def FnExactPlateBackSaid : Prop := fnExactPlateBackRow.holds Try.pinned (OpenSpec.ofChange fnExactPlateBackSpec)

/-- ITS FALSE NEIGHBOUR: 'it returns false'. Refute it at one input. -/
def fnExactPlateBackWrong : ChangeSpec := { name := "fnExactPlateBack", fn := fun _ => fun
  | [d1, d2] => { results := [.lit (.bool false)], args := [d1, d2] }
  | _ => none }
def FnExactPlateBackWrongFalsely : Prop := fnExactPlateBackRow.holds Try.pinned (OpenSpec.ofChange fnExactPlateBackWrong)

/-- 'laws.FnExactWaveOf': WHATEVER THE INPUT: true; the input reads as it did. -/
def fnExactWaveOfSpec : ChangeSpec := { name := "fnExactWaveOf", fn := fun _ => fun
  | [d1, d2] => { results := [.lit (.bool true)], args := [d1, d2] }
  | _ => none }
def fnExactWaveOfRow : OpenClaim := { program := "ytemhmejjmhbfdaa", sum := "5ed8c4ea2f5098878d46cef82a7b70ad08862860aec0362b1430e0a06581b7fe", func := "loop.example/g01055/laws.FnExactWaveOf", spec := "fnExactWaveOf", unfollowed := true, recurses := true, apart := false }
def FnExactWaveOfSaid : Prop := fnExactWaveOfRow.holds Try.pinned (OpenSpec.ofChange fnExactWaveOfSpec)

/-- ITS FALSE NEIGHBOUR: 'it returns false'. Refute it at one input. -/
def fnExactWaveOfWrong : ChangeSpec := { name := "fnExactWaveOf", fn := fun _ => fun
  | [d1, d2] => { results := [.lit (.bool false)], args := [d1, d2] }
  | _ => none }
def FnExactWaveOfWrongFalsely : Prop := fnExactWaveOfRow.holds Try.pinned (OpenSpec.ofChange fnExactWaveOfWrong)

/-- 'laws.FnExactWaveBack': WHATEVER THE INPUT: true; the input reads as it did. -/
def fnExactWaveBackSpec : ChangeSpec := { name := "fnExactWaveBack", fn := fun _ => fun
  | [d1, d2] => { results := [.lit (.bool true)], args := [d1, d2] }
  | _ => none }
def fnExactWaveBackRow : OpenClaim := { program := "ytemhmejjmhbfdaa", sum := "5ed8c4ea2f5098878d46cef82a7b70ad08862860aec0362b1430e0a06581b7fe", func := "loop.example/g01055/laws.FnExactWaveBack", spec := "fnExactWaveBack", unfollowed := true, recurses := true, apart := false }
def FnExactWaveBackSaid : Prop := fnExactWaveBackRow.holds Try.pinned (OpenSpec.ofChange fnExactWaveBackSpec)

/-- ITS FALSE NEIGHBOUR: 'it returns false'. Refute it at one input. -/
def fnExactWaveBackWrong : ChangeSpec := { name := "fnExactWaveBack", fn := fun _ => fun
  | [d1, d2] => { results := [.lit (.bool false)], args := [d1, d2] }
  | _ => none }
def FnExactWaveBackWrongFalsely : Prop := fnExactWaveBackRow.holds Try.pinned (OpenSpec.ofChange fnExactWaveBackWrong)

/-- 'laws.FnExactLossOf': WHATEVER THE INPUT: true; the input reads as it did. -/
def fnExactLossOfSpec : ChangeSpec := { name := "fnExactLossOf", fn := fun _ => fun
  | [d1, d2, d3] => { results := [.lit (.bool true)], args := [d1, d2, d3] }
  | _ => none }
def fnExactLossOfRow : OpenClaim := { program := "ytemhmejjmhbfdaa", sum := "5ed8c4ea2f5098878d46cef82a7b70ad08862860aec0362b1430e0a06581b7fe", func := "loop.example/g01055/laws.FnExactLossOf", spec := "fnExactLossOf", unfollowed := true, recurses := true, apart := false }
def FnExactLossOfSaid : Prop := fnExactLossOfRow.holds Try.pinned (OpenSpec.ofChange fnExactLossOfSpec)

/-- ITS FALSE NEIGHBOUR: 'it returns false'. Refute it at one input. -/
def fnExactLossOfWrong : ChangeSpec := { name := "fnExactLossOf", fn := fun _ => fun
  | [d1, d2, d3] => { results := [.lit (.bool false)], args := [d1, d2, d3] }
  | _ => none }
def FnExactLossOfWrongFalsely : Prop := fnExactLossOfRow.holds Try.pinned (OpenSpec.ofChange fnExactLossOfWrong)

/-- 'laws.FnExactBestScale': WHATEVER THE INPUT: true; the input reads as it did. -/
def fnExactBestScaleSpec : ChangeSpec := { name := "fnExactBestScale", fn := fun _ => fun
  | [d1, d2, d3] => { results := [.lit (.bool true)], args := [d1, d2, d3] }
  | _ => none }
def fnExactBestScaleRow : OpenClaim := { program := "ytemhmejjmhbfdaa", sum := "5ed8c4ea2f5098878d46cef82a7b70ad08862860aec0362b1430e0a06581b7fe", func := "loop.example/g01055/laws.FnExactBestScale", spec := "fnExactBestScale", unfollowed := true, recurses := true, apart := false }
def FnExactBestScaleSaid : Prop := fnExactBestScaleRow.holds Try.pinned (OpenSpec.ofChange fnExactBestScaleSpec)

/-- ITS FALSE NEIGHBOUR: 'it returns false'. Refute it at one input. -/
def fnExactBestScaleWrong : ChangeSpec := { name := "fnExactBestScale", fn := fun _ => fun
  | [d1, d2, d3] => { results := [.lit (.bool false)], args := [d1, d2, d3] }
  | _ => none }
def FnExactBestScaleWrongFalsely : Prop := fnExactBestScaleRow.holds Try.pinned (OpenSpec.ofChange fnExactBestScaleWrong)

/- THE SECOND FORM. 'bulk': how many values and letters a reading holds, each counted each time it is reached (what is shared counts as often as it is met; a slice's spare places count too). A statement '..UptoSaid' is the law's where the arguments, and the package variables that the reading takes, are together of bulk at most 1048576: NARROWER than '..Said'. Prove '..Said' where nothing that the law and all that it calls make is longer than what came in: it says more and counts as full. Else prove '..UptoSaid'. A law counts once. -/
mutual
def uptoBulk {H : Type} : DataW H → Nat
  | .lit (.string bytes) => bytes.length + 1
  | .lit _ => 1
  | .nil => 1
  | .ptr d => uptoBulk d + 1
  | .slice elems spare => uptoBulkAll elems + uptoBulkAll spare + 1
  | .agg parts => uptoBulkAll parts + 1
  | .iface _ d => uptoBulk d + 1
  | .map entries => uptoBulkEntries entries + 1
  | .held _ => 1
def uptoBulkAll {H : Type} : List (DataW H) → Nat
  | [] => 0
  | d :: r => uptoBulk d + uptoBulkAll r
def uptoBulkEntries {H : Type} : List (Lit × DataW H) → Nat
  | [] => 0
  | x :: r => uptoBulkEntry x + uptoBulkEntries r
def uptoBulkEntry {H : Type} : Lit × DataW H → Nat
  | (.string bytes, d) => bytes.length + uptoBulk d + 1
  | (_, d) => uptoBulk d + 1
 end
def uptoSmall : (H : Type) → List (DataW H) → Bool := fun _ ds => decide (uptoBulkAll ds ≤ 1048576)
def OpenSpec.upto (s : _root_.Go.ChangeSpec) : _root_.Go.OpenSpec := { _root_.Go.OpenSpec.ofChange s with cond := some uptoSmall }

/-- 'laws.FnMaps', WHERE WHAT IT READS IS OF BULK AT MOST 1048576: true; the input reads as it did. -/
def fnMapsUptoRow : OpenClaim := { program := "ytemhmejjmhbfdaa", sum := "5ed8c4ea2f5098878d46cef82a7b70ad08862860aec0362b1430e0a06581b7fe", func := "loop.example/g01055/laws.FnMaps", spec := "fnMaps", unfollowed := true, recurses := true, apart := false, narrowed := true }
def FnMapsUptoSaid : Prop := fnMapsUptoRow.holds Try.pinned (OpenSpec.upto fnMapsSpec)

/-- 'laws.FnScales', WHERE WHAT IT READS IS OF BULK AT MOST 1048576: true; the input reads as it did. -/
def fnScalesUptoRow : OpenClaim := { program := "ytemhmejjmhbfdaa", sum := "5ed8c4ea2f5098878d46cef82a7b70ad08862860aec0362b1430e0a06581b7fe", func := "loop.example/g01055/laws.FnScales", spec := "fnScales", unfollowed := true, recurses := true, apart := false, narrowed := true }
def FnScalesUptoSaid : Prop := fnScalesUptoRow.holds Try.pinned (OpenSpec.upto fnScalesSpec)

/-- 'laws.FnOutlines', WHERE WHAT IT READS IS OF BULK AT MOST 1048576: true; the input reads as it did. -/
def fnOutlinesUptoRow : OpenClaim := { program := "ytemhmejjmhbfdaa", sum := "5ed8c4ea2f5098878d46cef82a7b70ad08862860aec0362b1430e0a06581b7fe", func := "loop.example/g01055/laws.FnOutlines", spec := "fnOutlines", unfollowed := true, recurses := true, apart := false, narrowed := true }
def FnOutlinesUptoSaid : Prop := fnOutlinesUptoRow.holds Try.pinned (OpenSpec.upto fnOutlinesSpec)

/-- 'laws.FnExactStaysWithin', WHERE WHAT IT READS IS OF BULK AT MOST 1048576: true; the input reads as it did. -/
def fnExactStaysWithinUptoRow : OpenClaim := { program := "ytemhmejjmhbfdaa", sum := "5ed8c4ea2f5098878d46cef82a7b70ad08862860aec0362b1430e0a06581b7fe", func := "loop.example/g01055/laws.FnExactStaysWithin", spec := "fnExactStaysWithin", unfollowed := true, recurses := true, apart := false, narrowed := true }
def FnExactStaysWithinUptoSaid : Prop := fnExactStaysWithinUptoRow.holds Try.pinned (OpenSpec.upto fnExactStaysWithinSpec)

/-- 'laws.FnExactPickPoints', WHERE WHAT IT READS IS OF BULK AT MOST 1048576: true; the input reads as it did. -/
def fnExactPickPointsUptoRow : OpenClaim := { program := "ytemhmejjmhbfdaa", sum := "5ed8c4ea2f5098878d46cef82a7b70ad08862860aec0362b1430e0a06581b7fe", func := "loop.example/g01055/laws.FnExactPickPoints", spec := "fnExactPickPoints", unfollowed := true, recurses := true, apart := false, narrowed := true }
def FnExactPickPointsUptoSaid : Prop := fnExactPickPointsUptoRow.holds Try.pinned (OpenSpec.upto fnExactPickPointsSpec)

/-- 'laws.FnExactPlateOf', WHERE WHAT IT READS IS OF BULK AT MOST 1048576: true; the input reads as it did. -/
def fnExactPlateOfUptoRow : OpenClaim := { program := "ytemhmejjmhbfdaa", sum := "5ed8c4ea2f5098878d46cef82a7b70ad08862860aec0362b1430e0a06581b7fe", func := "loop.example/g01055/laws.FnExactPlateOf", spec := "fnExactPlateOf", unfollowed := true, recurses := true, apart := false, narrowed := true }
def FnExactPlateOfUptoSaid : Prop := fnExactPlateOfUptoRow.holds Try.pinned (OpenSpec.upto fnExactPlateOfSpec)

/-- 'laws.FnExactPlateBack', WHERE WHAT IT READS IS OF BULK AT MOST 1048576: true; the input reads as it did. -/
def fnExactPlateBackUptoRow : OpenClaim := { program := "ytemhmejjmhbfdaa", sum := "5ed8c4ea2f5098878d46cef82a7b70ad08862860aec0362b1430e0a06581b7fe", func := "loop.example/g01055/laws.FnExactPlateBack", spec := "fnExactPlateBack", unfollowed := true, recurses := true, apart := false, narrowed := true }
def FnExactPlateBackUptoSaid : Prop := fnExactPlateBackUptoRow.holds Try.pinned (OpenSpec.upto fnExactPlateBackSpec)

/-- 'laws.FnExactWaveOf', WHERE WHAT IT READS IS OF BULK AT MOST 1048576: true; the input reads as it did. -/
def fnExactWaveOfUptoRow : OpenClaim := { program := "ytemhmejjmhbfdaa", sum := "5ed8c4ea2f5098878d46cef82a7b70ad08862860aec0362b1430e0a06581b7fe", func := "loop.example/g01055/laws.FnExactWaveOf", spec := "fnExactWaveOf", unfollowed := true, recurses := true, apart := false, narrowed := true }
def FnExactWaveOfUptoSaid : Prop := fnExactWaveOfUptoRow.holds Try.pinned (OpenSpec.upto fnExactWaveOfSpec)

/-- 'laws.FnExactWaveBack', WHERE WHAT IT READS IS OF BULK AT MOST 1048576: true; the input reads as it did. -/
def fnExactWaveBackUptoRow : OpenClaim := { program := "ytemhmejjmhbfdaa", sum := "5ed8c4ea2f5098878d46cef82a7b70ad08862860aec0362b1430e0a06581b7fe", func := "loop.example/g01055/laws.FnExactWaveBack", spec := "fnExactWaveBack", unfollowed := true, recurses := true, apart := false, narrowed := true }
def FnExactWaveBackUptoSaid : Prop := fnExactWaveBackUptoRow.holds Try.pinned (OpenSpec.upto fnExactWaveBackSpec)

/-- 'laws.FnExactLossOf', WHERE WHAT IT READS IS OF BULK AT MOST 1048576: true; the input reads as it did. -/
def fnExactLossOfUptoRow : OpenClaim := { program := "ytemhmejjmhbfdaa", sum := "5ed8c4ea2f5098878d46cef82a7b70ad08862860aec0362b1430e0a06581b7fe", func := "loop.example/g01055/laws.FnExactLossOf", spec := "fnExactLossOf", unfollowed := true, recurses := true, apart := false, narrowed := true }
def FnExactLossOfUptoSaid : Prop := fnExactLossOfUptoRow.holds Try.pinned (OpenSpec.upto fnExactLossOfSpec)

/-- 'laws.FnExactBestScale', WHERE WHAT IT READS IS OF BULK AT MOST 1048576: true; the input reads as it did. -/
def fnExactBestScaleUptoRow : OpenClaim := { program := "ytemhmejjmhbfdaa", sum := "5ed8c4ea2f5098878d46cef82a7b70ad08862860aec0362b1430e0a06581b7fe", func := "loop.example/g01055/laws.FnExactBestScale", spec := "fnExactBestScale", unfollowed := true, recurses := true, apart := false, narrowed := true }
def FnExactBestScaleUptoSaid : Prop := fnExactBestScaleUptoRow.holds Try.pinned (OpenSpec.upto fnExactBestScaleSpec)

end Rows
end Go.Proofs.Ytemhmejjmhbfdaa
