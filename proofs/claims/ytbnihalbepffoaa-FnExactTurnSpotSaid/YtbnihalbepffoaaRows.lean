/-
  No cell of these rows narrows 'for every input' (looked for: loops, veiled, ifaces, maps, wideKeys, modest, calm, conditions, laid).
  DERIVED. THE GIVEN ROWS OF THIS SEAT. 6 by the template 'for every input the law returns true; each argument reads behind the call as it read before'; 0 by the template 'total and deterministic' (their statements: YtbnihalbepffoaaTotals.lean).
  GIVEN WITH THE SEED: the statements are not yours to turn. If you find one false, say at which input.
  Laid BY PROGRAM, IN A SANDBOX (cutbox-rows.mjs): the forced cells as the released guide's own fill.sh prints them over the translation 1f9715d4b836103e… (all of the seat's roots in one cut). By AI agents, Wed Nov 11 2026. No macro, syntax, notation, axiom, sorry.
-/
import Derived.Test.YtbnihalbepffoaaChecked
import GoSem.Claim
import GoSem.ClaimJoined
import GoSem.ClaimMapViews
import Derived.JoinedTies
import Derived.KernelRfl
namespace Go.Proofs.Ytbnihalbepffoaa
/- THE CELL 'sum', in the pinned program and in every row, IS THE sha256 OF THE DUMP (.gsa) THAT YtbnihalbepffoaaProg.lean LOADS. Nothing in Lean hashes anything: it is a label: what it is worth is what the hold of that sum in a sandbox is worth. -/
noncomputable def Try.pinned : Pinned := { name := "ytbnihalbepffoaa", sum := "1f9715d4b836103e66cfe5d8a5f9716970754ea86d7fb15a18f85fd056ac4d41", checked := Try.checked }
namespace Rows
def none {H : Type} : Left H := { results := [], args := [] }

/-- 'laws.FnAngles': WHATEVER THE INPUT: true; the input reads as it did. -/
def fnAnglesSpec : ChangeSpec := { name := "fnAngles", fn := fun _ => fun
  | [d1, d2] => { results := [.lit (.bool true)], args := [d1, d2] }
  | _ => none }
def fnAnglesRow : OpenClaim := { program := "ytbnihalbepffoaa", sum := "1f9715d4b836103e66cfe5d8a5f9716970754ea86d7fb15a18f85fd056ac4d41", func := "loop.example/g01055/laws.FnAngles", spec := "fnAngles", apart := false }
def FnAnglesSaid : Prop := fnAnglesRow.holds Try.pinned (OpenSpec.ofChange fnAnglesSpec)

/-- ITS FALSE NEIGHBOUR: 'it returns false'. Refute it at one input. -/
def fnAnglesWrong : ChangeSpec := { name := "fnAngles", fn := fun _ => fun
  | [d1, d2] => { results := [.lit (.bool false)], args := [d1, d2] }
  | _ => none }
def FnAnglesWrongFalsely : Prop := fnAnglesRow.holds Try.pinned (OpenSpec.ofChange fnAnglesWrong)

/-- 'laws.FnSineTables': WHATEVER THE INPUT: true; the input reads as it did. -/
def fnSineTablesSpec : ChangeSpec := { name := "fnSineTables", fn := fun _ => fun
  | [d1, d2] => { results := [.lit (.bool true)], args := [d1, d2] }
  | _ => none }
def fnSineTablesRow : OpenClaim := { program := "ytbnihalbepffoaa", sum := "1f9715d4b836103e66cfe5d8a5f9716970754ea86d7fb15a18f85fd056ac4d41", func := "loop.example/g01055/laws.FnSineTables", spec := "fnSineTables", recurses := true, apart := false }
def FnSineTablesSaid : Prop := fnSineTablesRow.holds Try.pinned (OpenSpec.ofChange fnSineTablesSpec)

/-- ITS FALSE NEIGHBOUR: 'it returns false'. Refute it at one input. -/
def fnSineTablesWrong : ChangeSpec := { name := "fnSineTables", fn := fun _ => fun
  | [d1, d2] => { results := [.lit (.bool false)], args := [d1, d2] }
  | _ => none }
def FnSineTablesWrongFalsely : Prop := fnSineTablesRow.holds Try.pinned (OpenSpec.ofChange fnSineTablesWrong)

/-- 'laws.FnExactValidSpot': WHATEVER THE INPUT: true; the input reads as it did. -/
def fnExactValidSpotSpec : ChangeSpec := { name := "fnExactValidSpot", fn := fun _ => fun
  | [d] => { results := [.lit (.bool true)], args := [d] }
  | _ => none }
def fnExactValidSpotRow : OpenClaim := { program := "ytbnihalbepffoaa", sum := "1f9715d4b836103e66cfe5d8a5f9716970754ea86d7fb15a18f85fd056ac4d41", func := "loop.example/g01055/laws.FnExactValidSpot", spec := "fnExactValidSpot", apart := false }
def FnExactValidSpotSaid : Prop := fnExactValidSpotRow.holds Try.pinned (OpenSpec.ofChange fnExactValidSpotSpec)

/-- ITS FALSE NEIGHBOUR: 'it returns false'. Refute it at one input. -/
def fnExactValidSpotWrong : ChangeSpec := { name := "fnExactValidSpot", fn := fun _ => fun
  | [d] => { results := [.lit (.bool false)], args := [d] }
  | _ => none }
def FnExactValidSpotWrongFalsely : Prop := fnExactValidSpotRow.holds Try.pinned (OpenSpec.ofChange fnExactValidSpotWrong)

/-- 'laws.FnExactTurnSpot': WHATEVER THE INPUT: true; the input reads as it did. -/
def fnExactTurnSpotSpec : ChangeSpec := { name := "fnExactTurnSpot", fn := fun _ => fun
  | [d1, d2] => { results := [.lit (.bool true)], args := [d1, d2] }
  | _ => none }
def fnExactTurnSpotRow : OpenClaim := { program := "ytbnihalbepffoaa", sum := "1f9715d4b836103e66cfe5d8a5f9716970754ea86d7fb15a18f85fd056ac4d41", func := "loop.example/g01055/laws.FnExactTurnSpot", spec := "fnExactTurnSpot", apart := false }
def FnExactTurnSpotSaid : Prop := fnExactTurnSpotRow.holds Try.pinned (OpenSpec.ofChange fnExactTurnSpotSpec)

/-- ITS FALSE NEIGHBOUR: 'it returns false'. Refute it at one input. -/
def fnExactTurnSpotWrong : ChangeSpec := { name := "fnExactTurnSpot", fn := fun _ => fun
  | [d1, d2] => { results := [.lit (.bool false)], args := [d1, d2] }
  | _ => none }
def FnExactTurnSpotWrongFalsely : Prop := fnExactTurnSpotRow.holds Try.pinned (OpenSpec.ofChange fnExactTurnSpotWrong)

/-- 'laws.FnExactAntipode': WHATEVER THE INPUT: true; the input reads as it did. -/
def fnExactAntipodeSpec : ChangeSpec := { name := "fnExactAntipode", fn := fun _ => fun
  | [d] => { results := [.lit (.bool true)], args := [d] }
  | _ => none }
def fnExactAntipodeRow : OpenClaim := { program := "ytbnihalbepffoaa", sum := "1f9715d4b836103e66cfe5d8a5f9716970754ea86d7fb15a18f85fd056ac4d41", func := "loop.example/g01055/laws.FnExactAntipode", spec := "fnExactAntipode", apart := false }
def FnExactAntipodeSaid : Prop := fnExactAntipodeRow.holds Try.pinned (OpenSpec.ofChange fnExactAntipodeSpec)

/-- ITS FALSE NEIGHBOUR: 'it returns false'. Refute it at one input. -/
def fnExactAntipodeWrong : ChangeSpec := { name := "fnExactAntipode", fn := fun _ => fun
  | [d] => { results := [.lit (.bool false)], args := [d] }
  | _ => none }
def FnExactAntipodeWrongFalsely : Prop := fnExactAntipodeRow.holds Try.pinned (OpenSpec.ofChange fnExactAntipodeWrong)

/-- 'laws.FnExactWidthAt': WHATEVER THE INPUT: true; the input reads as it did. -/
def fnExactWidthAtSpec : ChangeSpec := { name := "fnExactWidthAt", fn := fun _ => fun
  | [d1, d2] => { results := [.lit (.bool true)], args := [d1, d2] }
  | _ => none }
def fnExactWidthAtRow : OpenClaim := { program := "ytbnihalbepffoaa", sum := "1f9715d4b836103e66cfe5d8a5f9716970754ea86d7fb15a18f85fd056ac4d41", func := "loop.example/g01055/laws.FnExactWidthAt", spec := "fnExactWidthAt", recurses := true, apart := false }
def FnExactWidthAtSaid : Prop := fnExactWidthAtRow.holds Try.pinned (OpenSpec.ofChange fnExactWidthAtSpec)

/-- ITS FALSE NEIGHBOUR: 'it returns false'. Refute it at one input. -/
def fnExactWidthAtWrong : ChangeSpec := { name := "fnExactWidthAt", fn := fun _ => fun
  | [d1, d2] => { results := [.lit (.bool false)], args := [d1, d2] }
  | _ => none }
def FnExactWidthAtWrongFalsely : Prop := fnExactWidthAtRow.holds Try.pinned (OpenSpec.ofChange fnExactWidthAtWrong)

/- THE SECOND FORM. 'bulk': how many values and letters a reading holds, each counted each time it is reached (what is shared counts as often as it is met; a slice's spare places count too). A statement '..UptoSaid' is the law's where the arguments, and the package variables that the reading takes, are together of bulk at most 1048576: NARROWER than '..Said'. Prove '..Said' where nothing that the law and all that it calls make is longer than what came in: it says more and counts as full. Else prove '..UptoSaid'. A law counts once. -/
mutual
def uptoBulk {H : Type} : DataW H → Nat
  | .lit (.string bytes) => bytes.length + 1
  | .lit _ => 1
  | .nil => 1
  | .ptr d => uptoBulk d + 1
  | .slice elems spare => uptoBulkAll elems + uptoBulkAll spare + 1
  | .agg parts => uptoBulkAll parts + 1
  | .iface _ d => uptoBulk d + 1
  | .map entries => uptoBulkEntries entries + 1
  | .held _ => 1
def uptoBulkAll {H : Type} : List (DataW H) → Nat
  | [] => 0
  | d :: r => uptoBulk d + uptoBulkAll r
def uptoBulkEntries {H : Type} : List (Lit × DataW H) → Nat
  | [] => 0
  | x :: r => uptoBulkEntry x + uptoBulkEntries r
def uptoBulkEntry {H : Type} : Lit × DataW H → Nat
  | (.string bytes, d) => bytes.length + uptoBulk d + 1
  | (_, d) => uptoBulk d + 1
 end
def uptoSmall : (H : Type) → List (DataW H) → Bool := fun _ ds => decide (uptoBulkAll ds ≤ 1048576)
def OpenSpec.upto (s : _root_.Go.ChangeSpec) : _root_.Go.OpenSpec := { _root_.Go.OpenSpec.ofChange s with cond := some uptoSmall }

/-- 'laws.FnAngles', WHERE WHAT IT READS IS OF BULK AT MOST 1048576: true; the input reads as it did. -/
def fnAnglesUptoRow : OpenClaim := { program := "ytbnihalbepffoaa", sum := "1f9715d4b836103e66cfe5d8a5f9716970754ea86d7fb15a18f85fd056ac4d41", func := "loop.example/g01055/laws.FnAngles", spec := "fnAngles", apart := false, narrowed := true }
def FnAnglesUptoSaid : Prop := fnAnglesUptoRow.holds Try.pinned (OpenSpec.upto fnAnglesSpec)

/-- 'laws.FnSineTables', WHERE WHAT IT READS IS OF BULK AT MOST 1048576: true; the input reads as it did. -/
def fnSineTablesUptoRow : OpenClaim := { program := "ytbnihalbepffoaa", sum := "1f9715d4b836103e66cfe5d8a5f9716970754ea86d7fb15a18f85fd056ac4d41", func := "loop.example/g01055/laws.FnSineTables", spec := "fnSineTables", recurses := true, apart := false, narrowed := true }
def FnSineTablesUptoSaid : Prop := fnSineTablesUptoRow.holds Try.pinned (OpenSpec.upto fnSineTablesSpec)

/-- 'laws.FnExactValidSpot', WHERE WHAT IT READS IS OF BULK AT MOST 1048576: true; the input reads as it did. -/
def fnExactValidSpotUptoRow : OpenClaim := { program := "ytbnihalbepffoaa", sum := "1f9715d4b836103e66cfe5d8a5f9716970754ea86d7fb15a18f85fd056ac4d41", func := "loop.example/g01055/laws.FnExactValidSpot", spec := "fnExactValidSpot", apart := false, narrowed := true }
def FnExactValidSpotUptoSaid : Prop := fnExactValidSpotUptoRow.holds Try.pinned (OpenSpec.upto fnExactValidSpotSpec)

/-- 'laws.FnExactTurnSpot', WHERE WHAT IT READS IS OF BULK AT MOST 1048576: true; the input reads as it did. -/
def fnExactTurnSpotUptoRow : OpenClaim := { program := "ytbnihalbepffoaa", sum := "1f9715d4b836103e66cfe5d8a5f9716970754ea86d7fb15a18f85fd056ac4d41", func := "loop.example/g01055/laws.FnExactTurnSpot", spec := "fnExactTurnSpot", apart := false, narrowed := true }
def FnExactTurnSpotUptoSaid : Prop := fnExactTurnSpotUptoRow.holds Try.pinned (OpenSpec.upto fnExactTurnSpotSpec)

/-- 'laws.FnExactAntipode', WHERE WHAT IT READS IS OF BULK AT MOST 1048576: true; the input reads as it did. -/
def fnExactAntipodeUptoRow : OpenClaim := { program := "ytbnihalbepffoaa", sum := "1f9715d4b836103e66cfe5d8a5f9716970754ea86d7fb15a18f85fd056ac4d41", func := "loop.example/g01055/laws.FnExactAntipode", spec := "fnExactAntipode", apart := false, narrowed := true }
def FnExactAntipodeUptoSaid : Prop := fnExactAntipodeUptoRow.holds Try.pinned (OpenSpec.upto fnExactAntipodeSpec)

/-- 'laws.FnExactWidthAt', WHERE WHAT IT READS IS OF BULK AT MOST 1048576: true; the input reads as it did. -/
def fnExactWidthAtUptoRow : OpenClaim := { program := "ytbnihalbepffoaa", sum := "1f9715d4b836103e66cfe5d8a5f9716970754ea86d7fb15a18f85fd056ac4d41", func := "loop.example/g01055/laws.FnExactWidthAt", spec := "fnExactWidthAt", recurses := true, apart := false, narrowed := true }
def FnExactWidthAtUptoSaid : Prop := fnExactWidthAtUptoRow.holds Try.pinned (OpenSpec.upto fnExactWidthAtSpec)

end Rows
end Go.Proofs.Ytbnihalbepffoaa
