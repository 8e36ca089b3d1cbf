/-
  No cell of these rows narrows 'for every input' (looked for: loops, veiled, ifaces, maps, wideKeys, modest, calm, conditions, laid).
  DERIVED. THE GIVEN ROWS OF THIS SEAT. 5 by the template 'for every input the law returns true; each argument reads behind the call as it read before'; 0 by the template 'total and deterministic' (their statements: YtphcpfiddbokgaaTotals.lean).
  GIVEN WITH THE SEED: the statements are not yours to turn. If you find one false, say at which input.
  Laid BY PROGRAM, IN A SANDBOX (cutbox-rows.mjs): the forced cells as the released guide's own fill.sh prints them over the translation c2c7b2fbcda1c542… (all of the seat's roots in one cut). By AI agents, Wed Nov 11 2026. No macro, syntax, notation, axiom, sorry.
-/
import Derived.Test.YtphcpfiddbokgaaChecked
import GoSem.Claim
import GoSem.ClaimJoined
import GoSem.ClaimMapViews
import Derived.JoinedTies
import Derived.KernelRfl
namespace Go.Proofs.Ytphcpfiddbokgaa
/- THE CELL 'sum', in the pinned program and in every row, IS THE sha256 OF THE DUMP (.gsa) THAT YtphcpfiddbokgaaProg.lean LOADS. Nothing in Lean hashes anything: it is a label: what it is worth is what the hold of that sum in a sandbox is worth. -/
noncomputable def Try.pinned : Pinned := { name := "ytphcpfiddbokgaa", sum := "c2c7b2fbcda1c542690628f45a9caea5e5d87f1d0b8406e46984801c81e9d280", checked := Try.checked }
namespace Rows
def none {H : Type} : Left H := { results := [], args := [] }

/-- 'laws.FnExactValidBorders': WHATEVER THE INPUT: true; the input reads as it did. -/
def fnExactValidBordersSpec : ChangeSpec := { name := "fnExactValidBorders", fn := fun _ => fun
  | [d1, d2] => { results := [.lit (.bool true)], args := [d1, d2] }
  | _ => none }
def fnExactValidBordersRow : OpenClaim := { program := "ytphcpfiddbokgaa", sum := "c2c7b2fbcda1c542690628f45a9caea5e5d87f1d0b8406e46984801c81e9d280", func := "loop.example/g01055/laws.FnExactValidBorders", spec := "fnExactValidBorders", plainKeys := false, apart := false }
def FnExactValidBordersSaid : Prop := fnExactValidBordersRow.holds Try.pinned (OpenSpec.ofChange fnExactValidBordersSpec)

/-- ITS FALSE NEIGHBOUR: 'it returns false'. Refute it at one input. -/
def fnExactValidBordersWrong : ChangeSpec := { name := "fnExactValidBorders", fn := fun _ => fun
  | [d1, d2] => { results := [.lit (.bool false)], args := [d1, d2] }
  | _ => none }
def FnExactValidBordersWrongFalsely : Prop := fnExactValidBordersRow.holds Try.pinned (OpenSpec.ofChange fnExactValidBordersWrong)

/-- 'laws.FnExactFirstClash': WHATEVER THE INPUT: true; the input reads as it did. -/
def fnExactFirstClashSpec : ChangeSpec := { name := "fnExactFirstClash", fn := fun _ => fun
  | [d1, d2, d3] => { results := [.lit (.bool true)], args := [d1, d2, d3] }
  | _ => none }
def fnExactFirstClashRow : OpenClaim := { program := "ytphcpfiddbokgaa", sum := "c2c7b2fbcda1c542690628f45a9caea5e5d87f1d0b8406e46984801c81e9d280", func := "loop.example/g01055/laws.FnExactFirstClash", spec := "fnExactFirstClash", unfollowed := true, recurses := true, plainKeys := false, apart := false }
def FnExactFirstClashSaid : Prop := fnExactFirstClashRow.holds Try.pinned (OpenSpec.ofChange fnExactFirstClashSpec)

/-- ITS FALSE NEIGHBOUR: 'it returns false'. Refute it at one input. -/
def fnExactFirstClashWrong : ChangeSpec := { name := "fnExactFirstClash", fn := fun _ => fun
  | [d1, d2, d3] => { results := [.lit (.bool false)], args := [d1, d2, d3] }
  | _ => none }
def FnExactFirstClashWrongFalsely : Prop := fnExactFirstClashRow.holds Try.pinned (OpenSpec.ofChange fnExactFirstClashWrong)

/-- 'laws.FnExactFewestColours': WHATEVER THE INPUT: true; the input reads as it did. -/
def fnExactFewestColoursSpec : ChangeSpec := { name := "fnExactFewestColours", fn := fun _ => fun
  | [d1, d2] => { results := [.lit (.bool true)], args := [d1, d2] }
  | _ => none }
def fnExactFewestColoursRow : OpenClaim := { program := "ytphcpfiddbokgaa", sum := "c2c7b2fbcda1c542690628f45a9caea5e5d87f1d0b8406e46984801c81e9d280", func := "loop.example/g01055/laws.FnExactFewestColours", spec := "fnExactFewestColours", unfollowed := true, recurses := true, plainKeys := false, apart := false }
def FnExactFewestColoursSaid : Prop := fnExactFewestColoursRow.holds Try.pinned (OpenSpec.ofChange fnExactFewestColoursSpec)

/-- ITS FALSE NEIGHBOUR: 'it returns false'. Refute it at one input. -/
def fnExactFewestColoursWrong : ChangeSpec := { name := "fnExactFewestColours", fn := fun _ => fun
  | [d1, d2] => { results := [.lit (.bool false)], args := [d1, d2] }
  | _ => none }
def FnExactFewestColoursWrongFalsely : Prop := fnExactFewestColoursRow.holds Try.pinned (OpenSpec.ofChange fnExactFewestColoursWrong)

/-- 'laws.FnExactCountColours': WHATEVER THE INPUT: true; the input reads as it did. -/
def fnExactCountColoursSpec : ChangeSpec := { name := "fnExactCountColours", fn := fun _ => fun
  | [d1, d2, d3] => { results := [.lit (.bool true)], args := [d1, d2, d3] }
  | _ => none }
def fnExactCountColoursRow : OpenClaim := { program := "ytphcpfiddbokgaa", sum := "c2c7b2fbcda1c542690628f45a9caea5e5d87f1d0b8406e46984801c81e9d280", func := "loop.example/g01055/laws.FnExactCountColours", spec := "fnExactCountColours", unfollowed := true, recurses := true, plainKeys := false, apart := false }
def FnExactCountColoursSaid : Prop := fnExactCountColoursRow.holds Try.pinned (OpenSpec.ofChange fnExactCountColoursSpec)

/-- ITS FALSE NEIGHBOUR: 'it returns false'. Refute it at one input. -/
def fnExactCountColoursWrong : ChangeSpec := { name := "fnExactCountColours", fn := fun _ => fun
  | [d1, d2, d3] => { results := [.lit (.bool false)], args := [d1, d2, d3] }
  | _ => none }
def FnExactCountColoursWrongFalsely : Prop := fnExactCountColoursRow.holds Try.pinned (OpenSpec.ofChange fnExactCountColoursWrong)

/-- 'laws.FnExactHardBorders': WHATEVER THE INPUT: true; the input reads as it did. -/
def fnExactHardBordersSpec : ChangeSpec := { name := "fnExactHardBorders", fn := fun _ => fun
  | [d1, d2] => { results := [.lit (.bool true)], args := [d1, d2] }
  | _ => none }
def fnExactHardBordersRow : OpenClaim := { program := "ytphcpfiddbokgaa", sum := "c2c7b2fbcda1c542690628f45a9caea5e5d87f1d0b8406e46984801c81e9d280", func := "loop.example/g01055/laws.FnExactHardBorders", spec := "fnExactHardBorders", unfollowed := true, recurses := true, plainKeys := false, apart := false }
def FnExactHardBordersSaid : Prop := fnExactHardBordersRow.holds Try.pinned (OpenSpec.ofChange fnExactHardBordersSpec)

/-- ITS FALSE NEIGHBOUR: 'it returns false'. Refute it at one input. -/
def fnExactHardBordersWrong : ChangeSpec := { name := "fnExactHardBorders", fn := fun _ => fun
  | [d1, d2] => { results := [.lit (.bool false)], args := [d1, d2] }
  | _ => none }
def FnExactHardBordersWrongFalsely : Prop := fnExactHardBordersRow.holds Try.pinned (OpenSpec.ofChange fnExactHardBordersWrong)

/- THE SECOND FORM. 'bulk': how many values and letters a reading holds, each counted each time it is reached (what is shared counts as often as it is met; a slice's spare places count too). A statement '..UptoSaid' is the law's where the arguments, and the package variables that the reading takes, are together of bulk at most 1048576: NARROWER than '..Said'. Prove '..Said' where nothing that the law and all that it calls make is longer than what came in: it says more and counts as full. Else prove '..UptoSaid'. A law counts once. -/
mutual
def uptoBulk {H : Type} : DataW H → Nat
  | .lit (.string bytes) => bytes.length + 1
  | .lit _ => 1
  | .nil => 1
  | .ptr d => uptoBulk d + 1
  | .slice elems spare => uptoBulkAll elems + uptoBulkAll spare + 1
  | .agg parts => uptoBulkAll parts + 1
  | .iface _ d => uptoBulk d + 1
  | .map entries => uptoBulkEntries entries + 1
  | .held _ => 1
def uptoBulkAll {H : Type} : List (DataW H) → Nat
  | [] => 0
  | d :: r => uptoBulk d + uptoBulkAll r
def uptoBulkEntries {H : Type} : List (Lit × DataW H) → Nat
  | [] => 0
  | x :: r => uptoBulkEntry x + uptoBulkEntries r
def uptoBulkEntry {H : Type} : Lit × DataW H → Nat
  | (.string bytes, d) => bytes.length + uptoBulk d + 1
  | (_, d) => uptoBulk d + 1
 end
def uptoSmall : (H : Type) → List (DataW H) → Bool := fun _ ds => decide (uptoBulkAll ds ≤ 1048576)
def OpenSpec.upto (s : _root_.Go.ChangeSpec) : _root_.Go.OpenSpec := { _root_.Go.OpenSpec.ofChange s with cond := some uptoSmall }

/-- 'laws.FnExactValidBorders', WHERE WHAT IT READS IS OF BULK AT MOST 1048576: true; the input reads as it did. -/
def fnExactValidBordersUptoRow : OpenClaim := { program := "ytphcpfiddbokgaa", sum := "c2c7b2fbcda1c542690628f45a9caea5e5d87f1d0b8406e46984801c81e9d280", func := "loop.example/g01055/laws.FnExactValidBorders", spec := "fnExactValidBorders", plainKeys := false, apart := false, narrowed := true }
def FnExactValidBordersUptoSaid : Prop := fnExactValidBordersUptoRow.holds Try.pinned (OpenSpec.upto fnExactValidBordersSpec)

/-- 'laws.FnExactFirstClash', WHERE WHAT IT READS IS OF BULK AT MOST 1048576: true; the input reads as it did. -/
def fnExactFirstClashUptoRow : OpenClaim := { program := "ytphcpfiddbokgaa", sum := "c2c7b2fbcda1c542690628f45a9caea5e5d87f1d0b8406e46984801c81e9d280", func := "loop.example/g01055/laws.FnExactFirstClash", spec := "fnExactFirstClash", unfollowed := true, recurses := true, plainKeys := false, apart := false, narrowed := true }
def FnExactFirstClashUptoSaid : Prop := fnExactFirstClashUptoRow.holds Try.pinned (OpenSpec.upto fnExactFirstClashSpec)

/-- 'laws.FnExactFewestColours', WHERE WHAT IT READS IS OF BULK AT MOST 1048576: true; the input reads as it did. -/
def fnExactFewestColoursUptoRow : OpenClaim := { program := "ytphcpfiddbokgaa", sum := "c2c7b2fbcda1c542690628f45a9caea5e5d87f1d0b8406e46984801c81e9d280", func := "loop.example/g01055/laws.FnExactFewestColours", spec := "fnExactFewestColours", unfollowed := true, recurses := true, plainKeys := false, apart := false, narrowed := true }
def FnExactFewestColoursUptoSaid : Prop := fnExactFewestColoursUptoRow.holds Try.pinned (OpenSpec.upto fnExactFewestColoursSpec)

/-- 'laws.FnExactCountColours', WHERE WHAT IT READS IS OF BULK AT MOST 1048576: true; the input reads as it did. -/
def fnExactCountColoursUptoRow : OpenClaim := { program := "ytphcpfiddbokgaa", sum := "c2c7b2fbcda1c542690628f45a9caea5e5d87f1d0b8406e46984801c81e9d280", func := "loop.example/g01055/laws.FnExactCountColours", spec := "fnExactCountColours", unfollowed := true, recurses := true, plainKeys := false, apart := false, narrowed := true }
def FnExactCountColoursUptoSaid : Prop := fnExactCountColoursUptoRow.holds Try.pinned (OpenSpec.upto fnExactCountColoursSpec)

/-- 'laws.FnExactHardBorders', WHERE WHAT IT READS IS OF BULK AT MOST 1048576: true; the input reads as it did. -/
def fnExactHardBordersUptoRow : OpenClaim := { program := "ytphcpfiddbokgaa", sum := "c2c7b2fbcda1c542690628f45a9caea5e5d87f1d0b8406e46984801c81e9d280", func := "loop.example/g01055/laws.FnExactHardBorders", spec := "fnExactHardBorders", unfollowed := true, recurses := true, plainKeys := false, apart := false, narrowed := true }
def FnExactHardBordersUptoSaid : Prop := fnExactHardBordersUptoRow.holds Try.pinned (OpenSpec.upto fnExactHardBordersSpec)

end Rows
end Go.Proofs.Ytphcpfiddbokgaa
