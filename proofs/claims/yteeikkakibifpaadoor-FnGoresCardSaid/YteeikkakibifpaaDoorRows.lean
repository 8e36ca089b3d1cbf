/-
  NARROWER THAN 'FOR EVERY INPUT', by the rows' own cells (each row's printed sentence says how): FnGores: laid · FnClosing: laid · FnExactValidGores: laid · FnExactGoreSpan: laid · FnExactGoreOf: laid · FnExactGoreMiddle: laid · FnExactGoreWidth: laid · FnExactGoreWidths: laid · FnExactClosingAt: laid · FnExactWorstClosing: laid · FnExactFewestGores: laid · FnExactSheetsForGores: laid · FnExactGoresTouched: laid.
  DERIVED. THE GIVEN ROWS OF THIS SEAT. 13 by the template 'for every input the law returns true; each argument reads behind the call as it read before'; 0 by the template 'total and deterministic' (their statements: YteeikkakibifpaaDoorTotals.lean).
  GIVEN WITH THE SEED: the statements are not yours to turn. If you find one false, say at which input.
  Laid BY PROGRAM, IN A SANDBOX (cutbox-rows.mjs): the forced cells as the released guide's own fill.sh prints them over the translation 32df5a4a1825fc60… (all of the seat's roots in one cut). By AI agents, Wed Nov 11 2026. No macro, syntax, notation, axiom, sorry.
-/
import Derived.Test.YteeikkakibifpaaDoorChecked
import GoSem.Claim
import GoSem.ClaimJoined
import GoSem.ClaimMapViews
import Derived.JoinedTies
import Derived.KernelRfl
namespace Go.Proofs.YteeikkakibifpaaDoor
/- THE CELL 'sum', in the pinned program and in every row, IS THE sha256 OF THE DUMP (.gsa) THAT YteeikkakibifpaaDoorProg.lean LOADS. Nothing in Lean hashes anything: it is a label: what it is worth is what the hold of that sum in a sandbox is worth. -/
noncomputable def Tryd.pinned : Pinned := { name := "yteeikkakibifpaadoor", sum := "32df5a4a1825fc603239d04cf7591c61f889e0a3600586c4d91f9bfdbf01f776", checked := Tryd.checked }
namespace Rows
def none {H : Type} : Left H := { results := [], args := [] }

/- WHAT THE LISTED PACKAGE-LEVEL VARIABLES READ AS WHEN THE CALL BEGINS. Each datum BY PROGRAM (the guide's laid-datum.mjs) off the statement by which the dump's own 'gosem.cut.vars' lays the variable. In a bare row this is a premise. The card (YteeikkakibifpaaDoorCards.lean) ties it to the program's text. -/
def laid_loop_example_g01055_impl_goreNumbers {H : Type} : DataW H := .agg [.lit (.int .i64 6), .lit (.int .i64 8), .lit (.int .i64 9), .lit (.int .i64 10), .lit (.int .i64 12), .lit (.int .i64 15), .lit (.int .i64 16), .lit (.int .i64 18), .lit (.int .i64 20), .lit (.int .i64 24), .lit (.int .i64 25), .lit (.int .i64 27), .lit (.int .i64 30), .lit (.int .i64 32), .lit (.int .i64 36), .lit (.int .i64 40), .lit (.int .i64 45), .lit (.int .i64 48)]

/-- 'laws.FnGores': WHATEVER THE INPUT: true; the input reads as it did. -/
def fnGoresSpec : ChangeSpec := { name := "fnGores", vars := ["loop.example/g01055/impl.goreNumbers"], fn := fun _ => fun
  | [d, g1] => { results := [.lit (.bool true)], args := [d], vars := [g1] }
  | _ => none }
def fnGoresRow : OpenClaim := { program := "yteeikkakibifpaadoor", sum := "32df5a4a1825fc603239d04cf7591c61f889e0a3600586c4d91f9bfdbf01f776", func := "loop.example/g01055/laws.FnGores", spec := "fnGores", unfollowed := true, recurses := true, named := ["loop.example/g01055/impl.goreNumbers"], apart := false, laid := [("loop.example/g01055/impl.goreNumbers", laid_loop_example_g01055_impl_goreNumbers)] }
def FnGoresSaid : Prop := fnGoresRow.holds Tryd.pinned (OpenSpec.ofChange fnGoresSpec)

/-- ITS FALSE NEIGHBOUR: 'it returns false'. Refute it at one input. -/
def fnGoresWrong : ChangeSpec := { name := "fnGores", vars := ["loop.example/g01055/impl.goreNumbers"], fn := fun _ => fun
  | [d, g1] => { results := [.lit (.bool false)], args := [d], vars := [g1] }
  | _ => none }
def FnGoresWrongFalsely : Prop := fnGoresRow.holds Tryd.pinned (OpenSpec.ofChange fnGoresWrong)

/-- 'laws.FnClosing': WHATEVER THE INPUT: true; the input reads as it did. -/
def fnClosingSpec : ChangeSpec := { name := "fnClosing", vars := ["loop.example/g01055/impl.goreNumbers"], fn := fun _ => fun
  | [d, g1] => { results := [.lit (.bool true)], args := [d], vars := [g1] }
  | _ => none }
def fnClosingRow : OpenClaim := { program := "yteeikkakibifpaadoor", sum := "32df5a4a1825fc603239d04cf7591c61f889e0a3600586c4d91f9bfdbf01f776", func := "loop.example/g01055/laws.FnClosing", spec := "fnClosing", unfollowed := true, recurses := true, named := ["loop.example/g01055/impl.goreNumbers"], apart := false, laid := [("loop.example/g01055/impl.goreNumbers", laid_loop_example_g01055_impl_goreNumbers)] }
def FnClosingSaid : Prop := fnClosingRow.holds Tryd.pinned (OpenSpec.ofChange fnClosingSpec)

/-- ITS FALSE NEIGHBOUR: 'it returns false'. Refute it at one input. -/
def fnClosingWrong : ChangeSpec := { name := "fnClosing", vars := ["loop.example/g01055/impl.goreNumbers"], fn := fun _ => fun
  | [d, g1] => { results := [.lit (.bool false)], args := [d], vars := [g1] }
  | _ => none }
def FnClosingWrongFalsely : Prop := fnClosingRow.holds Tryd.pinned (OpenSpec.ofChange fnClosingWrong)

/-- 'laws.FnExactValidGores': WHATEVER THE INPUT: true; the input reads as it did. -/
def fnExactValidGoresSpec : ChangeSpec := { name := "fnExactValidGores", vars := ["loop.example/g01055/impl.goreNumbers"], fn := fun _ => fun
  | [d, g1] => { results := [.lit (.bool true)], args := [d], vars := [g1] }
  | _ => none }
def fnExactValidGoresRow : OpenClaim := { program := "yteeikkakibifpaadoor", sum := "32df5a4a1825fc603239d04cf7591c61f889e0a3600586c4d91f9bfdbf01f776", func := "loop.example/g01055/laws.FnExactValidGores", spec := "fnExactValidGores", named := ["loop.example/g01055/impl.goreNumbers"], apart := false, laid := [("loop.example/g01055/impl.goreNumbers", laid_loop_example_g01055_impl_goreNumbers)] }
def FnExactValidGoresSaid : Prop := fnExactValidGoresRow.holds Tryd.pinned (OpenSpec.ofChange fnExactValidGoresSpec)

/-- ITS FALSE NEIGHBOUR: 'it returns false'. Refute it at one input. -/
def fnExactValidGoresWrong : ChangeSpec := { name := "fnExactValidGores", vars := ["loop.example/g01055/impl.goreNumbers"], fn := fun _ => fun
  | [d, g1] => { results := [.lit (.bool false)], args := [d], vars := [g1] }
  | _ => none }
def FnExactValidGoresWrongFalsely : Prop := fnExactValidGoresRow.holds Tryd.pinned (OpenSpec.ofChange fnExactValidGoresWrong)

/-- 'laws.FnExactGoreSpan': WHATEVER THE INPUT: true; the input reads as it did. -/
def fnExactGoreSpanSpec : ChangeSpec := { name := "fnExactGoreSpan", vars := ["loop.example/g01055/impl.goreNumbers"], fn := fun _ => fun
  | [d, g1] => { results := [.lit (.bool true)], args := [d], vars := [g1] }
  | _ => none }
def fnExactGoreSpanRow : OpenClaim := { program := "yteeikkakibifpaadoor", sum := "32df5a4a1825fc603239d04cf7591c61f889e0a3600586c4d91f9bfdbf01f776", func := "loop.example/g01055/laws.FnExactGoreSpan", spec := "fnExactGoreSpan", named := ["loop.example/g01055/impl.goreNumbers"], apart := false, laid := [("loop.example/g01055/impl.goreNumbers", laid_loop_example_g01055_impl_goreNumbers)] }
def FnExactGoreSpanSaid : Prop := fnExactGoreSpanRow.holds Tryd.pinned (OpenSpec.ofChange fnExactGoreSpanSpec)

/-- ITS FALSE NEIGHBOUR: 'it returns false'. Refute it at one input. -/
def fnExactGoreSpanWrong : ChangeSpec := { name := "fnExactGoreSpan", vars := ["loop.example/g01055/impl.goreNumbers"], fn := fun _ => fun
  | [d, g1] => { results := [.lit (.bool false)], args := [d], vars := [g1] }
  | _ => none }
def FnExactGoreSpanWrongFalsely : Prop := fnExactGoreSpanRow.holds Tryd.pinned (OpenSpec.ofChange fnExactGoreSpanWrong)

/-- 'laws.FnExactGoreOf': WHATEVER THE INPUT: true; the input reads as it did. -/
def fnExactGoreOfSpec : ChangeSpec := { name := "fnExactGoreOf", vars := ["loop.example/g01055/impl.goreNumbers"], fn := fun _ => fun
  | [d1, d2, g1] => { results := [.lit (.bool true)], args := [d1, d2], vars := [g1] }
  | _ => none }
def fnExactGoreOfRow : OpenClaim := { program := "yteeikkakibifpaadoor", sum := "32df5a4a1825fc603239d04cf7591c61f889e0a3600586c4d91f9bfdbf01f776", func := "loop.example/g01055/laws.FnExactGoreOf", spec := "fnExactGoreOf", named := ["loop.example/g01055/impl.goreNumbers"], apart := false, laid := [("loop.example/g01055/impl.goreNumbers", laid_loop_example_g01055_impl_goreNumbers)] }
def FnExactGoreOfSaid : Prop := fnExactGoreOfRow.holds Tryd.pinned (OpenSpec.ofChange fnExactGoreOfSpec)

/-- ITS FALSE NEIGHBOUR: 'it returns false'. Refute it at one input. -/
def fnExactGoreOfWrong : ChangeSpec := { name := "fnExactGoreOf", vars := ["loop.example/g01055/impl.goreNumbers"], fn := fun _ => fun
  | [d1, d2, g1] => { results := [.lit (.bool false)], args := [d1, d2], vars := [g1] }
  | _ => none }
def FnExactGoreOfWrongFalsely : Prop := fnExactGoreOfRow.holds Tryd.pinned (OpenSpec.ofChange fnExactGoreOfWrong)

/-- 'laws.FnExactGoreMiddle': WHATEVER THE INPUT: true; the input reads as it did. -/
def fnExactGoreMiddleSpec : ChangeSpec := { name := "fnExactGoreMiddle", vars := ["loop.example/g01055/impl.goreNumbers"], fn := fun _ => fun
  | [d1, d2, g1] => { results := [.lit (.bool true)], args := [d1, d2], vars := [g1] }
  | _ => none }
def fnExactGoreMiddleRow : OpenClaim := { program := "yteeikkakibifpaadoor", sum := "32df5a4a1825fc603239d04cf7591c61f889e0a3600586c4d91f9bfdbf01f776", func := "loop.example/g01055/laws.FnExactGoreMiddle", spec := "fnExactGoreMiddle", named := ["loop.example/g01055/impl.goreNumbers"], apart := false, laid := [("loop.example/g01055/impl.goreNumbers", laid_loop_example_g01055_impl_goreNumbers)] }
def FnExactGoreMiddleSaid : Prop := fnExactGoreMiddleRow.holds Tryd.pinned (OpenSpec.ofChange fnExactGoreMiddleSpec)

/-- ITS FALSE NEIGHBOUR: 'it returns false'. Refute it at one input. -/
def fnExactGoreMiddleWrong : ChangeSpec := { name := "fnExactGoreMiddle", vars := ["loop.example/g01055/impl.goreNumbers"], fn := fun _ => fun
  | [d1, d2, g1] => { results := [.lit (.bool false)], args := [d1, d2], vars := [g1] }
  | _ => none }
def FnExactGoreMiddleWrongFalsely : Prop := fnExactGoreMiddleRow.holds Tryd.pinned (OpenSpec.ofChange fnExactGoreMiddleWrong)

/-- 'laws.FnExactGoreWidth': WHATEVER THE INPUT: true; the input reads as it did. -/
def fnExactGoreWidthSpec : ChangeSpec := { name := "fnExactGoreWidth", vars := ["loop.example/g01055/impl.goreNumbers"], fn := fun _ => fun
  | [d1, d2, d3, g1] => { results := [.lit (.bool true)], args := [d1, d2, d3], vars := [g1] }
  | _ => none }
def fnExactGoreWidthRow : OpenClaim := { program := "yteeikkakibifpaadoor", sum := "32df5a4a1825fc603239d04cf7591c61f889e0a3600586c4d91f9bfdbf01f776", func := "loop.example/g01055/laws.FnExactGoreWidth", spec := "fnExactGoreWidth", recurses := true, named := ["loop.example/g01055/impl.goreNumbers"], apart := false, laid := [("loop.example/g01055/impl.goreNumbers", laid_loop_example_g01055_impl_goreNumbers)] }
def FnExactGoreWidthSaid : Prop := fnExactGoreWidthRow.holds Tryd.pinned (OpenSpec.ofChange fnExactGoreWidthSpec)

/-- ITS FALSE NEIGHBOUR: 'it returns false'. Refute it at one input. -/
def fnExactGoreWidthWrong : ChangeSpec := { name := "fnExactGoreWidth", vars := ["loop.example/g01055/impl.goreNumbers"], fn := fun _ => fun
  | [d1, d2, d3, g1] => { results := [.lit (.bool false)], args := [d1, d2, d3], vars := [g1] }
  | _ => none }
def FnExactGoreWidthWrongFalsely : Prop := fnExactGoreWidthRow.holds Tryd.pinned (OpenSpec.ofChange fnExactGoreWidthWrong)

/-- 'laws.FnExactGoreWidths': WHATEVER THE INPUT: true; the input reads as it did. -/
def fnExactGoreWidthsSpec : ChangeSpec := { name := "fnExactGoreWidths", vars := ["loop.example/g01055/impl.goreNumbers"], fn := fun _ => fun
  | [d1, d2, d3, g1] => { results := [.lit (.bool true)], args := [d1, d2, d3], vars := [g1] }
  | _ => none }
def fnExactGoreWidthsRow : OpenClaim := { program := "yteeikkakibifpaadoor", sum := "32df5a4a1825fc603239d04cf7591c61f889e0a3600586c4d91f9bfdbf01f776", func := "loop.example/g01055/laws.FnExactGoreWidths", spec := "fnExactGoreWidths", unfollowed := true, recurses := true, named := ["loop.example/g01055/impl.goreNumbers"], apart := false, laid := [("loop.example/g01055/impl.goreNumbers", laid_loop_example_g01055_impl_goreNumbers)] }
def FnExactGoreWidthsSaid : Prop := fnExactGoreWidthsRow.holds Tryd.pinned (OpenSpec.ofChange fnExactGoreWidthsSpec)

/-- ITS FALSE NEIGHBOUR: 'it returns false'. Refute it at one input. -/
def fnExactGoreWidthsWrong : ChangeSpec := { name := "fnExactGoreWidths", vars := ["loop.example/g01055/impl.goreNumbers"], fn := fun _ => fun
  | [d1, d2, d3, g1] => { results := [.lit (.bool false)], args := [d1, d2, d3], vars := [g1] }
  | _ => none }
def FnExactGoreWidthsWrongFalsely : Prop := fnExactGoreWidthsRow.holds Tryd.pinned (OpenSpec.ofChange fnExactGoreWidthsWrong)

/-- 'laws.FnExactClosingAt': WHATEVER THE INPUT: true; the input reads as it did. -/
def fnExactClosingAtSpec : ChangeSpec := { name := "fnExactClosingAt", vars := ["loop.example/g01055/impl.goreNumbers"], fn := fun _ => fun
  | [d1, d2, d3, g1] => { results := [.lit (.bool true)], args := [d1, d2, d3], vars := [g1] }
  | _ => none }
def fnExactClosingAtRow : OpenClaim := { program := "yteeikkakibifpaadoor", sum := "32df5a4a1825fc603239d04cf7591c61f889e0a3600586c4d91f9bfdbf01f776", func := "loop.example/g01055/laws.FnExactClosingAt", spec := "fnExactClosingAt", recurses := true, named := ["loop.example/g01055/impl.goreNumbers"], apart := false, laid := [("loop.example/g01055/impl.goreNumbers", laid_loop_example_g01055_impl_goreNumbers)] }
def FnExactClosingAtSaid : Prop := fnExactClosingAtRow.holds Tryd.pinned (OpenSpec.ofChange fnExactClosingAtSpec)

/-- ITS FALSE NEIGHBOUR: 'it returns false'. Refute it at one input. -/
def fnExactClosingAtWrong : ChangeSpec := { name := "fnExactClosingAt", vars := ["loop.example/g01055/impl.goreNumbers"], fn := fun _ => fun
  | [d1, d2, d3, g1] => { results := [.lit (.bool false)], args := [d1, d2, d3], vars := [g1] }
  | _ => none }
def FnExactClosingAtWrongFalsely : Prop := fnExactClosingAtRow.holds Tryd.pinned (OpenSpec.ofChange fnExactClosingAtWrong)

/-- 'laws.FnExactWorstClosing': WHATEVER THE INPUT: true; the input reads as it did. -/
def fnExactWorstClosingSpec : ChangeSpec := { name := "fnExactWorstClosing", vars := ["loop.example/g01055/impl.goreNumbers"], fn := fun _ => fun
  | [d1, d2, d3, g1] => { results := [.lit (.bool true)], args := [d1, d2, d3], vars := [g1] }
  | _ => none }
def fnExactWorstClosingRow : OpenClaim := { program := "yteeikkakibifpaadoor", sum := "32df5a4a1825fc603239d04cf7591c61f889e0a3600586c4d91f9bfdbf01f776", func := "loop.example/g01055/laws.FnExactWorstClosing", spec := "fnExactWorstClosing", unfollowed := true, recurses := true, named := ["loop.example/g01055/impl.goreNumbers"], apart := false, laid := [("loop.example/g01055/impl.goreNumbers", laid_loop_example_g01055_impl_goreNumbers)] }
def FnExactWorstClosingSaid : Prop := fnExactWorstClosingRow.holds Tryd.pinned (OpenSpec.ofChange fnExactWorstClosingSpec)

/-- ITS FALSE NEIGHBOUR: 'it returns false'. Refute it at one input. -/
def fnExactWorstClosingWrong : ChangeSpec := { name := "fnExactWorstClosing", vars := ["loop.example/g01055/impl.goreNumbers"], fn := fun _ => fun
  | [d1, d2, d3, g1] => { results := [.lit (.bool false)], args := [d1, d2, d3], vars := [g1] }
  | _ => none }
def FnExactWorstClosingWrongFalsely : Prop := fnExactWorstClosingRow.holds Tryd.pinned (OpenSpec.ofChange fnExactWorstClosingWrong)

/-- 'laws.FnExactFewestGores': WHATEVER THE INPUT: true; the input reads as it did. -/
def fnExactFewestGoresSpec : ChangeSpec := { name := "fnExactFewestGores", vars := ["loop.example/g01055/impl.goreNumbers"], fn := fun _ => fun
  | [d1, d2, g1] => { results := [.lit (.bool true)], args := [d1, d2], vars := [g1] }
  | _ => none }
def fnExactFewestGoresRow : OpenClaim := { program := "yteeikkakibifpaadoor", sum := "32df5a4a1825fc603239d04cf7591c61f889e0a3600586c4d91f9bfdbf01f776", func := "loop.example/g01055/laws.FnExactFewestGores", spec := "fnExactFewestGores", recurses := true, named := ["loop.example/g01055/impl.goreNumbers"], apart := false, laid := [("loop.example/g01055/impl.goreNumbers", laid_loop_example_g01055_impl_goreNumbers)] }
def FnExactFewestGoresSaid : Prop := fnExactFewestGoresRow.holds Tryd.pinned (OpenSpec.ofChange fnExactFewestGoresSpec)

/-- ITS FALSE NEIGHBOUR: 'it returns false'. Refute it at one input. -/
def fnExactFewestGoresWrong : ChangeSpec := { name := "fnExactFewestGores", vars := ["loop.example/g01055/impl.goreNumbers"], fn := fun _ => fun
  | [d1, d2, g1] => { results := [.lit (.bool false)], args := [d1, d2], vars := [g1] }
  | _ => none }
def FnExactFewestGoresWrongFalsely : Prop := fnExactFewestGoresRow.holds Tryd.pinned (OpenSpec.ofChange fnExactFewestGoresWrong)

/-- 'laws.FnExactSheetsForGores': WHATEVER THE INPUT: true; the input reads as it did. -/
def fnExactSheetsForGoresSpec : ChangeSpec := { name := "fnExactSheetsForGores", vars := ["loop.example/g01055/impl.goreNumbers"], fn := fun _ => fun
  | [d1, d2, d3, g1] => { results := [.lit (.bool true)], args := [d1, d2, d3], vars := [g1] }
  | _ => none }
def fnExactSheetsForGoresRow : OpenClaim := { program := "yteeikkakibifpaadoor", sum := "32df5a4a1825fc603239d04cf7591c61f889e0a3600586c4d91f9bfdbf01f776", func := "loop.example/g01055/laws.FnExactSheetsForGores", spec := "fnExactSheetsForGores", recurses := true, named := ["loop.example/g01055/impl.goreNumbers"], apart := false, laid := [("loop.example/g01055/impl.goreNumbers", laid_loop_example_g01055_impl_goreNumbers)] }
def FnExactSheetsForGoresSaid : Prop := fnExactSheetsForGoresRow.holds Tryd.pinned (OpenSpec.ofChange fnExactSheetsForGoresSpec)

/-- ITS FALSE NEIGHBOUR: 'it returns false'. Refute it at one input. -/
def fnExactSheetsForGoresWrong : ChangeSpec := { name := "fnExactSheetsForGores", vars := ["loop.example/g01055/impl.goreNumbers"], fn := fun _ => fun
  | [d1, d2, d3, g1] => { results := [.lit (.bool false)], args := [d1, d2, d3], vars := [g1] }
  | _ => none }
def FnExactSheetsForGoresWrongFalsely : Prop := fnExactSheetsForGoresRow.holds Tryd.pinned (OpenSpec.ofChange fnExactSheetsForGoresWrong)

/-- 'laws.FnExactGoresTouched': WHATEVER THE INPUT: true; the input reads as it did. -/
def fnExactGoresTouchedSpec : ChangeSpec := { name := "fnExactGoresTouched", vars := ["loop.example/g01055/impl.goreNumbers"], fn := fun _ => fun
  | [d1, d2, g1] => { results := [.lit (.bool true)], args := [d1, d2], vars := [g1] }
  | _ => none }
def fnExactGoresTouchedRow : OpenClaim := { program := "yteeikkakibifpaadoor", sum := "32df5a4a1825fc603239d04cf7591c61f889e0a3600586c4d91f9bfdbf01f776", func := "loop.example/g01055/laws.FnExactGoresTouched", spec := "fnExactGoresTouched", unfollowed := true, recurses := true, named := ["loop.example/g01055/impl.goreNumbers"], apart := false, laid := [("loop.example/g01055/impl.goreNumbers", laid_loop_example_g01055_impl_goreNumbers)] }
def FnExactGoresTouchedSaid : Prop := fnExactGoresTouchedRow.holds Tryd.pinned (OpenSpec.ofChange fnExactGoresTouchedSpec)

/-- ITS FALSE NEIGHBOUR: 'it returns false'. Refute it at one input. -/
def fnExactGoresTouchedWrong : ChangeSpec := { name := "fnExactGoresTouched", vars := ["loop.example/g01055/impl.goreNumbers"], fn := fun _ => fun
  | [d1, d2, g1] => { results := [.lit (.bool false)], args := [d1, d2], vars := [g1] }
  | _ => none }
def FnExactGoresTouchedWrongFalsely : Prop := fnExactGoresTouchedRow.holds Tryd.pinned (OpenSpec.ofChange fnExactGoresTouchedWrong)

/- THE SECOND FORM. 'bulk': how many values and letters a reading holds, each counted each time it is reached (what is shared counts as often as it is met; a slice's spare places count too). A statement '..UptoSaid' is the law's where the arguments, and the package variables that the reading takes, are together of bulk at most 1048576: NARROWER than '..Said'. Prove '..Said' where nothing that the law and all that it calls make is longer than what came in: it says more and counts as full. Else prove '..UptoSaid'. A law counts once. -/
mutual
def uptoBulk {H : Type} : DataW H → Nat
  | .lit (.string bytes) => bytes.length + 1
  | .lit _ => 1
  | .nil => 1
  | .ptr d => uptoBulk d + 1
  | .slice elems spare => uptoBulkAll elems + uptoBulkAll spare + 1
  | .agg parts => uptoBulkAll parts + 1
  | .iface _ d => uptoBulk d + 1
  | .map entries => uptoBulkEntries entries + 1
  | .held _ => 1
def uptoBulkAll {H : Type} : List (DataW H) → Nat
  | [] => 0
  | d :: r => uptoBulk d + uptoBulkAll r
def uptoBulkEntries {H : Type} : List (Lit × DataW H) → Nat
  | [] => 0
  | x :: r => uptoBulkEntry x + uptoBulkEntries r
def uptoBulkEntry {H : Type} : Lit × DataW H → Nat
  | (.string bytes, d) => bytes.length + uptoBulk d + 1
  | (_, d) => uptoBulk d + 1
 end
def uptoSmall : (H : Type) → List (DataW H) → Bool := fun _ ds => decide (uptoBulkAll ds ≤ 1048576)
def OpenSpec.upto (s : _root_.Go.ChangeSpec) : _root_.Go.OpenSpec := { _root_.Go.OpenSpec.ofChange s with cond := some uptoSmall }

/-- 'laws.FnGores', WHERE WHAT IT READS IS OF BULK AT MOST 1048576: true; the input reads as it did. -/
def fnGoresUptoRow : OpenClaim := { program := "yteeikkakibifpaadoor", sum := "32df5a4a1825fc603239d04cf7591c61f889e0a3600586c4d91f9bfdbf01f776", func := "loop.example/g01055/laws.FnGores", spec := "fnGores", unfollowed := true, recurses := true, named := ["loop.example/g01055/impl.goreNumbers"], apart := false, laid := [("loop.example/g01055/impl.goreNumbers", laid_loop_example_g01055_impl_goreNumbers)], narrowed := true }
def FnGoresUptoSaid : Prop := fnGoresUptoRow.holds Tryd.pinned (OpenSpec.upto fnGoresSpec)

/-- 'laws.FnClosing', WHERE WHAT IT READS IS OF BULK AT MOST 1048576: true; the input reads as it did. -/
def fnClosingUptoRow : OpenClaim := { program := "yteeikkakibifpaadoor", sum := "32df5a4a1825fc603239d04cf7591c61f889e0a3600586c4d91f9bfdbf01f776", func := "loop.example/g01055/laws.FnClosing", spec := "fnClosing", unfollowed := true, recurses := true, named := ["loop.example/g01055/impl.goreNumbers"], apart := false, laid := [("loop.example/g01055/impl.goreNumbers", laid_loop_example_g01055_impl_goreNumbers)], narrowed := true }
def FnClosingUptoSaid : Prop := fnClosingUptoRow.holds Tryd.pinned (OpenSpec.upto fnClosingSpec)

/-- 'laws.FnExactValidGores', WHERE WHAT IT READS IS OF BULK AT MOST 1048576: true; the input reads as it did. -/
def fnExactValidGoresUptoRow : OpenClaim := { program := "yteeikkakibifpaadoor", sum := "32df5a4a1825fc603239d04cf7591c61f889e0a3600586c4d91f9bfdbf01f776", func := "loop.example/g01055/laws.FnExactValidGores", spec := "fnExactValidGores", named := ["loop.example/g01055/impl.goreNumbers"], apart := false, laid := [("loop.example/g01055/impl.goreNumbers", laid_loop_example_g01055_impl_goreNumbers)], narrowed := true }
def FnExactValidGoresUptoSaid : Prop := fnExactValidGoresUptoRow.holds Tryd.pinned (OpenSpec.upto fnExactValidGoresSpec)

/-- 'laws.FnExactGoreSpan', WHERE WHAT IT READS IS OF BULK AT MOST 1048576: true; the input reads as it did. -/
def fnExactGoreSpanUptoRow : OpenClaim := { program := "yteeikkakibifpaadoor", sum := "32df5a4a1825fc603239d04cf7591c61f889e0a3600586c4d91f9bfdbf01f776", func := "loop.example/g01055/laws.FnExactGoreSpan", spec := "fnExactGoreSpan", named := ["loop.example/g01055/impl.goreNumbers"], apart := false, laid := [("loop.example/g01055/impl.goreNumbers", laid_loop_example_g01055_impl_goreNumbers)], narrowed := true }
def FnExactGoreSpanUptoSaid : Prop := fnExactGoreSpanUptoRow.holds Tryd.pinned (OpenSpec.upto fnExactGoreSpanSpec)

/-- 'laws.FnExactGoreOf', WHERE WHAT IT READS IS OF BULK AT MOST 1048576: true; the input reads as it did. -/
def fnExactGoreOfUptoRow : OpenClaim := { program := "yteeikkakibifpaadoor", sum := "32df5a4a1825fc603239d04cf7591c61f889e0a3600586c4d91f9bfdbf01f776", func := "loop.example/g01055/laws.FnExactGoreOf", spec := "fnExactGoreOf", named := ["loop.example/g01055/impl.goreNumbers"], apart := false, laid := [("loop.example/g01055/impl.goreNumbers", laid_loop_example_g01055_impl_goreNumbers)], narrowed := true }
def FnExactGoreOfUptoSaid : Prop := fnExactGoreOfUptoRow.holds Tryd.pinned (OpenSpec.upto fnExactGoreOfSpec)

/-- 'laws.FnExactGoreMiddle', WHERE WHAT IT READS IS OF BULK AT MOST 1048576: true; the input reads as it did. -/
def fnExactGoreMiddleUptoRow : OpenClaim := { program := "yteeikkakibifpaadoor", sum := "32df5a4a1825fc603239d04cf7591c61f889e0a3600586c4d91f9bfdbf01f776", func := "loop.example/g01055/laws.FnExactGoreMiddle", spec := "fnExactGoreMiddle", named := ["loop.example/g01055/impl.goreNumbers"], apart := false, laid := [("loop.example/g01055/impl.goreNumbers", laid_loop_example_g01055_impl_goreNumbers)], narrowed := true }
def FnExactGoreMiddleUptoSaid : Prop := fnExactGoreMiddleUptoRow.holds Tryd.pinned (OpenSpec.upto fnExactGoreMiddleSpec)

/-- 'laws.FnExactGoreWidth', WHERE WHAT IT READS IS OF BULK AT MOST 1048576: true; the input reads as it did. -/
def fnExactGoreWidthUptoRow : OpenClaim := { program := "yteeikkakibifpaadoor", sum := "32df5a4a1825fc603239d04cf7591c61f889e0a3600586c4d91f9bfdbf01f776", func := "loop.example/g01055/laws.FnExactGoreWidth", spec := "fnExactGoreWidth", recurses := true, named := ["loop.example/g01055/impl.goreNumbers"], apart := false, laid := [("loop.example/g01055/impl.goreNumbers", laid_loop_example_g01055_impl_goreNumbers)], narrowed := true }
def FnExactGoreWidthUptoSaid : Prop := fnExactGoreWidthUptoRow.holds Tryd.pinned (OpenSpec.upto fnExactGoreWidthSpec)

/-- 'laws.FnExactGoreWidths', WHERE WHAT IT READS IS OF BULK AT MOST 1048576: true; the input reads as it did. -/
def fnExactGoreWidthsUptoRow : OpenClaim := { program := "yteeikkakibifpaadoor", sum := "32df5a4a1825fc603239d04cf7591c61f889e0a3600586c4d91f9bfdbf01f776", func := "loop.example/g01055/laws.FnExactGoreWidths", spec := "fnExactGoreWidths", unfollowed := true, recurses := true, named := ["loop.example/g01055/impl.goreNumbers"], apart := false, laid := [("loop.example/g01055/impl.goreNumbers", laid_loop_example_g01055_impl_goreNumbers)], narrowed := true }
def FnExactGoreWidthsUptoSaid : Prop := fnExactGoreWidthsUptoRow.holds Tryd.pinned (OpenSpec.upto fnExactGoreWidthsSpec)

/-- 'laws.FnExactClosingAt', WHERE WHAT IT READS IS OF BULK AT MOST 1048576: true; the input reads as it did. -/
def fnExactClosingAtUptoRow : OpenClaim := { program := "yteeikkakibifpaadoor", sum := "32df5a4a1825fc603239d04cf7591c61f889e0a3600586c4d91f9bfdbf01f776", func := "loop.example/g01055/laws.FnExactClosingAt", spec := "fnExactClosingAt", recurses := true, named := ["loop.example/g01055/impl.goreNumbers"], apart := false, laid := [("loop.example/g01055/impl.goreNumbers", laid_loop_example_g01055_impl_goreNumbers)], narrowed := true }
def FnExactClosingAtUptoSaid : Prop := fnExactClosingAtUptoRow.holds Tryd.pinned (OpenSpec.upto fnExactClosingAtSpec)

/-- 'laws.FnExactWorstClosing', WHERE WHAT IT READS IS OF BULK AT MOST 1048576: true; the input reads as it did. -/
def fnExactWorstClosingUptoRow : OpenClaim := { program := "yteeikkakibifpaadoor", sum := "32df5a4a1825fc603239d04cf7591c61f889e0a3600586c4d91f9bfdbf01f776", func := "loop.example/g01055/laws.FnExactWorstClosing", spec := "fnExactWorstClosing", unfollowed := true, recurses := true, named := ["loop.example/g01055/impl.goreNumbers"], apart := false, laid := [("loop.example/g01055/impl.goreNumbers", laid_loop_example_g01055_impl_goreNumbers)], narrowed := true }
def FnExactWorstClosingUptoSaid : Prop := fnExactWorstClosingUptoRow.holds Tryd.pinned (OpenSpec.upto fnExactWorstClosingSpec)

/-- 'laws.FnExactFewestGores', WHERE WHAT IT READS IS OF BULK AT MOST 1048576: true; the input reads as it did. -/
def fnExactFewestGoresUptoRow : OpenClaim := { program := "yteeikkakibifpaadoor", sum := "32df5a4a1825fc603239d04cf7591c61f889e0a3600586c4d91f9bfdbf01f776", func := "loop.example/g01055/laws.FnExactFewestGores", spec := "fnExactFewestGores", recurses := true, named := ["loop.example/g01055/impl.goreNumbers"], apart := false, laid := [("loop.example/g01055/impl.goreNumbers", laid_loop_example_g01055_impl_goreNumbers)], narrowed := true }
def FnExactFewestGoresUptoSaid : Prop := fnExactFewestGoresUptoRow.holds Tryd.pinned (OpenSpec.upto fnExactFewestGoresSpec)

/-- 'laws.FnExactSheetsForGores', WHERE WHAT IT READS IS OF BULK AT MOST 1048576: true; the input reads as it did. -/
def fnExactSheetsForGoresUptoRow : OpenClaim := { program := "yteeikkakibifpaadoor", sum := "32df5a4a1825fc603239d04cf7591c61f889e0a3600586c4d91f9bfdbf01f776", func := "loop.example/g01055/laws.FnExactSheetsForGores", spec := "fnExactSheetsForGores", recurses := true, named := ["loop.example/g01055/impl.goreNumbers"], apart := false, laid := [("loop.example/g01055/impl.goreNumbers", laid_loop_example_g01055_impl_goreNumbers)], narrowed := true }
def FnExactSheetsForGoresUptoSaid : Prop := fnExactSheetsForGoresUptoRow.holds Tryd.pinned (OpenSpec.upto fnExactSheetsForGoresSpec)

/-- 'laws.FnExactGoresTouched', WHERE WHAT IT READS IS OF BULK AT MOST 1048576: true; the input reads as it did. -/
def fnExactGoresTouchedUptoRow : OpenClaim := { program := "yteeikkakibifpaadoor", sum := "32df5a4a1825fc603239d04cf7591c61f889e0a3600586c4d91f9bfdbf01f776", func := "loop.example/g01055/laws.FnExactGoresTouched", spec := "fnExactGoresTouched", unfollowed := true, recurses := true, named := ["loop.example/g01055/impl.goreNumbers"], apart := false, laid := [("loop.example/g01055/impl.goreNumbers", laid_loop_example_g01055_impl_goreNumbers)], narrowed := true }
def FnExactGoresTouchedUptoSaid : Prop := fnExactGoresTouchedUptoRow.holds Tryd.pinned (OpenSpec.upto fnExactGoresTouchedSpec)

end Rows
end Go.Proofs.YteeikkakibifpaaDoor
