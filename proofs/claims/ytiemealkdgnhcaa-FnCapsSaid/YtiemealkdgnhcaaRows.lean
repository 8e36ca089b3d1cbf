/-
  No cell of these rows narrows 'for every input' (looked for: loops, veiled, ifaces, maps, wideKeys, modest, calm, conditions, laid).
  DERIVED. THE GIVEN ROWS OF THIS SEAT. 12 by the template 'for every input the law returns true; each argument reads behind the call as it read before'; 0 by the template 'total and deterministic' (their statements: YtiemealkdgnhcaaTotals.lean).
  GIVEN WITH THE SEED: the statements are not yours to turn. If you find one false, say at which input.
  Laid BY PROGRAM, IN A SANDBOX (cutbox-rows.mjs): the forced cells as the released guide's own fill.sh prints them over the translation f08aa80cf5b3a3b4… (all of the seat's roots in one cut). By AI agents, Wed Nov 11 2026. No macro, syntax, notation, axiom, sorry.
-/
import Derived.Test.YtiemealkdgnhcaaChecked
import GoSem.Claim
import GoSem.ClaimJoined
import GoSem.ClaimMapViews
import Derived.JoinedTies
import Derived.KernelRfl
namespace Go.Proofs.Ytiemealkdgnhcaa
/- THE CELL 'sum', in the pinned program and in every row, IS THE sha256 OF THE DUMP (.gsa) THAT YtiemealkdgnhcaaProg.lean LOADS. Nothing in Lean hashes anything: it is a label: what it is worth is what the hold of that sum in a sandbox is worth. -/
noncomputable def Try.pinned : Pinned := { name := "ytiemealkdgnhcaa", sum := "f08aa80cf5b3a3b4b85021aa8c334f3523437422c45e45ab8df028cc0d415100", checked := Try.checked }
namespace Rows
def none {H : Type} : Left H := { results := [], args := [] }

/-- 'laws.FnCaps': WHATEVER THE INPUT: true; the input reads as it did. -/
def fnCapsSpec : ChangeSpec := { name := "fnCaps", fn := fun _ => fun
  | [d] => { results := [.lit (.bool true)], args := [d] }
  | _ => none }
def fnCapsRow : OpenClaim := { program := "ytiemealkdgnhcaa", sum := "f08aa80cf5b3a3b4b85021aa8c334f3523437422c45e45ab8df028cc0d415100", func := "loop.example/g01055/laws.FnCaps", spec := "fnCaps", unfollowed := true, recurses := true, apart := false }
def FnCapsSaid : Prop := fnCapsRow.holds Try.pinned (OpenSpec.ofChange fnCapsSpec)

/-- ITS FALSE NEIGHBOUR: 'it returns false'. Refute it at one input. -/
def fnCapsWrong : ChangeSpec := { name := "fnCaps", fn := fun _ => fun
  | [d] => { results := [.lit (.bool false)], args := [d] }
  | _ => none }
def FnCapsWrongFalsely : Prop := fnCapsRow.holds Try.pinned (OpenSpec.ofChange fnCapsWrong)

/-- 'laws.FnRims': WHATEVER THE INPUT: true; the input reads as it did. -/
def fnRimsSpec : ChangeSpec := { name := "fnRims", fn := fun _ => fun
  | [d] => { results := [.lit (.bool true)], args := [d] }
  | _ => none }
def fnRimsRow : OpenClaim := { program := "ytiemealkdgnhcaa", sum := "f08aa80cf5b3a3b4b85021aa8c334f3523437422c45e45ab8df028cc0d415100", func := "loop.example/g01055/laws.FnRims", spec := "fnRims", recurses := true, apart := false }
def FnRimsSaid : Prop := fnRimsRow.holds Try.pinned (OpenSpec.ofChange fnRimsSpec)

/-- ITS FALSE NEIGHBOUR: 'it returns false'. Refute it at one input. -/
def fnRimsWrong : ChangeSpec := { name := "fnRims", fn := fun _ => fun
  | [d] => { results := [.lit (.bool false)], args := [d] }
  | _ => none }
def FnRimsWrongFalsely : Prop := fnRimsRow.holds Try.pinned (OpenSpec.ofChange fnRimsWrong)

/-- 'laws.FnExactArcLength': WHATEVER THE INPUT: true; the input reads as it did. -/
def fnExactArcLengthSpec : ChangeSpec := { name := "fnExactArcLength", fn := fun _ => fun
  | [d1, d2] => { results := [.lit (.bool true)], args := [d1, d2] }
  | _ => none }
def fnExactArcLengthRow : OpenClaim := { program := "ytiemealkdgnhcaa", sum := "f08aa80cf5b3a3b4b85021aa8c334f3523437422c45e45ab8df028cc0d415100", func := "loop.example/g01055/laws.FnExactArcLength", spec := "fnExactArcLength", apart := false }
def FnExactArcLengthSaid : Prop := fnExactArcLengthRow.holds Try.pinned (OpenSpec.ofChange fnExactArcLengthSpec)

/-- ITS FALSE NEIGHBOUR: 'it returns false'. Refute it at one input. -/
def fnExactArcLengthWrong : ChangeSpec := { name := "fnExactArcLength", fn := fun _ => fun
  | [d1, d2] => { results := [.lit (.bool false)], args := [d1, d2] }
  | _ => none }
def FnExactArcLengthWrongFalsely : Prop := fnExactArcLengthRow.holds Try.pinned (OpenSpec.ofChange fnExactArcLengthWrong)

/-- 'laws.FnExactCapRadius': WHATEVER THE INPUT: true; the input reads as it did. -/
def fnExactCapRadiusSpec : ChangeSpec := { name := "fnExactCapRadius", fn := fun _ => fun
  | [d1, d2] => { results := [.lit (.bool true)], args := [d1, d2] }
  | _ => none }
def fnExactCapRadiusRow : OpenClaim := { program := "ytiemealkdgnhcaa", sum := "f08aa80cf5b3a3b4b85021aa8c334f3523437422c45e45ab8df028cc0d415100", func := "loop.example/g01055/laws.FnExactCapRadius", spec := "fnExactCapRadius", apart := false }
def FnExactCapRadiusSaid : Prop := fnExactCapRadiusRow.holds Try.pinned (OpenSpec.ofChange fnExactCapRadiusSpec)

/-- ITS FALSE NEIGHBOUR: 'it returns false'. Refute it at one input. -/
def fnExactCapRadiusWrong : ChangeSpec := { name := "fnExactCapRadius", fn := fun _ => fun
  | [d1, d2] => { results := [.lit (.bool false)], args := [d1, d2] }
  | _ => none }
def FnExactCapRadiusWrongFalsely : Prop := fnExactCapRadiusRow.holds Try.pinned (OpenSpec.ofChange fnExactCapRadiusWrong)

/-- 'laws.FnExactCapEdge': WHATEVER THE INPUT: true; the input reads as it did. -/
def fnExactCapEdgeSpec : ChangeSpec := { name := "fnExactCapEdge", fn := fun _ => fun
  | [d1, d2] => { results := [.lit (.bool true)], args := [d1, d2] }
  | _ => none }
def fnExactCapEdgeRow : OpenClaim := { program := "ytiemealkdgnhcaa", sum := "f08aa80cf5b3a3b4b85021aa8c334f3523437422c45e45ab8df028cc0d415100", func := "loop.example/g01055/laws.FnExactCapEdge", spec := "fnExactCapEdge", apart := false }
def FnExactCapEdgeSaid : Prop := fnExactCapEdgeRow.holds Try.pinned (OpenSpec.ofChange fnExactCapEdgeSpec)

/-- ITS FALSE NEIGHBOUR: 'it returns false'. Refute it at one input. -/
def fnExactCapEdgeWrong : ChangeSpec := { name := "fnExactCapEdge", fn := fun _ => fun
  | [d1, d2] => { results := [.lit (.bool false)], args := [d1, d2] }
  | _ => none }
def FnExactCapEdgeWrongFalsely : Prop := fnExactCapEdgeRow.holds Try.pinned (OpenSpec.ofChange fnExactCapEdgeWrong)

/-- 'laws.FnExactRimExcess': WHATEVER THE INPUT: true; the input reads as it did. -/
def fnExactRimExcessSpec : ChangeSpec := { name := "fnExactRimExcess", fn := fun _ => fun
  | [d1, d2] => { results := [.lit (.bool true)], args := [d1, d2] }
  | _ => none }
def fnExactRimExcessRow : OpenClaim := { program := "ytiemealkdgnhcaa", sum := "f08aa80cf5b3a3b4b85021aa8c334f3523437422c45e45ab8df028cc0d415100", func := "loop.example/g01055/laws.FnExactRimExcess", spec := "fnExactRimExcess", recurses := true, apart := false }
def FnExactRimExcessSaid : Prop := fnExactRimExcessRow.holds Try.pinned (OpenSpec.ofChange fnExactRimExcessSpec)

/-- ITS FALSE NEIGHBOUR: 'it returns false'. Refute it at one input. -/
def fnExactRimExcessWrong : ChangeSpec := { name := "fnExactRimExcess", fn := fun _ => fun
  | [d1, d2] => { results := [.lit (.bool false)], args := [d1, d2] }
  | _ => none }
def FnExactRimExcessWrongFalsely : Prop := fnExactRimExcessRow.holds Try.pinned (OpenSpec.ofChange fnExactRimExcessWrong)

/-- 'laws.FnExactSlitsFor': WHATEVER THE INPUT: true; the input reads as it did. -/
def fnExactSlitsForSpec : ChangeSpec := { name := "fnExactSlitsFor", fn := fun _ => fun
  | [d1, d2, d3] => { results := [.lit (.bool true)], args := [d1, d2, d3] }
  | _ => none }
def fnExactSlitsForRow : OpenClaim := { program := "ytiemealkdgnhcaa", sum := "f08aa80cf5b3a3b4b85021aa8c334f3523437422c45e45ab8df028cc0d415100", func := "loop.example/g01055/laws.FnExactSlitsFor", spec := "fnExactSlitsFor", recurses := true, apart := false }
def FnExactSlitsForSaid : Prop := fnExactSlitsForRow.holds Try.pinned (OpenSpec.ofChange fnExactSlitsForSpec)

/-- ITS FALSE NEIGHBOUR: 'it returns false'. Refute it at one input. -/
def fnExactSlitsForWrong : ChangeSpec := { name := "fnExactSlitsFor", fn := fun _ => fun
  | [d1, d2, d3] => { results := [.lit (.bool false)], args := [d1, d2, d3] }
  | _ => none }
def FnExactSlitsForWrongFalsely : Prop := fnExactSlitsForRow.holds Try.pinned (OpenSpec.ofChange fnExactSlitsForWrong)

/-- 'laws.FnExactRingsOf': WHATEVER THE INPUT: true; the input reads as it did. -/
def fnExactRingsOfSpec : ChangeSpec := { name := "fnExactRingsOf", fn := fun _ => fun
  | [d1, d2] => { results := [.lit (.bool true)], args := [d1, d2] }
  | _ => none }
def fnExactRingsOfRow : OpenClaim := { program := "ytiemealkdgnhcaa", sum := "f08aa80cf5b3a3b4b85021aa8c334f3523437422c45e45ab8df028cc0d415100", func := "loop.example/g01055/laws.FnExactRingsOf", spec := "fnExactRingsOf", unfollowed := true, recurses := true, apart := false }
def FnExactRingsOfSaid : Prop := fnExactRingsOfRow.holds Try.pinned (OpenSpec.ofChange fnExactRingsOfSpec)

/-- ITS FALSE NEIGHBOUR: 'it returns false'. Refute it at one input. -/
def fnExactRingsOfWrong : ChangeSpec := { name := "fnExactRingsOf", fn := fun _ => fun
  | [d1, d2] => { results := [.lit (.bool false)], args := [d1, d2] }
  | _ => none }
def FnExactRingsOfWrongFalsely : Prop := fnExactRingsOfRow.holds Try.pinned (OpenSpec.ofChange fnExactRingsOfWrong)

/-- 'laws.FnExactRingOf': WHATEVER THE INPUT: true; the input reads as it did. -/
def fnExactRingOfSpec : ChangeSpec := { name := "fnExactRingOf", fn := fun _ => fun
  | [d1, d2, d3, d4] => { results := [.lit (.bool true)], args := [d1, d2, d3, d4] }
  | _ => none }
def fnExactRingOfRow : OpenClaim := { program := "ytiemealkdgnhcaa", sum := "f08aa80cf5b3a3b4b85021aa8c334f3523437422c45e45ab8df028cc0d415100", func := "loop.example/g01055/laws.FnExactRingOf", spec := "fnExactRingOf", apart := false }
def FnExactRingOfSaid : Prop := fnExactRingOfRow.holds Try.pinned (OpenSpec.ofChange fnExactRingOfSpec)

/-- ITS FALSE NEIGHBOUR: 'it returns false'. Refute it at one input. -/
def fnExactRingOfWrong : ChangeSpec := { name := "fnExactRingOf", fn := fun _ => fun
  | [d1, d2, d3, d4] => { results := [.lit (.bool false)], args := [d1, d2, d3, d4] }
  | _ => none }
def FnExactRingOfWrongFalsely : Prop := fnExactRingOfRow.holds Try.pinned (OpenSpec.ofChange fnExactRingOfWrong)

/-- 'laws.FnExactCapOverlap': WHATEVER THE INPUT: true; the input reads as it did. -/
def fnExactCapOverlapSpec : ChangeSpec := { name := "fnExactCapOverlap", fn := fun _ => fun
  | [d1, d2, d3] => { results := [.lit (.bool true)], args := [d1, d2, d3] }
  | _ => none }
def fnExactCapOverlapRow : OpenClaim := { program := "ytiemealkdgnhcaa", sum := "f08aa80cf5b3a3b4b85021aa8c334f3523437422c45e45ab8df028cc0d415100", func := "loop.example/g01055/laws.FnExactCapOverlap", spec := "fnExactCapOverlap", apart := false }
def FnExactCapOverlapSaid : Prop := fnExactCapOverlapRow.holds Try.pinned (OpenSpec.ofChange fnExactCapOverlapSpec)

/-- ITS FALSE NEIGHBOUR: 'it returns false'. Refute it at one input. -/
def fnExactCapOverlapWrong : ChangeSpec := { name := "fnExactCapOverlap", fn := fun _ => fun
  | [d1, d2, d3] => { results := [.lit (.bool false)], args := [d1, d2, d3] }
  | _ => none }
def FnExactCapOverlapWrongFalsely : Prop := fnExactCapOverlapRow.holds Try.pinned (OpenSpec.ofChange fnExactCapOverlapWrong)

/-- 'laws.FnExactSmallestCap': WHATEVER THE INPUT: true; the input reads as it did. -/
def fnExactSmallestCapSpec : ChangeSpec := { name := "fnExactSmallestCap", fn := fun _ => fun
  | [d1, d2, d3] => { results := [.lit (.bool true)], args := [d1, d2, d3] }
  | _ => none }
def fnExactSmallestCapRow : OpenClaim := { program := "ytiemealkdgnhcaa", sum := "f08aa80cf5b3a3b4b85021aa8c334f3523437422c45e45ab8df028cc0d415100", func := "loop.example/g01055/laws.FnExactSmallestCap", spec := "fnExactSmallestCap", apart := false }
def FnExactSmallestCapSaid : Prop := fnExactSmallestCapRow.holds Try.pinned (OpenSpec.ofChange fnExactSmallestCapSpec)

/-- ITS FALSE NEIGHBOUR: 'it returns false'. Refute it at one input. -/
def fnExactSmallestCapWrong : ChangeSpec := { name := "fnExactSmallestCap", fn := fun _ => fun
  | [d1, d2, d3] => { results := [.lit (.bool false)], args := [d1, d2, d3] }
  | _ => none }
def FnExactSmallestCapWrongFalsely : Prop := fnExactSmallestCapRow.holds Try.pinned (OpenSpec.ofChange fnExactSmallestCapWrong)

/-- 'laws.FnExactUnderCap': WHATEVER THE INPUT: true; the input reads as it did. -/
def fnExactUnderCapSpec : ChangeSpec := { name := "fnExactUnderCap", fn := fun _ => fun
  | [d1, d2, d3] => { results := [.lit (.bool true)], args := [d1, d2, d3] }
  | _ => none }
def fnExactUnderCapRow : OpenClaim := { program := "ytiemealkdgnhcaa", sum := "f08aa80cf5b3a3b4b85021aa8c334f3523437422c45e45ab8df028cc0d415100", func := "loop.example/g01055/laws.FnExactUnderCap", spec := "fnExactUnderCap", unfollowed := true, recurses := true, apart := false }
def FnExactUnderCapSaid : Prop := fnExactUnderCapRow.holds Try.pinned (OpenSpec.ofChange fnExactUnderCapSpec)

/-- ITS FALSE NEIGHBOUR: 'it returns false'. Refute it at one input. -/
def fnExactUnderCapWrong : ChangeSpec := { name := "fnExactUnderCap", fn := fun _ => fun
  | [d1, d2, d3] => { results := [.lit (.bool false)], args := [d1, d2, d3] }
  | _ => none }
def FnExactUnderCapWrongFalsely : Prop := fnExactUnderCapRow.holds Try.pinned (OpenSpec.ofChange fnExactUnderCapWrong)

/- THE SECOND FORM. 'bulk': how many values and letters a reading holds, each counted each time it is reached (what is shared counts as often as it is met; a slice's spare places count too). A statement '..UptoSaid' is the law's where the arguments, and the package variables that the reading takes, are together of bulk at most 1048576: NARROWER than '..Said'. Prove '..Said' where nothing that the law and all that it calls make is longer than what came in: it says more and counts as full. Else prove '..UptoSaid'. A law counts once. -/
mutual
def uptoBulk {H : Type} : DataW H → Nat
  | .lit (.string bytes) => bytes.length + 1
  | .lit _ => 1
  | .nil => 1
  | .ptr d => uptoBulk d + 1
  | .slice elems spare => uptoBulkAll elems + uptoBulkAll spare + 1
  | .agg parts => uptoBulkAll parts + 1
  | .iface _ d => uptoBulk d + 1
  | .map entries => uptoBulkEntries entries + 1
  | .held _ => 1
def uptoBulkAll {H : Type} : List (DataW H) → Nat
  | [] => 0
  | d :: r => uptoBulk d + uptoBulkAll r
def uptoBulkEntries {H : Type} : List (Lit × DataW H) → Nat
  | [] => 0
  | x :: r => uptoBulkEntry x + uptoBulkEntries r
def uptoBulkEntry {H : Type} : Lit × DataW H → Nat
  | (.string bytes, d) => bytes.length + uptoBulk d + 1
  | (_, d) => uptoBulk d + 1
 end
def uptoSmall : (H : Type) → List (DataW H) → Bool := fun _ ds => decide (uptoBulkAll ds ≤ 1048576)
def OpenSpec.upto (s : _root_.Go.ChangeSpec) : _root_.Go.OpenSpec := { _root_.Go.OpenSpec.ofChange s with cond := some uptoSmall }

/-- 'laws.FnCaps', WHERE WHAT IT READS IS OF BULK AT MOST 1048576: true; the input reads as it did. -/
def fnCapsUptoRow : OpenClaim := { program := "ytiemealkdgnhcaa", sum := "f08aa80cf5b3a3b4b85021aa8c334f3523437422c45e45ab8df028cc0d415100", func := "loop.example/g01055/laws.FnCaps", spec := "fnCaps", unfollowed := true, recurses := true, apart := false, narrowed := true }
def FnCapsUptoSaid : Prop := fnCapsUptoRow.holds Try.pinned (OpenSpec.upto fnCapsSpec)

/-- 'laws.FnRims', WHERE WHAT IT READS IS OF BULK AT MOST 1048576: true; the input reads as it did. -/
def fnRimsUptoRow : OpenClaim := { program := "ytiemealkdgnhcaa", sum := "f08aa80cf5b3a3b4b85021aa8c334f3523437422c45e45ab8df028cc0d415100", func := "loop.example/g01055/laws.FnRims", spec := "fnRims", recurses := true, apart := false, narrowed := true }
def FnRimsUptoSaid : Prop := fnRimsUptoRow.holds Try.pinned (OpenSpec.upto fnRimsSpec)

/-- 'laws.FnExactArcLength', WHERE WHAT IT READS IS OF BULK AT MOST 1048576: true; the input reads as it did. -/
def fnExactArcLengthUptoRow : OpenClaim := { program := "ytiemealkdgnhcaa", sum := "f08aa80cf5b3a3b4b85021aa8c334f3523437422c45e45ab8df028cc0d415100", func := "loop.example/g01055/laws.FnExactArcLength", spec := "fnExactArcLength", apart := false, narrowed := true }
def FnExactArcLengthUptoSaid : Prop := fnExactArcLengthUptoRow.holds Try.pinned (OpenSpec.upto fnExactArcLengthSpec)

/-- 'laws.FnExactCapRadius', WHERE WHAT IT READS IS OF BULK AT MOST 1048576: true; the input reads as it did. -/
def fnExactCapRadiusUptoRow : OpenClaim := { program := "ytiemealkdgnhcaa", sum := "f08aa80cf5b3a3b4b85021aa8c334f3523437422c45e45ab8df028cc0d415100", func := "loop.example/g01055/laws.FnExactCapRadius", spec := "fnExactCapRadius", apart := false, narrowed := true }
def FnExactCapRadiusUptoSaid : Prop := fnExactCapRadiusUptoRow.holds Try.pinned (OpenSpec.upto fnExactCapRadiusSpec)

/-- 'laws.FnExactCapEdge', WHERE WHAT IT READS IS OF BULK AT MOST 1048576: true; the input reads as it did. -/
def fnExactCapEdgeUptoRow : OpenClaim := { program := "ytiemealkdgnhcaa", sum := "f08aa80cf5b3a3b4b85021aa8c334f3523437422c45e45ab8df028cc0d415100", func := "loop.example/g01055/laws.FnExactCapEdge", spec := "fnExactCapEdge", apart := false, narrowed := true }
def FnExactCapEdgeUptoSaid : Prop := fnExactCapEdgeUptoRow.holds Try.pinned (OpenSpec.upto fnExactCapEdgeSpec)

/-- 'laws.FnExactRimExcess', WHERE WHAT IT READS IS OF BULK AT MOST 1048576: true; the input reads as it did. -/
def fnExactRimExcessUptoRow : OpenClaim := { program := "ytiemealkdgnhcaa", sum := "f08aa80cf5b3a3b4b85021aa8c334f3523437422c45e45ab8df028cc0d415100", func := "loop.example/g01055/laws.FnExactRimExcess", spec := "fnExactRimExcess", recurses := true, apart := false, narrowed := true }
def FnExactRimExcessUptoSaid : Prop := fnExactRimExcessUptoRow.holds Try.pinned (OpenSpec.upto fnExactRimExcessSpec)

/-- 'laws.FnExactSlitsFor', WHERE WHAT IT READS IS OF BULK AT MOST 1048576: true; the input reads as it did. -/
def fnExactSlitsForUptoRow : OpenClaim := { program := "ytiemealkdgnhcaa", sum := "f08aa80cf5b3a3b4b85021aa8c334f3523437422c45e45ab8df028cc0d415100", func := "loop.example/g01055/laws.FnExactSlitsFor", spec := "fnExactSlitsFor", recurses := true, apart := false, narrowed := true }
def FnExactSlitsForUptoSaid : Prop := fnExactSlitsForUptoRow.holds Try.pinned (OpenSpec.upto fnExactSlitsForSpec)

/-- 'laws.FnExactRingsOf', WHERE WHAT IT READS IS OF BULK AT MOST 1048576: true; the input reads as it did. -/
def fnExactRingsOfUptoRow : OpenClaim := { program := "ytiemealkdgnhcaa", sum := "f08aa80cf5b3a3b4b85021aa8c334f3523437422c45e45ab8df028cc0d415100", func := "loop.example/g01055/laws.FnExactRingsOf", spec := "fnExactRingsOf", unfollowed := true, recurses := true, apart := false, narrowed := true }
def FnExactRingsOfUptoSaid : Prop := fnExactRingsOfUptoRow.holds Try.pinned (OpenSpec.upto fnExactRingsOfSpec)

/-- 'laws.FnExactRingOf', WHERE WHAT IT READS IS OF BULK AT MOST 1048576: true; the input reads as it did. -/
def fnExactRingOfUptoRow : OpenClaim := { program := "ytiemealkdgnhcaa", sum := "f08aa80cf5b3a3b4b85021aa8c334f3523437422c45e45ab8df028cc0d415100", func := "loop.example/g01055/laws.FnExactRingOf", spec := "fnExactRingOf", apart := false, narrowed := true }
def FnExactRingOfUptoSaid : Prop := fnExactRingOfUptoRow.holds Try.pinned (OpenSpec.upto fnExactRingOfSpec)

/-- 'laws.FnExactCapOverlap', WHERE WHAT IT READS IS OF BULK AT MOST 1048576: true; the input reads as it did. -/
def fnExactCapOverlapUptoRow : OpenClaim := { program := "ytiemealkdgnhcaa", sum := "f08aa80cf5b3a3b4b85021aa8c334f3523437422c45e45ab8df028cc0d415100", func := "loop.example/g01055/laws.FnExactCapOverlap", spec := "fnExactCapOverlap", apart := false, narrowed := true }
def FnExactCapOverlapUptoSaid : Prop := fnExactCapOverlapUptoRow.holds Try.pinned (OpenSpec.upto fnExactCapOverlapSpec)

/-- 'laws.FnExactSmallestCap', WHERE WHAT IT READS IS OF BULK AT MOST 1048576: true; the input reads as it did. -/
def fnExactSmallestCapUptoRow : OpenClaim := { program := "ytiemealkdgnhcaa", sum := "f08aa80cf5b3a3b4b85021aa8c334f3523437422c45e45ab8df028cc0d415100", func := "loop.example/g01055/laws.FnExactSmallestCap", spec := "fnExactSmallestCap", apart := false, narrowed := true }
def FnExactSmallestCapUptoSaid : Prop := fnExactSmallestCapUptoRow.holds Try.pinned (OpenSpec.upto fnExactSmallestCapSpec)

/-- 'laws.FnExactUnderCap', WHERE WHAT IT READS IS OF BULK AT MOST 1048576: true; the input reads as it did. -/
def fnExactUnderCapUptoRow : OpenClaim := { program := "ytiemealkdgnhcaa", sum := "f08aa80cf5b3a3b4b85021aa8c334f3523437422c45e45ab8df028cc0d415100", func := "loop.example/g01055/laws.FnExactUnderCap", spec := "fnExactUnderCap", unfollowed := true, recurses := true, apart := false, narrowed := true }
def FnExactUnderCapUptoSaid : Prop := fnExactUnderCapUptoRow.holds Try.pinned (OpenSpec.upto fnExactUnderCapSpec)

end Rows
end Go.Proofs.Ytiemealkdgnhcaa
