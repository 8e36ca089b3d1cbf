/-
  No cell of these rows narrows 'for every input' (looked for: loops, veiled, ifaces, maps, wideKeys, modest, calm, conditions, laid).
  DERIVED. THE GIVEN ROWS OF THIS SEAT. 6 by the template 'for every input the law returns true; each argument reads behind the call as it read before'; 0 by the template 'total and deterministic' (their statements: YtemhmejjmhbfdabTotals.lean).
  GIVEN WITH THE SEED: the statements are not yours to turn. If you find one false, say at which input.
  Laid BY PROGRAM, IN A SANDBOX (cutbox-rows.mjs): the forced cells as the released guide's own fill.sh prints them over the translation e544a8dcd951c830… (all of the seat's roots in one cut). By AI agents, Wed Nov 11 2026. No macro, syntax, notation, axiom, sorry.
-/
import Derived.Test.YtemhmejjmhbfdabChecked
import GoSem.Claim
import GoSem.ClaimJoined
import GoSem.ClaimMapViews
import Derived.JoinedTies
import Derived.KernelRfl
namespace Go.Proofs.Ytemhmejjmhbfdab
/- THE CELL 'sum', in the pinned program and in every row, IS THE sha256 OF THE DUMP (.gsa) THAT YtemhmejjmhbfdabProg.lean LOADS. Nothing in Lean hashes anything: it is a label: what it is worth is what the hold of that sum in a sandbox is worth. -/
noncomputable def Try.pinned : Pinned := { name := "ytemhmejjmhbfdab", sum := "e544a8dcd951c830833d6fa15be2e76093072c5371962849d6fe7921af896972", checked := Try.checked }
namespace Rows
def none {H : Type} : Left H := { results := [], args := [] }

/-- 'laws.FnExactFlatBox': WHATEVER THE INPUT: true; the input reads as it did. -/
def fnExactFlatBoxSpec : ChangeSpec := { name := "fnExactFlatBox", fn := fun _ => fun
  | [d1, d2, d3] => { results := [.lit (.bool true)], args := [d1, d2, d3] }
  | _ => none }
def fnExactFlatBoxRow : OpenClaim := { program := "ytemhmejjmhbfdab", sum := "e544a8dcd951c830833d6fa15be2e76093072c5371962849d6fe7921af896972", func := "loop.example/g01055/laws.FnExactFlatBox", spec := "fnExactFlatBox", unfollowed := true, recurses := true, plainKeys := false, apart := false }
def FnExactFlatBoxSaid : Prop := fnExactFlatBoxRow.holds Try.pinned (OpenSpec.ofChange fnExactFlatBoxSpec)

/-- ITS FALSE NEIGHBOUR: 'it returns false'. Refute it at one input. -/
def fnExactFlatBoxWrong : ChangeSpec := { name := "fnExactFlatBox", fn := fun _ => fun
  | [d1, d2, d3] => { results := [.lit (.bool false)], args := [d1, d2, d3] }
  | _ => none }
def FnExactFlatBoxWrongFalsely : Prop := fnExactFlatBoxRow.holds Try.pinned (OpenSpec.ofChange fnExactFlatBoxWrong)

/-- 'laws.FnExactOnMap': WHATEVER THE INPUT: true; the input reads as it did. -/
def fnExactOnMapSpec : ChangeSpec := { name := "fnExactOnMap", fn := fun _ => fun
  | [d1, d2, d3] => { results := [.lit (.bool true)], args := [d1, d2, d3] }
  | _ => none }
def fnExactOnMapRow : OpenClaim := { program := "ytemhmejjmhbfdab", sum := "e544a8dcd951c830833d6fa15be2e76093072c5371962849d6fe7921af896972", func := "loop.example/g01055/laws.FnExactOnMap", spec := "fnExactOnMap", unfollowed := true, recurses := true, plainKeys := false, apart := false }
def FnExactOnMapSaid : Prop := fnExactOnMapRow.holds Try.pinned (OpenSpec.ofChange fnExactOnMapSpec)

/-- ITS FALSE NEIGHBOUR: 'it returns false'. Refute it at one input. -/
def fnExactOnMapWrong : ChangeSpec := { name := "fnExactOnMap", fn := fun _ => fun
  | [d1, d2, d3] => { results := [.lit (.bool false)], args := [d1, d2, d3] }
  | _ => none }
def FnExactOnMapWrongFalsely : Prop := fnExactOnMapRow.holds Try.pinned (OpenSpec.ofChange fnExactOnMapWrong)

/-- 'laws.FnExactFirstClash': WHATEVER THE INPUT: true; the input reads as it did. -/
def fnExactFirstClashSpec : ChangeSpec := { name := "fnExactFirstClash", fn := fun _ => fun
  | [d1, d2, d3] => { results := [.lit (.bool true)], args := [d1, d2, d3] }
  | _ => none }
def fnExactFirstClashRow : OpenClaim := { program := "ytemhmejjmhbfdab", sum := "e544a8dcd951c830833d6fa15be2e76093072c5371962849d6fe7921af896972", func := "loop.example/g01055/laws.FnExactFirstClash", spec := "fnExactFirstClash", unfollowed := true, recurses := true, plainKeys := false, apart := false }
def FnExactFirstClashSaid : Prop := fnExactFirstClashRow.holds Try.pinned (OpenSpec.ofChange fnExactFirstClashSpec)

/-- ITS FALSE NEIGHBOUR: 'it returns false'. Refute it at one input. -/
def fnExactFirstClashWrong : ChangeSpec := { name := "fnExactFirstClash", fn := fun _ => fun
  | [d1, d2, d3] => { results := [.lit (.bool false)], args := [d1, d2, d3] }
  | _ => none }
def FnExactFirstClashWrongFalsely : Prop := fnExactFirstClashRow.holds Try.pinned (OpenSpec.ofChange fnExactFirstClashWrong)

/-- 'laws.FnExactCountColours': WHATEVER THE INPUT: true; the input reads as it did. -/
def fnExactCountColoursSpec : ChangeSpec := { name := "fnExactCountColours", fn := fun _ => fun
  | [d1, d2, d3] => { results := [.lit (.bool true)], args := [d1, d2, d3] }
  | _ => none }
def fnExactCountColoursRow : OpenClaim := { program := "ytemhmejjmhbfdab", sum := "e544a8dcd951c830833d6fa15be2e76093072c5371962849d6fe7921af896972", func := "loop.example/g01055/laws.FnExactCountColours", spec := "fnExactCountColours", unfollowed := true, recurses := true, plainKeys := false, apart := false }
def FnExactCountColoursSaid : Prop := fnExactCountColoursRow.holds Try.pinned (OpenSpec.ofChange fnExactCountColoursSpec)

/-- ITS FALSE NEIGHBOUR: 'it returns false'. Refute it at one input. -/
def fnExactCountColoursWrong : ChangeSpec := { name := "fnExactCountColours", fn := fun _ => fun
  | [d1, d2, d3] => { results := [.lit (.bool false)], args := [d1, d2, d3] }
  | _ => none }
def FnExactCountColoursWrongFalsely : Prop := fnExactCountColoursRow.holds Try.pinned (OpenSpec.ofChange fnExactCountColoursWrong)

/-- 'laws.FnExactGreatestOutline': WHATEVER THE INPUT: true; the input reads as it did. -/
def fnExactGreatestOutlineSpec : ChangeSpec := { name := "fnExactGreatestOutline", fn := fun _ => fun
  | [d] => { results := [.lit (.bool true)], args := [d] }
  | _ => none }
def fnExactGreatestOutlineRow : OpenClaim := { program := "ytemhmejjmhbfdab", sum := "e544a8dcd951c830833d6fa15be2e76093072c5371962849d6fe7921af896972", func := "loop.example/g01055/laws.FnExactGreatestOutline", spec := "fnExactGreatestOutline", unfollowed := true, recurses := true, plainKeys := false, apart := false }
def FnExactGreatestOutlineSaid : Prop := fnExactGreatestOutlineRow.holds Try.pinned (OpenSpec.ofChange fnExactGreatestOutlineSpec)

/-- ITS FALSE NEIGHBOUR: 'it returns false'. Refute it at one input. -/
def fnExactGreatestOutlineWrong : ChangeSpec := { name := "fnExactGreatestOutline", fn := fun _ => fun
  | [d] => { results := [.lit (.bool false)], args := [d] }
  | _ => none }
def FnExactGreatestOutlineWrongFalsely : Prop := fnExactGreatestOutlineRow.holds Try.pinned (OpenSpec.ofChange fnExactGreatestOutlineWrong)

/-- 'laws.FnExactMoveChain': WHATEVER THE INPUT: true; the input reads as it did. -/
def fnExactMoveChainSpec : ChangeSpec := { name := "fnExactMoveChain", fn := fun _ => fun
  | [d1, d2, d3] => { results := [.lit (.bool true)], args := [d1, d2, d3] }
  | _ => none }
def fnExactMoveChainRow : OpenClaim := { program := "ytemhmejjmhbfdab", sum := "e544a8dcd951c830833d6fa15be2e76093072c5371962849d6fe7921af896972", func := "loop.example/g01055/laws.FnExactMoveChain", spec := "fnExactMoveChain", unfollowed := true, recurses := true, plainKeys := false, apart := false }
def FnExactMoveChainSaid : Prop := fnExactMoveChainRow.holds Try.pinned (OpenSpec.ofChange fnExactMoveChainSpec)

/-- ITS FALSE NEIGHBOUR: 'it returns false'. Refute it at one input. -/
def fnExactMoveChainWrong : ChangeSpec := { name := "fnExactMoveChain", fn := fun _ => fun
  | [d1, d2, d3] => { results := [.lit (.bool false)], args := [d1, d2, d3] }
  | _ => none }
def FnExactMoveChainWrongFalsely : Prop := fnExactMoveChainRow.holds Try.pinned (OpenSpec.ofChange fnExactMoveChainWrong)

/- THE SECOND FORM. 'bulk': how many values and letters a reading holds, each counted each time it is reached (what is shared counts as often as it is met; a slice's spare places count too). A statement '..UptoSaid' is the law's where the arguments, and the package variables that the reading takes, are together of bulk at most 1048576: NARROWER than '..Said'. Prove '..Said' where nothing that the law and all that it calls make is longer than what came in: it says more and counts as full. Else prove '..UptoSaid'. A law counts once. -/
mutual
def uptoBulk {H : Type} : DataW H → Nat
  | .lit (.string bytes) => bytes.length + 1
  | .lit _ => 1
  | .nil => 1
  | .ptr d => uptoBulk d + 1
  | .slice elems spare => uptoBulkAll elems + uptoBulkAll spare + 1
  | .agg parts => uptoBulkAll parts + 1
  | .iface _ d => uptoBulk d + 1
  | .map entries => uptoBulkEntries entries + 1
  | .held _ => 1
def uptoBulkAll {H : Type} : List (DataW H) → Nat
  | [] => 0
  | d :: r => uptoBulk d + uptoBulkAll r
def uptoBulkEntries {H : Type} : List (Lit × DataW H) → Nat
  | [] => 0
  | x :: r => uptoBulkEntry x + uptoBulkEntries r
def uptoBulkEntry {H : Type} : Lit × DataW H → Nat
  | (.string bytes, d) => bytes.length + uptoBulk d + 1
  | (_, d) => uptoBulk d + 1
 end
def uptoSmall : (H : Type) → List (DataW H) → Bool := fun _ ds => decide (uptoBulkAll ds ≤ 1048576)
def OpenSpec.upto (s : _root_.Go.ChangeSpec) : _root_.Go.OpenSpec := { _root_.Go.OpenSpec.ofChange s with cond := some uptoSmall }

/-- 'laws.FnExactFlatBox', WHERE WHAT IT READS IS OF BULK AT MOST 1048576: true; the input reads as it did. -/
def fnExactFlatBoxUptoRow : OpenClaim := { program := "ytemhmejjmhbfdab", sum := "e544a8dcd951c830833d6fa15be2e76093072c5371962849d6fe7921af896972", func := "loop.example/g01055/laws.FnExactFlatBox", spec := "fnExactFlatBox", unfollowed := true, recurses := true, plainKeys := false, apart := false, narrowed := true }
def FnExactFlatBoxUptoSaid : Prop := fnExactFlatBoxUptoRow.holds Try.pinned (OpenSpec.upto fnExactFlatBoxSpec)

/-- 'laws.FnExactOnMap', WHERE WHAT IT READS IS OF BULK AT MOST 1048576: true; the input reads as it did. -/
def fnExactOnMapUptoRow : OpenClaim := { program := "ytemhmejjmhbfdab", sum := "e544a8dcd951c830833d6fa15be2e76093072c5371962849d6fe7921af896972", func := "loop.example/g01055/laws.FnExactOnMap", spec := "fnExactOnMap", unfollowed := true, recurses := true, plainKeys := false, apart := false, narrowed := true }
def FnExactOnMapUptoSaid : Prop := fnExactOnMapUptoRow.holds Try.pinned (OpenSpec.upto fnExactOnMapSpec)

/-- 'laws.FnExactFirstClash', WHERE WHAT IT READS IS OF BULK AT MOST 1048576: true; the input reads as it did. -/
def fnExactFirstClashUptoRow : OpenClaim := { program := "ytemhmejjmhbfdab", sum := "e544a8dcd951c830833d6fa15be2e76093072c5371962849d6fe7921af896972", func := "loop.example/g01055/laws.FnExactFirstClash", spec := "fnExactFirstClash", unfollowed := true, recurses := true, plainKeys := false, apart := false, narrowed := true }
def FnExactFirstClashUptoSaid : Prop := fnExactFirstClashUptoRow.holds Try.pinned (OpenSpec.upto fnExactFirstClashSpec)

/-- 'laws.FnExactCountColours', WHERE WHAT IT READS IS OF BULK AT MOST 1048576: true; the input reads as it did. -/
def fnExactCountColoursUptoRow : OpenClaim := { program := "ytemhmejjmhbfdab", sum := "e544a8dcd951c830833d6fa15be2e76093072c5371962849d6fe7921af896972", func := "loop.example/g01055/laws.FnExactCountColours", spec := "fnExactCountColours", unfollowed := true, recurses := true, plainKeys := false, apart := false, narrowed := true }
def FnExactCountColoursUptoSaid : Prop := fnExactCountColoursUptoRow.holds Try.pinned (OpenSpec.upto fnExactCountColoursSpec)

/-- 'laws.FnExactGreatestOutline', WHERE WHAT IT READS IS OF BULK AT MOST 1048576: true; the input reads as it did. -/
def fnExactGreatestOutlineUptoRow : OpenClaim := { program := "ytemhmejjmhbfdab", sum := "e544a8dcd951c830833d6fa15be2e76093072c5371962849d6fe7921af896972", func := "loop.example/g01055/laws.FnExactGreatestOutline", spec := "fnExactGreatestOutline", unfollowed := true, recurses := true, plainKeys := false, apart := false, narrowed := true }
def FnExactGreatestOutlineUptoSaid : Prop := fnExactGreatestOutlineUptoRow.holds Try.pinned (OpenSpec.upto fnExactGreatestOutlineSpec)

/-- 'laws.FnExactMoveChain', WHERE WHAT IT READS IS OF BULK AT MOST 1048576: true; the input reads as it did. -/
def fnExactMoveChainUptoRow : OpenClaim := { program := "ytemhmejjmhbfdab", sum := "e544a8dcd951c830833d6fa15be2e76093072c5371962849d6fe7921af896972", func := "loop.example/g01055/laws.FnExactMoveChain", spec := "fnExactMoveChain", unfollowed := true, recurses := true, plainKeys := false, apart := false, narrowed := true }
def FnExactMoveChainUptoSaid : Prop := fnExactMoveChainUptoRow.holds Try.pinned (OpenSpec.upto fnExactMoveChainSpec)

end Rows
end Go.Proofs.Ytemhmejjmhbfdab
