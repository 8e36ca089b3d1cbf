/-
  NARROWER THAN 'FOR EVERY INPUT', by the rows' own cells (each row's printed sentence says how): FnAngleTexts: laid · FnGores: laid · FnExactSpotText: laid · FnExactReadSpot: laid · FnExactGoresTouched: laid.
  DERIVED. THE GIVEN ROWS OF THIS SEAT. 5 by the template 'for every input the law returns true; each argument reads behind the call as it read before'; 0 by the template 'total and deterministic' (their statements: YtbnihalbepffoaaDoorTotals.lean).
  GIVEN WITH THE SEED: the statements are not yours to turn. If you find one false, say at which input.
  Laid BY PROGRAM, IN A SANDBOX (cutbox-rows.mjs): the forced cells as the released guide's own fill.sh prints them over the translation 59cf3c10eba23aa4… (all of the seat's roots in one cut). By AI agents, Wed Nov 11 2026. No macro, syntax, notation, axiom, sorry.
-/
import Derived.Test.YtbnihalbepffoaaDoorChecked
import GoSem.Claim
import GoSem.ClaimJoined
import GoSem.ClaimMapViews
import Derived.JoinedTies
import Derived.KernelRfl
namespace Go.Proofs.YtbnihalbepffoaaDoor
/- THE CELL 'sum', in the pinned program and in every row, IS THE sha256 OF THE DUMP (.gsa) THAT YtbnihalbepffoaaDoorProg.lean LOADS. Nothing in Lean hashes anything: it is a label: what it is worth is what the hold of that sum in a sandbox is worth. -/
noncomputable def Tryd.pinned : Pinned := { name := "ytbnihalbepffoaadoor", sum := "59cf3c10eba23aa484caec6e8db78ee9c500fd8e6f0ba1d5f6e638164633de01", checked := Tryd.checked }
namespace Rows
def none {H : Type} : Left H := { results := [], args := [] }

/- WHAT THE LISTED PACKAGE-LEVEL VARIABLES READ AS WHEN THE CALL BEGINS. Each datum BY PROGRAM (the guide's laid-datum.mjs) off the statement by which the dump's own 'gosem.cut.vars' lays the variable. In a bare row this is a premise. The card (YtbnihalbepffoaaDoorCards.lean) ties it to the program's text. -/
def laid_math_bits_deBruijn32tab {H : Type} : DataW H := .agg [.lit (.int .u8 0), .lit (.int .u8 1), .lit (.int .u8 28), .lit (.int .u8 2), .lit (.int .u8 29), .lit (.int .u8 14), .lit (.int .u8 24), .lit (.int .u8 3), .lit (.int .u8 30), .lit (.int .u8 22), .lit (.int .u8 20), .lit (.int .u8 15), .lit (.int .u8 25), .lit (.int .u8 17), .lit (.int .u8 4), .lit (.int .u8 8), .lit (.int .u8 31), .lit (.int .u8 27), .lit (.int .u8 13), .lit (.int .u8 23), .lit (.int .u8 21), .lit (.int .u8 19), .lit (.int .u8 16), .lit (.int .u8 7), .lit (.int .u8 26), .lit (.int .u8 12), .lit (.int .u8 18), .lit (.int .u8 6), .lit (.int .u8 11), .lit (.int .u8 5), .lit (.int .u8 10), .lit (.int .u8 9)]
def laid_math_bits_deBruijn64tab {H : Type} : DataW H := .agg [.lit (.int .u8 0), .lit (.int .u8 1), .lit (.int .u8 56), .lit (.int .u8 2), .lit (.int .u8 57), .lit (.int .u8 49), .lit (.int .u8 28), .lit (.int .u8 3), .lit (.int .u8 61), .lit (.int .u8 58), .lit (.int .u8 42), .lit (.int .u8 50), .lit (.int .u8 38), .lit (.int .u8 29), .lit (.int .u8 17), .lit (.int .u8 4), .lit (.int .u8 62), .lit (.int .u8 47), .lit (.int .u8 59), .lit (.int .u8 36), .lit (.int .u8 45), .lit (.int .u8 43), .lit (.int .u8 51), .lit (.int .u8 22), .lit (.int .u8 53), .lit (.int .u8 39), .lit (.int .u8 33), .lit (.int .u8 30), .lit (.int .u8 24), .lit (.int .u8 18), .lit (.int .u8 12), .lit (.int .u8 5), .lit (.int .u8 63), .lit (.int .u8 55), .lit (.int .u8 48), .lit (.int .u8 27), .lit (.int .u8 60), .lit (.int .u8 41), .lit (.int .u8 37), .lit (.int .u8 16), .lit (.int .u8 46), .lit (.int .u8 35), .lit (.int .u8 44), .lit (.int .u8 21), .lit (.int .u8 52), .lit (.int .u8 32), .lit (.int .u8 23), .lit (.int .u8 11), .lit (.int .u8 54), .lit (.int .u8 26), .lit (.int .u8 40), .lit (.int .u8 15), .lit (.int .u8 34), .lit (.int .u8 20), .lit (.int .u8 31), .lit (.int .u8 10), .lit (.int .u8 25), .lit (.int .u8 14), .lit (.int .u8 19), .lit (.int .u8 9), .lit (.int .u8 13), .lit (.int .u8 8), .lit (.int .u8 7), .lit (.int .u8 6)]
def laid_internal_strconv_uint64pow10 {H : Type} : DataW H := .agg [.lit (.int .u64 1), .lit (.int .u64 10), .lit (.int .u64 100), .lit (.int .u64 1000), .lit (.int .u64 10000), .lit (.int .u64 100000), .lit (.int .u64 1000000), .lit (.int .u64 10000000), .lit (.int .u64 100000000), .lit (.int .u64 1000000000), .lit (.int .u64 10000000000), .lit (.int .u64 100000000000), .lit (.int .u64 1000000000000), .lit (.int .u64 10000000000000), .lit (.int .u64 100000000000000), .lit (.int .u64 1000000000000000), .lit (.int .u64 10000000000000000), .lit (.int .u64 100000000000000000), .lit (.int .u64 1000000000000000000), .lit (.int .u64 10000000000000000000)]
def laid_strconv_ErrRange {H : Type} : DataW H := .iface "*errors.errorString" (.ptr (.agg [.lit (.string [118, 97, 108, 117, 101, 32, 111, 117, 116, 32, 111, 102, 32, 114, 97, 110, 103, 101])]))
def laid_strconv_ErrSyntax {H : Type} : DataW H := .iface "*errors.errorString" (.ptr (.agg [.lit (.string [105, 110, 118, 97, 108, 105, 100, 32, 115, 121, 110, 116, 97, 120])]))
def laid_loop_example_g01055_impl_goreNumbers {H : Type} : DataW H := .agg [.lit (.int .i64 6), .lit (.int .i64 8), .lit (.int .i64 9), .lit (.int .i64 10), .lit (.int .i64 12), .lit (.int .i64 15), .lit (.int .i64 16), .lit (.int .i64 18), .lit (.int .i64 20), .lit (.int .i64 24), .lit (.int .i64 25), .lit (.int .i64 27), .lit (.int .i64 30), .lit (.int .i64 32), .lit (.int .i64 36), .lit (.int .i64 40), .lit (.int .i64 45), .lit (.int .i64 48)]

/-- 'laws.FnAngleTexts': WHATEVER THE INPUT: true; the input reads as it did. -/
def fnAngleTextsSpec : ChangeSpec := { name := "fnAngleTexts", fn := fun _ => fun
  | [d1, d2] => { results := [.lit (.bool true)], args := [d1, d2] }
  | _ => none }
def fnAngleTextsRow : OpenClaim := { program := "ytbnihalbepffoaadoor", sum := "59cf3c10eba23aa484caec6e8db78ee9c500fd8e6f0ba1d5f6e638164633de01", func := "loop.example/g01055/laws.FnAngleTexts", spec := "fnAngleTexts", inPlace := ["internal/abi.NoEscape", "internal/bytealg.IndexByteString", "internal/bytealg.IndexString"], unfollowed := true, recurses := true, named := ["internal/strconv.uint64pow10", "math/bits.deBruijn32tab", "math/bits.deBruijn64tab", "internal/bytealg.MaxLen", "strconv.ErrSyntax", "strconv.ErrRange"], apart := false, laid := [("math/bits.deBruijn32tab", laid_math_bits_deBruijn32tab), ("math/bits.deBruijn64tab", laid_math_bits_deBruijn64tab), ("internal/strconv.uint64pow10", laid_internal_strconv_uint64pow10), ("strconv.ErrRange", laid_strconv_ErrRange), ("strconv.ErrSyntax", laid_strconv_ErrSyntax)] }
def FnAngleTextsSaid : Prop := fnAngleTextsRow.holds Tryd.pinned (OpenSpec.ofChange fnAngleTextsSpec)

/-- ITS FALSE NEIGHBOUR: 'it returns false'. Refute it at one input. -/
def fnAngleTextsWrong : ChangeSpec := { name := "fnAngleTexts", fn := fun _ => fun
  | [d1, d2] => { results := [.lit (.bool false)], args := [d1, d2] }
  | _ => none }
def FnAngleTextsWrongFalsely : Prop := fnAngleTextsRow.holds Tryd.pinned (OpenSpec.ofChange fnAngleTextsWrong)

/-- 'laws.FnGores': WHATEVER THE INPUT: true; the input reads as it did. -/
def fnGoresSpec : ChangeSpec := { name := "fnGores", vars := ["loop.example/g01055/impl.goreNumbers"], fn := fun _ => fun
  | [d, g1] => { results := [.lit (.bool true)], args := [d], vars := [g1] }
  | _ => none }
def fnGoresRow : OpenClaim := { program := "ytbnihalbepffoaadoor", sum := "59cf3c10eba23aa484caec6e8db78ee9c500fd8e6f0ba1d5f6e638164633de01", func := "loop.example/g01055/laws.FnGores", spec := "fnGores", unfollowed := true, recurses := true, named := ["loop.example/g01055/impl.goreNumbers"], apart := false, laid := [("loop.example/g01055/impl.goreNumbers", laid_loop_example_g01055_impl_goreNumbers)] }
def FnGoresSaid : Prop := fnGoresRow.holds Tryd.pinned (OpenSpec.ofChange fnGoresSpec)

/-- ITS FALSE NEIGHBOUR: 'it returns false'. Refute it at one input. -/
def fnGoresWrong : ChangeSpec := { name := "fnGores", vars := ["loop.example/g01055/impl.goreNumbers"], fn := fun _ => fun
  | [d, g1] => { results := [.lit (.bool false)], args := [d], vars := [g1] }
  | _ => none }
def FnGoresWrongFalsely : Prop := fnGoresRow.holds Tryd.pinned (OpenSpec.ofChange fnGoresWrong)

/-- 'laws.FnExactSpotText': WHATEVER THE INPUT: true; the input reads as it did. -/
def fnExactSpotTextSpec : ChangeSpec := { name := "fnExactSpotText", fn := fun _ => fun
  | [d] => { results := [.lit (.bool true)], args := [d] }
  | _ => none }
def fnExactSpotTextRow : OpenClaim := { program := "ytbnihalbepffoaadoor", sum := "59cf3c10eba23aa484caec6e8db78ee9c500fd8e6f0ba1d5f6e638164633de01", func := "loop.example/g01055/laws.FnExactSpotText", spec := "fnExactSpotText", inPlace := ["internal/abi.NoEscape"], named := ["internal/strconv.uint64pow10", "math/bits.deBruijn32tab", "math/bits.deBruijn64tab"], apart := false, laid := [("math/bits.deBruijn32tab", laid_math_bits_deBruijn32tab), ("math/bits.deBruijn64tab", laid_math_bits_deBruijn64tab), ("internal/strconv.uint64pow10", laid_internal_strconv_uint64pow10)] }
def FnExactSpotTextSaid : Prop := fnExactSpotTextRow.holds Tryd.pinned (OpenSpec.ofChange fnExactSpotTextSpec)

/-- ITS FALSE NEIGHBOUR: 'it returns false'. Refute it at one input. -/
def fnExactSpotTextWrong : ChangeSpec := { name := "fnExactSpotText", fn := fun _ => fun
  | [d] => { results := [.lit (.bool false)], args := [d] }
  | _ => none }
def FnExactSpotTextWrongFalsely : Prop := fnExactSpotTextRow.holds Tryd.pinned (OpenSpec.ofChange fnExactSpotTextWrong)

/-- 'laws.FnExactReadSpot': WHATEVER THE INPUT: true; the input reads as it did. -/
def fnExactReadSpotSpec : ChangeSpec := { name := "fnExactReadSpot", fn := fun _ => fun
  | [d] => { results := [.lit (.bool true)], args := [d] }
  | _ => none }
def fnExactReadSpotRow : OpenClaim := { program := "ytbnihalbepffoaadoor", sum := "59cf3c10eba23aa484caec6e8db78ee9c500fd8e6f0ba1d5f6e638164633de01", func := "loop.example/g01055/laws.FnExactReadSpot", spec := "fnExactReadSpot", inPlace := ["internal/bytealg.IndexByteString", "internal/bytealg.IndexString"], unfollowed := true, recurses := true, named := ["internal/bytealg.MaxLen", "strconv.ErrSyntax", "strconv.ErrRange", "internal/strconv.uint64pow10", "math/bits.deBruijn32tab", "math/bits.deBruijn64tab"], apart := false, laid := [("math/bits.deBruijn32tab", laid_math_bits_deBruijn32tab), ("math/bits.deBruijn64tab", laid_math_bits_deBruijn64tab), ("internal/strconv.uint64pow10", laid_internal_strconv_uint64pow10), ("strconv.ErrRange", laid_strconv_ErrRange), ("strconv.ErrSyntax", laid_strconv_ErrSyntax)] }
def FnExactReadSpotSaid : Prop := fnExactReadSpotRow.holds Tryd.pinned (OpenSpec.ofChange fnExactReadSpotSpec)

/-- ITS FALSE NEIGHBOUR: 'it returns false'. Refute it at one input. -/
def fnExactReadSpotWrong : ChangeSpec := { name := "fnExactReadSpot", fn := fun _ => fun
  | [d] => { results := [.lit (.bool false)], args := [d] }
  | _ => none }
def FnExactReadSpotWrongFalsely : Prop := fnExactReadSpotRow.holds Tryd.pinned (OpenSpec.ofChange fnExactReadSpotWrong)

/-- 'laws.FnExactGoresTouched': WHATEVER THE INPUT: true; the input reads as it did. -/
def fnExactGoresTouchedSpec : ChangeSpec := { name := "fnExactGoresTouched", vars := ["loop.example/g01055/impl.goreNumbers"], fn := fun _ => fun
  | [d1, d2, g1] => { results := [.lit (.bool true)], args := [d1, d2], vars := [g1] }
  | _ => none }
def fnExactGoresTouchedRow : OpenClaim := { program := "ytbnihalbepffoaadoor", sum := "59cf3c10eba23aa484caec6e8db78ee9c500fd8e6f0ba1d5f6e638164633de01", func := "loop.example/g01055/laws.FnExactGoresTouched", spec := "fnExactGoresTouched", unfollowed := true, recurses := true, named := ["loop.example/g01055/impl.goreNumbers"], apart := false, laid := [("loop.example/g01055/impl.goreNumbers", laid_loop_example_g01055_impl_goreNumbers)] }
def FnExactGoresTouchedSaid : Prop := fnExactGoresTouchedRow.holds Tryd.pinned (OpenSpec.ofChange fnExactGoresTouchedSpec)

/-- ITS FALSE NEIGHBOUR: 'it returns false'. Refute it at one input. -/
def fnExactGoresTouchedWrong : ChangeSpec := { name := "fnExactGoresTouched", vars := ["loop.example/g01055/impl.goreNumbers"], fn := fun _ => fun
  | [d1, d2, g1] => { results := [.lit (.bool false)], args := [d1, d2], vars := [g1] }
  | _ => none }
def FnExactGoresTouchedWrongFalsely : Prop := fnExactGoresTouchedRow.holds Tryd.pinned (OpenSpec.ofChange fnExactGoresTouchedWrong)

/- THE SECOND FORM. 'bulk': how many values and letters a reading holds, each counted each time it is reached (what is shared counts as often as it is met; a slice's spare places count too). A statement '..UptoSaid' is the law's where the arguments, and the package variables that the reading takes, are together of bulk at most 1048576: NARROWER than '..Said'. Prove '..Said' where nothing that the law and all that it calls make is longer than what came in: it says more and counts as full. Else prove '..UptoSaid'. A law counts once. -/
mutual
def uptoBulk {H : Type} : DataW H → Nat
  | .lit (.string bytes) => bytes.length + 1
  | .lit _ => 1
  | .nil => 1
  | .ptr d => uptoBulk d + 1
  | .slice elems spare => uptoBulkAll elems + uptoBulkAll spare + 1
  | .agg parts => uptoBulkAll parts + 1
  | .iface _ d => uptoBulk d + 1
  | .map entries => uptoBulkEntries entries + 1
  | .held _ => 1
def uptoBulkAll {H : Type} : List (DataW H) → Nat
  | [] => 0
  | d :: r => uptoBulk d + uptoBulkAll r
def uptoBulkEntries {H : Type} : List (Lit × DataW H) → Nat
  | [] => 0
  | x :: r => uptoBulkEntry x + uptoBulkEntries r
def uptoBulkEntry {H : Type} : Lit × DataW H → Nat
  | (.string bytes, d) => bytes.length + uptoBulk d + 1
  | (_, d) => uptoBulk d + 1
 end
def uptoSmall : (H : Type) → List (DataW H) → Bool := fun _ ds => decide (uptoBulkAll ds ≤ 1048576)
def OpenSpec.upto (s : _root_.Go.ChangeSpec) : _root_.Go.OpenSpec := { _root_.Go.OpenSpec.ofChange s with cond := some uptoSmall }

/-- 'laws.FnAngleTexts', WHERE WHAT IT READS IS OF BULK AT MOST 1048576: true; the input reads as it did. -/
def fnAngleTextsUptoRow : OpenClaim := { program := "ytbnihalbepffoaadoor", sum := "59cf3c10eba23aa484caec6e8db78ee9c500fd8e6f0ba1d5f6e638164633de01", func := "loop.example/g01055/laws.FnAngleTexts", spec := "fnAngleTexts", inPlace := ["internal/abi.NoEscape", "internal/bytealg.IndexByteString", "internal/bytealg.IndexString"], unfollowed := true, recurses := true, named := ["internal/strconv.uint64pow10", "math/bits.deBruijn32tab", "math/bits.deBruijn64tab", "internal/bytealg.MaxLen", "strconv.ErrSyntax", "strconv.ErrRange"], apart := false, laid := [("math/bits.deBruijn32tab", laid_math_bits_deBruijn32tab), ("math/bits.deBruijn64tab", laid_math_bits_deBruijn64tab), ("internal/strconv.uint64pow10", laid_internal_strconv_uint64pow10), ("strconv.ErrRange", laid_strconv_ErrRange), ("strconv.ErrSyntax", laid_strconv_ErrSyntax)], narrowed := true }
def FnAngleTextsUptoSaid : Prop := fnAngleTextsUptoRow.holds Tryd.pinned (OpenSpec.upto fnAngleTextsSpec)

/-- 'laws.FnGores', WHERE WHAT IT READS IS OF BULK AT MOST 1048576: true; the input reads as it did. -/
def fnGoresUptoRow : OpenClaim := { program := "ytbnihalbepffoaadoor", sum := "59cf3c10eba23aa484caec6e8db78ee9c500fd8e6f0ba1d5f6e638164633de01", func := "loop.example/g01055/laws.FnGores", spec := "fnGores", unfollowed := true, recurses := true, named := ["loop.example/g01055/impl.goreNumbers"], apart := false, laid := [("loop.example/g01055/impl.goreNumbers", laid_loop_example_g01055_impl_goreNumbers)], narrowed := true }
def FnGoresUptoSaid : Prop := fnGoresUptoRow.holds Tryd.pinned (OpenSpec.upto fnGoresSpec)

/-- 'laws.FnExactSpotText', WHERE WHAT IT READS IS OF BULK AT MOST 1048576: true; the input reads as it did. -/
def fnExactSpotTextUptoRow : OpenClaim := { program := "ytbnihalbepffoaadoor", sum := "59cf3c10eba23aa484caec6e8db78ee9c500fd8e6f0ba1d5f6e638164633de01", func := "loop.example/g01055/laws.FnExactSpotText", spec := "fnExactSpotText", inPlace := ["internal/abi.NoEscape"], named := ["internal/strconv.uint64pow10", "math/bits.deBruijn32tab", "math/bits.deBruijn64tab"], apart := false, laid := [("math/bits.deBruijn32tab", laid_math_bits_deBruijn32tab), ("math/bits.deBruijn64tab", laid_math_bits_deBruijn64tab), ("internal/strconv.uint64pow10", laid_internal_strconv_uint64pow10)], narrowed := true }
def FnExactSpotTextUptoSaid : Prop := fnExactSpotTextUptoRow.holds Tryd.pinned (OpenSpec.upto fnExactSpotTextSpec)

/-- 'laws.FnExactReadSpot', WHERE WHAT IT READS IS OF BULK AT MOST 1048576: true; the input reads as it did. -/
def fnExactReadSpotUptoRow : OpenClaim := { program := "ytbnihalbepffoaadoor", sum := "59cf3c10eba23aa484caec6e8db78ee9c500fd8e6f0ba1d5f6e638164633de01", func := "loop.example/g01055/laws.FnExactReadSpot", spec := "fnExactReadSpot", inPlace := ["internal/bytealg.IndexByteString", "internal/bytealg.IndexString"], unfollowed := true, recurses := true, named := ["internal/bytealg.MaxLen", "strconv.ErrSyntax", "strconv.ErrRange", "internal/strconv.uint64pow10", "math/bits.deBruijn32tab", "math/bits.deBruijn64tab"], apart := false, laid := [("math/bits.deBruijn32tab", laid_math_bits_deBruijn32tab), ("math/bits.deBruijn64tab", laid_math_bits_deBruijn64tab), ("internal/strconv.uint64pow10", laid_internal_strconv_uint64pow10), ("strconv.ErrRange", laid_strconv_ErrRange), ("strconv.ErrSyntax", laid_strconv_ErrSyntax)], narrowed := true }
def FnExactReadSpotUptoSaid : Prop := fnExactReadSpotUptoRow.holds Tryd.pinned (OpenSpec.upto fnExactReadSpotSpec)

/-- 'laws.FnExactGoresTouched', WHERE WHAT IT READS IS OF BULK AT MOST 1048576: true; the input reads as it did. -/
def fnExactGoresTouchedUptoRow : OpenClaim := { program := "ytbnihalbepffoaadoor", sum := "59cf3c10eba23aa484caec6e8db78ee9c500fd8e6f0ba1d5f6e638164633de01", func := "loop.example/g01055/laws.FnExactGoresTouched", spec := "fnExactGoresTouched", unfollowed := true, recurses := true, named := ["loop.example/g01055/impl.goreNumbers"], apart := false, laid := [("loop.example/g01055/impl.goreNumbers", laid_loop_example_g01055_impl_goreNumbers)], narrowed := true }
def FnExactGoresTouchedUptoSaid : Prop := fnExactGoresTouchedUptoRow.holds Tryd.pinned (OpenSpec.upto fnExactGoresTouchedSpec)

end Rows
end Go.Proofs.YtbnihalbepffoaaDoor
