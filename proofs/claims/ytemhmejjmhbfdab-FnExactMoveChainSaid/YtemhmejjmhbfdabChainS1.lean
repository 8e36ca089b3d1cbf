/- The model's small functions of chains: contracts. -/
import Derived.Test.YtemhmejjmhbfdabChain2
import Derived.Test.YtemhmejjmhbfdabPairsPlace
import Derived.Deep.RegionHeld3
namespace Go.Proofs.Ytemhmejjmhbfdab.sines
open Go.ChangeShapes Go.WideShapes Go.ChangeAt Go.RowKit Go.Proofs.Ytemhmejjmhbfdab.spots Go.Proofs.Ytemhmejjmhbfdab.irows Go.Proofs.Ytemhmejjmhbfdab.pairsPlace
set_option linter.unusedSimpArgs false
set_option linter.unusedVariables false

theorem bdP {B : Nat} {a w : World} (h : Below B a w) (q : Nat) : Below B a (w.drewN q) := ⟨h.os, h.tape, h.output, h.size, h.block⟩
theorem retB {a b : Bool} (h : a = b) : Ending.returned (.bool a) = .returned (.bool b) := by rw [h]
theorem retI {a b : Int} (h : a = b) : Ending.returned (.int .i64 a) = .returned (.int .i64 b) := by rw [h]
theorem pat_of {ps : List Pl} {k : Nat} (h : k < ps.length) : ps[k] = pAt ps k := (pAt_eq h).symm
end Go.Proofs.Ytemhmejjmhbfdab.sines
