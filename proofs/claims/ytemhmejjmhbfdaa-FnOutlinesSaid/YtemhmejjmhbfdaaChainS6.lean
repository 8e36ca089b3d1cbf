/- The model's sides and picked points: contracts. -/
import Derived.Test.YtemhmejjmhbfdaaChainS3
import Derived.Test.YtemhmejjmhbfdaaChainS5
namespace Go.Proofs.Ytemhmejjmhbfdaa.sines
open Go.ChangeShapes Go.WideShapes Go.ChangeAt Go.RowKit Go.Proofs.Ytemhmejjmhbfdaa.spots Go.Proofs.Ytemhmejjmhbfdaa.irows Go.Proofs.Ytemhmejjmhbfdaa.pairsPlace
set_option linter.unusedSimpArgs false
set_option linter.unusedVariables false

def leftV (ps : List Pl) : Int := if okC ps = true then (leftN ps ps.length : Int) else 0
def rightV (ps : List Pl) : Int := if okC ps = true then (rightN ps ps.length : Int) else 0
theorem l07Cross_rel (a1 a2 b1 b2 p1 p2 : Int) (W0 w : World) (hw : Below W0.heap.size W0 w) (ha : okP (a1, a2) = true) (hb : okP (b1, b2) = true) (hp : okP (p1, p2) = true) :
    Calls Try.prog 183 #[.agg #[.int .i64 a1, .int .i64 a2], .agg #[.int .i64 b1, .int .i64 b2], .agg #[.int .i64 p1, .int .i64 p2]] w fun e w' => e = .returned (.int .i64 (crossI (a1, a2) (b1, b2) (p1, p2))) ∧ Below W0.heap.size W0 w' :=
  (l07Cross_any a1 a2 b1 b2 p1 p2 w ha hb hp).mono fun _ _ ⟨h1, k⟩ => ⟨h1, hw.trans (k.mono hw.size)⟩
end Go.Proofs.Ytemhmejjmhbfdaa.sines
