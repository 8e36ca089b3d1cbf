/- The model's functions of chains: equal chains, lengths, sides, picked points: contracts. -/
import Derived.Test.YtemhmejjmhbfdabChainS2
namespace Go.Proofs.Ytemhmejjmhbfdab.sines
open Go.ChangeShapes Go.WideShapes Go.ChangeAt Go.RowKit Go.Proofs.Ytemhmejjmhbfdab.spots Go.Proofs.Ytemhmejjmhbfdab.irows Go.Proofs.Ytemhmejjmhbfdab.pairsPlace
set_option linter.unusedSimpArgs false
set_option linter.unusedVariables false

def lowV (ps : List Pl) : Int := if okC ps = true then lowN ps (ps.length - 1) else 0
def highV (ps : List Pl) : Int := if okC ps = true then highN ps (ps.length - 1) else 0
theorem ret3 {a b c d e f : Int} (h : a = b) (g : c = d) (k : e = f) : Ending.returned (.tuple #[.int .i64 a, .int .i64 c, .int .i64 e]) = .returned (.tuple #[.int .i64 b, .int .i64 d, .int .i64 f]) := by rw [h, g, k]
end Go.Proofs.Ytemhmejjmhbfdab.sines
