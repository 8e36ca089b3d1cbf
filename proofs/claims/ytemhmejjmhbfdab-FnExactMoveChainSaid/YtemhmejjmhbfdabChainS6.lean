/- The model's sides and picked points: contracts. -/
import Derived.Test.YtemhmejjmhbfdabChainS3
import Derived.Test.YtemhmejjmhbfdabChainS5
namespace Go.Proofs.Ytemhmejjmhbfdab.sines
open Go.ChangeShapes Go.WideShapes Go.ChangeAt Go.RowKit Go.Proofs.Ytemhmejjmhbfdab.spots Go.Proofs.Ytemhmejjmhbfdab.irows Go.Proofs.Ytemhmejjmhbfdab.pairsPlace
set_option linter.unusedSimpArgs false
set_option linter.unusedVariables false

def leftV (ps : List Pl) : Int := if okC ps = true then (leftN ps ps.length : Int) else 0
def rightV (ps : List Pl) : Int := if okC ps = true then (rightN ps ps.length : Int) else 0
end Go.Proofs.Ytemhmejjmhbfdab.sines
