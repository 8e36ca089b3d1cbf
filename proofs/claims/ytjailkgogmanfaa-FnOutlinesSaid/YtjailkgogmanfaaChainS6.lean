/- The model's sides and picked points: contracts. -/
import Derived.Test.YtjailkgogmanfaaChainS3
import Derived.Test.YtjailkgogmanfaaChainS5
namespace Go.Proofs.Ytjailkgogmanfaa.sines
open Go.ChangeShapes Go.WideShapes Go.ChangeAt Go.RowKit Go.Proofs.Ytjailkgogmanfaa.spots Go.Proofs.Ytjailkgogmanfaa.irows Go.Proofs.Ytjailkgogmanfaa.pairsPlace
set_option linter.unusedSimpArgs false
set_option linter.unusedVariables false

def leftV (ps : List Pl) : Int := if okC ps = true then (leftN ps ps.length : Int) else 0
def rightV (ps : List Pl) : Int := if okC ps = true then (rightN ps ps.length : Int) else 0
end Go.Proofs.Ytjailkgogmanfaa.sines
