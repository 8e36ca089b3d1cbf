/- The fewest colours: contracts of the program. -/
import Derived.Test.YtemhmejjmhbfdabColsP9
import Derived.Test.YtemhmejjmhbfdabColsX
namespace Go.Proofs.Ytemhmejjmhbfdab.sines
open Go.ChangeShapes Go.WideShapes Go.ChangeAt Go.RowKit Go.Shelf Go.Proofs.Ytemhmejjmhbfdab.spots Go.Proofs.Ytemhmejjmhbfdab.irows Go.Proofs.Ytemhmejjmhbfdab.pairsBorder
set_option linter.unusedSimpArgs false
set_option linter.unusedVariables false
end Go.Proofs.Ytemhmejjmhbfdab.sines
