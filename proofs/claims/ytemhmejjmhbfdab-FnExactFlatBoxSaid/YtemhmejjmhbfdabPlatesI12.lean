/- The program's best scale: its contract. -/
import Derived.Test.YtemhmejjmhbfdabPlatesI11
namespace Go.Proofs.Ytemhmejjmhbfdab.sines
open Go.ChangeShapes Go.WideShapes Go.ChangeAt Go.RowKit Go.Proofs.Ytemhmejjmhbfdab.spots Go.Proofs.Ytemhmejjmhbfdab.pairs
set_option linter.unusedSimpArgs false
set_option linter.unusedVariables false

end Go.Proofs.Ytemhmejjmhbfdab.sines
