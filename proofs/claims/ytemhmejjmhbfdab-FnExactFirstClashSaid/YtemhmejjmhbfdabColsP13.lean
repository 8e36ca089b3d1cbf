/- Hard borders: contract of the program. -/
import Derived.Test.YtemhmejjmhbfdabColsP10
import Derived.Test.YtemhmejjmhbfdabColsH
import Derived.Deep.RegionLaw
import Derived.Deep.RegionLawGrows
namespace Go.Proofs.Ytemhmejjmhbfdab.sines
open Go.ChangeShapes Go.WideShapes Go.ChangeAt Go.RowKit Go.Proofs.Ytemhmejjmhbfdab.spots Go.Proofs.Ytemhmejjmhbfdab.irows Go.Proofs.Ytemhmejjmhbfdab.pairsBorder
set_option linter.unusedSimpArgs false
set_option linter.unusedVariables false
end Go.Proofs.Ytemhmejjmhbfdab.sines
