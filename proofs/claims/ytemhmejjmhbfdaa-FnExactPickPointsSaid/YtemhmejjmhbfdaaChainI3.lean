/- The program's chains: sides. -/
import Derived.Test.YtemhmejjmhbfdaaChainI2
import Derived.Test.YtemhmejjmhbfdaaChainS6
namespace Go.Proofs.Ytemhmejjmhbfdaa.sines
open Go.ChangeShapes Go.WideShapes Go.ChangeAt Go.RowKit Go.Proofs.Ytemhmejjmhbfdaa.spots Go.Proofs.Ytemhmejjmhbfdaa.irows Go.Proofs.Ytemhmejjmhbfdaa.pairsPlace
set_option linter.unusedSimpArgs false
set_option linter.unusedVariables false

end Go.Proofs.Ytemhmejjmhbfdaa.sines
