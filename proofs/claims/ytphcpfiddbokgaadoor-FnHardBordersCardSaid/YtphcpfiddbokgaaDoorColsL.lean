/- The model's first colours: contract. -/
import Derived.Test.YtphcpfiddbokgaaDoorColsS
namespace Go.Proofs.YtphcpfiddbokgaaDoor.sines
open Go.ChangeShapes Go.WideShapes Go.ChangeAt Go.RowKit Go.Proofs.YtphcpfiddbokgaaDoor.spots Go.Proofs.YtphcpfiddbokgaaDoor.irows Go.Proofs.YtphcpfiddbokgaaDoor.pairsBorder
set_option linter.unusedSimpArgs false
set_option linter.unusedVariables false

end Go.Proofs.YtphcpfiddbokgaaDoor.sines
