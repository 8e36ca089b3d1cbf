/- The model's search for colours: one land more. -/
import Derived.Test.YtphcpfiddbokgaaDoorColsR
namespace Go.Proofs.YtphcpfiddbokgaaDoor.sines
open Go.ChangeShapes Go.WideShapes Go.ChangeAt Go.RowKit Go.Proofs.YtphcpfiddbokgaaDoor.spots Go.Proofs.YtphcpfiddbokgaaDoor.irows Go.Proofs.YtphcpfiddbokgaaDoor.pairsBorder
set_option linter.unusedSimpArgs false
set_option linter.unusedVariables false

end Go.Proofs.YtphcpfiddbokgaaDoor.sines
