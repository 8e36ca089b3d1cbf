/- What a seat with listed variables brings in the place of the plain seat's text. -/
import Derived.Test.YtphcpfiddbokgaaDoorDLift
namespace Go.Proofs.YtphcpfiddbokgaaDoor
end Go.Proofs.YtphcpfiddbokgaaDoor
