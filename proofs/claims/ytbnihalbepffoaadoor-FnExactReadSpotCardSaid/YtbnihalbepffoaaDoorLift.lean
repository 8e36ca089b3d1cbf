/- What a seat with listed variables brings in the place of the plain seat's text. -/
import Derived.Test.YtbnihalbepffoaaDoorDLift
namespace Go.Proofs.YtbnihalbepffoaaDoor
end Go.Proofs.YtbnihalbepffoaaDoor
