/- What a seat with listed variables brings in the place of the plain seat's text. -/
import Derived.Test.YteeikkakibifpaaDoorDLift
namespace Go.Proofs.YteeikkakibifpaaDoor
end Go.Proofs.YteeikkakibifpaaDoor
