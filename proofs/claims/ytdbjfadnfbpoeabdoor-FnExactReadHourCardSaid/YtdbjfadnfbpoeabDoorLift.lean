/- What a seat with listed variables brings in the place of the plain seat's text. -/
import Derived.Test.YtdbjfadnfbpoeabDoorDLift
namespace Go.Proofs.YtdbjfadnfbpoeabDoor
end Go.Proofs.YtdbjfadnfbpoeabDoor
