/- What a seat with listed variables brings in the place of the plain seat's text. -/
import Derived.Test.YtemhmejjmhbfdabDoorDLift
namespace Go.Proofs.YtemhmejjmhbfdabDoor
end Go.Proofs.YtemhmejjmhbfdabDoor
