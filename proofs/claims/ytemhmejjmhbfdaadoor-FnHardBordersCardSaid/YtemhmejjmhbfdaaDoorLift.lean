/- What a seat with listed variables brings in the place of the plain seat's text. -/
import Derived.Test.YtemhmejjmhbfdaaDoorDLift
namespace Go.Proofs.YtemhmejjmhbfdaaDoor
end Go.Proofs.YtemhmejjmhbfdaaDoor
