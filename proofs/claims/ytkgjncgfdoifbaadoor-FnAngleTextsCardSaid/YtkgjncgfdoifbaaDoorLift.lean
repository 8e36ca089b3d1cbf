/- What a seat with listed variables brings in the place of the plain seat's text. -/
import Derived.Test.YtkgjncgfdoifbaaDoorDLift
namespace Go.Proofs.YtkgjncgfdoifbaaDoor
end Go.Proofs.YtkgjncgfdoifbaaDoor
