/- What a seat with listed variables brings in the place of the plain seat's text. -/
import Derived.Test.YtpekchihdmhkkaaDoorDLift
namespace Go.Proofs.YtpekchihdmhkkaaDoor
end Go.Proofs.YtpekchihdmhkkaaDoor
