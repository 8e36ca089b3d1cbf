/- Nothing is laid here. -/
import Derived.Test.YtemhmejjmhbfdabProg
namespace Go.Proofs.Ytemhmejjmhbfdab.stubShelfG
end Go.Proofs.Ytemhmejjmhbfdab.stubShelfG
