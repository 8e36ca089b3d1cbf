/- Nothing is laid here. -/
import Derived.Test.YtemhmejjmhbfdabProg
namespace Go.Proofs.Ytemhmejjmhbfdab.stubShelfP
end Go.Proofs.Ytemhmejjmhbfdab.stubShelfP
