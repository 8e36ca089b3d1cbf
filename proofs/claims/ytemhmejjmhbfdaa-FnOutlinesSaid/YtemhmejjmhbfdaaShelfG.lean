/- Nothing is laid here. -/
import Derived.Test.YtemhmejjmhbfdaaProg
namespace Go.Proofs.Ytemhmejjmhbfdaa.stubShelfG
end Go.Proofs.Ytemhmejjmhbfdaa.stubShelfG
