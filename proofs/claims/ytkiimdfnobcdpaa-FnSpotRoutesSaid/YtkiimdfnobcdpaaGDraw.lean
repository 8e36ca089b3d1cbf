/- Drawn gores, circumferences, parallels, steps and papers: contracts of the model's functions. -/
import Derived.Test.YtkiimdfnobcdpaaDraw
namespace Go.Proofs.Ytkiimdfnobcdpaa.src
open Go.ChangeShapes Go.WideShapes Go.ChangeAt Go.RowKit














end Go.Proofs.Ytkiimdfnobcdpaa.src
