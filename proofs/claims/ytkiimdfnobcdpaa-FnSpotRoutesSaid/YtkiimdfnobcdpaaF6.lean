/- The laws' own small functions: whether bytes are too many, an absolute value. -/
import Derived.Test.YtkiimdfnobcdpaaA2
import Derived.Test.YtkiimdfnobcdpaaGores
namespace Go.Proofs.Ytkiimdfnobcdpaa.a2
open Go.ChangeShapes Go.WideShapes Go.ChangeAt Go.RowKit Go.Proofs.Ytkiimdfnobcdpaa.src Go.Proofs.Ytkiimdfnobcdpaa.sines

end Go.Proofs.Ytkiimdfnobcdpaa.a2
