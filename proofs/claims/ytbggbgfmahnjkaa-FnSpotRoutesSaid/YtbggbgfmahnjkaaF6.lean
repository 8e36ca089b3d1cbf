/- The laws' own small functions: whether bytes are too many, an absolute value. -/
import Derived.Test.YtbggbgfmahnjkaaA2
import Derived.Test.YtbggbgfmahnjkaaGores
namespace Go.Proofs.Ytbggbgfmahnjkaa.a2
open Go.ChangeShapes Go.WideShapes Go.ChangeAt Go.RowKit Go.Proofs.Ytbggbgfmahnjkaa.src Go.Proofs.Ytbggbgfmahnjkaa.sines

end Go.Proofs.Ytbggbgfmahnjkaa.a2
