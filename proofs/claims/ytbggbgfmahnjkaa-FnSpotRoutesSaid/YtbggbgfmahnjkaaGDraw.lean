/- Drawn gores, circumferences, parallels, steps and papers: contracts of the model's functions. -/
import Derived.Test.YtbggbgfmahnjkaaDraw
namespace Go.Proofs.Ytbggbgfmahnjkaa.src
open Go.ChangeShapes Go.WideShapes Go.ChangeAt Go.RowKit














end Go.Proofs.Ytbggbgfmahnjkaa.src
