/- The recursion over paintings: contract of the program. -/
import Derived.Test.YtemhmejjmhbfdabDoorColsP6
namespace Go.Proofs.YtemhmejjmhbfdabDoor.sines
open Go.ChangeShapes Go.WideShapes Go.ChangeAt Go.RowKit Go.Shelf Go.Proofs.YtemhmejjmhbfdabDoor.spots Go.Proofs.YtemhmejjmhbfdabDoor.irows Go.Proofs.YtemhmejjmhbfdabDoor.pairsBorder
attribute [local go_sem] Oper.semAt_some
set_option linter.unusedSimpArgs false
set_option linter.unusedVariables false
end Go.Proofs.YtemhmejjmhbfdabDoor.sines
