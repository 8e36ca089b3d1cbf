/- The cells of a new tour. -/
import Derived.Test.YtkiimdfnobcdpaaLift
namespace Go.Proofs.Ytkiimdfnobcdpaa.sines
open Go.ChangeShapes Go.WideShapes Go.ChangeAt Go.RowKit
theorem zero_tour : Try.zeroCells86 = #[Value.slice none 0 0] ++ Array.replicate 896 (Value.int .i64 0) := by kernel_rfl
end Go.Proofs.Ytkiimdfnobcdpaa.sines
