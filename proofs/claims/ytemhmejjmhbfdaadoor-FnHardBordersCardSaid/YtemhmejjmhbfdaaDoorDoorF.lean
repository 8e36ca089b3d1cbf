/- What the cards of this seat share: the heap that the door leaves meets the list; its shape; the harness. -/
import Derived.Test.YtemhmejjmhbfdaaDoorDLift
namespace Go.Proofs.YtemhmejjmhbfdaaDoor
open Go.ChangeShapes Go.WideShapes Go.ChangeAt Go.RowKit
theorem door_main : Tryd.pinned.checked.prog.mainIs = some (true, "9d068759b0545824ad5c7fb6a859bc6bd809cf3e2fcdc50eee547e6fd75fe4fa".toList) := by kernel_rfl
theorem door_looks : false = Tryd.pinned.checked.prog.looks [] := by kernel_rfl
theorem door_shaped (os : Os) (args : Array Value) : ((World.doorLaid Tryd.prog 19 os).forCall (fun _ _ => 0) ⟨#[], args, []⟩).Shaped Tryd.checked.prog := World.shaped_of_RefB (by kernel_rfl) (by kernel_rfl)
theorem door_met0 (os : Os) (args : Array Value) : laidMetH Tryd.prog [("math/bits.deBruijn32tab", Rows.laid_math_bits_deBruijn32tab), ("math/bits.deBruijn64tab", Rows.laid_math_bits_deBruijn64tab)] ((World.doorLaid Tryd.prog 19 os).forCall (fun _ _ => 0) ⟨#[], args, []⟩).memory :=
  laidMetH_of_parts3 (fuel := 8) (laidMet_of_run' 8 (by kernel_rfl) (by kernel_rfl)) (by kernel_rfl) (by kernel_rfl)
end Go.Proofs.YtemhmejjmhbfdaaDoor
