/- What the cards of this seat share: the heap that the door leaves meets the list; its shape; the harness. -/
import Derived.Test.YteeikkakibifpaaDoorDLift
namespace Go.Proofs.YteeikkakibifpaaDoor
open Go.ChangeShapes Go.WideShapes Go.ChangeAt Go.RowKit
theorem door_main : Tryd.pinned.checked.prog.mainIs = some (true, "85accfea9f218aa215c9035b918e39a9abf569f0cd006f75148fcf4cbbbf0700".toList) := by kernel_rfl
theorem door_looks : false = Tryd.pinned.checked.prog.looks [] := by kernel_rfl
theorem door_shaped (os : Os) (args : Array Value) : ((World.doorLaid Tryd.prog 14 os).forCall (fun _ _ => 0) ⟨#[], args, []⟩).Shaped Tryd.checked.prog := World.shaped_of_RefB (by kernel_rfl) (by kernel_rfl)
theorem door_met0 (os : Os) (args : Array Value) : laidMetH Tryd.prog [("loop.example/g01055/impl.goreNumbers", Rows.laid_loop_example_g01055_impl_goreNumbers)] ((World.doorLaid Tryd.prog 14 os).forCall (fun _ _ => 0) ⟨#[], args, []⟩).memory :=
  laidMetH_of_parts3 (fuel := 8) (laidMet_of_run' 8 (by kernel_rfl) (by kernel_rfl)) (by kernel_rfl) (by kernel_rfl)
end Go.Proofs.YteeikkakibifpaaDoor
