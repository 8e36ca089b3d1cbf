/- What the cards of this seat share: the heap that the door leaves meets the list; its shape; the harness. -/
import Derived.Test.YtpekchihdmhkkaaDoorDLift
namespace Go.Proofs.YtpekchihdmhkkaaDoor
open Go.ChangeShapes Go.WideShapes Go.ChangeAt Go.RowKit
theorem door_main : Tryd.pinned.checked.prog.mainIs = some (true, "68e5e79f83cc638ac6adf959ae2deb3a4b1fded48e198f1567540b2e9880c390".toList) := by kernel_rfl
theorem door_looks : false = Tryd.pinned.checked.prog.looks [] := by kernel_rfl
theorem door_shaped (os : Os) (args : Array Value) : ((World.doorLaid Tryd.prog 19 os).forCall (fun _ _ => 0) ⟨#[], args, []⟩).Shaped Tryd.checked.prog := World.shaped_of_RefB (by kernel_rfl) (by kernel_rfl)
theorem door_met0 (os : Os) (args : Array Value) : laidMetH Tryd.prog [("unicode/utf8.acceptRanges", Rows.laid_unicode_utf8_acceptRanges)] ((World.doorLaid Tryd.prog 19 os).forCall (fun _ _ => 0) ⟨#[], args, []⟩).memory :=
  laidMetH_of_parts3 (fuel := 8) (laidMet_of_run' 8 (by kernel_rfl) (by kernel_rfl)) (by kernel_rfl) (by kernel_rfl)
end Go.Proofs.YtpekchihdmhkkaaDoor
