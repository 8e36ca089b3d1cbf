/- Contracts of the small functions of spots and angles, of the program and of the model. -/
import Derived.Test.YtpekchihdmhkkaaLift
import Derived.Deep.QuietTactic
import Derived.BigQuiet
import Derived.Lib.Hide
namespace Go.Proofs.Ytpekchihdmhkkaa.spots
open Go.ChangeShapes Go.WideShapes Go.ChangeAt Go.RowKit


def okB (a b : Int) : Bool := decide (-324000 ≤ a ∧ a ≤ 324000 ∧ -648000 ≤ b ∧ b ≤ 647999)
theorem ret_bool {a b : Bool} (h : a = b) : Ending.returned (.bool a) = .returned (.bool b) := by rw [h]





def wrapL (n : Int) : Int := (n + 648000) % 1296000 - 648000
theorem ret_int {a b : Int} (h : a = b) : Ending.returned (.int .i64 a) = .returned (.int .i64 b) := by rw [h]

theorem wrapL_tmod (n : Int) : (n + 648000).tmod 1296000 < 1296000 ∧ -1296000 < (n + 648000).tmod 1296000 ∧ wrapL n = (if (n + 648000).tmod 1296000 < 0 then (n + 648000).tmod 1296000 + 1296000 else (n + 648000).tmod 1296000) - 648000 := by
  have e : (n + 648000).tmod 1296000 = (n + 648000) % 1296000 - if 0 ≤ n + 648000 ∨ (1296000 : Int) ∣ n + 648000 then 0 else 1296000 := by rw [Int.tmod_eq_emod]; split <;> rfl
  rw [e]
  simp only [wrapL]
  split <;> (refine ⟨by omega, by omega, ?_⟩; split <;> omega)



def angB (n : Int) : Bool := decide (-1000000000 ≤ n ∧ n ≤ 1000000000)



end Go.Proofs.Ytpekchihdmhkkaa.spots
