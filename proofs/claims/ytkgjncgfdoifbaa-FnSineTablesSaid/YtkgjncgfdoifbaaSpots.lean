/- Contracts of the small functions of spots and angles, of the program and of the model. -/
import Derived.Test.YtkgjncgfdoifbaaLift
import Derived.Deep.QuietTactic
import Derived.BigQuiet
import Derived.Lib.Hide
namespace Go.Proofs.Ytkgjncgfdoifbaa.spots
open Go.ChangeShapes Go.WideShapes Go.ChangeAt Go.RowKit


def okB (a b : Int) : Bool := decide (-324000 ≤ a ∧ a ≤ 324000 ∧ -648000 ≤ b ∧ b ≤ 647999)
theorem ret_bool {a b : Bool} (h : a = b) : Ending.returned (.bool a) = .returned (.bool b) := by rw [h]





def wrapL (n : Int) : Int := (n + 648000) % 1296000 - 648000
theorem ret_int {a b : Int} (h : a = b) : Ending.returned (.int .i64 a) = .returned (.int .i64 b) := by rw [h]

theorem wrapL_tmod (n : Int) : (n + 648000).tmod 1296000 < 1296000 ∧ -1296000 < (n + 648000).tmod 1296000 ∧ wrapL n = (if (n + 648000).tmod 1296000 < 0 then (n + 648000).tmod 1296000 + 1296000 else (n + 648000).tmod 1296000) - 648000 := by
  have e : (n + 648000).tmod 1296000 = (n + 648000) % 1296000 - if 0 ≤ n + 648000 ∨ (1296000 : Int) ∣ n + 648000 then 0 else 1296000 := by rw [Int.tmod_eq_emod]; split <;> rfl
  rw [e]
  simp only [wrapL]
  split <;> (refine ⟨by omega, by omega, ?_⟩; split <;> omega)

theorem wrap_any (n : Int) (w : World) (h1 : -3000000000 ≤ n) (h2 : n ≤ 3000000000) :
    Calls Try.prog 60 #[.int .i64 n] w fun e w' => e = .returned (.int .i64 (wrapL n)) ∧ w = w' := by
  obtain ⟨b1, b2, e1⟩ := wrapL_tmod n
  have E1 := Lib.hid e1
  clear e1
  by_cases h3 : (n + 648000).tmod 1296000 < 0
  · go_enter Try.func60, Try.ntmps60
    go_wp2
    go_ret
    exact ⟨ret_int (by rw [E1.out, if_pos h3]), rfl⟩
  · go_enter Try.func60, Try.ntmps60
    go_wp2
    go_ret
    exact ⟨ret_int (by rw [E1.out, if_neg (by omega)]), rfl⟩


def angB (n : Int) : Bool := decide (-1000000000 ≤ n ∧ n ≤ 1000000000)

theorem isAngle_any (n : Int) (w : World) :
    Calls Try.prog 40 #[.int .i64 n] w fun e w' => e = .returned (.bool (angB n)) ∧ w = w' := by
  by_cases h3 : n < -1000000000
  · go_enter Try.func40, Try.ntmps40
    go_wp2
    all_goals (go_ret; exact ⟨ret_bool (by rw [Bool.eq_iff_iff]; simp [angB]; omega), rfl⟩)
  · go_enter Try.func40, Try.ntmps40
    go_wp2
    all_goals (go_ret; exact ⟨ret_bool (by rw [Bool.eq_iff_iff]; simp [angB]; omega), rfl⟩)

theorem l02Angle_any (n : Int) (w : World) :
    Calls Try.prog 46 #[.int .i64 n] w fun e w' => e = .returned (.bool (angB n)) ∧ w = w' := by
  by_cases h3 : n < -1000000000
  · go_enter Try.func46, Try.ntmps46
    go_wp2
    all_goals (go_ret; exact ⟨ret_bool (by rw [Bool.eq_iff_iff]; simp [angB]; omega), rfl⟩)
  · go_enter Try.func46, Try.ntmps46
    go_wp2
    all_goals (go_ret; exact ⟨ret_bool (by rw [Bool.eq_iff_iff]; simp [angB]; omega), rfl⟩)

end Go.Proofs.Ytkgjncgfdoifbaa.spots
