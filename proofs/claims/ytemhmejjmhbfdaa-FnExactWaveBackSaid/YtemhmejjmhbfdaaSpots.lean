/- Contracts of the small functions of spots and angles, of the program and of the model. -/
import Derived.Test.YtemhmejjmhbfdaaLift
import Derived.Deep.QuietTactic
import Derived.BigQuiet
import Derived.Lib.Hide
namespace Go.Proofs.Ytemhmejjmhbfdaa.spots
open Go.ChangeShapes Go.WideShapes Go.ChangeAt Go.RowKit

theorem toSpot_any (a b : Int) (w : World) :
    Calls Try.prog 70 #[.agg #[.int .i64 a, .int .i64 b]] w fun e w' => e = .returned (.agg #[.int .i64 a, .int .i64 b]) ∧ ∃ o1 o2 o3 : Obj, w' = ((w.alloc o1).alloc o2).alloc o3 := by
  go_enter Try.func70, Try.ntmps70
  go_wp2
  exact bodyPost_ret (v := .agg #[.int .i64 a, .int .i64 b]) (by simp [results, Try.results70, go_sem]) rfl ⟨rfl, _, _, _, rfl⟩

def okB (a b : Int) : Bool := decide (-324000 ≤ a ∧ a ≤ 324000 ∧ -648000 ≤ b ∧ b ≤ 647999)
theorem ret_bool {a b : Bool} (h : a = b) : Ending.returned (.bool a) = .returned (.bool b) := by rw [h]

theorem l02Ok_any (a b : Int) (w : World) :
    Calls Try.prog 87 #[.agg #[.int .i64 a, .int .i64 b]] w fun e w' => e = .returned (.bool (okB a b)) ∧ ∃ o1 : Obj, w' = w.alloc o1 := by
  by_cases h1 : a < -324000
  · go_enter Try.func87, Try.ntmps87
    go_wp2
    all_goals (go_ret; exact ⟨ret_bool (by rw [Bool.eq_iff_iff]; simp [okB]; omega), _, rfl⟩)
  by_cases h2 : a > 324000
  · go_enter Try.func87, Try.ntmps87
    go_wp2
    all_goals (go_ret; exact ⟨ret_bool (by rw [Bool.eq_iff_iff]; simp [okB]; omega), _, rfl⟩)
  by_cases h3 : b < -648000
  · go_enter Try.func87, Try.ntmps87
    go_wp2
    all_goals (go_ret; exact ⟨ret_bool (by rw [Bool.eq_iff_iff]; simp [okB]; omega), _, rfl⟩)
  have h1' : (decide (-324000 ≤ a)) = true := by simp; omega
  have h2' : (decide (a ≤ 324000)) = true := by simp; omega
  go_enter Try.func87, Try.ntmps87
  go_wp2
  all_goals (go_ret; exact ⟨ret_bool (by rw [Bool.eq_iff_iff]; simp [okB]; omega), _, rfl⟩)

theorem ValidSpot_any (a b : Int) (w : World) :
    Calls Try.prog 155 #[.agg #[.int .i64 a, .int .i64 b]] w fun e w' => e = .returned (.bool (okB a b)) ∧ ∃ o1 : Obj, w' = w.alloc o1 := by
  by_cases h1 : a < -324000
  · go_enter Try.func155, Try.ntmps155
    go_wp2
    all_goals (go_ret; exact ⟨ret_bool (by rw [Bool.eq_iff_iff]; simp [okB]; omega), _, rfl⟩)
  by_cases h2 : a > 324000
  · go_enter Try.func155, Try.ntmps155
    go_wp2
    all_goals (go_ret; exact ⟨ret_bool (by rw [Bool.eq_iff_iff]; simp [okB]; omega), _, rfl⟩)
  by_cases h3 : b < -648000
  · go_enter Try.func155, Try.ntmps155
    go_wp2
    all_goals (go_ret; exact ⟨ret_bool (by rw [Bool.eq_iff_iff]; simp [okB]; omega), _, rfl⟩)
  have h1' : (decide (-324000 ≤ a)) = true := by simp; omega
  have h2' : (decide (a ≤ 324000)) = true := by simp; omega
  go_enter Try.func155, Try.ntmps155
  go_wp2
  all_goals (go_ret; exact ⟨ret_bool (by rw [Bool.eq_iff_iff]; simp [okB]; omega), _, rfl⟩)


theorem eqSpot_same (a b : Int) (w : World) :
    Calls Try.prog 73 #[.agg #[.int .i64 a, .int .i64 b], .agg #[.int .i64 a, .int .i64 b]] w fun e w' => e = .returned (.bool true) ∧ ∃ o1 o2 : Obj, w' = (w.alloc o1).alloc o2 := by
  go_enter Try.func73, Try.ntmps73
  go_wp2
  go_ret
  exact ⟨rfl, _, _, rfl⟩

def wrapL (n : Int) : Int := (n + 648000) % 1296000 - 648000
theorem ret_int {a b : Int} (h : a = b) : Ending.returned (.int .i64 a) = .returned (.int .i64 b) := by rw [h]

theorem wrapL_tmod (n : Int) : (n + 648000).tmod 1296000 < 1296000 ∧ -1296000 < (n + 648000).tmod 1296000 ∧ wrapL n = (if (n + 648000).tmod 1296000 < 0 then (n + 648000).tmod 1296000 + 1296000 else (n + 648000).tmod 1296000) - 648000 := by
  have e : (n + 648000).tmod 1296000 = (n + 648000) % 1296000 - if 0 ≤ n + 648000 ∨ (1296000 : Int) ∣ n + 648000 then 0 else 1296000 := by rw [Int.tmod_eq_emod]; split <;> rfl
  rw [e]
  simp only [wrapL]
  split <;> (refine ⟨by omega, by omega, ?_⟩; split <;> omega)

theorem wrap_any (n : Int) (w : World) (h1 : -3000000000 ≤ n) (h2 : n ≤ 3000000000) :
    Calls Try.prog 176 #[.int .i64 n] w fun e w' => e = .returned (.int .i64 (wrapL n)) ∧ w = w' := by
  obtain ⟨b1, b2, e1⟩ := wrapL_tmod n
  have E1 := Lib.hid e1
  clear e1
  by_cases h3 : (n + 648000).tmod 1296000 < 0
  · go_enter Try.func176, Try.ntmps176
    go_wp2
    go_ret
    exact ⟨ret_int (by rw [E1.out, if_pos h3]), rfl⟩
  · go_enter Try.func176, Try.ntmps176
    go_wp2
    go_ret
    exact ⟨ret_int (by rw [E1.out, if_neg (by omega)]), rfl⟩


def angB (n : Int) : Bool := decide (-1000000000 ≤ n ∧ n ≤ 1000000000)



end Go.Proofs.Ytemhmejjmhbfdaa.spots
