/- The laws' own small functions: whether bytes are too many, an absolute value. -/
import Derived.Test.YtemhmejjmhbfdaaA2
import Derived.Test.YtemhmejjmhbfdaaGores
namespace Go.Proofs.Ytemhmejjmhbfdaa.a2
open Go.ChangeShapes Go.WideShapes Go.ChangeAt Go.RowKit Go.Proofs.Ytemhmejjmhbfdaa.src Go.Proofs.Ytemhmejjmhbfdaa.sines

theorem f6big_any (a0 : Option Addr) (l0 c0 : Nat) (w : World) (h0 : l0 ≤ maxLen) :
    Calls Try.prog 14 #[.slice a0 l0 c0] w fun e w' => e = .returned (.bool (decide (4096 < l0))) ∧ w = w' := by
  unfold maxLen at h0
  by_cases h : 4096 < l0
  · have h' : 4096 < (l0 : Int) := by omega
    go_enter Try.func14, Try.ntmps14
    go_wp2
    go_ret
    exact ⟨ret_bool (by simp [h]), rfl⟩
  · have h' : (l0 : Int) ≤ 4096 := by omega
    go_enter Try.func14, Try.ntmps14
    go_wp2
    go_ret
    exact ⟨ret_bool (by rw [Bool.eq_iff_iff]; simp; omega), rfl⟩
theorem ret_i {a b : Int} (h : a = b) : Ending.returned (.int .i64 a) = .returned (.int .i64 b) := by rw [h]
theorem f6abs_any (n : Int) (w : World) (h1 : -9000000000000000000 ≤ n) (h2 : n ≤ 9000000000000000000) :
    Calls Try.prog 31 #[.int .i64 n] w fun e w' => e = .returned (.int .i64 (absI n)) ∧ w = w' := by
  by_cases h : n < 0
  · have e := Lib.hid (show absI n = -n by simp [absI, h])
    have k : IntKind.i64.wrap (-n) = -n := IntWalk.i64_in _ (by omega)
    go_enter Try.func31, Try.ntmps31
    go_wp2
    go_ret
    exact ⟨ret_i e.out.symm, rfl⟩
  · have e := Lib.hid (show absI n = n by simp [absI, h])
    go_enter Try.func31, Try.ntmps31
    go_wp2
    go_ret
    exact ⟨ret_i e.out.symm, rfl⟩
end Go.Proofs.Ytemhmejjmhbfdaa.a2
