/- The laws' own small functions: whether bytes are too many, an absolute value. -/
import Derived.Test.YtiemealkdgnhcaaA2
import Derived.Test.YtiemealkdgnhcaaGores
namespace Go.Proofs.Ytiemealkdgnhcaa.a2
open Go.ChangeShapes Go.WideShapes Go.ChangeAt Go.RowKit Go.Proofs.Ytiemealkdgnhcaa.src Go.Proofs.Ytiemealkdgnhcaa.sines

theorem f6big_any (a0 : Option Addr) (l0 c0 : Nat) (w : World) (h0 : l0 ≤ maxLen) :
    Calls Try.prog 15 #[.slice a0 l0 c0] w fun e w' => e = .returned (.bool (decide (4096 < l0))) ∧ w = w' := by
  unfold maxLen at h0
  by_cases h : 4096 < l0
  · have h' : 4096 < (l0 : Int) := by omega
    go_enter Try.func15, Try.ntmps15
    go_wp2
    go_ret
    exact ⟨ret_bool (by simp [h]), rfl⟩
  · have h' : (l0 : Int) ≤ 4096 := by omega
    go_enter Try.func15, Try.ntmps15
    go_wp2
    go_ret
    exact ⟨ret_bool (by rw [Bool.eq_iff_iff]; simp; omega), rfl⟩
end Go.Proofs.Ytiemealkdgnhcaa.a2
