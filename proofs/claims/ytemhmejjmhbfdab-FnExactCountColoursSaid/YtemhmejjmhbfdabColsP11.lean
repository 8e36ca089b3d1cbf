/- In how many ways colours are renamed: contract of the program. -/
import Derived.Test.YtemhmejjmhbfdabColsP10
import Derived.Test.YtemhmejjmhbfdabColsK
namespace Go.Proofs.Ytemhmejjmhbfdab.sines
open Go.ChangeShapes Go.WideShapes Go.ChangeAt Go.RowKit Go.Shelf Go.Proofs.Ytemhmejjmhbfdab.spots Go.Proofs.Ytemhmejjmhbfdab.irows Go.Proofs.Ytemhmejjmhbfdab.pairsBorder
set_option linter.unusedSimpArgs false
set_option linter.unusedVariables false
theorem fallN_le {m : Nat} (hm : m ≤ 6) : ∀ u, u ≤ m → fallN m u ≤ 720 := by
  have : ∀ m, m ≤ 6 → ∀ u, u ≤ m → fallN m u ≤ 720 := by decide
  exact this m hm
set_option maxRecDepth 100000 in
set_option maxHeartbeats 2000000 in
theorem renamings_any (u m : Nat) (f : Nat → Nat) (w : World) (hu : u ≤ m) (hm : m ≤ 6) :
    Calls Try.prog 69 #[encP u f, .int .i64 (m : Int)] w fun e w' => e = .returned (.int .i64 (fallN m u : Int)) ∧ Below w.heap.size w w' := by
  have FL := Lib.hid (fallN_le hm)
  have BB := Lib.hid ((Below.refl w.heap.size w).alloc (Nat.le_refl _) (.cells (rowP u f) 112))
  have hu6 : (u : Int) ≤ 6 := by omega
  have hm6 : (m : Int) ≤ 6 := by omega
  unfold encP
  unfold rowP at BB ⊢
  go_enter Try.func69, Try.ntmps69
  go_wp2
  generalize w.alloc (.cells #[.int .i64 (u : Int), .int .u64 (f 0 : Int), .int .u64 (f 1 : Int), .int .u64 (f 2 : Int), .int .u64 (f 3 : Int), .int .u64 (f 4 : Int), .int .u64 (f 5 : Int), .int .u64 (f 6 : Int), .int .u64 (f 7 : Int), .int .u64 (f 8 : Int), .int .u64 (f 9 : Int)] 112) = w1 at *
  go_loopw [5, 9] (fun a i wr => ∃ k : Nat, k ≤ u ∧ i = .int .i64 (k : Int) ∧ a = .int .i64 (fallN m k : Int) ∧ Below w.heap.size w wr) (fun _ i _ => u - (intOf i).toNat)
  case atStart => exact ⟨0, Nat.zero_le _, rfl, rfl, BB.out⟩
  case round =>
    obtain ⟨k, hk, rfl, rfl, hb⟩ := hrel
    have HB := Lib.hid hb
    clear hb
    by_cases hlt : k < u
    · have hk0 : 0 ≤ (k : Int) := by omega
      have hk1 : (k : Int) < (u : Int) := by omega
      have f1 := FL.out k (by omega)
      have f2 := FL.out (k + 1) (by omega)
      have e1 : IntKind.i64.wrap ((m : Int) - (k : Int)) = ((m - k : Nat) : Int) := by rw [show (m : Int) - (k : Int) = ((m - k : Nat) : Int) by omega]; exact IntWalk.i64_in _ (by omega)
      have e2 : IntKind.i64.wrap ((fallN m k : Int) * ((m - k : Nat) : Int)) = (fallN m (k + 1) : Int) := by
        rw [show ((fallN m k : Nat) : Int) * ((m - k : Nat) : Int) = ((fallN m (k + 1) : Nat) : Int) by rw [fallN]; simp]
        exact IntWalk.i64_in _ (by omega)
      go_wp2
      go_roundw
      case rel => exact ⟨k + 1, by omega, by go_num, rfl, HB.out⟩
      case measure => simp [intOf]; omega
    · obtain rfl : k = u := by omega
      go_wp2
      go_ret
      exact ⟨rfl, HB.out⟩
end Go.Proofs.Ytemhmejjmhbfdab.sines
