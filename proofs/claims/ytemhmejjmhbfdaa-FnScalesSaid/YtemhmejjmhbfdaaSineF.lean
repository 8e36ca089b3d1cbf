/- Sines, cosines, tangents, chords, sines between two and widths: contracts of the program and of the model. -/
import Derived.Test.YtemhmejjmhbfdaaSines
namespace Go.Proofs.Ytemhmejjmhbfdaa.sines
open Go.ChangeShapes Go.WideShapes Go.ChangeAt Go.RowKit Go.Proofs.Ytemhmejjmhbfdaa.spots
theorem angB_of {n : Int} (h : angB n = true) : -1000000000 ≤ n ∧ n ≤ 1000000000 := by simpa [angB] using h









/-- The sine between two of a table. -/
def between (d n : Int) : Int := sineL (n / d * d) + near ((n - n / d * d) * (sineL (n / d * d + d) - sineL (n / d * d))) d
theorem between_facts (d n : Int) (h : angB n = true) (g : inB d 1 324000 = true) : ∃ q m, n / d = q ∧ q * d = m ∧ m ≤ n ∧ n < m + d ∧ -1000000000 ≤ q ∧ q ≤ 1000000000 := by
  obtain ⟨a1, a2⟩ := angB_of h
  obtain ⟨d1, d2⟩ := inB_of g
  have m1 := Int.emod_nonneg n (show d ≠ 0 by omega)
  have m2 := Int.emod_lt_of_pos n (show 0 < d by omega)
  have e := Int.emod_add_mul_ediv n d
  rw [Int.mul_comm] at e
  have q1 : -1000000000 ≤ n / d := (Int.le_ediv_iff_mul_le (by omega)).2 (by omega)
  have q2 : n / d ≤ 1000000000 := by
    have : n / d < 1000000001 := Int.ediv_lt_of_lt_mul (by omega) (by omega)
    omega
  exact ⟨_, _, rfl, rfl, by omega, by omega, q1, q2⟩
theorem mul_bounds {a b : Int} (A B : Int) (h1 : 0 ≤ a) (h2 : a ≤ A) (h3 : -B ≤ b) (h4 : b ≤ B) : -(A * B) ≤ a * b ∧ a * b ≤ A * B := by
  have hB : 0 ≤ B := by omega
  have e1 : a * B ≤ A * B := Int.mul_le_mul_of_nonneg_right h2 hB
  have e2 : a * b ≤ a * B := Int.mul_le_mul_of_nonneg_left h4 h1
  have e3 : a * -B ≤ a * b := Int.mul_le_mul_of_nonneg_left h3 h1
  rw [Int.mul_neg] at e3
  omega
theorem near_facts (r g d : Int) (h1 : 0 ≤ r) (h2 : r < d) (h3 : -2000000 ≤ g) (h4 : g ≤ 2000000) : -2000000 ≤ near (r * g) d ∧ near (r * g) d ≤ 2000000 := by
  obtain ⟨b1, b2⟩ := mul_bounds d 2000000 h1 (by omega) (by omega : -2000000 ≤ g) h4
  exact ⟨near_ge _ (by omega) (by omega), near_le _ (by omega) (by omega)⟩



theorem latS_any (n : Int) (w : World) :
    Calls Try.prog 115 #[.int .i64 n] w fun e w' => e = .returned (.bool (inB n (-324000) 324000)) ∧ w = w' := by
  go_enter Try.func115, Try.ntmps115
  go_wp2_with (go_at_call 107; refine (within_any _ _ _ _).mono ?_; rintro e w' ⟨rfl, rfl⟩)
  go_ret
  exact ⟨rfl, rfl⟩




end Go.Proofs.Ytemhmejjmhbfdaa.sines
