/- Tables of sines: contracts of the program and of the model. -/
import Derived.Test.YtbnihalbepffoaaSineF
import Derived.Test.YtbnihalbepffoaaIRows
import Derived.Test.YtbnihalbepffoaaShelf
import Derived.Deep.WholeRow
namespace Go.Proofs.Ytbnihalbepffoaa.sines
open Go.ChangeShapes Go.WideShapes Go.ChangeAt Go.RowKit Go.Proofs.Ytbnihalbepffoaa.spots Go.Proofs.Ytbnihalbepffoaa.irows

/-- The sines of equal steps. -/
def tabL (d : Int) (n : Nat) : List Int := (List.range n).map fun i : Nat => sineL ((i : Int) * d)
theorem tabL_len (d : Int) (n : Nat) : (tabL d n).length = n := by simp [tabL]
theorem tabL_succ (d : Int) (n : Nat) : tabL d (n + 1) = tabL d n ++ [sineL ((n : Int) * d)] := by simp [tabL, List.range_succ]
theorem tabL_at (d : Int) (n i : Nat) (h : i < n) : (tabL d n)[i]'(by rw [tabL_len]; exact h) = sineL ((i : Int) * d) := by simp [tabL]
theorem step_bounds {d : Int} {k m : Nat} (h1 : 1 ≤ d) (h2 : d ≤ 324000) (hk : k < m) (hm : m ≤ 100) : 0 ≤ (k : Int) * d ∧ (k : Int) * d ≤ 32400000 := by
  have e1 : (k : Int) * d ≤ 100 * d := Int.mul_le_mul_of_nonneg_right (by omega) (by omega)
  exact ⟨Int.mul_nonneg (by omega) (by omega), by omega⟩

theorem inB_nat {n a b : Int} (h : inB n a b = true) (ha : 0 ≤ a) : ∃ m : Nat, n = (m : Int) ∧ a ≤ (m : Int) ∧ (m : Int) ≤ b := by
  obtain ⟨h1, h2⟩ := inB_of h
  obtain ⟨m, rfl⟩ := Int.eq_ofNat_of_zero_le (show 0 ≤ n by omega)
  exact ⟨m, rfl, h1, h2⟩

end Go.Proofs.Ytbnihalbepffoaa.sines
