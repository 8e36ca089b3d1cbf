/- The program's chains: lengths. -/
import Derived.Test.YtemhmejjmhbfdaaChainI2
import Derived.Test.YtemhmejjmhbfdaaSearch
import Derived.BigQuiet
namespace Go.Proofs.Ytemhmejjmhbfdaa.sines
open Go.Shelf Go.Lib Go.Sort Go.ChangeShapes Go.WideShapes Go.ChangeAt Go.RowKit Go.Proofs.Ytemhmejjmhbfdaa.spots Go.Proofs.Ytemhmejjmhbfdaa.irows Go.Proofs.Ytemhmejjmhbfdaa.pairsPlace
set_option linter.unusedSimpArgs false
set_option linter.unusedVariables false

theorem mono_sq {x y : Int} (h0 : 0 ≤ x) (h : x ≤ y) : x * x ≤ y * y := Int.mul_le_mul h h h0 (by omega)
/-- A root, rounded up, as the library's search finds it. -/
def upR (n : Int) : Int := ((List.range 3000).countP fun i : Nat => !decide ((i : Int) * (i : Int) ≥ n) : Nat)
theorem upR_ge (n : Int) : 0 ≤ upR n := by unfold upR; omega
theorem upR_le (n : Int) : upR n ≤ 3000 := by
  have := List.countP_le_length (p := fun i : Nat => !decide ((i : Int) * (i : Int) ≥ n)) (l := List.range 3000)
  unfold upR
  simp only [List.length_range] at this
  omega
theorem countU (p : Nat → Bool) : ∀ (n k : Nat), k ≤ n → (∀ i, i < k → p i = false) → (∀ i, k ≤ i → i < n → p i = true) → (List.range n).countP (fun i => !p i) = k
  | 0, k, hk, _, _ => by simp; omega
  | n + 1, k, hk, h1, h2 => by
    rw [List.range_succ, List.countP_append]
    by_cases hn : k = n + 1
    · subst hn
      rw [countU p n n (Nat.le_refl _) (fun i hi => h1 i (by omega)) (fun i hi hi2 => by omega)]
      simp [h1 n (by omega)]
    · rw [countU p n k (by omega) h1 (fun i hi hi2 => h2 i hi (by omega))]
      simp [h2 n (by omega) (by omega)]
theorem upR_eq {n : Int} {r : Nat} (hr : r ≤ 3000) (h1 : r = 0 ∨ ((r : Int) - 1) * ((r : Int) - 1) < n) (h2 : n ≤ (r : Int) * (r : Int)) : upR n = (r : Int) := by
  unfold upR
  rw [countU (fun i : Nat => decide ((i : Int) * (i : Int) ≥ n)) 3000 r hr (fun i hi => ?_) (fun i hi _ => ?_)]
  · rcases h1 with h | h
    · omega
    · have := mono_sq (x := (i : Int)) (y := (r : Int) - 1) (by omega) (by omega)
      simp only [ge_iff_le, decide_eq_false_iff_not]; omega
  · have := mono_sq (x := (r : Int)) (y := (i : Int)) (by omega) (by omega)
    simp only [ge_iff_le, decide_eq_true_eq]; omega
theorem rootI_small {F : Int} (f1 : 0 ≤ F) (f2 : F ≤ 8000000) : rootI F ≤ 2999 := by
  obtain ⟨r1, r2, r3, r4⟩ := root_is f1 (by omega)
  by_cases h : 3000 ≤ rootI F
  · have := mono_sq (x := 3000) (y := rootI F) (by omega) h
    omega
  · omega
theorem floor_up {F : Int} (f1 : 0 ≤ F) (f2 : F ≤ 8000000) : rootI F = upR (F + 1) - 1 := by
  obtain ⟨r1, r2, r3, r4⟩ := root_is f1 (by omega)
  have r5 := rootI_small f1 f2
  generalize rootI F = r at r1 r2 r3 r4 r5
  obtain ⟨u, rfl⟩ := Int.eq_ofNat_of_zero_le r1
  rw [upR_eq (n := F + 1) (r := u + 1) (by omega) (.inr (by rw [show ((u + 1 : Nat) : Int) - 1 = (u : Int) by omega]; omega)) (by rw [show ((u + 1 : Nat) : Int) = (u : Int) + 1 by omega]; omega)]
  omega
theorem ceil_up {F : Int} (f1 : 0 ≤ F) (f2 : F ≤ 8000000) : ceilI F = upR F := by
  obtain ⟨r1, r2, r3, r4⟩ := root_is f1 (by omega)
  have r5 := rootI_small f1 f2
  unfold ceilI
  generalize rootI F = r at r1 r2 r3 r4 r5
  obtain ⟨u, rfl⟩ := Int.eq_ofNat_of_zero_le r1
  split
  · rename_i h
    rw [upR_eq (n := F) (r := u + 1) (by omega) (.inr (by rw [show ((u + 1 : Nat) : Int) - 1 = (u : Int) by omega]; omega)) (by rw [show ((u + 1 : Nat) : Int) = (u : Int) + 1 by omega]; omega)]
    omega
  · rename_i h
    rw [upR_eq (n := F) (r := u) (by omega) (by
      by_cases h0 : u = 0
      · exact .inl h0
      · right
        have e := mono_sq (x := (u : Int) - 1) (y := (u : Int)) (by omega) (by omega)
        have e2 : ((u : Int) - 1) * ((u : Int) - 1) = (u : Int) * (u : Int) - 2 * (u : Int) + 1 := by grind
        omega) (by omega)]
end Go.Proofs.Ytemhmejjmhbfdaa.sines
