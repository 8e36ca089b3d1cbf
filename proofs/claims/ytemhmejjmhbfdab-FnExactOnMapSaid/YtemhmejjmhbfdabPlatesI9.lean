/- The program's functions of one place: contracts. -/
import Derived.Test.YtemhmejjmhbfdabPlatesI8
namespace Go.Proofs.Ytemhmejjmhbfdab.sines
open Go.ChangeShapes Go.WideShapes Go.ChangeAt Go.RowKit Go.Proofs.Ytemhmejjmhbfdab.spots Go.Proofs.Ytemhmejjmhbfdab.pairs
set_option linter.unusedSimpArgs false
set_option linter.unusedVariables false




theorem readB_eq (x y s : Int) : (if codeR x y s false = 0 then rdLat x y s false else 0) = (if codeB8 x y s = 0 then y * s else 0) ∧ (if codeR x y s false = 0 then rdLon x y s false else 0) = (if codeB8 x y s = 0 then x * s else 0) := by
  rw [codeR_plate]
  by_cases hc : codeB8 x y s = 0
  · rw [if_pos hc, if_pos hc, if_pos hc, if_pos hc]
    have hk : rdOk x y s false = true := by
      rw [← codeR_plate] at hc
      unfold codeR at hc
      split at hc
      · cases h : rdOk x y s false with
        | true => rfl
        | false => rw [h] at hc; simp at hc
      · contradiction
    unfold rdLat rdLon
    rw [hk]
    exact ⟨rfl, rfl⟩
  · rw [if_neg hc, if_neg hc, if_neg hc, if_neg hc]; exact ⟨rfl, rfl⟩
theorem readWv_eq (x y s : Int) : (if codeR x y s true = 0 then rdLat x y s true else 0) = (if codeW8 x y s = 0 then wbLat y s else 0) ∧ (if codeR x y s true = 0 then rdLon x y s true else 0) = (if codeW8 x y s = 0 then wbLon x y s else 0) := by
  rw [codeR_wave]
  by_cases hc : codeW8 x y s = 0
  · rw [if_pos hc, if_pos hc, if_pos hc, if_pos hc]
    have hk : rdOk x y s true = true := by
      rw [← codeR_wave] at hc
      unfold codeR at hc
      split at hc
      · cases h : rdOk x y s true with
        | true => rfl
        | false => rw [h] at hc; simp at hc
      · contradiction
    unfold rdLat rdLon
    rw [hk]
    exact ⟨rfl, rfl⟩
  · rw [if_neg hc, if_neg hc, if_neg hc, if_neg hc]; exact ⟨rfl, rfl⟩


end Go.Proofs.Ytemhmejjmhbfdab.sines
