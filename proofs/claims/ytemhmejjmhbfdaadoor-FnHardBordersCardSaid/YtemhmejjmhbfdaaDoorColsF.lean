/- The model's fewest and first colours: contracts. -/
import Derived.Test.YtemhmejjmhbfdaaDoorColsL
namespace Go.Proofs.YtemhmejjmhbfdaaDoor.sines
open Go.ChangeShapes Go.WideShapes Go.ChangeAt Go.RowKit Go.Proofs.YtemhmejjmhbfdaaDoor.spots Go.Proofs.YtemhmejjmhbfdaaDoor.irows Go.Proofs.YtemhmejjmhbfdaaDoor.pairsBorder
set_option linter.unusedSimpArgs false
set_option linter.unusedVariables false

theorem retI9 {a b : Int} (h : a = b) : Ending.returned (.int .i64 a) = .returned (.int .i64 b) := by rw [h]
/-- The answer of FewestColours, of FirstColours, and their codes. -/
def codeVc (n : Int) (ps : List (Int × Int)) : Int := if validC n ps = true then 0 else 1
def valFew (n : Int) (ps : List (Int × Int)) : Int := if validC n ps = true then fewest n ps else 0
def codeMc (n : Int) (ps : List (Int × Int)) (m : Int) : Int := if validC n ps = true then (if inB m 1 6 = true then 0 else 2) else 1
def codeFi (n : Int) (ps : List (Int × Int)) (m : Int) : Int := if codeMc n ps m = 0 then (if (firstC n ps m).isSome = true then 0 else 3) else codeMc n ps m
def valFi (n : Int) (ps : List (Int × Int)) (m : Int) : List Int := if codeFi n ps m = 0 then (firstC n ps m).getD [] else []
theorem codeMc_of {n : Int} {ps : List (Int × Int)} {m : Int} (h : codeMc n ps m = 0) : validC n ps = true ∧ 1 ≤ m ∧ m ≤ 6 := by
  unfold codeMc at h
  split at h
  · rename_i g
    split at h
    · rename_i g2
      exact ⟨g, inB_of g2⟩
    · omega
  · omega
theorem codeVc_of {n : Int} {ps : List (Int × Int)} (h : codeVc n ps = 0) : validC n ps = true := by
  unfold codeVc at h
  split at h
  · assumption
  · omega
theorem firstC_len {n : Int} {ps : List (Int × Int)} {m : Int} (hn : n ≤ 10) : ((firstC n ps m).getD []).length ≤ 10 := by
  cases h : firstC n ps m with
  | none => simp
  | some cs => have := (firstC_some h).2.1; simp; omega
theorem valFi_len (n : Int) (ps : List (Int × Int)) (m : Int) : (valFi n ps m).length ≤ 10 := by
  unfold valFi
  split
  · rename_i h
    by_cases hm : codeMc n ps m = 0
    · exact firstC_len (validC_facts (codeMc_of hm).1).2.1
    · unfold codeFi at h
      rw [if_neg hm] at h
      exact absurd h hm
  · simp




end Go.Proofs.YtemhmejjmhbfdaaDoor.sines
