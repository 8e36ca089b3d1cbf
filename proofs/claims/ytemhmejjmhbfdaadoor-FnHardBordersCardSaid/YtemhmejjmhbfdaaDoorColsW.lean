/- The model's search for colours: what is free. -/
import Derived.Test.YtemhmejjmhbfdaaDoorColsC
namespace Go.Proofs.YtemhmejjmhbfdaaDoor.sines
open Go.ChangeShapes Go.WideShapes Go.ChangeAt Go.RowKit Go.Proofs.YtemhmejjmhbfdaaDoor.spots Go.Proofs.YtemhmejjmhbfdaaDoor.irows Go.Proofs.YtemhmejjmhbfdaaDoor.pairsBorder
set_option linter.unusedSimpArgs false
set_option linter.unusedVariables false

theorem freeC_no {ps : List (Int × Int)} {cs : List Int} {c : Int} {k : Nat} (h : k < ps.length) (h1 : (bAt ps k).2 = (cs.length : Int)) (h2 : cAt cs (bAt ps k).1 = c) : freeC ps cs c = false := by
  cases e : freeC ps cs c with
  | false => rfl
  | true =>
    simp only [freeC, List.all_eq_true] at e
    have := e ps[k] (List.getElem_mem _)
    rw [bAt_of h] at this
    simp [h1, h2] at this
theorem freeC_yes {ps : List (Int × Int)} {cs : List Int} {c : Int} (h : ∀ j, j < ps.length → ¬ ((bAt ps j).2 = (cs.length : Int) ∧ cAt cs (bAt ps j).1 = c)) : freeC ps cs c = true := by
  simp only [freeC, List.all_eq_true]
  intro p hp
  obtain ⟨i, hi, rfl⟩ := List.mem_iff_getElem.1 hp
  rw [bAt_of hi]
  have := h i hi
  simp only [Bool.not_eq_true', Bool.and_eq_false_iff, decide_eq_false_iff_not]
  exact Decidable.not_and_iff_or_not.1 this

end Go.Proofs.YtemhmejjmhbfdaaDoor.sines
