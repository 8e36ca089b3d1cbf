/- The model's colours and clashes: contracts. -/
import Derived.Test.YtemhmejjmhbfdaaDoorColsV
import Derived.Test.YtemhmejjmhbfdaaDoorIArg9
namespace Go.Proofs.YtemhmejjmhbfdaaDoor.sines
open Go.ChangeShapes Go.WideShapes Go.ChangeAt Go.RowKit Go.Proofs.YtemhmejjmhbfdaaDoor.spots Go.Proofs.YtemhmejjmhbfdaaDoor.irows Go.Proofs.YtemhmejjmhbfdaaDoor.pairsBorder
set_option linter.unusedSimpArgs false
set_option linter.unusedVariables false

theorem cAt_nat (cs : List Int) (k : Nat) : cAt cs (k : Int) = zAt cs k := by simp [cAt, zAt]
theorem colsOk_no {n : Int} {cs : List Int} {k : Nat} (h : k < cs.length) (hk : inB (zAt cs k) 0 9 = false) : colsOk n cs = false := by
  cases e : colsOk n cs with
  | false => rfl
  | true =>
    simp only [colsOk, Bool.and_eq_true, List.all_eq_true] at e
    have := e.1 cs[k] (List.getElem_mem _)
    rw [← zAt_eq h, hk] at this; cases this
theorem colsOk_all {n : Int} {cs : List Int} (h : ∀ j, j < cs.length → inB (zAt cs j) 0 9 = true) : colsOk n cs = decide ((cs.length : Int) = n) := by
  have : cs.all (fun c => inB c 0 9) = true := by
    rw [List.all_eq_true]
    intro c hc
    obtain ⟨i, hi, rfl⟩ := List.mem_iff_getElem.1 hc
    rw [← zAt_eq hi]; exact h i hi
  rw [colsOk, this, Bool.true_and]
theorem colsOk_len {n : Int} {cs : List Int} (h : colsOk n cs = true) : (cs.length : Int) = n := by
  simp only [colsOk, Bool.and_eq_true, decide_eq_true_eq] at h; exact h.2
def codeFC (n : Int) (ps : List (Int × Int)) (cs : List Int) : Int := if validC n ps = true then (if colsOk n cs = true then 0 else 2) else 1
def valFC (n : Int) (ps : List (Int × Int)) (cs : List Int) : Int := if codeFC n ps cs = 0 then clashV ps cs else 0




end Go.Proofs.YtemhmejjmhbfdaaDoor.sines
