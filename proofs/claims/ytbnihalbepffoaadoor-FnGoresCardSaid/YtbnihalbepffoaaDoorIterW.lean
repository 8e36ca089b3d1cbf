/- WorstClosing of the program: a loop over the iterator of the parallels; both functions, whatever the arguments. -/
import Derived.Test.YtbnihalbepffoaaDoorIterF
namespace Go.Proofs.YtbnihalbepffoaaDoor.sines
open Go.ChangeShapes Go.WideShapes Go.ChangeAt Go.RowKit Go.Shelf Go.Proofs.YtbnihalbepffoaaDoor.spots Go.Proofs.YtbnihalbepffoaaDoor.irows
attribute [local go_sem] Oper.semAt_some
set_option linter.unusedVariables false
set_option linter.unusedSimpArgs false


theorem ret_three {a b c d e f : Int} (h : a = b) (g : c = d) (k : e = f) : Ending.returned (.tuple #[.int .i64 a, .int .i64 c, .int .i64 e]) = .returned (.tuple #[.int .i64 b, .int .i64 d, .int .i64 f]) := by rw [h, g, k]



/-- The widths that are told. -/
def wideV (g a d : Int) : List Int := if codeT g a d = 0 then widthsL g a d (stepsN d) else []
theorem wideV_len (g a d : Int) : (wideV g a d).length ≤ 2000000 := by
  simp only [wideV]; split
  · rename_i h
    rw [widthsL_len]; have := stepsN_le (codeT_yes h).2.2.2.1; omega
  · simp

theorem implGoreWidths_any (g a d : Int) (w : World) (hG : GV w) :
    Calls Tryd.prog 24 #[.int .i64 g, .int .i64 a, .int .i64 d] w fun e w' => ∃ v, e = .returned (.tuple #[v, .int .i64 (codeT g a d)]) ∧ IRow w' w.heap.size v (wideV g a d) ∧ Below w.heap.size w w' := by
  cases h : goreB g with
  | false =>
    cases x : inB a 1 1000000 with
    | false => refine (implGoreWidths_ff _ _ _ _ hG h x).mono ?_; rintro e w' ⟨rfl, hw⟩; exact ⟨.slice none 0 0, by simp [codeT, codeG, h, x], by simp [wideV, codeT, codeG, h, x]; exact irow_nil _ _, hw⟩
    | true =>
      cases y : inB d 3240 324000 with
      | false => refine (implGoreWidths_ftf _ _ _ _ hG h x y).mono ?_; rintro e w' ⟨rfl, hw⟩; exact ⟨.slice none 0 0, by simp [codeT, codeG, h, x, y], by simp [wideV, codeT, codeG, h, x, y]; exact irow_nil _ _, hw⟩
      | true => refine (implGoreWidths_ftt _ _ _ _ hG h x y).mono ?_; rintro e w' ⟨rfl, hw⟩; exact ⟨.slice none 0 0, by simp [codeT, codeG, h, x, y], by simp [wideV, codeT, codeG, h, x, y]; exact irow_nil _ _, hw⟩
  | true =>
    cases x : inB a 1 1000000 with
    | false => refine (implGoreWidths_tf _ _ _ _ hG h x).mono ?_; rintro e w' ⟨rfl, hw⟩; exact ⟨.slice none 0 0, by simp [codeT, codeG, h, x], by simp [wideV, codeT, codeG, h, x]; exact irow_nil _ _, hw⟩
    | true =>
      cases y : inB d 3240 324000 with
      | false => refine (implGoreWidths_ttf _ _ _ _ hG h x y).mono ?_; rintro e w' ⟨rfl, hw⟩; exact ⟨.slice none 0 0, by simp [codeT, codeG, h, x, y], by simp [wideV, codeT, codeG, h, x, y]; exact irow_nil _ _, hw⟩
      | true => refine (implGoreWidths_ok _ _ _ _ hG h x y).mono ?_; rintro e w' ⟨v, rfl, hr, hw⟩; exact ⟨v, by simp [codeT, codeG, h, x, y], by simpa [wideV, codeT, codeG, h, x, y] using hr, hw⟩


theorem specGoreWidths_any (g a d : Int) (w : World) :
    Calls Tryd.prog 25 #[.int .i64 g, .int .i64 a, .int .i64 d] w fun e w' => ∃ v, e = .returned (.tuple #[v, .int .i64 (codeT g a d)]) ∧ IRow w' w.heap.size v (wideV g a d) ∧ Below w.heap.size w w' := by
  by_cases h : codeT g a d = 0
  · refine (specGoreWidths_ok _ _ _ _ h).mono ?_; rintro e w' ⟨v, rfl, hr, hw⟩; exact ⟨v, by rw [h], by simpa [wideV, h] using hr, hw⟩
  · refine (specGoreWidths_bad _ _ _ _ h).mono ?_; rintro e w' ⟨rfl, rfl⟩; exact ⟨.slice none 0 0, rfl, by simp [wideV, h]; exact irow_nil _ _, Below.refl _ _⟩


end Go.Proofs.YtbnihalbepffoaaDoor.sines
