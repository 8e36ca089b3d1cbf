/- FnExactWorstStep answers true for every step and number of steps. -/
import Derived.Test.YtbnihalbepffoaaWorst
namespace Go.Proofs.Ytbnihalbepffoaa.worstStep
open Go.ChangeShapes Go.WideShapes Go.ChangeAt Go.RowKit Go.Proofs.Ytbnihalbepffoaa.spots Go.Proofs.Ytbnihalbepffoaa.sines

/-- What both answer. -/
def worstV (d n : Int) : Int := if inB d 1 324000 && inB n 1 100 then worstN d (n.toNat - 1) else 0
def worstC (d n : Int) : Int := if inB d 1 324000 && inB n 1 100 then 0 else 2
theorem impl_any (d n : Int) (w : World) :
    Calls Try.prog 19 #[.int .i64 d, .int .i64 n] w fun e w' => e = .returned (.tuple #[.int .i64 (worstV d n), .int .i64 (worstC d n)]) ∧ Below w.heap.size w w' := by
  unfold worstC worstV
  cases h : inB d 1 324000 with
  | false =>
    refine (implWorst_bad d n w h).mono ?_
    rintro e w' ⟨rfl, rfl⟩
    exact ⟨rfl, Below.refl _ _⟩
  | true =>
    cases g : inB n 1 100 with
    | false =>
      refine (implWorst_badN d n w h g).mono ?_
      rintro e w' ⟨rfl, rfl⟩
      exact ⟨rfl, Below.refl _ _⟩
    | true =>
      obtain ⟨m, rfl, _, _⟩ := inB_nat g (by omega)
      exact implWorst_yes d m w h g

end Go.Proofs.Ytbnihalbepffoaa.worstStep
