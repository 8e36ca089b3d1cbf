/- FnExactSineTable answers true for every step and number of steps. -/
import Derived.Test.YtbnihalbepffoaaArr
namespace Go.Proofs.Ytbnihalbepffoaa.sineTable
open Go.ChangeShapes Go.WideShapes Go.ChangeAt Go.RowKit Go.Proofs.Ytbnihalbepffoaa.spots Go.Proofs.Ytbnihalbepffoaa.sines Go.Proofs.Ytbnihalbepffoaa.irows

/-- What both answer. -/
def tabV (d n : Int) : List Int := if inB d 1 324000 && inB n 1 100 then tabL d n.toNat else []
def tabC (d n : Int) : Int := if inB d 1 324000 && inB n 1 100 then 0 else 2
theorem tabV_len (d n : Int) : (tabV d n).length ≤ 2000000 := by
  unfold tabV
  split
  · rename_i h
    simp only [Bool.and_eq_true] at h
    have := inB_of h.2
    rw [tabL_len]; omega
  · simp

theorem impl_any (d n : Int) (w : World) :
    Calls Try.prog 18 #[.int .i64 d, .int .i64 n] w fun e w' => ∃ v : Value, e = .returned (.tuple #[v, .int .i64 (tabC d n)]) ∧ IRow w' w.heap.size v (tabV d n) ∧ Below w.heap.size w w' := by
  unfold tabC tabV
  cases h : inB d 1 324000 with
  | false =>
    refine (implTable_bad d n w h).mono ?_
    rintro e w' ⟨rfl, rfl⟩
    exact ⟨_, rfl, irow_nil _ _, Below.refl _ _⟩
  | true =>
    cases g : inB n 1 100 with
    | false =>
      refine (implTable_badN d n w h g).mono ?_
      rintro e w' ⟨rfl, rfl⟩
      exact ⟨_, rfl, irow_nil _ _, Below.refl _ _⟩
    | true =>
      obtain ⟨m, rfl, _, _⟩ := inB_nat g (by omega)
      exact implTable_yes d m w h g


end Go.Proofs.Ytbnihalbepffoaa.sineTable
