/- Turned places and the places on the other side: contracts of the program and of the model. -/
import Derived.Test.YtbggbgfmahnjkaaSpots
import Derived.Deep.RegionWith
import Derived.IntWalk
namespace Go.Proofs.Ytbggbgfmahnjkaa.spots
open Go.ChangeShapes Go.WideShapes Go.ChangeAt Go.RowKit

theorem okB_of {a b : Int} (h : okB a b = true) : -324000 ≤ a ∧ a ≤ 324000 ∧ -648000 ≤ b ∧ b ≤ 647999 := by simpa [okB] using h
theorem angB_of {n : Int} (h : angB n = true) : -1000000000 ≤ n ∧ n ≤ 1000000000 := by simpa [angB] using h

set_option maxHeartbeats 400000 in
theorem specTurn_bad (a b n : Int) (w : World) (h : okB a b = false) :
    Calls Try.prog 19 #[.agg #[.int .i64 a, .int .i64 b], .int .i64 n] w fun e w' => e = .returned (.tuple #[.agg #[.int .i64 0, .int .i64 0], .int .i64 1]) ∧ Below w.heap.size w w' := by
  go_enter Try.func19, Try.ntmps19
  go_wp2_with (first | (go_at_call 56; refine (l02Ok_any _ _ _).mono ?_; rintro e w' ⟨rfl, o1, rfl⟩) | (go_at_call 57; refine (l02Angle_any _ _).mono ?_; rintro e w' ⟨rfl, rfl⟩))
  exact bodyPost_ret (v := .tuple #[.agg #[.int .i64 0, .int .i64 0], .int .i64 1]) (by simp [results, Try.results19, go_sem]) rfl ⟨rfl, by repeat (first | exact Below.refl _ _ | refine Below.drew ?_ | refine Below.alloc ?_ (by simp <;> omega) _ | refine Below.setCell ?_ (by simp) _)⟩

set_option maxHeartbeats 400000 in
theorem specTurn_far (a b n : Int) (w : World) (h : okB a b = true) (g : angB n = false) :
    Calls Try.prog 19 #[.agg #[.int .i64 a, .int .i64 b], .int .i64 n] w fun e w' => e = .returned (.tuple #[.agg #[.int .i64 0, .int .i64 0], .int .i64 2]) ∧ Below w.heap.size w w' := by
  go_enter Try.func19, Try.ntmps19
  go_wp2_with (first | (go_at_call 56; refine (l02Ok_any _ _ _).mono ?_; rintro e w' ⟨rfl, o1, rfl⟩) | (go_at_call 57; refine (l02Angle_any _ _).mono ?_; rintro e w' ⟨rfl, rfl⟩))
  exact bodyPost_ret (v := .tuple #[.agg #[.int .i64 0, .int .i64 0], .int .i64 2]) (by simp [results, Try.results19, go_sem]) rfl ⟨rfl, by repeat (first | exact Below.refl _ _ | refine Below.drew ?_ | refine Below.alloc ?_ (by simp <;> omega) _ | refine Below.setCell ?_ (by simp) _)⟩

set_option maxHeartbeats 400000 in
theorem specTurn_yes (a b n : Int) (w : World) (h : okB a b = true) (g : angB n = true) :
    Calls Try.prog 19 #[.agg #[.int .i64 a, .int .i64 b], .int .i64 n] w fun e w' => e = .returned (.tuple #[.agg #[.int .i64 a, .int .i64 (wrapL (b + n))], .int .i64 0]) ∧ Below w.heap.size w w' := by
  obtain ⟨h1, h2, h3, h4⟩ := okB_of h
  obtain ⟨h5, h6⟩ := angB_of g
  go_enter Try.func19, Try.ntmps19
  go_wp2_with (first | (go_at_call 56; refine (l02Ok_any _ _ _).mono ?_; rintro e w' ⟨rfl, o1, rfl⟩) | (go_at_call 57; refine (l02Angle_any _ _).mono ?_; rintro e w' ⟨rfl, rfl⟩))
  have k1 : -3000000000 ≤ b + n := by omega
  have k2 : b + n ≤ 3000000000 := by omega
  have k3 : IntKind.i64.wrap (b + n) = b + n := IntWalk.i64_in _ (by omega)
  go_region_with (go_at_call 58; refine (l02Wrap_any _ _ k1 k2).mono ?_; rintro e w' ⟨rfl, rfl⟩)
  all_goals go_wp2
  all_goals exact bodyPost_ret (v := .tuple #[.agg #[.int .i64 a, .int .i64 (wrapL (b + n))], .int .i64 0]) (by simp [results, Try.results19, go_sem]) rfl ⟨rfl, by repeat (first | exact Below.refl _ _ | refine Below.drew ?_ | refine Below.alloc ?_ (by simp <;> omega) _ | refine Below.setCell ?_ (by simp) _)⟩

end Go.Proofs.Ytbggbgfmahnjkaa.spots
