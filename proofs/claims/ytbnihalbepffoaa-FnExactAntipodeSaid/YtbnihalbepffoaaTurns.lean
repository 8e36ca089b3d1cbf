/- Turned places and the places on the other side: contracts of the program and of the model. -/
import Derived.Test.YtbnihalbepffoaaSpots
import Derived.Deep.RegionWith
import Derived.IntWalk
namespace Go.Proofs.Ytbnihalbepffoaa.spots
open Go.ChangeShapes Go.WideShapes Go.ChangeAt Go.RowKit

theorem okB_of {a b : Int} (h : okB a b = true) : -324000 ≤ a ∧ a ≤ 324000 ∧ -648000 ≤ b ∧ b ≤ 647999 := by simpa [okB] using h
theorem angB_of {n : Int} (h : angB n = true) : -1000000000 ≤ n ∧ n ≤ 1000000000 := by simpa [angB] using h

set_option maxHeartbeats 400000 in
theorem implTurn_bad (a b n : Int) (w : World) (h : okB a b = false) :
    Calls Try.prog 14 #[.agg #[.int .i64 a, .int .i64 b], .int .i64 n] w fun e w' => e = .returned (.tuple #[.agg #[.int .i64 0, .int .i64 0], .int .i64 1]) ∧ Below w.heap.size w w' := by
  go_enter Try.func14, Try.ntmps14
  go_wp2_with (first | (go_at_call 26; refine (ValidSpot_any _ _ _).mono ?_; rintro e w' ⟨rfl, o1, rfl⟩) | (go_at_call 33; refine (isAngle_any _ _).mono ?_; rintro e w' ⟨rfl, rfl⟩))
  exact bodyPost_ret (v := .tuple #[.agg #[.int .i64 0, .int .i64 0], .int .i64 1]) (by simp [results, Try.results14, go_sem]) rfl ⟨rfl, by repeat (first | exact Below.refl _ _ | refine Below.drew ?_ | refine Below.alloc ?_ (by simp <;> omega) _ | refine Below.setCell ?_ (by simp) _)⟩

set_option maxHeartbeats 400000 in
theorem implTurn_far (a b n : Int) (w : World) (h : okB a b = true) (g : angB n = false) :
    Calls Try.prog 14 #[.agg #[.int .i64 a, .int .i64 b], .int .i64 n] w fun e w' => e = .returned (.tuple #[.agg #[.int .i64 0, .int .i64 0], .int .i64 2]) ∧ Below w.heap.size w w' := by
  go_enter Try.func14, Try.ntmps14
  go_wp2_with (first | (go_at_call 26; refine (ValidSpot_any _ _ _).mono ?_; rintro e w' ⟨rfl, o1, rfl⟩) | (go_at_call 33; refine (isAngle_any _ _).mono ?_; rintro e w' ⟨rfl, rfl⟩))
  exact bodyPost_ret (v := .tuple #[.agg #[.int .i64 0, .int .i64 0], .int .i64 2]) (by simp [results, Try.results14, go_sem]) rfl ⟨rfl, by repeat (first | exact Below.refl _ _ | refine Below.drew ?_ | refine Below.alloc ?_ (by simp <;> omega) _ | refine Below.setCell ?_ (by simp) _)⟩

set_option maxHeartbeats 400000 in
theorem implTurn_yes (a b n : Int) (w : World) (h : okB a b = true) (g : angB n = true) :
    Calls Try.prog 14 #[.agg #[.int .i64 a, .int .i64 b], .int .i64 n] w fun e w' => e = .returned (.tuple #[.agg #[.int .i64 a, .int .i64 (wrapL (b + n))], .int .i64 0]) ∧ Below w.heap.size w w' := by
  obtain ⟨h1, h2, h3, h4⟩ := okB_of h
  obtain ⟨h5, h6⟩ := angB_of g
  go_enter Try.func14, Try.ntmps14
  go_wp2_with (first | (go_at_call 26; refine (ValidSpot_any _ _ _).mono ?_; rintro e w' ⟨rfl, o1, rfl⟩) | (go_at_call 33; refine (isAngle_any _ _).mono ?_; rintro e w' ⟨rfl, rfl⟩))
  have k1 : -3000000000 ≤ b + n := by omega
  have k2 : b + n ≤ 3000000000 := by omega
  have k3 : IntKind.i64.wrap (b + n) = b + n := IntWalk.i64_in _ (by omega)
  go_region_with (go_at_call 34; refine (wrap_any _ _ k1 k2).mono ?_; rintro e w' ⟨rfl, rfl⟩)
  all_goals go_wp2
  all_goals exact bodyPost_ret (v := .tuple #[.agg #[.int .i64 a, .int .i64 (wrapL (b + n))], .int .i64 0]) (by simp [results, Try.results14, go_sem]) rfl ⟨rfl, by repeat (first | exact Below.refl _ _ | refine Below.drew ?_ | refine Below.alloc ?_ (by simp <;> omega) _ | refine Below.setCell ?_ (by simp) _)⟩

set_option maxHeartbeats 400000 in
theorem specTurn_bad (a b n : Int) (w : World) (h : okB a b = false) :
    Calls Try.prog 27 #[.agg #[.int .i64 a, .int .i64 b], .int .i64 n] w fun e w' => e = .returned (.tuple #[.agg #[.int .i64 0, .int .i64 0], .int .i64 1]) ∧ Below w.heap.size w w' := by
  go_enter Try.func27, Try.ntmps27
  go_wp2_with (first | (go_at_call 36; refine (l02Ok_any _ _ _).mono ?_; rintro e w' ⟨rfl, o1, rfl⟩) | (go_at_call 47; refine (l02Angle_any _ _).mono ?_; rintro e w' ⟨rfl, rfl⟩))
  exact bodyPost_ret (v := .tuple #[.agg #[.int .i64 0, .int .i64 0], .int .i64 1]) (by simp [results, Try.results27, go_sem]) rfl ⟨rfl, by repeat (first | exact Below.refl _ _ | refine Below.drew ?_ | refine Below.alloc ?_ (by simp <;> omega) _ | refine Below.setCell ?_ (by simp) _)⟩

set_option maxHeartbeats 400000 in
theorem specTurn_far (a b n : Int) (w : World) (h : okB a b = true) (g : angB n = false) :
    Calls Try.prog 27 #[.agg #[.int .i64 a, .int .i64 b], .int .i64 n] w fun e w' => e = .returned (.tuple #[.agg #[.int .i64 0, .int .i64 0], .int .i64 2]) ∧ Below w.heap.size w w' := by
  go_enter Try.func27, Try.ntmps27
  go_wp2_with (first | (go_at_call 36; refine (l02Ok_any _ _ _).mono ?_; rintro e w' ⟨rfl, o1, rfl⟩) | (go_at_call 47; refine (l02Angle_any _ _).mono ?_; rintro e w' ⟨rfl, rfl⟩))
  exact bodyPost_ret (v := .tuple #[.agg #[.int .i64 0, .int .i64 0], .int .i64 2]) (by simp [results, Try.results27, go_sem]) rfl ⟨rfl, by repeat (first | exact Below.refl _ _ | refine Below.drew ?_ | refine Below.alloc ?_ (by simp <;> omega) _ | refine Below.setCell ?_ (by simp) _)⟩

set_option maxHeartbeats 400000 in
theorem specTurn_yes (a b n : Int) (w : World) (h : okB a b = true) (g : angB n = true) :
    Calls Try.prog 27 #[.agg #[.int .i64 a, .int .i64 b], .int .i64 n] w fun e w' => e = .returned (.tuple #[.agg #[.int .i64 a, .int .i64 (wrapL (b + n))], .int .i64 0]) ∧ Below w.heap.size w w' := by
  obtain ⟨h1, h2, h3, h4⟩ := okB_of h
  obtain ⟨h5, h6⟩ := angB_of g
  go_enter Try.func27, Try.ntmps27
  go_wp2_with (first | (go_at_call 36; refine (l02Ok_any _ _ _).mono ?_; rintro e w' ⟨rfl, o1, rfl⟩) | (go_at_call 47; refine (l02Angle_any _ _).mono ?_; rintro e w' ⟨rfl, rfl⟩))
  have k1 : -3000000000 ≤ b + n := by omega
  have k2 : b + n ≤ 3000000000 := by omega
  have k3 : IntKind.i64.wrap (b + n) = b + n := IntWalk.i64_in _ (by omega)
  go_region_with (go_at_call 49; refine (l02Wrap_any _ _ k1 k2).mono ?_; rintro e w' ⟨rfl, rfl⟩)
  all_goals go_wp2
  all_goals exact bodyPost_ret (v := .tuple #[.agg #[.int .i64 a, .int .i64 (wrapL (b + n))], .int .i64 0]) (by simp [results, Try.results27, go_sem]) rfl ⟨rfl, by repeat (first | exact Below.refl _ _ | refine Below.drew ?_ | refine Below.alloc ?_ (by simp <;> omega) _ | refine Below.setCell ?_ (by simp) _)⟩

set_option maxHeartbeats 400000 in
theorem implAnti_bad (a b : Int) (w : World) (h : okB a b = false) :
    Calls Try.prog 15 #[.agg #[.int .i64 a, .int .i64 b]] w fun e w' => e = .returned (.tuple #[.agg #[.int .i64 0, .int .i64 0], .int .i64 1]) ∧ Below w.heap.size w w' := by
  go_enter Try.func15, Try.ntmps15
  go_wp2_with (first | (go_at_call 26; refine (ValidSpot_any _ _ _).mono ?_; rintro e w' ⟨rfl, o1, rfl⟩))
  exact bodyPost_ret (v := .tuple #[.agg #[.int .i64 0, .int .i64 0], .int .i64 1]) (by simp [results, Try.results15, go_sem]) rfl ⟨rfl, by repeat (first | exact Below.refl _ _ | refine Below.drew ?_ | refine Below.alloc ?_ (by simp <;> omega) _ | refine Below.setCell ?_ (by simp) _)⟩

set_option maxHeartbeats 400000 in
theorem implAnti_yes (a b : Int) (w : World) (h : okB a b = true) :
    Calls Try.prog 15 #[.agg #[.int .i64 a, .int .i64 b]] w fun e w' => e = .returned (.tuple #[.agg #[.int .i64 (-a), .int .i64 (wrapL (b + 648000))], .int .i64 0]) ∧ Below w.heap.size w w' := by
  obtain ⟨h1, h2, h3, h4⟩ := okB_of h
  go_enter Try.func15, Try.ntmps15
  go_wp2_with (first | (go_at_call 26; refine (ValidSpot_any _ _ _).mono ?_; rintro e w' ⟨rfl, o1, rfl⟩))
  have k1 : -3000000000 ≤ b + 648000 := by omega
  have k2 : b + 648000 ≤ 3000000000 := by omega
  have k3 : IntKind.i64.wrap (b + 648000) = b + 648000 := IntWalk.i64_in _ (by omega)
  have k4 : IntKind.i64.wrap (-a) = -a := IntWalk.i64_in _ (by omega)
  go_region_with (go_at_call 34; refine (wrap_any _ _ k1 k2).mono ?_; rintro e w' ⟨rfl, rfl⟩)
  all_goals go_wp2
  all_goals exact bodyPost_ret (v := .tuple #[.agg #[.int .i64 (-a), .int .i64 (wrapL (b + 648000))], .int .i64 0]) (by simp [results, Try.results15, go_sem]) rfl ⟨rfl, by repeat (first | exact Below.refl _ _ | refine Below.drew ?_ | refine Below.alloc ?_ (by simp <;> omega) _ | refine Below.setCell ?_ (by simp) _)⟩

set_option maxHeartbeats 400000 in
theorem specAnti_bad (a b : Int) (w : World) (h : okB a b = false) :
    Calls Try.prog 29 #[.agg #[.int .i64 a, .int .i64 b]] w fun e w' => e = .returned (.tuple #[.agg #[.int .i64 0, .int .i64 0], .int .i64 1]) ∧ Below w.heap.size w w' := by
  go_enter Try.func29, Try.ntmps29
  go_wp2_with (first | (go_at_call 36; refine (l02Ok_any _ _ _).mono ?_; rintro e w' ⟨rfl, o1, rfl⟩))
  exact bodyPost_ret (v := .tuple #[.agg #[.int .i64 0, .int .i64 0], .int .i64 1]) (by simp [results, Try.results29, go_sem]) rfl ⟨rfl, by repeat (first | exact Below.refl _ _ | refine Below.drew ?_ | refine Below.alloc ?_ (by simp <;> omega) _ | refine Below.setCell ?_ (by simp) _)⟩

set_option maxHeartbeats 400000 in
theorem specAnti_yes (a b : Int) (w : World) (h : okB a b = true) :
    Calls Try.prog 29 #[.agg #[.int .i64 a, .int .i64 b]] w fun e w' => e = .returned (.tuple #[.agg #[.int .i64 (-a), .int .i64 (wrapL (b + 648000))], .int .i64 0]) ∧ Below w.heap.size w w' := by
  obtain ⟨h1, h2, h3, h4⟩ := okB_of h
  go_enter Try.func29, Try.ntmps29
  go_wp2_with (first | (go_at_call 36; refine (l02Ok_any _ _ _).mono ?_; rintro e w' ⟨rfl, o1, rfl⟩))
  have k1 : -3000000000 ≤ b + 648000 := by omega
  have k2 : b + 648000 ≤ 3000000000 := by omega
  have k3 : IntKind.i64.wrap (b + 648000) = b + 648000 := IntWalk.i64_in _ (by omega)
  have k4 : IntKind.i64.wrap (-a) = -a := IntWalk.i64_in _ (by omega)
  go_region_with (go_at_call 49; refine (l02Wrap_any _ _ k1 k2).mono ?_; rintro e w' ⟨rfl, rfl⟩)
  all_goals go_wp2
  all_goals exact bodyPost_ret (v := .tuple #[.agg #[.int .i64 (-a), .int .i64 (wrapL (b + 648000))], .int .i64 0]) (by simp [results, Try.results29, go_sem]) rfl ⟨rfl, by repeat (first | exact Below.refl _ _ | refine Below.drew ?_ | refine Below.alloc ?_ (by simp <;> omega) _ | refine Below.setCell ?_ (by simp) _)⟩

end Go.Proofs.Ytbnihalbepffoaa.spots
