/- Sines, cosines, tangents, chords, sines between two and widths: contracts of the program and of the model. -/
import Derived.Test.YtbnihalbepffoaaSines
namespace Go.Proofs.Ytbnihalbepffoaa.sines
open Go.ChangeShapes Go.WideShapes Go.ChangeAt Go.RowKit Go.Proofs.Ytbnihalbepffoaa.spots
theorem angB_of {n : Int} (h : angB n = true) : -1000000000 ≤ n ∧ n ≤ 1000000000 := by simpa [angB] using h

set_option maxHeartbeats 400000 in
theorem implSineOf_bad (n : Int) (w : World) (h : angB n = false) :
    Calls Try.prog 20 #[.int .i64 n] w fun e w' => e = .returned (.tuple #[.int .i64 (0), .int .i64 2]) ∧ w = w' := by
  go_enter Try.func20, Try.ntmps20
  go_wp2_with (go_at_call 33; refine (isAngle_any _ _).mono ?_; rintro e w' ⟨rfl, rfl⟩)
  exact bodyPost_ret (v := .tuple #[.int .i64 (0), .int .i64 2]) (by simp [results, Try.results20, go_sem]) rfl ⟨rfl, rfl⟩
set_option maxHeartbeats 400000 in
theorem implSineOf_yes (n : Int) (w : World) (h : angB n = true) :
    Calls Try.prog 20 #[.int .i64 n] w fun e w' => e = .returned (.tuple #[.int .i64 (sineL n), .int .i64 0]) ∧ w = w' := by
  obtain ⟨a1, a2⟩ := angB_of h
  go_enter Try.func20, Try.ntmps20
  go_wp2_with (first | (go_at_call 33; refine (isAngle_any _ _).mono ?_; rintro e w' ⟨rfl, rfl⟩) | (go_at_call 41; refine (sineAt_any _ _ (by omega) (by omega)).mono ?_; rintro e w' ⟨rfl, rfl⟩))
  exact bodyPost_ret (v := .tuple #[.int .i64 (sineL n), .int .i64 0]) (by simp [results, Try.results20, go_sem]) rfl ⟨rfl, rfl⟩


set_option maxHeartbeats 400000 in
theorem specSineOf_bad (n : Int) (w : World) (h : angB n = false) :
    Calls Try.prog 24 #[.int .i64 n] w fun e w' => e = .returned (.tuple #[.int .i64 (0), .int .i64 2]) ∧ w = w' := by
  go_enter Try.func24, Try.ntmps24
  go_wp2_with (go_at_call 47; refine (l02Angle_any _ _).mono ?_; rintro e w' ⟨rfl, rfl⟩)
  exact bodyPost_ret (v := .tuple #[.int .i64 (0), .int .i64 2]) (by simp [results, Try.results24, go_sem]) rfl ⟨rfl, rfl⟩
set_option maxHeartbeats 400000 in
theorem specSineOf_yes (n : Int) (w : World) (h : angB n = true) :
    Calls Try.prog 24 #[.int .i64 n] w fun e w' => e = .returned (.tuple #[.int .i64 (sineL n), .int .i64 0]) ∧ w = w' := by
  obtain ⟨a1, a2⟩ := angB_of h
  go_enter Try.func24, Try.ntmps24
  go_wp2_with (first | (go_at_call 47; refine (l02Angle_any _ _).mono ?_; rintro e w' ⟨rfl, rfl⟩) | (go_at_call 48; refine (l03Sine_any _ _).mono ?_; rintro e w' ⟨rfl, rfl⟩))
  exact bodyPost_ret (v := .tuple #[.int .i64 (sineL n), .int .i64 0]) (by simp [results, Try.results24, go_sem]) rfl ⟨rfl, rfl⟩






set_option maxHeartbeats 400000 in
theorem implChordOf_bad (n : Int) (w : World) (h : angB n = false) :
    Calls Try.prog 23 #[.int .i64 n] w fun e w' => e = .returned (.tuple #[.int .i64 (0), .int .i64 2]) ∧ w = w' := by
  go_enter Try.func23, Try.ntmps23
  go_wp2_with (go_at_call 33; refine (isAngle_any _ _).mono ?_; rintro e w' ⟨rfl, rfl⟩)
  exact bodyPost_ret (v := .tuple #[.int .i64 (0), .int .i64 2]) (by simp [results, Try.results23, go_sem]) rfl ⟨rfl, rfl⟩
set_option maxHeartbeats 400000 in
theorem implChordOf_yes (n : Int) (w : World) (h : angB n = true) :
    Calls Try.prog 23 #[.int .i64 n] w fun e w' => e = .returned (.tuple #[.int .i64 (2 * sineL (n / 2)), .int .i64 0]) ∧ w = w' := by
  obtain ⟨a1, a2⟩ := angB_of h
  obtain ⟨s1, s2⟩ := sineL_bounds (n / 2)
  have k1 : IntKind.i64.wrap (2 * sineL (n / 2)) = 2 * sineL (n / 2) := IntWalk.i64_in _ (by omega)
  go_enter Try.func23, Try.ntmps23
  go_wp2_with (first | (go_at_call 33; refine (isAngle_any _ _).mono ?_; rintro e w' ⟨rfl, rfl⟩) | (go_at_call 41; refine (sineAt_any _ _ (by omega) (by omega)).mono ?_; rintro e w' ⟨rfl, rfl⟩) | (go_at_call 42; refine (floorQuotient_any _ _ _ (by omega) (by omega) (by omega) (by omega)).mono ?_; rintro e w' ⟨rfl, rfl⟩))
  exact bodyPost_ret (v := .tuple #[.int .i64 (2 * sineL (n / 2)), .int .i64 0]) (by simp [results, Try.results23, go_sem]) rfl ⟨rfl, rfl⟩



/-- The sine between two of a table. -/
def between (d n : Int) : Int := sineL (n / d * d) + near ((n - n / d * d) * (sineL (n / d * d + d) - sineL (n / d * d))) d
theorem between_facts (d n : Int) (h : angB n = true) (g : inB d 1 324000 = true) : ∃ q m, n / d = q ∧ q * d = m ∧ m ≤ n ∧ n < m + d ∧ -1000000000 ≤ q ∧ q ≤ 1000000000 := by
  obtain ⟨a1, a2⟩ := angB_of h
  obtain ⟨d1, d2⟩ := inB_of g
  have m1 := Int.emod_nonneg n (show d ≠ 0 by omega)
  have m2 := Int.emod_lt_of_pos n (show 0 < d by omega)
  have e := Int.emod_add_mul_ediv n d
  rw [Int.mul_comm] at e
  have q1 : -1000000000 ≤ n / d := (Int.le_ediv_iff_mul_le (by omega)).2 (by omega)
  have q2 : n / d ≤ 1000000000 := by
    have : n / d < 1000000001 := Int.ediv_lt_of_lt_mul (by omega) (by omega)
    omega
  exact ⟨_, _, rfl, rfl, by omega, by omega, q1, q2⟩
theorem mul_bounds {a b : Int} (A B : Int) (h1 : 0 ≤ a) (h2 : a ≤ A) (h3 : -B ≤ b) (h4 : b ≤ B) : -(A * B) ≤ a * b ∧ a * b ≤ A * B := by
  have hB : 0 ≤ B := by omega
  have e1 : a * B ≤ A * B := Int.mul_le_mul_of_nonneg_right h2 hB
  have e2 : a * b ≤ a * B := Int.mul_le_mul_of_nonneg_left h4 h1
  have e3 : a * -B ≤ a * b := Int.mul_le_mul_of_nonneg_left h3 h1
  rw [Int.mul_neg] at e3
  omega
theorem near_facts (r g d : Int) (h1 : 0 ≤ r) (h2 : r < d) (h3 : -2000000 ≤ g) (h4 : g ≤ 2000000) : -2000000 ≤ near (r * g) d ∧ near (r * g) d ≤ 2000000 := by
  obtain ⟨b1, b2⟩ := mul_bounds d 2000000 h1 (by omega) (by omega : -2000000 ≤ g) h4
  exact ⟨near_ge _ (by omega) (by omega), near_le _ (by omega) (by omega)⟩

set_option maxHeartbeats 400000 in
theorem implBetweenSine_badS (d n : Int) (w : World) (g : inB d 1 324000 = false) :
    Calls Try.prog 21 #[.int .i64 d, .int .i64 n] w fun e w' => e = .returned (.tuple #[.int .i64 (0), .int .i64 2]) ∧ w = w' := by
  go_enter Try.func21, Try.ntmps21
  go_wp2_with (go_at_call 37; refine (isStep_any _ _).mono ?_; rintro e w' ⟨rfl, rfl⟩)
  exact bodyPost_ret (v := .tuple #[.int .i64 (0), .int .i64 2]) (by simp [results, Try.results21, go_sem]) rfl ⟨rfl, rfl⟩
set_option maxHeartbeats 400000 in
theorem implBetweenSine_badA (d n : Int) (w : World) (g : inB d 1 324000 = true) (h : angB n = false) :
    Calls Try.prog 21 #[.int .i64 d, .int .i64 n] w fun e w' => e = .returned (.tuple #[.int .i64 (0), .int .i64 2]) ∧ w = w' := by
  go_enter Try.func21, Try.ntmps21
  go_wp2_with (first | (go_at_call 37; refine (isStep_any _ _).mono ?_; rintro e w' ⟨rfl, rfl⟩) | (go_at_call 33; refine (isAngle_any _ _).mono ?_; rintro e w' ⟨rfl, rfl⟩))
  exact bodyPost_ret (v := .tuple #[.int .i64 (0), .int .i64 2]) (by simp [results, Try.results21, go_sem]) rfl ⟨rfl, rfl⟩
set_option maxHeartbeats 400000 in
theorem implBetweenSine_yes (d n : Int) (w : World) (g : inB d 1 324000 = true) (h : angB n = true) :
    Calls Try.prog 21 #[.int .i64 d, .int .i64 n] w fun e w' => e = .returned (.tuple #[.int .i64 (between d n), .int .i64 0]) ∧ w = w' := by
  obtain ⟨a1, a2⟩ := angB_of h
  obtain ⟨d1, d2⟩ := inB_of g
  obtain ⟨q, m, hq, hm, m1, m2, q1, q2⟩ := between_facts d n h g
  obtain ⟨s1, s2⟩ := sineL_bounds m
  obtain ⟨t1, t2⟩ := sineL_bounds (m + d)
  have hV : between d n = sineL m + near ((n - m) * (sineL (m + d) - sineL m)) d := by rw [between, hq, hm]
  rw [hV]
  clear hV
  obtain ⟨b1, b2⟩ := mul_bounds (a := n - m) (b := sineL (m + d) - sineL m) 324000 2000000 (by omega) (by omega) (by omega) (by omega)
  obtain ⟨f1, f2⟩ := near_facts (n - m) (sineL (m + d) - sineL m) d (by omega) (by omega) (by omega) (by omega)
  have k0 : IntKind.i64.wrap (n - m) = n - m := IntWalk.i64_in _ (by omega)
  have k1 : IntKind.i64.wrap (m + d) = m + d := IntWalk.i64_in _ (by omega)
  have k2 : IntKind.i64.wrap (sineL (m + d) - sineL m) = sineL (m + d) - sineL m := IntWalk.i64_in _ (by omega)
  have k3 : IntKind.i64.wrap ((n - m) * (sineL (m + d) - sineL m)) = (n - m) * (sineL (m + d) - sineL m) := IntWalk.i64_in _ (by omega)
  have k4 : IntKind.i64.wrap (sineL m + near ((n - m) * (sineL (m + d) - sineL m)) d) = sineL m + near ((n - m) * (sineL (m + d) - sineL m)) d := IntWalk.i64_in _ (by omega)
  have k5 : IntKind.i64.wrap (q * d) = m := by rw [hm]; exact IntWalk.i64_in _ (by omega)
  go_enter Try.func21, Try.ntmps21
  go_wp2_with (first | (go_at_call 33; refine (isAngle_any _ _).mono ?_; rintro e w' ⟨rfl, rfl⟩) | (go_at_call 37; refine (isStep_any _ _).mono ?_; rintro e w' ⟨rfl, rfl⟩) | (go_at_call 41; refine (sineAt_any _ _ (by omega) (by omega)).mono ?_; rintro e w' ⟨rfl, rfl⟩) | (go_at_call 42; refine (floorQuotient_any _ _ _ (by omega) (by omega) (by omega) (by omega)).mono ?_; rintro e w' ⟨rfl, rfl⟩; rw [hq]) | (go_at_call 43; refine (nearest_any _ _ _ (by omega) (by omega) (by omega) (by omega)).mono ?_; rintro e w' ⟨rfl, rfl⟩))
  exact bodyPost_ret (v := .tuple #[.int .i64 (sineL m + near ((n - m) * (sineL (m + d) - sineL m)) d), .int .i64 0]) (by simp [results, Try.results21, go_sem]) rfl ⟨rfl, rfl⟩



theorem latS_any (n : Int) (w : World) :
    Calls Try.prog 45 #[.int .i64 n] w fun e w' => e = .returned (.bool (inB n (-324000) 324000)) ∧ w = w' := by
  go_enter Try.func45, Try.ntmps45
  go_wp2_with (go_at_call 44; refine (within_any _ _ _ _).mono ?_; rintro e w' ⟨rfl, rfl⟩)
  go_ret
  exact ⟨rfl, rfl⟩


set_option maxHeartbeats 400000 in
theorem implWidthAt_badW (a b : Int) (w : World) (h : inB a 0 1000000 = false) :
    Calls Try.prog 22 #[.int .i64 a, .int .i64 b] w fun e w' => e = .returned (.tuple #[.int .i64 (0), .int .i64 2]) ∧ w = w' := by
  go_enter Try.func22, Try.ntmps22
  go_wp2_with (first | (go_at_call 44; refine (within_any _ _ _ _).mono ?_; rintro e w' ⟨rfl, rfl⟩) | (go_at_call 45; refine (latS_any _ _).mono ?_; rintro e w' ⟨rfl, rfl⟩))
  exact bodyPost_ret (v := .tuple #[.int .i64 (0), .int .i64 2]) (by simp [results, Try.results22, go_sem]) rfl ⟨rfl, rfl⟩
set_option maxHeartbeats 400000 in
theorem implWidthAt_badL (a b : Int) (w : World) (h : inB a 0 1000000 = true) (g : inB b (-324000) 324000 = false) :
    Calls Try.prog 22 #[.int .i64 a, .int .i64 b] w fun e w' => e = .returned (.tuple #[.int .i64 (0), .int .i64 2]) ∧ w = w' := by
  go_enter Try.func22, Try.ntmps22
  go_wp2_with (first | (go_at_call 44; refine (within_any _ _ _ _).mono ?_; rintro e w' ⟨rfl, rfl⟩) | (go_at_call 45; refine (latS_any _ _).mono ?_; rintro e w' ⟨rfl, rfl⟩))
  exact bodyPost_ret (v := .tuple #[.int .i64 (0), .int .i64 2]) (by simp [results, Try.results22, go_sem]) rfl ⟨rfl, rfl⟩
set_option maxHeartbeats 400000 in
theorem implWidthAt_yes (a b : Int) (w : World) (h : inB a 0 1000000 = true) (g : inB b (-324000) 324000 = true) :
    Calls Try.prog 22 #[.int .i64 a, .int .i64 b] w fun e w' => e = .returned (.tuple #[.int .i64 (near (a * sineL (b + 324000)) 1000000), .int .i64 0]) ∧ w = w' := by
  obtain ⟨a1, a2⟩ := inB_of h
  obtain ⟨b1, b2⟩ := inB_of g
  obtain ⟨s1, s2⟩ := sineL_bounds (b + 324000)
  obtain ⟨m1, m2⟩ := mul_bounds (a := a) (b := sineL (b + 324000)) 1000000 1000000 a1 a2 (by omega) (by omega)
  have k1 : IntKind.i64.wrap (a * sineL (b + 324000)) = a * sineL (b + 324000) := IntWalk.i64_in _ (by omega)
  go_enter Try.func22, Try.ntmps22
  go_wp2_with (first | (go_at_call 44; refine (within_any _ _ _ _).mono ?_; rintro e w' ⟨rfl, rfl⟩) | (go_at_call 45; refine (latS_any _ _).mono ?_; rintro e w' ⟨rfl, rfl⟩) | (go_at_call 46; refine (cosineAt_any _ _ (by omega) (by omega)).mono ?_; rintro e w' ⟨rfl, rfl⟩) | (go_at_call 43; refine (nearest_any _ _ _ (by omega) (by omega) (by omega) (by omega)).mono ?_; rintro e w' ⟨rfl, rfl⟩))
  exact bodyPost_ret (v := .tuple #[.int .i64 (near (a * sineL (b + 324000)) 1000000), .int .i64 0]) (by simp [results, Try.results22, go_sem]) rfl ⟨rfl, rfl⟩


set_option maxHeartbeats 400000 in
theorem specWidthAt_badW (a b : Int) (w : World) (h : inB a 0 1000000 = false) :
    Calls Try.prog 30 #[.int .i64 a, .int .i64 b] w fun e w' => e = .returned (.tuple #[.int .i64 (0), .int .i64 2]) ∧ w = w' := by
  go_enter Try.func30, Try.ntmps30
  go_wp2_with (go_at_call 50; refine (l00In_any _ _ _ _).mono ?_; rintro e w' ⟨rfl, rfl⟩)
  exact bodyPost_ret (v := .tuple #[.int .i64 (0), .int .i64 2]) (by simp [results, Try.results30, go_sem]) rfl ⟨rfl, rfl⟩
set_option maxHeartbeats 400000 in
theorem specWidthAt_badL (a b : Int) (w : World) (h : inB a 0 1000000 = true) (g : inB b (-324000) 324000 = false) :
    Calls Try.prog 30 #[.int .i64 a, .int .i64 b] w fun e w' => e = .returned (.tuple #[.int .i64 (0), .int .i64 2]) ∧ w = w' := by
  go_enter Try.func30, Try.ntmps30
  go_wp2_with (go_at_call 50; refine (l00In_any _ _ _ _).mono ?_; rintro e w' ⟨rfl, rfl⟩)
  exact bodyPost_ret (v := .tuple #[.int .i64 (0), .int .i64 2]) (by simp [results, Try.results30, go_sem]) rfl ⟨rfl, rfl⟩
set_option maxHeartbeats 400000 in
theorem specWidthAt_yes (a b : Int) (w : World) (h : inB a 0 1000000 = true) (g : inB b (-324000) 324000 = true) :
    Calls Try.prog 30 #[.int .i64 a, .int .i64 b] w fun e w' => e = .returned (.tuple #[.int .i64 (near (a * sineL (b + 324000)) 1000000), .int .i64 0]) ∧ w = w' := by
  obtain ⟨a1, a2⟩ := inB_of h
  obtain ⟨b1, b2⟩ := inB_of g
  obtain ⟨s1, s2⟩ := sineL_bounds (b + 324000)
  obtain ⟨m1, m2⟩ := mul_bounds (a := a) (b := sineL (b + 324000)) 1000000 1000000 a1 a2 (by omega) (by omega)
  have k1 : IntKind.i64.wrap (a * sineL (b + 324000)) = a * sineL (b + 324000) := IntWalk.i64_in _ (by omega)
  go_enter Try.func30, Try.ntmps30
  go_wp2_with (first | (go_at_call 50; refine (l00In_any _ _ _ _).mono ?_; rintro e w' ⟨rfl, rfl⟩) | (go_at_call 52; refine (l03Cosine_any _ _ (by omega) (by omega)).mono ?_; rintro e w' ⟨rfl, rfl⟩) | (go_at_call 51; refine (l00Round_any _ _ _ (by omega) (by omega) (by omega) (by omega)).mono ?_; rintro e w' ⟨rfl, rfl⟩))
  exact bodyPost_ret (v := .tuple #[.int .i64 (near (a * sineL (b + 324000)) 1000000), .int .i64 0]) (by simp [results, Try.results30, go_sem]) rfl ⟨rfl, rfl⟩


end Go.Proofs.Ytbnihalbepffoaa.sines
