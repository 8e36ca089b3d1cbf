/- The functions of caps, of the model: contracts. -/
import Derived.Test.YtiemealkdgnhcaaCaps
namespace Go.Proofs.Ytiemealkdgnhcaa.sines
open Go.ChangeShapes Go.WideShapes Go.ChangeAt Go.RowKit Go.Proofs.Ytiemealkdgnhcaa.spots Go.Proofs.Ytiemealkdgnhcaa.irows Go.Proofs.Ytiemealkdgnhcaa.pairs
set_option linter.unusedSimpArgs false
set_option linter.unusedVariables false

theorem l00Max_k (a b : Int) (w : World) :
    Calls Try.prog 91 #[.int .i64 a, .int .i64 b] w fun e w' => e = .returned (.int .i64 (max a b)) ∧ w = w' := by
  by_cases h : b < a
  · go_enter Try.func91, Try.ntmps91
    go_wp2
    go_ret
    exact ⟨ret_int (by omega), rfl⟩
  · go_enter Try.func91, Try.ntmps91
    go_wp2
    go_ret
    exact ⟨ret_int (by omega), rfl⟩

set_option maxHeartbeats 400000 in
theorem l06Arc_any (a n : Int) (w : World) (a1 : 1 ≤ a) (a2 : a ≤ 1000000) (n1 : 0 ≤ n) (n2 : n ≤ 1296000) :
    Calls Try.prog 68 #[.int .i64 a, .int .i64 n] w fun e w' => e = .returned (.int .i64 (arcC a n)) ∧ w = w' := by
  obtain ⟨m1, m2⟩ := mul_small a1 a2 n1 n2
  have k1 : IntKind.i64.wrap (a * n) = a * n := IntWalk.i64_in _ (by omega)
  go_enter Try.func68, Try.ntmps68
  go_wp2_with (first | (go_at_call 95; refine (l00Round_any _ _ _ (by omega) (by omega) (by omega) (by omega)).mono ?_; rintro e w' ⟨rfl, rfl⟩))
  go_ret
  exact ⟨rfl, rfl⟩

set_option maxHeartbeats 400000 in
theorem specArcLength_f (a n : Int) (w : World) (h : inB a 1 1000000 = false) :
    Calls Try.prog 30 #[.int .i64 a, .int .i64 n] w fun e w' => e = .returned (.tuple #[.int .i64 (0), .int .i64 (2)]) ∧ w = w' := by
  go_enter Try.func30, Try.ntmps30
  go_wp2_with (first | (go_at_call 85; refine (l00In_any _ _ _ _).mono ?_; (first | rw [h]); rintro e w' ⟨rfl, rfl⟩))
  exact bodyPost_ret (v := .tuple #[.int .i64 (0), .int .i64 (2)]) (by simp [results, Try.results30, go_sem] <;> rfl) rfl ⟨rfl, rfl⟩
set_option maxHeartbeats 400000 in
theorem specArcLength_tf (a n : Int) (w : World) (h : inB a 1 1000000 = true) (g : inB n 0 1296000 = false) :
    Calls Try.prog 30 #[.int .i64 a, .int .i64 n] w fun e w' => e = .returned (.tuple #[.int .i64 (0), .int .i64 (2)]) ∧ w = w' := by
  go_enter Try.func30, Try.ntmps30
  go_wp2_with (first | (go_at_call 85; refine (l00In_any _ _ _ _).mono ?_; (first | rw [h] | rw [g]); rintro e w' ⟨rfl, rfl⟩))
  exact bodyPost_ret (v := .tuple #[.int .i64 (0), .int .i64 (2)]) (by simp [results, Try.results30, go_sem] <;> rfl) rfl ⟨rfl, rfl⟩
set_option maxHeartbeats 400000 in
theorem specArcLength_tt (a n : Int) (w : World) (h : inB a 1 1000000 = true) (g : inB n 0 1296000 = true) :
    Calls Try.prog 30 #[.int .i64 a, .int .i64 n] w fun e w' => e = .returned (.tuple #[.int .i64 (arcC a n), .int .i64 (0)]) ∧ w = w' := by
  obtain ⟨a1, a2⟩ := inB_of h
  obtain ⟨n1, n2⟩ := inB_of g
  go_enter Try.func30, Try.ntmps30
  go_wp2_with (first | (go_at_call 85; refine (l00In_any _ _ _ _).mono ?_; (first | rw [h] | rw [g]); rintro e w' ⟨rfl, rfl⟩) | (go_at_call 68; refine (l06Arc_any _ _ _ (by omega) (by omega) (by omega) (by omega)).mono ?_; rintro e w' ⟨rfl, rfl⟩))
  exact bodyPost_ret (v := .tuple #[.int .i64 (arcC a n), .int .i64 (0)]) (by simp [results, Try.results30, go_sem] <;> rfl) rfl ⟨rfl, rfl⟩
theorem specArcLength_any (a n : Int) (w : World)  :
    Calls Try.prog 30 #[.int .i64 a, .int .i64 n] w fun e w' => e = .returned (.tuple #[.int .i64 (ansK (codeA6 a n) (arcC a n)), .int .i64 (codeA6 a n)]) ∧ w = w' := by
  cases h : inB a 1 1000000 with
  | false => refine (specArcLength_f _ _ _ h).mono ?_; rintro e w' ⟨rfl, hw⟩; exact ⟨ret_k2 (by simp [codeA6, ansK, h]) (by simp [codeA6, ansK, h]), hw⟩
  | true =>
    cases g : inB n 0 1296000 with
    | false => refine (specArcLength_tf _ _ _ h g).mono ?_; rintro e w' ⟨rfl, hw⟩; exact ⟨ret_k2 (by simp [codeA6, ansK, h, g]) (by simp [codeA6, ansK, h, g]), hw⟩
    | true => refine (specArcLength_tt _ _ _ h g).mono ?_; rintro e w' ⟨rfl, hw⟩; exact ⟨ret_k2 (by simp [codeA6, ansK, h, g]) (by simp [codeA6, ansK, h, g]), hw⟩

set_option maxHeartbeats 400000 in
theorem l06Code_f (a l : Int) (w : World) (h : inB a 1 1000000 = false) :
    Calls Try.prog 67 #[.int .i64 a, .int .i64 l] w fun e w' => e = .returned (.int .i64 (2)) ∧ w = w' := by
  go_enter Try.func67, Try.ntmps67
  go_wp2_with (first | (go_at_call 85; refine (l00In_any _ _ _ _).mono ?_; (first | rw [h]); rintro e w' ⟨rfl, rfl⟩))
  go_ret
  exact ⟨rfl, rfl⟩
set_option maxHeartbeats 400000 in
theorem l06Code_tf (a l : Int) (w : World) (h : inB a 1 1000000 = true) (g : inB l 0 324000 = false) :
    Calls Try.prog 67 #[.int .i64 a, .int .i64 l] w fun e w' => e = .returned (.int .i64 (2)) ∧ w = w' := by
  go_enter Try.func67, Try.ntmps67
  go_wp2_with (first | (go_at_call 85; refine (l00In_any _ _ _ _).mono ?_; (first | rw [h] | rw [g]); rintro e w' ⟨rfl, rfl⟩))
  go_ret
  exact ⟨rfl, rfl⟩
set_option maxHeartbeats 400000 in
theorem l06Code_tt (a l : Int) (w : World) (h : inB a 1 1000000 = true) (g : inB l 0 324000 = true) :
    Calls Try.prog 67 #[.int .i64 a, .int .i64 l] w fun e w' => e = .returned (.int .i64 (0)) ∧ w = w' := by
  go_enter Try.func67, Try.ntmps67
  go_wp2_with (first | (go_at_call 85; refine (l00In_any _ _ _ _).mono ?_; (first | rw [h] | rw [g]); rintro e w' ⟨rfl, rfl⟩))
  go_ret
  exact ⟨rfl, rfl⟩
theorem l06Code_any (a l : Int) (w : World)  :
    Calls Try.prog 67 #[.int .i64 a, .int .i64 l] w fun e w' => e = .returned (.int .i64 (code6 a l)) ∧ w = w' := by
  cases h : inB a 1 1000000 with
  | false => refine (l06Code_f _ _ _ h).mono ?_; rintro e w' ⟨rfl, hw⟩; exact ⟨ret_k1 (by simp [code6, h]), hw⟩
  | true =>
    cases g : inB l 0 324000 with
    | false => refine (l06Code_tf _ _ _ h g).mono ?_; rintro e w' ⟨rfl, hw⟩; exact ⟨ret_k1 (by simp [code6, h, g]), hw⟩
    | true => refine (l06Code_tt _ _ _ h g).mono ?_; rintro e w' ⟨rfl, hw⟩; exact ⟨ret_k1 (by simp [code6, h, g]), hw⟩

set_option maxHeartbeats 400000 in
theorem specCapRadius_bad (a l : Int) (w : World) (h : code6 a l = 2) :
    Calls Try.prog 21 #[.int .i64 a, .int .i64 l] w fun e w' => e = .returned (.tuple #[.int .i64 (0), .int .i64 (2)]) ∧ w = w' := by
  go_enter Try.func21, Try.ntmps21
  go_wp2_with (first | (go_at_call 67; refine (l06Code_any _ _ _).mono ?_; rw [h]; rintro e w' ⟨rfl, rfl⟩))
  exact bodyPost_ret (v := .tuple #[.int .i64 (0), .int .i64 (2)]) (by simp [results, Try.results21, go_sem] <;> rfl) rfl ⟨rfl, rfl⟩
set_option maxHeartbeats 400000 in
theorem specCapRadius_yes (a l : Int) (w : World) (h : code6 a l = 0) :
    Calls Try.prog 21 #[.int .i64 a, .int .i64 l] w fun e w' => e = .returned (.tuple #[.int .i64 (arcC a (324000 - l)), .int .i64 (0)]) ∧ w = w' := by
  obtain ⟨a1, a2, l1, l2⟩ := code6_of h
  have k1 : IntKind.i64.wrap (324000 - l) = 324000 - l := IntWalk.i64_in _ (by omega)
  go_enter Try.func21, Try.ntmps21
  go_wp2_with (first | (go_at_call 67; refine (l06Code_any _ _ _).mono ?_; rw [h]; rintro e w' ⟨rfl, rfl⟩) | (go_at_call 68; refine (l06Arc_any _ _ _ (by omega) (by omega) (by omega) (by omega)).mono ?_; rintro e w' ⟨rfl, rfl⟩))
  exact bodyPost_ret (v := .tuple #[.int .i64 (arcC a (324000 - l)), .int .i64 (0)]) (by simp [results, Try.results21, go_sem] <;> rfl) rfl ⟨rfl, rfl⟩
theorem specCapRadius_any (a l : Int) (w : World)  :
    Calls Try.prog 21 #[.int .i64 a, .int .i64 l] w fun e w' => e = .returned (.tuple #[.int .i64 (ansK (code6 a l) (arcC a (324000 - l))), .int .i64 (code6 a l)]) ∧ w = w' := by
  rcases code6_cases a l with h | h
  · refine (specCapRadius_yes _ _ _ h).mono ?_; rintro e w' ⟨rfl, hw⟩; exact ⟨ret_k2 (by simp [ansK, h]) (by simp [ansK, h]), hw⟩
  · refine (specCapRadius_bad _ _ _ h).mono ?_; rintro e w' ⟨rfl, hw⟩; exact ⟨ret_k2 (by simp [ansK, h]) (by simp [ansK, h]), hw⟩

set_option maxHeartbeats 400000 in
theorem l06Radius_f (a r : Int) (w : World) (h : inB a 1 1000000 = false) :
    Calls Try.prog 61 #[.int .i64 a, .int .i64 r] w fun e w' => e = .returned (.int .i64 (2)) ∧ w = w' := by
  go_enter Try.func61, Try.ntmps61
  go_wp2_with (first | (go_at_call 85; refine (l00In_any _ _ _ _).mono ?_; (first | rw [h]); rintro e w' ⟨rfl, rfl⟩))
  go_ret
  exact ⟨rfl, rfl⟩
set_option maxHeartbeats 400000 in
theorem l06Radius_tf (a r : Int) (w : World) (h : inB a 1 1000000 = true) (g : inB r 0 100000 = false) :
    Calls Try.prog 61 #[.int .i64 a, .int .i64 r] w fun e w' => e = .returned (.int .i64 (2)) ∧ w = w' := by
  go_enter Try.func61, Try.ntmps61
  go_wp2_with (first | (go_at_call 85; refine (l00In_any _ _ _ _).mono ?_; (first | rw [h] | rw [g]); rintro e w' ⟨rfl, rfl⟩))
  go_ret
  exact ⟨rfl, rfl⟩
set_option maxHeartbeats 400000 in
theorem l06Radius_ttf (a r : Int) (w : World) (h : inB a 1 1000000 = true) (g : inB r 0 100000 = true) (k : a < 4 * r) :
    Calls Try.prog 61 #[.int .i64 a, .int .i64 r] w fun e w' => e = .returned (.int .i64 (5)) ∧ w = w' := by
  obtain ⟨r1, r2⟩ := inB_of g
  have k1 : IntKind.i64.wrap (4 * r) = 4 * r := IntWalk.i64_in _ (by omega)
  go_enter Try.func61, Try.ntmps61
  go_wp2_with (first | (go_at_call 85; refine (l00In_any _ _ _ _).mono ?_; (first | rw [h] | rw [g]); rintro e w' ⟨rfl, rfl⟩))
  go_ret
  exact ⟨rfl, rfl⟩
set_option maxHeartbeats 400000 in
theorem l06Radius_ttt (a r : Int) (w : World) (h : inB a 1 1000000 = true) (g : inB r 0 100000 = true) (k : 4 * r ≤ a) :
    Calls Try.prog 61 #[.int .i64 a, .int .i64 r] w fun e w' => e = .returned (.int .i64 (0)) ∧ w = w' := by
  obtain ⟨r1, r2⟩ := inB_of g
  have k1 : IntKind.i64.wrap (4 * r) = 4 * r := IntWalk.i64_in _ (by omega)
  go_enter Try.func61, Try.ntmps61
  go_wp2_with (first | (go_at_call 85; refine (l00In_any _ _ _ _).mono ?_; (first | rw [h] | rw [g]); rintro e w' ⟨rfl, rfl⟩))
  go_ret
  exact ⟨rfl, rfl⟩
theorem l06Radius_any (a r : Int) (w : World)  :
    Calls Try.prog 61 #[.int .i64 a, .int .i64 r] w fun e w' => e = .returned (.int .i64 (codeR a r)) ∧ w = w' := by
  cases h : inB a 1 1000000 with
  | false => refine (l06Radius_f _ _ _ h).mono ?_; rintro e w' ⟨rfl, hw⟩; exact ⟨ret_k1 (by simp [codeR, h]), hw⟩
  | true =>
    cases g : inB r 0 100000 with
    | false => refine (l06Radius_tf _ _ _ h g).mono ?_; rintro e w' ⟨rfl, hw⟩; exact ⟨ret_k1 (by simp [codeR, h, g]), hw⟩
    | true =>
      by_cases k : a < 4 * r
      · refine (l06Radius_ttf _ _ _ h g k).mono ?_; rintro e w' ⟨rfl, hw⟩; exact ⟨ret_k1 (by simp [codeR, h, g, k]), hw⟩
      · refine (l06Radius_ttt _ _ _ h g (by omega)).mono ?_; rintro e w' ⟨rfl, hw⟩; exact ⟨ret_k1 (by simp [codeR, h, g, k]), hw⟩

set_option maxHeartbeats 400000 in
theorem l06Edge_any (a r : Int) (w : World) (a1 : 1 ≤ a) (a2 : a ≤ 1000000) (r1 : 0 ≤ r) (r2 : r ≤ 100000) (h : 4 * r ≤ a) :
    Calls Try.prog 62 #[.int .i64 a, .int .i64 r] w fun e w' => e = .returned (.int .i64 (edgeC a r)) ∧ w = w' := by
  obtain ⟨d1, d2⟩ := edgeC_bounds a1 r1 h
  have k1 : IntKind.i64.wrap (r * 1296000) = r * 1296000 := IntWalk.i64_in _ (by omega)
  have k2 : (r * 1296000).tdiv a = r * 1296000 / a := Int.tdiv_eq_ediv_of_nonneg (by omega)
  have k3 : IntKind.i64.wrap (r * 1296000 / a) = r * 1296000 / a := IntWalk.i64_in _ (by omega)
  have k4 : IntKind.i64.wrap (324000 - r * 1296000 / a) = 324000 - r * 1296000 / a := IntWalk.i64_in _ (by omega)
  have hz : a ≠ 0 := by omega
  have hm : a ≠ -1 := by omega
  go_enter Try.func62, Try.ntmps62
  go_wp2
  go_ret
  exact ⟨ret_k1 (by simp only [edgeC, k2, k3, k4] <;> rfl), rfl⟩

set_option maxHeartbeats 400000 in
theorem specCapEdge_2 (a r : Int) (w : World) (h : codeR a r = 2) :
    Calls Try.prog 18 #[.int .i64 a, .int .i64 r] w fun e w' => e = .returned (.tuple #[.int .i64 (0), .int .i64 (2)]) ∧ w = w' := by
  go_enter Try.func18, Try.ntmps18
  go_wp2_with (first | (go_at_call 61; refine (l06Radius_any _ _ _).mono ?_; rw [h]; rintro e w' ⟨rfl, rfl⟩))
  exact bodyPost_ret (v := .tuple #[.int .i64 (0), .int .i64 (2)]) (by simp [results, Try.results18, go_sem] <;> rfl) rfl ⟨rfl, rfl⟩
set_option maxHeartbeats 400000 in
theorem specCapEdge_5 (a r : Int) (w : World) (h : codeR a r = 5) :
    Calls Try.prog 18 #[.int .i64 a, .int .i64 r] w fun e w' => e = .returned (.tuple #[.int .i64 (0), .int .i64 (5)]) ∧ w = w' := by
  go_enter Try.func18, Try.ntmps18
  go_wp2_with (first | (go_at_call 61; refine (l06Radius_any _ _ _).mono ?_; rw [h]; rintro e w' ⟨rfl, rfl⟩))
  exact bodyPost_ret (v := .tuple #[.int .i64 (0), .int .i64 (5)]) (by simp [results, Try.results18, go_sem] <;> rfl) rfl ⟨rfl, rfl⟩
set_option maxHeartbeats 400000 in
theorem specCapEdge_yes (a r : Int) (w : World) (h : codeR a r = 0) :
    Calls Try.prog 18 #[.int .i64 a, .int .i64 r] w fun e w' => e = .returned (.tuple #[.int .i64 (edgeC a r), .int .i64 (0)]) ∧ w = w' := by
  obtain ⟨a1, a2, r1, r2, r3⟩ := codeR_of h
  go_enter Try.func18, Try.ntmps18
  go_wp2_with (first | (go_at_call 61; refine (l06Radius_any _ _ _).mono ?_; rw [h]; rintro e w' ⟨rfl, rfl⟩) | (go_at_call 62; refine (l06Edge_any _ _ _ (by omega) (by omega) (by omega) (by omega) (by omega)).mono ?_; rintro e w' ⟨rfl, rfl⟩))
  exact bodyPost_ret (v := .tuple #[.int .i64 (edgeC a r), .int .i64 (0)]) (by simp [results, Try.results18, go_sem] <;> rfl) rfl ⟨rfl, rfl⟩
theorem specCapEdge_any (a r : Int) (w : World)  :
    Calls Try.prog 18 #[.int .i64 a, .int .i64 r] w fun e w' => e = .returned (.tuple #[.int .i64 (ansK (codeR a r) (edgeC a r)), .int .i64 (codeR a r)]) ∧ w = w' := by
  rcases codeR_cases a r with h | h | h
  · refine (specCapEdge_yes _ _ _ h).mono ?_; rintro e w' ⟨rfl, hw⟩; exact ⟨ret_k2 (by simp [ansK, h]) (by simp [ansK, h]), hw⟩
  · refine (specCapEdge_2 _ _ _ h).mono ?_; rintro e w' ⟨rfl, hw⟩; exact ⟨ret_k2 (by simp [ansK, h]) (by simp [ansK, h]), hw⟩
  · refine (specCapEdge_5 _ _ _ h).mono ?_; rintro e w' ⟨rfl, hw⟩; exact ⟨ret_k2 (by simp [ansK, h]) (by simp [ansK, h]), hw⟩

set_option maxHeartbeats 400000 in
theorem l06Excess_any (a l : Int) (w : World) (h : code6 a l = 0) :
    Calls Try.prog 92 #[.int .i64 a, .int .i64 l] w fun e w' => e = .returned (.int .i64 (excC a l)) ∧ w = w' := by
  obtain ⟨a1, a2, l1, l2⟩ := code6_of h
  obtain ⟨p1, p2, p3, p4, p5, p6, p7, p8⟩ := excC_parts h
  have k1 : IntKind.i64.wrap (324000 - l) = 324000 - l := IntWalk.i64_in _ (by omega)
  have k2 : IntKind.i64.wrap (710 * arcC a (324000 - l)) = 710 * arcC a (324000 - l) := IntWalk.i64_in _ (by omega)
  have k3 : IntKind.i64.wrap (a * sineL (l + 324000)) = a * sineL (l + 324000) := IntWalk.i64_in _ (by omega)
  have k4 : IntKind.i64.wrap (near (710 * arcC a (324000 - l)) 113 - near (a * sineL (l + 324000)) 1000000) = near (710 * arcC a (324000 - l)) 113 - near (a * sineL (l + 324000)) 1000000 := IntWalk.i64_in _ (by omega)
  go_enter Try.func92, Try.ntmps92
  go_wp2_with (first | (go_at_call 68; refine (l06Arc_any _ _ _ (by omega) (by omega) (by omega) (by omega)).mono ?_; rintro e w' ⟨rfl, rfl⟩) | (go_at_call 95; refine (l00Round_any _ _ _ (by omega) (by omega) (by omega) (by omega)).mono ?_; rintro e w' ⟨rfl, rfl⟩) | (go_at_call 105; refine (l03Cosine_any _ _ (by omega) (by omega)).mono ?_; rintro e w' ⟨rfl, rfl⟩))
  go_ret
  exact ⟨rfl, rfl⟩

set_option maxHeartbeats 400000 in
theorem specRimExcess_bad (a l : Int) (w : World) (h : code6 a l = 2) :
    Calls Try.prog 47 #[.int .i64 a, .int .i64 l] w fun e w' => e = .returned (.tuple #[.int .i64 (0), .int .i64 (2)]) ∧ w = w' := by
  go_enter Try.func47, Try.ntmps47
  go_wp2_with (first | (go_at_call 67; refine (l06Code_any _ _ _).mono ?_; rw [h]; rintro e w' ⟨rfl, rfl⟩))
  exact bodyPost_ret (v := .tuple #[.int .i64 (0), .int .i64 (2)]) (by simp [results, Try.results47, go_sem] <;> rfl) rfl ⟨rfl, rfl⟩
set_option maxHeartbeats 400000 in
theorem specRimExcess_yes (a l : Int) (w : World) (h : code6 a l = 0) :
    Calls Try.prog 47 #[.int .i64 a, .int .i64 l] w fun e w' => e = .returned (.tuple #[.int .i64 (excC a l), .int .i64 (0)]) ∧ w = w' := by
  go_enter Try.func47, Try.ntmps47
  go_wp2_with (first | (go_at_call 67; refine (l06Code_any _ _ _).mono ?_; rw [h]; rintro e w' ⟨rfl, rfl⟩) | (go_at_call 92; refine (l06Excess_any _ _ _ h).mono ?_; rintro e w' ⟨rfl, rfl⟩))
  exact bodyPost_ret (v := .tuple #[.int .i64 (excC a l), .int .i64 (0)]) (by simp [results, Try.results47, go_sem] <;> rfl) rfl ⟨rfl, rfl⟩
theorem specRimExcess_any (a l : Int) (w : World)  :
    Calls Try.prog 47 #[.int .i64 a, .int .i64 l] w fun e w' => e = .returned (.tuple #[.int .i64 (ansK (code6 a l) (excC a l)), .int .i64 (code6 a l)]) ∧ w = w' := by
  rcases code6_cases a l with h | h
  · refine (specRimExcess_yes _ _ _ h).mono ?_; rintro e w' ⟨rfl, hw⟩; exact ⟨ret_k2 (by simp [ansK, h]) (by simp [ansK, h]), hw⟩
  · refine (specRimExcess_bad _ _ _ h).mono ?_; rintro e w' ⟨rfl, hw⟩; exact ⟨ret_k2 (by simp [ansK, h]) (by simp [ansK, h]), hw⟩

set_option maxHeartbeats 400000 in
theorem specSlitsFor_bad (a l m : Int) (w : World) (h : code6 a l = 2) :
    Calls Try.prog 38 #[.int .i64 a, .int .i64 l, .int .i64 m] w fun e w' => e = .returned (.tuple #[.int .i64 (0), .int .i64 (2)]) ∧ w = w' := by
  go_enter Try.func38, Try.ntmps38
  go_wp2_with (first | (go_at_call 67; refine (l06Code_any _ _ _).mono ?_; rw [h]; rintro e w' ⟨rfl, rfl⟩))
  exact bodyPost_ret (v := .tuple #[.int .i64 (0), .int .i64 (2)]) (by simp [results, Try.results38, go_sem] <;> rfl) rfl ⟨rfl, rfl⟩
set_option maxHeartbeats 400000 in
theorem specSlitsFor_badm (a l m : Int) (w : World) (h : code6 a l = 0) (g : inB m 1 100000 = false) :
    Calls Try.prog 38 #[.int .i64 a, .int .i64 l, .int .i64 m] w fun e w' => e = .returned (.tuple #[.int .i64 (0), .int .i64 (2)]) ∧ w = w' := by
  go_enter Try.func38, Try.ntmps38
  go_wp2_with (first | (go_at_call 67; refine (l06Code_any _ _ _).mono ?_; rw [h]; rintro e w' ⟨rfl, rfl⟩) | (go_at_call 85; refine (l00In_any _ _ _ _).mono ?_; (first | rw [g]); rintro e w' ⟨rfl, rfl⟩))
  exact bodyPost_ret (v := .tuple #[.int .i64 (0), .int .i64 (2)]) (by simp [results, Try.results38, go_sem] <;> rfl) rfl ⟨rfl, rfl⟩
set_option maxHeartbeats 400000 in
theorem specSlitsFor_full (a l m : Int) (w : World) (h : code6 a l = 0) (g : inB m 1 100000 = true) (k : 72 < slitC a l m) :
    Calls Try.prog 38 #[.int .i64 a, .int .i64 l, .int .i64 m] w fun e w' => e = .returned (.tuple #[.int .i64 (0), .int .i64 (5)]) ∧ w = w' := by
  obtain ⟨m1, m2⟩ := inB_of g
  obtain ⟨x1, x2⟩ := excC_bounds h
  obtain ⟨s1, s2⟩ := slitC_bounds h m1
  have y0 : 0 ≤ max 0 (excC a l) := by omega
  have y1 : max 0 (excC a l) ≤ 6283186 := by omega
  have hz : m ≠ 0 := by omega
  have hm : m ≠ -1 := by omega
  have S1 := Lib.hid (show slitC a l m = (max 0 (excC a l) + m - 1) / m from rfl)
  obtain ⟨y, hy⟩ : ∃ y, Hid (max 0 (excC a l) = y) := ⟨_, Lib.hid rfl⟩
  rw [hy.out] at S1 y0 y1
  have k1 : IntKind.i64.wrap (y + m) = y + m := IntWalk.i64_in _ (by omega)
  have k2 : IntKind.i64.wrap (y + m - 1) = y + m - 1 := IntWalk.i64_in _ (by omega)
  have k3 : (y + m - 1).tdiv m = slitC a l m := by rw [S1.out]; exact Int.tdiv_eq_ediv_of_nonneg (by omega)
  have k4 : IntKind.i64.wrap (slitC a l m) = slitC a l m := IntWalk.i64_in _ (by omega)
  go_enter Try.func38, Try.ntmps38
  go_wp2_with (first | (go_at_call 67; refine (l06Code_any _ _ _).mono ?_; rw [h]; rintro e w' ⟨rfl, rfl⟩) | (go_at_call 85; refine (l00In_any _ _ _ _).mono ?_; (first | rw [g]); rintro e w' ⟨rfl, rfl⟩) | (go_at_call 92; refine (l06Excess_any _ _ _ h).mono ?_; rintro e w' ⟨rfl, rfl⟩) | (go_at_call 91; refine (l00Max_k _ _ _).mono ?_; rw [hy.out]; rintro e w' ⟨rfl, rfl⟩))
  exact bodyPost_ret (v := .tuple #[.int .i64 (0), .int .i64 (5)]) (by simp [results, Try.results38, go_sem] <;> rfl) rfl ⟨rfl, rfl⟩
set_option maxHeartbeats 400000 in
theorem specSlitsFor_yes (a l m : Int) (w : World) (h : code6 a l = 0) (g : inB m 1 100000 = true) (k : ¬ 72 < slitC a l m) :
    Calls Try.prog 38 #[.int .i64 a, .int .i64 l, .int .i64 m] w fun e w' => e = .returned (.tuple #[.int .i64 (slitC a l m), .int .i64 (0)]) ∧ w = w' := by
  obtain ⟨m1, m2⟩ := inB_of g
  obtain ⟨x1, x2⟩ := excC_bounds h
  obtain ⟨s1, s2⟩ := slitC_bounds h m1
  have y0 : 0 ≤ max 0 (excC a l) := by omega
  have y1 : max 0 (excC a l) ≤ 6283186 := by omega
  have hz : m ≠ 0 := by omega
  have hm : m ≠ -1 := by omega
  have S1 := Lib.hid (show slitC a l m = (max 0 (excC a l) + m - 1) / m from rfl)
  obtain ⟨y, hy⟩ : ∃ y, Hid (max 0 (excC a l) = y) := ⟨_, Lib.hid rfl⟩
  rw [hy.out] at S1 y0 y1
  have k1 : IntKind.i64.wrap (y + m) = y + m := IntWalk.i64_in _ (by omega)
  have k2 : IntKind.i64.wrap (y + m - 1) = y + m - 1 := IntWalk.i64_in _ (by omega)
  have k3 : (y + m - 1).tdiv m = slitC a l m := by rw [S1.out]; exact Int.tdiv_eq_ediv_of_nonneg (by omega)
  have k4 : IntKind.i64.wrap (slitC a l m) = slitC a l m := IntWalk.i64_in _ (by omega)
  go_enter Try.func38, Try.ntmps38
  go_wp2_with (first | (go_at_call 67; refine (l06Code_any _ _ _).mono ?_; rw [h]; rintro e w' ⟨rfl, rfl⟩) | (go_at_call 85; refine (l00In_any _ _ _ _).mono ?_; (first | rw [g]); rintro e w' ⟨rfl, rfl⟩) | (go_at_call 92; refine (l06Excess_any _ _ _ h).mono ?_; rintro e w' ⟨rfl, rfl⟩) | (go_at_call 91; refine (l00Max_k _ _ _).mono ?_; rw [hy.out]; rintro e w' ⟨rfl, rfl⟩))
  exact bodyPost_ret (v := .tuple #[.int .i64 (slitC a l m), .int .i64 (0)]) (by simp [results, Try.results38, go_sem] <;> rfl) rfl ⟨rfl, rfl⟩
theorem codeS6_bad {a l m : Int} (h : code6 a l = 2) : codeS6 a l m = 2 := by
  unfold codeS6
  rw [if_neg]
  intro k
  unfold code6 at h
  rw [if_pos (by revert k; cases inB a 1 1000000 <;> cases inB l 0 324000 <;> simp)] at h
  omega
theorem codeS6_in {a l m : Int} (h : code6 a l = 0) : codeS6 a l m = if inB m 1 100000 = true then (if 72 < slitC a l m then 5 else 0) else 2 := by
  have k : (inB a 1 1000000 && inB l 0 324000) = true := by
    unfold code6 at h
    split at h
    · assumption
    · omega
  unfold codeS6
  rw [k, Bool.true_and]
theorem specSlitsFor_any (a l m : Int) (w : World)  :
    Calls Try.prog 38 #[.int .i64 a, .int .i64 l, .int .i64 m] w fun e w' => e = .returned (.tuple #[.int .i64 (ansK (codeS6 a l m) (slitC a l m)), .int .i64 (codeS6 a l m)]) ∧ w = w' := by
  rcases code6_cases a l with h | h
  · rw [codeS6_in h]
    cases g : inB m 1 100000 with
    | false => refine (specSlitsFor_badm _ _ _ _ h g).mono ?_; rintro e w' ⟨rfl, hw⟩; exact ⟨ret_k2 (by simp [ansK]) (by simp [ansK]), hw⟩
    | true =>
      by_cases k : 72 < slitC a l m
      · refine (specSlitsFor_full _ _ _ _ h g k).mono ?_; rintro e w' ⟨rfl, hw⟩; exact ⟨ret_k2 (by simp [ansK, k]) (by simp [ansK, k]), hw⟩
      · refine (specSlitsFor_yes _ _ _ _ h g k).mono ?_; rintro e w' ⟨rfl, hw⟩; exact ⟨ret_k2 (by simp [ansK, k]) (by simp [ansK, k]), hw⟩
  · rw [codeS6_bad h]; refine (specSlitsFor_bad _ _ _ _ h).mono ?_; rintro e w' ⟨rfl, hw⟩; exact ⟨ret_k2 (by simp [ansK]) (by simp [ansK]), hw⟩

set_option maxHeartbeats 400000 in
theorem l06Rings_f (r d : Int) (w : World) (h : inB r 0 100000 = false) :
    Calls Try.prog 74 #[.int .i64 r, .int .i64 d] w fun e w' => e = .returned (.int .i64 (2)) ∧ w = w' := by
  go_enter Try.func74, Try.ntmps74
  go_wp2_with (first | (go_at_call 85; refine (l00In_any _ _ _ _).mono ?_; (first | rw [h]); rintro e w' ⟨rfl, rfl⟩))
  go_ret
  exact ⟨rfl, rfl⟩
set_option maxHeartbeats 400000 in
theorem l06Rings_tf (r d : Int) (w : World) (h : inB r 0 100000 = true) (g : inB d 1 100000 = false) :
    Calls Try.prog 74 #[.int .i64 r, .int .i64 d] w fun e w' => e = .returned (.int .i64 (2)) ∧ w = w' := by
  go_enter Try.func74, Try.ntmps74
  go_wp2_with (first | (go_at_call 85; refine (l00In_any _ _ _ _).mono ?_; (first | rw [h] | rw [g]); rintro e w' ⟨rfl, rfl⟩))
  go_ret
  exact ⟨rfl, rfl⟩
set_option maxHeartbeats 400000 in
theorem l06Rings_ttf (r d : Int) (w : World) (h : inB r 0 100000 = true) (g : inB d 1 100000 = true) (k : 60 < manyN r d) :
    Calls Try.prog 74 #[.int .i64 r, .int .i64 d] w fun e w' => e = .returned (.int .i64 (5)) ∧ w = w' := by
  obtain ⟨r1, r2⟩ := inB_of h
  obtain ⟨d1, d2⟩ := inB_of g
  obtain ⟨x1, x2⟩ := manyN_bounds r1 r2 d1
  have hz : d ≠ 0 := by omega
  have hm : d ≠ -1 := by omega
  have k1 : IntKind.i64.wrap (r + d) = r + d := IntWalk.i64_in _ (by omega)
  have k2 : IntKind.i64.wrap (r + d - 1) = r + d - 1 := IntWalk.i64_in _ (by omega)
  have k3 : (r + d - 1).tdiv d = manyN r d := Int.tdiv_eq_ediv_of_nonneg (by omega)
  have k4 : IntKind.i64.wrap (manyN r d) = manyN r d := IntWalk.i64_in _ (by omega)
  go_enter Try.func74, Try.ntmps74
  go_wp2_with (first | (go_at_call 85; refine (l00In_any _ _ _ _).mono ?_; (first | rw [h] | rw [g]); rintro e w' ⟨rfl, rfl⟩))
  go_ret
  exact ⟨rfl, rfl⟩
set_option maxHeartbeats 400000 in
theorem l06Rings_ttt (r d : Int) (w : World) (h : inB r 0 100000 = true) (g : inB d 1 100000 = true) (k : ¬ 60 < manyN r d) :
    Calls Try.prog 74 #[.int .i64 r, .int .i64 d] w fun e w' => e = .returned (.int .i64 (0)) ∧ w = w' := by
  obtain ⟨r1, r2⟩ := inB_of h
  obtain ⟨d1, d2⟩ := inB_of g
  obtain ⟨x1, x2⟩ := manyN_bounds r1 r2 d1
  have hz : d ≠ 0 := by omega
  have hm : d ≠ -1 := by omega
  have k1 : IntKind.i64.wrap (r + d) = r + d := IntWalk.i64_in _ (by omega)
  have k2 : IntKind.i64.wrap (r + d - 1) = r + d - 1 := IntWalk.i64_in _ (by omega)
  have k3 : (r + d - 1).tdiv d = manyN r d := Int.tdiv_eq_ediv_of_nonneg (by omega)
  have k4 : IntKind.i64.wrap (manyN r d) = manyN r d := IntWalk.i64_in _ (by omega)
  go_enter Try.func74, Try.ntmps74
  go_wp2_with (first | (go_at_call 85; refine (l00In_any _ _ _ _).mono ?_; (first | rw [h] | rw [g]); rintro e w' ⟨rfl, rfl⟩))
  go_ret
  exact ⟨rfl, rfl⟩
theorem l06Rings_any (r d : Int) (w : World)  :
    Calls Try.prog 74 #[.int .i64 r, .int .i64 d] w fun e w' => e = .returned (.int .i64 (codeN r d)) ∧ w = w' := by
  cases h : inB r 0 100000 with
  | false => refine (l06Rings_f _ _ _ h).mono ?_; rintro e w' ⟨rfl, hw⟩; exact ⟨ret_k1 (by simp [codeN, h]), hw⟩
  | true =>
    cases g : inB d 1 100000 with
    | false => refine (l06Rings_tf _ _ _ h g).mono ?_; rintro e w' ⟨rfl, hw⟩; exact ⟨ret_k1 (by simp [codeN, h, g]), hw⟩
    | true =>
      by_cases k : 60 < manyN r d
      · refine (l06Rings_ttf _ _ _ h g k).mono ?_; rintro e w' ⟨rfl, hw⟩; exact ⟨ret_k1 (by simp [codeN, h, g, k]), hw⟩
      · refine (l06Rings_ttt _ _ _ h g k).mono ?_; rintro e w' ⟨rfl, hw⟩; exact ⟨ret_k1 (by simp [codeN, h, g, k]), hw⟩

set_option maxHeartbeats 400000 in
theorem specCapOverlap_bad (a r l : Int) (w : World) (h : code6 a l = 2) :
    Calls Try.prog 44 #[.int .i64 a, .int .i64 r, .int .i64 l] w fun e w' => e = .returned (.tuple #[.int .i64 (0), .int .i64 (2)]) ∧ w = w' := by
  go_enter Try.func44, Try.ntmps44
  go_wp2_with (first | (go_at_call 67; refine (l06Code_any _ _ _).mono ?_; rw [h]; rintro e w' ⟨rfl, rfl⟩))
  exact bodyPost_ret (v := .tuple #[.int .i64 (0), .int .i64 (2)]) (by simp [results, Try.results44, go_sem] <;> rfl) rfl ⟨rfl, rfl⟩
set_option maxHeartbeats 400000 in
theorem specCapOverlap_2 (a r l : Int) (w : World) (h : code6 a l = 0) (g : codeR a r = 2) :
    Calls Try.prog 44 #[.int .i64 a, .int .i64 r, .int .i64 l] w fun e w' => e = .returned (.tuple #[.int .i64 (0), .int .i64 (2)]) ∧ w = w' := by
  go_enter Try.func44, Try.ntmps44
  go_wp2_with (first | (go_at_call 67; refine (l06Code_any _ _ _).mono ?_; rw [h]; rintro e w' ⟨rfl, rfl⟩) | (go_at_call 61; refine (l06Radius_any _ _ _).mono ?_; rw [g]; rintro e w' ⟨rfl, rfl⟩))
  exact bodyPost_ret (v := .tuple #[.int .i64 (0), .int .i64 (2)]) (by simp [results, Try.results44, go_sem] <;> rfl) rfl ⟨rfl, rfl⟩
set_option maxHeartbeats 400000 in
theorem specCapOverlap_5 (a r l : Int) (w : World) (h : code6 a l = 0) (g : codeR a r = 5) :
    Calls Try.prog 44 #[.int .i64 a, .int .i64 r, .int .i64 l] w fun e w' => e = .returned (.tuple #[.int .i64 (0), .int .i64 (5)]) ∧ w = w' := by
  go_enter Try.func44, Try.ntmps44
  go_wp2_with (first | (go_at_call 67; refine (l06Code_any _ _ _).mono ?_; rw [h]; rintro e w' ⟨rfl, rfl⟩) | (go_at_call 61; refine (l06Radius_any _ _ _).mono ?_; rw [g]; rintro e w' ⟨rfl, rfl⟩))
  exact bodyPost_ret (v := .tuple #[.int .i64 (0), .int .i64 (5)]) (by simp [results, Try.results44, go_sem] <;> rfl) rfl ⟨rfl, rfl⟩
set_option maxHeartbeats 400000 in
theorem specCapOverlap_yes (a r l : Int) (w : World) (h : code6 a l = 0) (g : codeR a r = 0) :
    Calls Try.prog 44 #[.int .i64 a, .int .i64 r, .int .i64 l] w fun e w' => e = .returned (.tuple #[.int .i64 (r - arcC a (324000 - l)), .int .i64 (0)]) ∧ w = w' := by
  obtain ⟨a1, a2, l1, l2⟩ := code6_of h
  obtain ⟨_, _, r1, r2, r3⟩ := codeR_of g
  obtain ⟨p1, p2, _⟩ := excC_parts h
  have k1 : IntKind.i64.wrap (324000 - l) = 324000 - l := IntWalk.i64_in _ (by omega)
  have k2 : IntKind.i64.wrap (r - arcC a (324000 - l)) = r - arcC a (324000 - l) := IntWalk.i64_in _ (by omega)
  go_enter Try.func44, Try.ntmps44
  go_wp2_with (first | (go_at_call 67; refine (l06Code_any _ _ _).mono ?_; rw [h]; rintro e w' ⟨rfl, rfl⟩) | (go_at_call 61; refine (l06Radius_any _ _ _).mono ?_; rw [g]; rintro e w' ⟨rfl, rfl⟩) | (go_at_call 68; refine (l06Arc_any _ _ _ (by omega) (by omega) (by omega) (by omega)).mono ?_; rintro e w' ⟨rfl, rfl⟩))
  exact bodyPost_ret (v := .tuple #[.int .i64 (r - arcC a (324000 - l)), .int .i64 (0)]) (by simp [results, Try.results44, go_sem] <;> rfl) rfl ⟨rfl, rfl⟩
theorem specCapOverlap_any (a r l : Int) (w : World)  :
    Calls Try.prog 44 #[.int .i64 a, .int .i64 r, .int .i64 l] w fun e w' => e = .returned (.tuple #[.int .i64 (ansK (codeV a r l) (r - arcC a (324000 - l))), .int .i64 (codeV a r l)]) ∧ w = w' := by
  rcases code6_cases a l with h | h
  · rcases codeR_cases a r with g | g | g
    · refine (specCapOverlap_yes _ _ _ _ h g).mono ?_; rintro e w' ⟨rfl, hw⟩; exact ⟨ret_k2 (by simp [ansK, codeV, h, g]) (by simp [ansK, codeV, h, g]), hw⟩
    · refine (specCapOverlap_2 _ _ _ _ h g).mono ?_; rintro e w' ⟨rfl, hw⟩; exact ⟨ret_k2 (by simp [ansK, codeV, h, g]) (by simp [ansK, codeV, h, g]), hw⟩
    · refine (specCapOverlap_5 _ _ _ _ h g).mono ?_; rintro e w' ⟨rfl, hw⟩; exact ⟨ret_k2 (by simp [ansK, codeV, h, g]) (by simp [ansK, codeV, h, g]), hw⟩
  · refine (specCapOverlap_bad _ _ _ _ h).mono ?_; rintro e w' ⟨rfl, hw⟩; exact ⟨ret_k2 (by simp [ansK, codeV, h]) (by simp [ansK, codeV, h]), hw⟩

set_option maxHeartbeats 400000 in
theorem specSmallestCap_bad (a l o : Int) (w : World) (h : code6 a l = 2) :
    Calls Try.prog 41 #[.int .i64 a, .int .i64 l, .int .i64 o] w fun e w' => e = .returned (.tuple #[.int .i64 (0), .int .i64 (2)]) ∧ w = w' := by
  go_enter Try.func41, Try.ntmps41
  go_wp2_with (first | (go_at_call 67; refine (l06Code_any _ _ _).mono ?_; rw [h]; rintro e w' ⟨rfl, rfl⟩))
  exact bodyPost_ret (v := .tuple #[.int .i64 (0), .int .i64 (2)]) (by simp [results, Try.results41, go_sem] <;> rfl) rfl ⟨rfl, rfl⟩
set_option maxHeartbeats 400000 in
theorem specSmallestCap_bado (a l o : Int) (w : World) (h : code6 a l = 0) (g : inB o 0 100000 = false) :
    Calls Try.prog 41 #[.int .i64 a, .int .i64 l, .int .i64 o] w fun e w' => e = .returned (.tuple #[.int .i64 (0), .int .i64 (2)]) ∧ w = w' := by
  go_enter Try.func41, Try.ntmps41
  go_wp2_with (first | (go_at_call 67; refine (l06Code_any _ _ _).mono ?_; rw [h]; rintro e w' ⟨rfl, rfl⟩) | (go_at_call 85; refine (l00In_any _ _ _ _).mono ?_; (first | rw [g]); rintro e w' ⟨rfl, rfl⟩))
  exact bodyPost_ret (v := .tuple #[.int .i64 (0), .int .i64 (2)]) (by simp [results, Try.results41, go_sem] <;> rfl) rfl ⟨rfl, rfl⟩
set_option maxHeartbeats 400000 in
theorem specSmallestCap_full (a l o : Int) (w : World) (h : code6 a l = 0) (g : inB o 0 100000 = true) (k : 100000 < leastC a l o) :
    Calls Try.prog 41 #[.int .i64 a, .int .i64 l, .int .i64 o] w fun e w' => e = .returned (.tuple #[.int .i64 (0), .int .i64 (5)]) ∧ w = w' := by
  obtain ⟨a1, a2, l1, l2⟩ := code6_of h
  obtain ⟨o1, o2⟩ := inB_of g
  obtain ⟨p1, p2, _⟩ := excC_parts h
  have k1 : IntKind.i64.wrap (324000 - l) = 324000 - l := IntWalk.i64_in _ (by omega)
  have k2 : arcC a (324000 - l) + o = leastC a l o := rfl
  have k5 : 0 ≤ leastC a l o := by unfold leastC; omega
  have k6 : leastC a l o ≤ 1100000 := by unfold leastC; omega
  have k3 : IntKind.i64.wrap (leastC a l o) = leastC a l o := IntWalk.i64_in _ (by omega)
  have k4 : IntKind.i64.wrap (4 * leastC a l o) = 4 * leastC a l o := IntWalk.i64_in _ (by omega)
  go_enter Try.func41, Try.ntmps41
  go_wp2_with (first | (go_at_call 67; refine (l06Code_any _ _ _).mono ?_; rw [h]; rintro e w' ⟨rfl, rfl⟩) | (go_at_call 85; refine (l00In_any _ _ _ _).mono ?_; (first | rw [g]); rintro e w' ⟨rfl, rfl⟩) | (go_at_call 68; refine (l06Arc_any _ _ _ (by omega) (by omega) (by omega) (by omega)).mono ?_; rintro e w' ⟨rfl, rfl⟩))
  exact bodyPost_ret (v := .tuple #[.int .i64 (0), .int .i64 (5)]) (by simp [results, Try.results41, go_sem] <;> rfl) rfl ⟨rfl, rfl⟩
set_option maxHeartbeats 400000 in
theorem specSmallestCap_full2 (a l o : Int) (w : World) (h : code6 a l = 0) (g : inB o 0 100000 = true) (k : ¬ 100000 < leastC a l o) (j : a < 4 * leastC a l o) :
    Calls Try.prog 41 #[.int .i64 a, .int .i64 l, .int .i64 o] w fun e w' => e = .returned (.tuple #[.int .i64 (0), .int .i64 (5)]) ∧ w = w' := by
  obtain ⟨a1, a2, l1, l2⟩ := code6_of h
  obtain ⟨o1, o2⟩ := inB_of g
  obtain ⟨p1, p2, _⟩ := excC_parts h
  have k1 : IntKind.i64.wrap (324000 - l) = 324000 - l := IntWalk.i64_in _ (by omega)
  have k2 : arcC a (324000 - l) + o = leastC a l o := rfl
  have k5 : 0 ≤ leastC a l o := by unfold leastC; omega
  have k6 : leastC a l o ≤ 1100000 := by unfold leastC; omega
  have k3 : IntKind.i64.wrap (leastC a l o) = leastC a l o := IntWalk.i64_in _ (by omega)
  have k4 : IntKind.i64.wrap (4 * leastC a l o) = 4 * leastC a l o := IntWalk.i64_in _ (by omega)
  go_enter Try.func41, Try.ntmps41
  go_wp2_with (first | (go_at_call 67; refine (l06Code_any _ _ _).mono ?_; rw [h]; rintro e w' ⟨rfl, rfl⟩) | (go_at_call 85; refine (l00In_any _ _ _ _).mono ?_; (first | rw [g]); rintro e w' ⟨rfl, rfl⟩) | (go_at_call 68; refine (l06Arc_any _ _ _ (by omega) (by omega) (by omega) (by omega)).mono ?_; rintro e w' ⟨rfl, rfl⟩))
  exact bodyPost_ret (v := .tuple #[.int .i64 (0), .int .i64 (5)]) (by simp [results, Try.results41, go_sem] <;> rfl) rfl ⟨rfl, rfl⟩
set_option maxHeartbeats 400000 in
theorem specSmallestCap_yes (a l o : Int) (w : World) (h : code6 a l = 0) (g : inB o 0 100000 = true) (k : ¬ 100000 < leastC a l o) (j : ¬ a < 4 * leastC a l o) :
    Calls Try.prog 41 #[.int .i64 a, .int .i64 l, .int .i64 o] w fun e w' => e = .returned (.tuple #[.int .i64 (leastC a l o), .int .i64 (0)]) ∧ w = w' := by
  obtain ⟨a1, a2, l1, l2⟩ := code6_of h
  obtain ⟨o1, o2⟩ := inB_of g
  obtain ⟨p1, p2, _⟩ := excC_parts h
  have k1 : IntKind.i64.wrap (324000 - l) = 324000 - l := IntWalk.i64_in _ (by omega)
  have k2 : arcC a (324000 - l) + o = leastC a l o := rfl
  have k5 : 0 ≤ leastC a l o := by unfold leastC; omega
  have k6 : leastC a l o ≤ 1100000 := by unfold leastC; omega
  have k3 : IntKind.i64.wrap (leastC a l o) = leastC a l o := IntWalk.i64_in _ (by omega)
  have k4 : IntKind.i64.wrap (4 * leastC a l o) = 4 * leastC a l o := IntWalk.i64_in _ (by omega)
  go_enter Try.func41, Try.ntmps41
  go_wp2_with (first | (go_at_call 67; refine (l06Code_any _ _ _).mono ?_; rw [h]; rintro e w' ⟨rfl, rfl⟩) | (go_at_call 85; refine (l00In_any _ _ _ _).mono ?_; (first | rw [g]); rintro e w' ⟨rfl, rfl⟩) | (go_at_call 68; refine (l06Arc_any _ _ _ (by omega) (by omega) (by omega) (by omega)).mono ?_; rintro e w' ⟨rfl, rfl⟩))
  exact bodyPost_ret (v := .tuple #[.int .i64 (leastC a l o), .int .i64 (0)]) (by simp [results, Try.results41, go_sem] <;> rfl) rfl ⟨rfl, rfl⟩
theorem codeM_bad {a l o : Int} (h : code6 a l = 2) : codeM a l o = 2 := by
  unfold codeM
  rw [if_neg]
  intro k
  unfold code6 at h
  rw [if_pos (by revert k; cases inB a 1 1000000 <;> cases inB l 0 324000 <;> simp)] at h
  omega
theorem codeM_in {a l o : Int} (h : code6 a l = 0) : codeM a l o = if inB o 0 100000 = true then (if 100000 < leastC a l o then 5 else if a < 4 * leastC a l o then 5 else 0) else 2 := by
  have k : (inB a 1 1000000 && inB l 0 324000) = true := by
    unfold code6 at h
    split at h
    · assumption
    · omega
  unfold codeM
  rw [k, Bool.true_and]
theorem specSmallestCap_any (a l o : Int) (w : World)  :
    Calls Try.prog 41 #[.int .i64 a, .int .i64 l, .int .i64 o] w fun e w' => e = .returned (.tuple #[.int .i64 (ansK (codeM a l o) (leastC a l o)), .int .i64 (codeM a l o)]) ∧ w = w' := by
  rcases code6_cases a l with h | h
  · rw [codeM_in h]
    cases g : inB o 0 100000 with
    | false => refine (specSmallestCap_bado _ _ _ _ h g).mono ?_; rintro e w' ⟨rfl, hw⟩; exact ⟨ret_k2 (by simp [ansK]) (by simp [ansK]), hw⟩
    | true =>
      by_cases k : 100000 < leastC a l o
      · refine (specSmallestCap_full _ _ _ _ h g k).mono ?_; rintro e w' ⟨rfl, hw⟩; exact ⟨ret_k2 (by simp [ansK, k]) (by simp [ansK, k]), hw⟩
      · by_cases j : a < 4 * leastC a l o
        · refine (specSmallestCap_full2 _ _ _ _ h g k j).mono ?_; rintro e w' ⟨rfl, hw⟩; exact ⟨ret_k2 (by simp [ansK, k, j]) (by simp [ansK, k, j]), hw⟩
        · refine (specSmallestCap_yes _ _ _ _ h g k j).mono ?_; rintro e w' ⟨rfl, hw⟩; exact ⟨ret_k2 (by simp [ansK, k, j]) (by simp [ansK, k, j]), hw⟩
  · rw [codeM_bad h]; refine (specSmallestCap_bad _ _ _ _ h).mono ?_; rintro e w' ⟨rfl, hw⟩; exact ⟨ret_k2 (by simp [ansK]) (by simp [ansK]), hw⟩

end Go.Proofs.Ytiemealkdgnhcaa.sines
