/- The functions of gores that answer a number: contracts of the program and of the model. -/
import Derived.Test.YtbnihalbepffoaaDoorGores
namespace Go.Proofs.YtbnihalbepffoaaDoor.sines
open Go.ChangeShapes Go.WideShapes Go.ChangeAt Go.RowKit Go.Proofs.YtbnihalbepffoaaDoor.spots Go.Proofs.YtbnihalbepffoaaDoor.irows

set_option linter.unusedSimpArgs false
set_option linter.unusedVariables false
def ansG (c v : Int) : Int := if c = 0 then v else 0
theorem ansG_ok (v : Int) : ansG 0 v = v := rfl
theorem ret_two {a b c d : Int} (h : a = b) (g : c = d) : Ending.returned (.tuple #[.int .i64 a, .int .i64 c]) = .returned (.tuple #[.int .i64 b, .int .i64 d]) := by rw [h, g]
theorem tdiv_pos {a b : Int} (h : 0 ≤ a) : a.tdiv b = a / b := Int.tdiv_eq_ediv_of_nonneg h
def spanG (g : Int) : Int := 1296000 / g
theorem spanG_facts {g : Int} (h : goreB g = true) : 6 ≤ g ∧ g ≤ 48 ∧ g * spanG g = 1296000 ∧ 27000 ≤ spanG g ∧ spanG g ≤ 216000 ∧ IntKind.i64.wrap ((1296000 : Int).tdiv g) = spanG g := by
  obtain ⟨g1, g2, g3, g4, g5, g6⟩ := goreB_facts h
  refine ⟨g1, g2, g3, g4, g5, ?_⟩
  rw [tdiv_pos (by decide)]
  exact IntWalk.i64_in (1296000 / g) (by omega)
theorem GV_drawn {w : World} (h : GV w) (n : Nat) : GV (w.drewN n) := h

set_option maxHeartbeats 400000 in
theorem implGoreSpan_bad (n : Int) (w : World) (hG : GV w) (h : goreB n = false) :
    Calls Tryd.prog 21 #[.int .i64 n] w fun e w' => e = .returned (.tuple #[.int .i64 (0), .int .i64 1]) ∧ w = w' := by
  go_enter Tryd.func21, Tryd.ntmps21
  go_wp2_with (go_at_call 33; refine (ValidGores_any _ _ hG).mono ?_; rintro e w' ⟨rfl, rfl⟩)
  exact bodyPost_ret (v := .tuple #[.int .i64 (0), .int .i64 1]) (by simp [results, Tryd.results21, go_sem] <;> rfl) rfl ⟨rfl, rfl⟩
set_option maxHeartbeats 400000 in
theorem implGoreSpan_yes (n : Int) (w : World) (hG : GV w) (h : goreB n = true) :
    Calls Tryd.prog 21 #[.int .i64 n] w fun e w' => e = .returned (.tuple #[.int .i64 (spanG n), .int .i64 0]) ∧ w = w' := by
  obtain ⟨g1, g2, g3, g4, g5, k1⟩ := spanG_facts h
  have hz : n ≠ 0 := by omega
  have hm : n ≠ -1 := by omega
  go_enter Tryd.func21, Tryd.ntmps21
  go_wp2_with (go_at_call 33; refine (ValidGores_any _ _ hG).mono ?_; rintro e w' ⟨rfl, rfl⟩)
  exact bodyPost_ret (v := .tuple #[.int .i64 (spanG n), .int .i64 0]) (by simp [results, Tryd.results21, go_sem] <;> rfl) rfl ⟨rfl, rfl⟩


set_option maxHeartbeats 400000 in
theorem specGoreSpan_bad (n : Int) (w : World) (h : goreB n = false) :
    Calls Tryd.prog 22 #[.int .i64 n] w fun e w' => e = .returned (.tuple #[.int .i64 (0), .int .i64 1]) ∧ w = w' := by
  go_enter Tryd.func22, Tryd.ntmps22
  go_wp2_with (go_at_call 67; refine (l04Ok_any _ _).mono ?_; rintro e w' ⟨rfl, rfl⟩)
  exact bodyPost_ret (v := .tuple #[.int .i64 (0), .int .i64 1]) (by simp [results, Tryd.results22, go_sem] <;> rfl) rfl ⟨rfl, rfl⟩
set_option maxHeartbeats 400000 in
theorem specGoreSpan_yes (n : Int) (w : World) (h : goreB n = true) :
    Calls Tryd.prog 22 #[.int .i64 n] w fun e w' => e = .returned (.tuple #[.int .i64 (spanG n), .int .i64 0]) ∧ w = w' := by
  obtain ⟨g1, g2, g3, g4, g5, k1⟩ := spanG_facts h
  have hz : n ≠ 0 := by omega
  have hm : n ≠ -1 := by omega
  go_enter Tryd.func22, Tryd.ntmps22
  go_wp2_with (go_at_call 67; refine (l04Ok_any _ _).mono ?_; rintro e w' ⟨rfl, rfl⟩)
  exact bodyPost_ret (v := .tuple #[.int .i64 (spanG n), .int .i64 0]) (by simp [results, Tryd.results22, go_sem] <;> rfl) rfl ⟨rfl, rfl⟩


set_option maxHeartbeats 400000 in
theorem goreAt_any (g b : Int) (w : World) (h : goreB g = true) (b1 : -648000 ≤ b) (b2 : b ≤ 647999) :
    Calls Tryd.prog 66 #[.int .i64 g, .int .i64 b] w fun e w' => e = .returned (.int .i64 (goreAtL g b)) ∧ w = w' := by
  obtain ⟨g1, g2, g3, g4, g5, k1⟩ := spanG_facts h
  obtain ⟨c1, c2⟩ := goreAtL_bounds h b1 b2
  have hz : g ≠ 0 := by omega
  have hm : g ≠ -1 := by omega
  have hz2 : spanG g ≠ 0 := by omega
  have hm2 : spanG g ≠ -1 := by omega
  by_cases hb : b < 0
  · have e1 : (b + 1296000).tdiv (spanG g) = goreAtL g b := by
      rw [tdiv_pos (by omega)]
      simp only [goreAtL, eastL, if_pos hb]; rfl
    have k2 : IntKind.i64.wrap ((b + 1296000).tdiv (spanG g)) = goreAtL g b := by rw [e1]; exact IntWalk.i64_in _ (by omega)
    have k3 : IntKind.i64.wrap (b + 1296000) = b + 1296000 := IntWalk.i64_in _ (by omega)
    go_enter Tryd.func66, Tryd.ntmps66
    go_wp2
    go_ret
    exact ⟨rfl, rfl⟩
  · have e1 : b.tdiv (spanG g) = goreAtL g b := by
      rw [tdiv_pos (by omega)]
      simp only [goreAtL, eastL, if_neg hb]; rfl
    have k2 : IntKind.i64.wrap (b.tdiv (spanG g)) = goreAtL g b := by rw [e1]; exact IntWalk.i64_in _ (by omega)
    go_enter Tryd.func66, Tryd.ntmps66
    go_wp2
    go_ret
    exact ⟨rfl, rfl⟩


set_option maxHeartbeats 400000 in
theorem l04Gore_any (g a b : Int) (w : World) (h : goreB g = true) (b1 : -648000 ≤ b) (b2 : b ≤ 647999) :
    Calls Tryd.prog 68 #[.int .i64 g, .agg #[.int .i64 a, .int .i64 b]] w fun e w' => e = .returned (.int .i64 (goreAtL g b)) ∧ Below w.heap.size w w' := by
  obtain ⟨g1, g2, g3, g4, g5, k1⟩ := spanG_facts h
  obtain ⟨c1, c2⟩ := goreAtL_bounds h b1 b2
  have hz : g ≠ 0 := by omega
  have hm : g ≠ -1 := by omega
  have hz2 : spanG g ≠ 0 := by omega
  have hm2 : spanG g ≠ -1 := by omega
  by_cases hb : b < 0
  · have e1 : (b + 1296000).tdiv (spanG g) = goreAtL g b := by
      rw [tdiv_pos (by omega)]
      simp only [goreAtL, eastL, if_pos hb]; rfl
    have k2 : IntKind.i64.wrap ((b + 1296000).tdiv (spanG g)) = goreAtL g b := by rw [e1]; exact IntWalk.i64_in _ (by omega)
    have k3 : IntKind.i64.wrap (b + 1296000) = b + 1296000 := IntWalk.i64_in _ (by omega)
    go_enter Tryd.func68, Tryd.ntmps68
    go_wp2
    go_ret
    exact ⟨rfl, (Below.refl _ _).alloc (Nat.le_refl _) _⟩
  · have e1 : b.tdiv (spanG g) = goreAtL g b := by
      rw [tdiv_pos (by omega)]
      simp only [goreAtL, eastL, if_neg hb]; rfl
    have k2 : IntKind.i64.wrap (b.tdiv (spanG g)) = goreAtL g b := by rw [e1]; exact IntWalk.i64_in _ (by omega)
    go_enter Tryd.func68, Tryd.ntmps68
    go_wp2
    go_ret
    exact ⟨rfl, (Below.refl _ _).alloc (Nat.le_refl _) _⟩


theorem okB_of {a b : Int} (h : okB a b = true) : -324000 ≤ a ∧ a ≤ 324000 ∧ -648000 ≤ b ∧ b ≤ 647999 := by simpa [okB] using h

set_option maxHeartbeats 400000 in
theorem implGoreOf_bad (g a b : Int) (w : World) (hG : GV w) (h : goreB g = false) :
    Calls Tryd.prog 19 #[.int .i64 g, .agg #[.int .i64 a, .int .i64 b]] w fun e w' => e = .returned (.tuple #[.int .i64 (0), .int .i64 1]) ∧ Below w.heap.size w w' := by
  go_enter Tryd.func19, Tryd.ntmps19
  go_wp2_with (go_at_call 33; refine (ValidGores_any _ _ (by first | exact hG | exact GV_keep hG ((Below.refl _ _).alloc (Nat.le_refl _) _))).mono ?_; rintro e w' ⟨rfl, rfl⟩)
  exact bodyPost_ret (v := .tuple #[.int .i64 (0), .int .i64 1]) (by simp [results, Tryd.results19, go_sem] <;> rfl) rfl ⟨rfl, (Below.refl _ _).alloc (Nat.le_refl _) _⟩
set_option maxHeartbeats 400000 in
theorem implGoreOf_badP (g a b : Int) (w : World) (hG : GV w) (h : goreB g = true) (k : okB a b = false) :
    Calls Tryd.prog 19 #[.int .i64 g, .agg #[.int .i64 a, .int .i64 b]] w fun e w' => e = .returned (.tuple #[.int .i64 (0), .int .i64 1]) ∧ Below w.heap.size w w' := by
  go_enter Tryd.func19, Tryd.ntmps19
  go_wp2_with (first | (go_at_call 33; refine (ValidGores_any _ _ (by first | exact hG | exact GV_keep hG ((Below.refl _ _).alloc (Nat.le_refl _) _))).mono ?_; rintro e w' ⟨rfl, rfl⟩) | (go_at_call 50; refine (ValidSpot_any _ _ _).mono ?_; rintro e w' ⟨rfl, o1, rfl⟩))
  exact bodyPost_ret (v := .tuple #[.int .i64 (0), .int .i64 1]) (by simp [results, Tryd.results19, go_sem] <;> rfl) rfl ⟨rfl, ((Below.refl _ _).alloc (Nat.le_refl _) _).alloc (by simp) _⟩
set_option maxHeartbeats 400000 in
theorem implGoreOf_yes (g a b : Int) (w : World) (hG : GV w) (h : goreB g = true) (k : okB a b = true) :
    Calls Tryd.prog 19 #[.int .i64 g, .agg #[.int .i64 a, .int .i64 b]] w fun e w' => e = .returned (.tuple #[.int .i64 (goreAtL g b), .int .i64 0]) ∧ Below w.heap.size w w' := by
  obtain ⟨y1, y2, y3, y4⟩ := okB_of k
  go_enter Tryd.func19, Tryd.ntmps19
  go_wp2_with (first | (go_at_call 33; refine (ValidGores_any _ _ (by first | exact hG | exact GV_keep hG ((Below.refl _ _).alloc (Nat.le_refl _) _))).mono ?_; rintro e w' ⟨rfl, rfl⟩) | (go_at_call 50; refine (ValidSpot_any _ _ _).mono ?_; rintro e w' ⟨rfl, o1, rfl⟩) | (go_at_call 66; refine (goreAt_any _ _ _ h y3 y4).mono ?_; rintro e w' ⟨rfl, rfl⟩))
  exact bodyPost_ret (v := .tuple #[.int .i64 (goreAtL g b), .int .i64 0]) (by simp [results, Tryd.results19, go_sem] <;> rfl) rfl ⟨rfl, ((Below.refl _ _).alloc (Nat.le_refl _) _).alloc (by simp) _⟩


set_option maxHeartbeats 400000 in
theorem specGoreOf_bad (g a b : Int) (w : World) (h : goreB g = false) :
    Calls Tryd.prog 20 #[.int .i64 g, .agg #[.int .i64 a, .int .i64 b]] w fun e w' => e = .returned (.tuple #[.int .i64 (0), .int .i64 1]) ∧ Below w.heap.size w w' := by
  go_enter Tryd.func20, Tryd.ntmps20
  go_wp2_with (go_at_call 67; refine (l04Ok_any _ _).mono ?_; rintro e w' ⟨rfl, rfl⟩)
  exact bodyPost_ret (v := .tuple #[.int .i64 (0), .int .i64 1]) (by simp [results, Tryd.results20, go_sem] <;> rfl) rfl ⟨rfl, (Below.refl _ _).alloc (Nat.le_refl _) _⟩
set_option maxHeartbeats 400000 in
theorem specGoreOf_badP (g a b : Int) (w : World) (h : goreB g = true) (k : okB a b = false) :
    Calls Tryd.prog 20 #[.int .i64 g, .agg #[.int .i64 a, .int .i64 b]] w fun e w' => e = .returned (.tuple #[.int .i64 (0), .int .i64 1]) ∧ Below w.heap.size w w' := by
  go_enter Tryd.func20, Tryd.ntmps20
  go_wp2_with (first | (go_at_call 67; refine (l04Ok_any _ _).mono ?_; rintro e w' ⟨rfl, rfl⟩) | (go_at_call 63; refine (l02Ok_any _ _ _).mono ?_; rintro e w' ⟨rfl, o1, rfl⟩))
  exact bodyPost_ret (v := .tuple #[.int .i64 (0), .int .i64 1]) (by simp [results, Tryd.results20, go_sem] <;> rfl) rfl ⟨rfl, ((Below.refl _ _).alloc (Nat.le_refl _) _).alloc (by simp) _⟩
set_option maxHeartbeats 400000 in
theorem specGoreOf_yes (g a b : Int) (w : World) (h : goreB g = true) (k : okB a b = true) :
    Calls Tryd.prog 20 #[.int .i64 g, .agg #[.int .i64 a, .int .i64 b]] w fun e w' => e = .returned (.tuple #[.int .i64 (goreAtL g b), .int .i64 0]) ∧ Below w.heap.size w w' := by
  obtain ⟨y1, y2, y3, y4⟩ := okB_of k
  go_enter Tryd.func20, Tryd.ntmps20
  go_wp2_with (first | (go_at_call 67; refine (l04Ok_any _ _).mono ?_; rintro e w' ⟨rfl, rfl⟩) | (go_at_call 63; refine (l02Ok_any _ _ _).mono ?_; rintro e w' ⟨rfl, o1, rfl⟩) | (go_at_call 68; refine (l04Gore_any _ _ _ _ h y3 y4).mono ?_; rintro e w' ⟨rfl, hb⟩))
  exact bodyPost_ret (v := .tuple #[.int .i64 (goreAtL g b), .int .i64 0]) (by simp [results, Tryd.results20, go_sem] <;> rfl) rfl ⟨rfl, (((Below.refl _ w).alloc (Nat.le_refl _) _).alloc (by simp) _).trans (hb.mono (by simp; omega))⟩


def midL (g k : Int) : Int := wrapL (k * spanG g + spanG g / 2)
theorem mid_facts {g k : Int} (h : goreB g = true) (k1 : 0 ≤ k) (k2 : k < g) : 0 ≤ k * spanG g ∧ k * spanG g ≤ 1296000 ∧ 0 ≤ spanG g / 2 ∧ spanG g / 2 ≤ 108000 ∧
    IntKind.i64.wrap (k * spanG g) = k * spanG g ∧ IntKind.i64.wrap ((spanG g).tdiv 2) = spanG g / 2 ∧ IntKind.i64.wrap (k * spanG g + spanG g / 2) = k * spanG g + spanG g / 2 := by
  obtain ⟨g1, g2, g3, g4, g5, _⟩ := spanG_facts h
  have m1 : 0 ≤ k * spanG g := Int.mul_nonneg k1 (by omega)
  have m2 : k * spanG g ≤ g * spanG g := Int.mul_le_mul_of_nonneg_right (by omega) (by omega)
  refine ⟨m1, by omega, by omega, by omega, IntWalk.i64_in _ (by omega), ?_, IntWalk.i64_in _ (by omega)⟩
  rw [tdiv_pos (by omega)]
  exact IntWalk.i64_in _ (by omega)

set_option maxHeartbeats 400000 in
theorem implGoreMiddle_bad0 (g k : Int) (w : World) (hG : GV w) (h : goreB g = false) (x1 : k < 0) :
    Calls Tryd.prog 30 #[.int .i64 g, .int .i64 k] w fun e w' => e = .returned (.tuple #[.int .i64 (0), .int .i64 1]) ∧ w = w' := by
  have d1 : decide (0 ≤ k) = false := by simp; omega
  go_enter Tryd.func30, Tryd.ntmps30
  go_wp2_with (go_at_call 70; refine (goresCode_any _ _ _ hG).mono ?_; rintro e w' ⟨rfl, rfl⟩; rw [codeG_no _ h])
  exact bodyPost_ret (v := .tuple #[.int .i64 (0), .int .i64 1]) (by simp [results, Tryd.results30, go_sem] <;> rfl) rfl ⟨rfl, rfl⟩
set_option maxHeartbeats 400000 in
theorem implGoreMiddle_bad1 (g k : Int) (w : World) (hG : GV w) (h : goreB g = false) (x1 : 0 ≤ k) :
    Calls Tryd.prog 30 #[.int .i64 g, .int .i64 k] w fun e w' => e = .returned (.tuple #[.int .i64 (0), .int .i64 1]) ∧ w = w' := by
  have d1 : decide (0 ≤ k) = true := by simp; omega
  go_enter Tryd.func30, Tryd.ntmps30
  go_wp2_with (go_at_call 70; refine (goresCode_any _ _ _ hG).mono ?_; rintro e w' ⟨rfl, rfl⟩; rw [codeG_no _ h])
  exact bodyPost_ret (v := .tuple #[.int .i64 (0), .int .i64 1]) (by simp [results, Tryd.results30, go_sem] <;> rfl) rfl ⟨rfl, rfl⟩
set_option maxHeartbeats 400000 in
theorem implGoreMiddle_out0 (g k : Int) (w : World) (hG : GV w) (h : goreB g = true) (x1 : k < 0) :
    Calls Tryd.prog 30 #[.int .i64 g, .int .i64 k] w fun e w' => e = .returned (.tuple #[.int .i64 (0), .int .i64 2]) ∧ w = w' := by
  have d1 : decide (0 ≤ k) = false := by simp; omega
  go_enter Tryd.func30, Tryd.ntmps30
  go_wp2_with (go_at_call 70; refine (goresCode_any _ _ _ hG).mono ?_; rintro e w' ⟨rfl, rfl⟩; rw [codeG_bad h])
  exact bodyPost_ret (v := .tuple #[.int .i64 (0), .int .i64 2]) (by simp [results, Tryd.results30, go_sem] <;> rfl) rfl ⟨rfl, rfl⟩
set_option maxHeartbeats 400000 in
theorem implGoreMiddle_out1 (g k : Int) (w : World) (hG : GV w) (h : goreB g = true) (x1 : 0 ≤ k) (x2 : g ≤ k) :
    Calls Tryd.prog 30 #[.int .i64 g, .int .i64 k] w fun e w' => e = .returned (.tuple #[.int .i64 (0), .int .i64 2]) ∧ w = w' := by
  have d1 : decide (0 ≤ k) = true := by simp; omega
  have d2 : decide (k < g) = false := by simp; omega
  go_enter Tryd.func30, Tryd.ntmps30
  go_wp2_with (go_at_call 70; refine (goresCode_any _ _ _ hG).mono ?_; rintro e w' ⟨rfl, rfl⟩; rw [codeG_bad h])
  exact bodyPost_ret (v := .tuple #[.int .i64 (0), .int .i64 2]) (by simp [results, Tryd.results30, go_sem] <;> rfl) rfl ⟨rfl, rfl⟩
set_option maxHeartbeats 400000 in
theorem implGoreMiddle_yes (g k : Int) (w : World) (hG : GV w) (h : goreB g = true) (x1 : 0 ≤ k) (x2 : k < g) :
    Calls Tryd.prog 30 #[.int .i64 g, .int .i64 k] w fun e w' => e = .returned (.tuple #[.int .i64 (midL g k), .int .i64 0]) ∧ w = w' := by
  obtain ⟨g1, g2, g3, g4, g5, k1⟩ := spanG_facts h
  have hz : g ≠ 0 := by omega
  have hm : g ≠ -1 := by omega
  obtain ⟨m1, m2, m3, m4, m5, m6, m7⟩ := mid_facts h x1 x2
  have d1 : decide (0 ≤ k) = true := by simp; omega
  have d2 : decide (k < g) = true := by simp; omega
  go_enter Tryd.func30, Tryd.ntmps30
  go_wp2_with (first | (go_at_call 70; refine (goresCode_any _ _ _ hG).mono ?_; rintro e w' ⟨rfl, rfl⟩; rw [codeG_ok h]) | (go_at_call 83; refine (wrap_any _ _ (by omega) (by omega)).mono ?_; rintro e w' ⟨rfl, rfl⟩))
  exact bodyPost_ret (v := .tuple #[.int .i64 (midL g k), .int .i64 0]) (by simp [results, Tryd.results30, go_sem] <;> rfl) rfl ⟨rfl, rfl⟩


set_option maxHeartbeats 400000 in
theorem specGoreMiddle_bad (g k : Int) (w : World) (h : goreB g = false) :
    Calls Tryd.prog 31 #[.int .i64 g, .int .i64 k] w fun e w' => e = .returned (.tuple #[.int .i64 (0), .int .i64 1]) ∧ w = w' := by
  go_enter Tryd.func31, Tryd.ntmps31
  go_wp2_with (go_at_call 67; refine (l04Ok_any _ _).mono ?_; rintro e w' ⟨rfl, rfl⟩)
  exact bodyPost_ret (v := .tuple #[.int .i64 (0), .int .i64 1]) (by simp [results, Tryd.results31, go_sem] <;> rfl) rfl ⟨rfl, rfl⟩
set_option maxHeartbeats 400000 in
theorem specGoreMiddle_out (g k : Int) (w : World) (h : goreB g = true) (x : inB k 0 (g - 1) = false) :
    Calls Tryd.prog 31 #[.int .i64 g, .int .i64 k] w fun e w' => e = .returned (.tuple #[.int .i64 (0), .int .i64 2]) ∧ w = w' := by
  obtain ⟨g1, g2, g3, g4, g5, k1⟩ := spanG_facts h
  have hz : g ≠ 0 := by omega
  have hm : g ≠ -1 := by omega
  have w1 : IntKind.i64.wrap (g - 1) = g - 1 := IntWalk.i64_in _ (by omega)
  go_enter Tryd.func31, Tryd.ntmps31
  go_wp2_with (first | (go_at_call 67; refine (l04Ok_any _ _).mono ?_; rintro e w' ⟨rfl, rfl⟩) | (go_at_call 84; refine (l00In_any _ _ _ _).mono ?_; rintro e w' ⟨rfl, rfl⟩))
  exact bodyPost_ret (v := .tuple #[.int .i64 (0), .int .i64 2]) (by simp [results, Tryd.results31, go_sem] <;> rfl) rfl ⟨rfl, rfl⟩
set_option maxHeartbeats 400000 in
theorem specGoreMiddle_yes (g k : Int) (w : World) (h : goreB g = true) (x : inB k 0 (g - 1) = true) (x1 : 0 ≤ k) (x2 : k < g) :
    Calls Tryd.prog 31 #[.int .i64 g, .int .i64 k] w fun e w' => e = .returned (.tuple #[.int .i64 (midL g k), .int .i64 0]) ∧ w = w' := by
  obtain ⟨g1, g2, g3, g4, g5, k1⟩ := spanG_facts h
  have hz : g ≠ 0 := by omega
  have hm : g ≠ -1 := by omega
  have w1 : IntKind.i64.wrap (g - 1) = g - 1 := IntWalk.i64_in _ (by omega)
  obtain ⟨m1, m2, m3, m4, m5, m6, m7⟩ := mid_facts h x1 x2
  go_enter Tryd.func31, Tryd.ntmps31
  go_wp2_with (first | (go_at_call 67; refine (l04Ok_any _ _).mono ?_; rintro e w' ⟨rfl, rfl⟩) | (go_at_call 84; refine (l00In_any _ _ _ _).mono ?_; rintro e w' ⟨rfl, rfl⟩) | (go_at_call 85; refine (l02Wrap_any _ _ (by omega) (by omega)).mono ?_; rintro e w' ⟨rfl, rfl⟩))
  exact bodyPost_ret (v := .tuple #[.int .i64 (midL g k), .int .i64 0]) (by simp [results, Tryd.results31, go_sem] <;> rfl) rfl ⟨rfl, rfl⟩


def inM (g k : Int) : Bool := decide (0 ≤ k ∧ k < g)
theorem inM_eq (g k : Int) : inB k 0 (g - 1) = inM g k := by rw [Bool.eq_iff_iff]; simp [inB, inM]; omega

theorem implGoreSpan_any (n : Int) (w : World) (hG : GV w) :
    Calls Tryd.prog 21 #[.int .i64 n] w fun e w' => e = .returned (.tuple #[.int .i64 (ansG (codeG n true) (spanG n)), .int .i64 (codeG n true)]) ∧ w = w' := by
  cases h : goreB n with
  | false => refine (implGoreSpan_bad _ _ hG h).mono ?_; rintro e w' ⟨rfl, hw⟩; exact ⟨ret_two (by simp [ansG, codeG, h]) (by simp [codeG, h]), hw⟩
  | true => refine (implGoreSpan_yes _ _ hG h).mono ?_; rintro e w' ⟨rfl, hw⟩; exact ⟨ret_two (by simp [ansG, codeG, h]) (by simp [codeG, h]), hw⟩


def codeO (g a b : Int) : Int := if (goreB g && okB a b) = true then 0 else 1


theorem implGoreOf_any (g a b : Int) (w : World) (hG : GV w) :
    Calls Tryd.prog 19 #[.int .i64 g, .agg #[.int .i64 a, .int .i64 b]] w fun e w' => e = .returned (.tuple #[.int .i64 (ansG (codeO g a b) (goreAtL g b)), .int .i64 (codeO g a b)]) ∧ Below w.heap.size w w' := by
  cases h : goreB g with
  | false => refine (implGoreOf_bad _ _ _ _ hG h).mono ?_; rintro e w' ⟨rfl, hw⟩; exact ⟨ret_two (by simp [ansG, codeO, h]) (by simp [codeO, h]), hw⟩
  | true =>
    cases k : okB a b with
    | false => refine (implGoreOf_badP _ _ _ _ hG h k).mono ?_; rintro e w' ⟨rfl, hw⟩; exact ⟨ret_two (by simp [ansG, codeO, h, k]) (by simp [codeO, h, k]), hw⟩
    | true => refine (implGoreOf_yes _ _ _ _ hG h k).mono ?_; rintro e w' ⟨rfl, hw⟩; exact ⟨ret_two (by simp [ansG, codeO, h, k]) (by simp [codeO, h, k]), hw⟩


theorem specGoreSpan_any (n : Int) (w : World)  :
    Calls Tryd.prog 22 #[.int .i64 n] w fun e w' => e = .returned (.tuple #[.int .i64 (ansG (codeG n true) (spanG n)), .int .i64 (codeG n true)]) ∧ w = w' := by
  cases h : goreB n with
  | false => refine (specGoreSpan_bad _ _ h).mono ?_; rintro e w' ⟨rfl, hw⟩; exact ⟨ret_two (by simp [ansG, codeG, h]) (by simp [codeG, h]), hw⟩
  | true => refine (specGoreSpan_yes _ _ h).mono ?_; rintro e w' ⟨rfl, hw⟩; exact ⟨ret_two (by simp [ansG, codeG, h]) (by simp [codeG, h]), hw⟩




theorem specGoreOf_any (g a b : Int) (w : World)  :
    Calls Tryd.prog 20 #[.int .i64 g, .agg #[.int .i64 a, .int .i64 b]] w fun e w' => e = .returned (.tuple #[.int .i64 (ansG (codeO g a b) (goreAtL g b)), .int .i64 (codeO g a b)]) ∧ Below w.heap.size w w' := by
  cases h : goreB g with
  | false => refine (specGoreOf_bad _ _ _ _ h).mono ?_; rintro e w' ⟨rfl, hw⟩; exact ⟨ret_two (by simp [ansG, codeO, h]) (by simp [codeO, h]), hw⟩
  | true =>
    cases k : okB a b with
    | false => refine (specGoreOf_badP _ _ _ _ h k).mono ?_; rintro e w' ⟨rfl, hw⟩; exact ⟨ret_two (by simp [ansG, codeO, h, k]) (by simp [codeO, h, k]), hw⟩
    | true => refine (specGoreOf_yes _ _ _ _ h k).mono ?_; rintro e w' ⟨rfl, hw⟩; exact ⟨ret_two (by simp [ansG, codeO, h, k]) (by simp [codeO, h, k]), hw⟩


theorem implGoreMiddle_any (g k : Int) (w : World) (hG : GV w) :
    Calls Tryd.prog 30 #[.int .i64 g, .int .i64 k] w fun e w' => e = .returned (.tuple #[.int .i64 (ansG (codeG g (inM g k)) (midL g k)), .int .i64 (codeG g (inM g k))]) ∧ w = w' := by
  cases h : goreB g with
  | false =>
    by_cases x1 : k < 0
    · refine (implGoreMiddle_bad0 _ _ _ hG h x1).mono ?_; rintro e w' ⟨rfl, hw⟩; exact ⟨ret_two (by simp [ansG, codeG, h]) (by simp [codeG, h]), hw⟩
    · refine (implGoreMiddle_bad1 _ _ _ hG h (by omega)).mono ?_; rintro e w' ⟨rfl, hw⟩; exact ⟨ret_two (by simp [ansG, codeG, h]) (by simp [codeG, h]), hw⟩
  | true =>
    by_cases x1 : k < 0
    · have x3 : inM g k = false := by simp [inM]; omega
      refine (implGoreMiddle_out0 _ _ _ hG h x1).mono ?_; rintro e w' ⟨rfl, hw⟩; exact ⟨ret_two (by simp [ansG, codeG, h, x3]) (by simp [codeG, h, x3]), hw⟩
    · by_cases x2 : k < g
      · have x3 : inM g k = true := by simp [inM]; omega
        refine (implGoreMiddle_yes _ _ _ hG h (by omega) x2).mono ?_; rintro e w' ⟨rfl, hw⟩; exact ⟨ret_two (by simp [ansG, codeG, h, x3]) (by simp [codeG, h, x3]), hw⟩
      · have x3 : inM g k = false := by simp [inM]; omega
        refine (implGoreMiddle_out1 _ _ _ hG h (by omega) (by omega)).mono ?_; rintro e w' ⟨rfl, hw⟩; exact ⟨ret_two (by simp [ansG, codeG, h, x3]) (by simp [codeG, h, x3]), hw⟩


theorem specGoreMiddle_any (g k : Int) (w : World)  :
    Calls Tryd.prog 31 #[.int .i64 g, .int .i64 k] w fun e w' => e = .returned (.tuple #[.int .i64 (ansG (codeG g (inM g k)) (midL g k)), .int .i64 (codeG g (inM g k))]) ∧ w = w' := by
  cases h : goreB g with
  | false => refine (specGoreMiddle_bad _ _ _ h).mono ?_; rintro e w' ⟨rfl, hw⟩; exact ⟨ret_two (by simp [ansG, codeG, h]) (by simp [codeG, h]), hw⟩
  | true =>
    cases x3 : inM g k with
    | false => refine (specGoreMiddle_out _ _ _ h (by rw [inM_eq]; exact x3)).mono ?_; rintro e w' ⟨rfl, hw⟩; exact ⟨ret_two (by simp [ansG, codeG, h, x3]) (by simp [codeG, h, x3]), hw⟩
    | true =>
      have x4 : 0 ≤ k ∧ k < g := by simpa [inM] using x3
      refine (specGoreMiddle_yes _ _ _ h (by rw [inM_eq]; exact x3) x4.1 x4.2).mono ?_; rintro e w' ⟨rfl, hw⟩; exact ⟨ret_two (by simp [ansG, codeG, h, x3]) (by simp [codeG, h, x3]), hw⟩


/-- The code of gores, a circumference and a parallel. -/
def codeP (g a l : Int) : Int := codeG g (inB a 1 1000000 && inB l (-324000) 324000)

set_option maxHeartbeats 400000 in
theorem l04Code_no (g a l : Int) (w : World) (h : goreB g = false) :
    Calls Tryd.prog 109 #[.int .i64 g, .int .i64 a, .int .i64 l] w fun e w' => e = .returned (.int .i64 (1)) ∧ w = w' := by
  go_enter Tryd.func109, Tryd.ntmps109
  go_wp2_with (first | (go_at_call 67; refine (l04Ok_any _ _).mono ?_; rintro e w' ⟨rfl, rfl⟩) | (go_at_call 84; refine (l00In_any _ _ _ _).mono ?_; rintro e w' ⟨rfl, rfl⟩))
  go_ret
  exact ⟨rfl, rfl⟩

set_option maxHeartbeats 400000 in
theorem l04Code_badA (g a l : Int) (w : World) (h : goreB g = true) (x : inB a 1 1000000 = false) :
    Calls Tryd.prog 109 #[.int .i64 g, .int .i64 a, .int .i64 l] w fun e w' => e = .returned (.int .i64 (2)) ∧ w = w' := by
  go_enter Tryd.func109, Tryd.ntmps109
  go_wp2_with (first | (go_at_call 67; refine (l04Ok_any _ _).mono ?_; rintro e w' ⟨rfl, rfl⟩) | (go_at_call 84; refine (l00In_any _ _ _ _).mono ?_; rintro e w' ⟨rfl, rfl⟩))
  go_ret
  exact ⟨rfl, rfl⟩

set_option maxHeartbeats 400000 in
theorem l04Code_badL (g a l : Int) (w : World) (h : goreB g = true) (x : inB a 1 1000000 = true) (y : inB l (-324000) 324000 = false) :
    Calls Tryd.prog 109 #[.int .i64 g, .int .i64 a, .int .i64 l] w fun e w' => e = .returned (.int .i64 (2)) ∧ w = w' := by
  go_enter Tryd.func109, Tryd.ntmps109
  go_wp2_with (first | (go_at_call 67; refine (l04Ok_any _ _).mono ?_; rintro e w' ⟨rfl, rfl⟩) | (go_at_call 84; refine (l00In_any _ _ _ _).mono ?_; rintro e w' ⟨rfl, rfl⟩))
  go_ret
  exact ⟨rfl, rfl⟩

set_option maxHeartbeats 400000 in
theorem l04Code_yes (g a l : Int) (w : World) (h : goreB g = true) (x : inB a 1 1000000 = true) (y : inB l (-324000) 324000 = true) :
    Calls Tryd.prog 109 #[.int .i64 g, .int .i64 a, .int .i64 l] w fun e w' => e = .returned (.int .i64 (0)) ∧ w = w' := by
  go_enter Tryd.func109, Tryd.ntmps109
  go_wp2_with (first | (go_at_call 67; refine (l04Ok_any _ _).mono ?_; rintro e w' ⟨rfl, rfl⟩) | (go_at_call 84; refine (l00In_any _ _ _ _).mono ?_; rintro e w' ⟨rfl, rfl⟩))
  go_ret
  exact ⟨rfl, rfl⟩
theorem l04Code_any (g a l : Int) (w : World) :
    Calls Tryd.prog 109 #[.int .i64 g, .int .i64 a, .int .i64 l] w fun e w' => e = .returned (.int .i64 (codeP g a l)) ∧ w = w' := by
  cases h : goreB g with
  | false => refine (l04Code_no _ _ _ _ h).mono ?_; rintro e w' ⟨rfl, hw⟩; exact ⟨ret_int (by simp [codeP, codeG, h]), hw⟩
  | true =>
    cases x : inB a 1 1000000 with
    | false => refine (l04Code_badA _ _ _ _ h x).mono ?_; rintro e w' ⟨rfl, hw⟩; exact ⟨ret_int (by simp [codeP, codeG, h, x]), hw⟩
    | true =>
      cases y : inB l (-324000) 324000 with
      | false => refine (l04Code_badL _ _ _ _ h x y).mono ?_; rintro e w' ⟨rfl, hw⟩; exact ⟨ret_int (by simp [codeP, codeG, h, x, y]), hw⟩
      | true => refine (l04Code_yes _ _ _ _ h x y).mono ?_; rintro e w' ⟨rfl, hw⟩; exact ⟨ret_int (by simp [codeP, codeG, h, x, y]), hw⟩


theorem codeP_yes {g a l : Int} (h : codeP g a l = 0) : goreB g = true ∧ 1 ≤ a ∧ a ≤ 1000000 ∧ -324000 ≤ l ∧ l ≤ 324000 := by
  cases h1 : goreB g <;> cases x : inB a 1 1000000 <;> cases y : inB l (-324000) 324000 <;> simp [codeP, codeG, h1, x, y] at h
  obtain ⟨a1, a2⟩ := inB_of x
  obtain ⟨l1, l2⟩ := inB_of y
  exact ⟨rfl, a1, a2, l1, l2⟩
theorem codeG_cases (g : Int) (b : Bool) : codeG g b = 0 ∨ codeG g b = 1 ∨ codeG g b = 2 := by
  simp only [codeG]; split
  · split <;> simp
  · simp





end Go.Proofs.YtbnihalbepffoaaDoor.sines
