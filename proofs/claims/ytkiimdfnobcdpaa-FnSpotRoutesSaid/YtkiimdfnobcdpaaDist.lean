/- The cosine of the distance and the distance of two places: what is reckoned; contracts of the program and of the model. -/
import Derived.Test.YtkiimdfnobcdpaaArc
import Derived.BigQuiet
import Derived.Lib.Hide
namespace Go.Proofs.Ytkiimdfnobcdpaa.sines
open Go.ChangeShapes Go.WideShapes Go.ChangeAt Go.RowKit Go.Proofs.Ytkiimdfnobcdpaa.spots

theorem sineL_mod (n m : Int) (h : n % 1296000 = m % 1296000) : sineL n = sineL m := by simp only [sineL, h]
theorem sineL_even (t : Int) : sineL (324000 + t) = sineL (324000 - t) := by
  have key : ∀ x y : Int, x = (324000 + t) % 1296000 → y = (324000 - t) % 1296000 → (if x ≤ 648000 then sH x else - sH (x - 648000)) = (if y ≤ 648000 then sH y else - sH (y - 648000)) := by
    intro x y hx hy
    have h1 : 0 ≤ x ∧ x < 1296000 := by omega
    have h2 : 0 ≤ y ∧ y < 1296000 := by omega
    have h3 : x + y = 648000 ∨ x + y = 1944000 := by omega
    by_cases hh : x ≤ 648000
    · by_cases hk : y ≤ 648000
      · rw [if_pos hh, if_pos hk, show x = 648000 - y by omega, sH_half_sym]
      · omega
    · by_cases hk : y ≤ 648000
      · omega
      · rw [if_neg hh, if_neg hk, show x - 648000 = 648000 - (y - 648000) by omega, sH_half_sym]
  simpa only [sineL] using key _ _ rfl rfl
theorem sineL_neg (t : Int) : sineL (-t) = - sineL t := by
  have key : ∀ x y : Int, x = (-t) % 1296000 → y = t % 1296000 → (if x ≤ 648000 then sH x else - sH (x - 648000)) = - (if y ≤ 648000 then sH y else - sH (y - 648000)) := by
    intro x y hx hy
    have h1 : 0 ≤ x ∧ x < 1296000 := by omega
    have h2 : 0 ≤ y ∧ y < 1296000 := by omega
    have h3 : (x = 0 ∧ y = 0) ∨ x + y = 1296000 := by omega
    rcases h3 with ⟨rfl, rfl⟩ | h3
    · simp [sH_zero]
    · by_cases hx2 : x = 648000
      · obtain rfl : y = 648000 := by omega
        subst hx2
        simp [sH_half]
      · by_cases hh : x ≤ 648000
        · rw [if_pos hh, if_neg (by omega), show y - 648000 = 648000 - x by omega, sH_half_sym]; omega
        · rw [if_neg hh, if_pos (by omega), show x - 648000 = 648000 - y by omega, sH_half_sym]
  simpa only [sineL] using key _ _ rfl rfl
/-- The cosine of the distance. -/
def sumD (a b c d : Int) : Int := sineL a * sineL c * 1000000 + sineL (a + 324000) * sineL (c + 324000) * sineL (d - b + 324000)
def cosD (a b c d : Int) : Int := max (-1000000) (min 1000000 (sumD a b c d / 1000000000000))
def distL (a b c d : Int) : Int := if a = c ∧ b = d then 0 else if 0 ≤ cosD a b c d then 324000 - (arcN (cosD a b c d) : Int) else 324000 + (arcN (- cosD a b c d) : Int)
theorem cosD_bounds (a b c d : Int) : -1000000 ≤ cosD a b c d ∧ cosD a b c d ≤ 1000000 := by simp only [cosD]; omega
theorem arc_small {s : Int} (h : s ≤ 1000000) : arcN s ≤ 323796 := by
  have h1 : sineL 323796 = 1000000 := by decide +kernel
  have e := arcG_le 323796 s
  have : arcN s = arcG 323796 s := by
    have g : ∀ m : Nat, m ≤ 204 → arcG (323796 + m) s = arcG 323796 s := by
      intro m
      induction m with
      | zero => intro _; rfl
      | succ m ih =>
        intro hm
        have h2 := sine_le (x := 323796) (y := 323796 + (m : Int)) (by omega) (by omega) (by omega)
        have h3 := ih (by omega)
        unfold arcG at h3 ⊢
        rw [show 323796 + (m + 1) = (323796 + m) + 1 by omega, List.range_succ, List.countP_append, h3]
        have : decide (s ≤ sineL (323796 + (m : Int))) = true := by simp only [decide_eq_true_eq]; omega
        simp [List.countP_cons]
        omega
    exact g 204 (by omega)
  omega
theorem arc_pos {s : Int} (h : 0 < s) : 1 ≤ arcN s := by
  have h0 : sineL 0 = 0 := by decide +kernel
  unfold arcN arcG
  rw [show (324000 : Nat) = 1 + 323999 by rfl, List.range_add, List.countP_append]
  have : (List.range 1).countP (fun i : Nat => !decide (s ≤ sineL (i : Int))) = 1 := by
    simp [List.range_succ, h0, List.countP_cons]; omega
  omega
theorem distL_bounds (a b c d : Int) : 0 ≤ distL a b c d ∧ distL a b c d ≤ 648000 := by
  obtain ⟨h1, h2⟩ := cosD_bounds a b c d
  simp only [distL]
  split
  · omega
  · split
    · have := arc_small (s := cosD a b c d) h2; omega
    · have := arc_small (s := - cosD a b c d) (by omega); omega
theorem distL_pos {a b c d : Int} (h : ¬ (a = c ∧ b = d)) : 1 ≤ distL a b c d := by
  obtain ⟨h1, h2⟩ := cosD_bounds a b c d
  simp only [distL, if_neg h]
  split
  · have := arc_small (s := cosD a b c d) h2; omega
  · omega
theorem distL_self (a b : Int) : distL a b a b = 0 := by simp [distL]
theorem sumD_sym (a b c d : Int) : sumD a b c d = sumD c d a b := by
  have e := sineL_even (d - b)
  rw [show 324000 + (d - b) = d - b + 324000 by omega, show 324000 - (d - b) = b - d + 324000 by omega] at e
  simp only [sumD, e]
  rw [Int.mul_comm (sineL a) (sineL c), Int.mul_comm (sineL (a + 324000)) (sineL (c + 324000))]
theorem cosD_sym (a b c d : Int) : cosD a b c d = cosD c d a b := by simp only [cosD, sumD_sym a b c d]
theorem distL_sym (a b c d : Int) : distL a b c d = distL c d a b := by
  simp only [distL, cosD_sym a b c d]
  by_cases h : a = c ∧ b = d
  · rw [if_pos h, if_pos ⟨h.1.symm, h.2.symm⟩]
  · have h' : ¬ (c = a ∧ d = b) := fun e => h ⟨e.1.symm, e.2.symm⟩
    rw [if_neg h, if_neg h']
theorem sumD_bounds (a b c d : Int) : -2000000000000000000 ≤ sumD a b c d ∧ sumD a b c d ≤ 2000000000000000000 ∧
    -1000000000000 ≤ sineL a * sineL c ∧ sineL a * sineL c ≤ 1000000000000 ∧
    -1000000000000 ≤ sineL (a + 324000) * sineL (c + 324000) ∧ sineL (a + 324000) * sineL (c + 324000) ≤ 1000000000000 ∧
    -1000000000000000000 ≤ sineL (a + 324000) * sineL (c + 324000) * sineL (d - b + 324000) ∧ sineL (a + 324000) * sineL (c + 324000) * sineL (d - b + 324000) ≤ 1000000000000000000 := by
  have mb : ∀ x y X Y : Int, 0 ≤ X → 0 ≤ Y → -X ≤ x → x ≤ X → -Y ≤ y → y ≤ Y → -(X * Y) ≤ x * y ∧ x * y ≤ X * Y := by
    intro x y X Y hX hY h1 h2 h3 h4
    have hn : (x * y).natAbs ≤ (X * Y).natAbs := by
      rw [Int.natAbs_mul, Int.natAbs_mul]
      exact Nat.mul_le_mul (by omega) (by omega)
    have hp : 0 ≤ X * Y := Int.mul_nonneg hX hY
    omega
  obtain ⟨a1, a2⟩ := sineL_bounds a
  obtain ⟨c1, c2⟩ := sineL_bounds c
  obtain ⟨e1, e2⟩ := sineL_bounds (a + 324000)
  obtain ⟨f1, f2⟩ := sineL_bounds (c + 324000)
  obtain ⟨g1, g2⟩ := sineL_bounds (d - b + 324000)
  have p := mb _ _ 1000000 1000000 (by omega) (by omega) a1 a2 c1 c2
  have q := mb _ _ 1000000 1000000 (by omega) (by omega) e1 e2 f1 f2
  have r := mb _ _ (1000000 * 1000000) 1000000 (by omega) (by omega) q.1 q.2 g1 g2
  simp only [sumD]
  omega
theorem sumD_turn (a b c d n : Int) : sumD a (wrapL (b + n)) c (wrapL (d + n)) = sumD a b c d := by
  have : sineL (wrapL (d + n) - wrapL (b + n) + 324000) = sineL (d - b + 324000) := sineL_mod _ _ (by simp only [wrapL]; omega)
  simp only [sumD, this]
theorem distL_turn (a b c d n : Int) (hb : -648000 ≤ b ∧ b ≤ 647999) (hd : -648000 ≤ d ∧ d ≤ 647999) : distL a (wrapL (b + n)) c (wrapL (d + n)) = distL a b c d := by
  have e : (a = c ∧ wrapL (b + n) = wrapL (d + n)) ↔ (a = c ∧ b = d) := by
    simp only [wrapL]; omega
  have g : cosD a (wrapL (b + n)) c (wrapL (d + n)) = cosD a b c d := by simp only [cosD, sumD_turn]
  unfold distL
  rw [g]
  by_cases h : a = c ∧ b = d
  · rw [if_pos h, if_pos (e.2 h)]
  · rw [if_neg h, if_neg (fun k => h (e.1 k))]
theorem sumD_mirror (a b c d : Int) : sumD (-a) b (-c) d = sumD a b c d := by
  have h1 : ∀ x : Int, sineL (-x + 324000) = sineL (x + 324000) := fun x => by
    have := sineL_even x
    rw [show -x + 324000 = 324000 - x by omega, ← this, Int.add_comm]
  simp only [sumD, h1, sineL_neg, Int.neg_mul_neg]
theorem distL_mirror (a b c d : Int) : distL (-a) b (-c) d = distL a b c d := by
  have e : (-a = -c ∧ b = d) ↔ (a = c ∧ b = d) := by omega
  have g : cosD (-a) b (-c) d = cosD a b c d := by simp only [cosD, sumD_mirror]
  unfold distL
  rw [g]
  by_cases h : a = c ∧ b = d
  · rw [if_pos h, if_pos (e.2 h)]
  · rw [if_neg h, if_neg (fun k => h (e.1 k))]
theorem distL_side {a b c d : Int} (h : ¬ (a = c ∧ b = d)) : (0 ≤ cosD a b c d) ↔ (distL a b c d ≤ 324000) := by
  obtain ⟨h1, h2⟩ := cosD_bounds a b c d
  simp only [distL, if_neg h]
  by_cases hc : 0 ≤ cosD a b c d
  · rw [if_pos hc]
    have := arc_small (s := cosD a b c d) h2
    constructor <;> intro <;> omega
  · rw [if_neg hc]
    have := arc_pos (s := - cosD a b c d) (by omega)
    constructor <;> intro <;> omega

theorem okB_of' {a b : Int} (h : okB a b = true) : -324000 ≤ a ∧ a ≤ 324000 ∧ -648000 ≤ b ∧ b ≤ 647999 := by simpa [okB] using h
theorem below_two (w : World) (o1 o2 : Obj) : Below w.heap.size w ((w.alloc o1).alloc o2) := ((Below.refl _ w).alloc (Nat.le_refl _) _).alloc (by simp) _
theorem bdq {B : Nat} {a w : World} (h : Below B a w) (q : Nat) : Below B a (w.drewN q) := ⟨h.os, h.tape, h.output, h.size, h.block⟩

set_option maxHeartbeats 1000000 in
theorem cosBetween_any (a b c d : Int) (w : World) (ha : okB a b = true) (hc : okB c d = true) :
    Calls Try.prog 60 #[.agg #[.int .i64 a, .int .i64 b], .agg #[.int .i64 c, .int .i64 d]] w fun e w' => e = .returned (.int .i64 (cosD a b c d)) ∧ Below w.heap.size w w' := by
  obtain ⟨a1, a2, a3, a4⟩ := okB_of' ha
  obtain ⟨c1, c2, c3, c4⟩ := okB_of' hc
  obtain ⟨t1, t2, p1, p2, q1, q2, r1, r2⟩ := sumD_bounds a b c d
  obtain ⟨p, hp⟩ : ∃ p, Hid (sineL a * sineL c = p) := ⟨_, Lib.hid rfl⟩
  obtain ⟨q, hq⟩ : ∃ q, Hid (sineL (a + 324000) * sineL (c + 324000) = q) := ⟨_, Lib.hid rfl⟩
  obtain ⟨r, hr⟩ : ∃ r, Hid (q * sineL (d - b + 324000) = r) := ⟨_, Lib.hid rfl⟩
  have hS : sumD a b c d = p * 1000000 + r := by simp only [sumD, hp.out, hq.out, hr.out]
  have HS := Lib.hid hS
  rw [hq.out, hr.out] at r1 r2
  rw [hp.out] at p1 p2
  rw [hq.out] at q1 q2
  rw [hS] at t1 t2
  clear hS
  have k1 : IntKind.i64.wrap (sineL a * sineL c) = p := by rw [hp.out]; exact IntWalk.i64_in _ (by omega)
  have k3 : IntKind.i64.wrap (sineL (a + 324000) * sineL (c + 324000)) = q := by rw [hq.out]; exact IntWalk.i64_in _ (by omega)
  have k4 : IntKind.i64.wrap (q * sineL (d - b + 324000)) = r := by rw [hr.out]; exact IntWalk.i64_in _ (by omega)
  clear ha hc
  go_enter Try.func60, Try.ntmps60
  go_wp2
  go_quiet ((go_at_call 71; exact Calls.quiet_of_same ((sineAt_any _ _ (by omega) (by omega)).mono fun _ _ h => ⟨h.1, h.2.symm⟩)))
  all_goals go_wp2
  all_goals go_quiet ((go_at_call 72; exact (cosineAt_any _ _ (by omega) (by omega)).mono fun _ _ h => ⟨h.1, _, h.2.symm⟩))
  all_goals go_wp2_with (go_at_call 73; refine (floorQuotient_any _ _ _ (by omega) (by omega) (by omega) (by omega)).mono ?_; rintro e w' ⟨rfl, rfl⟩)
  all_goals go_ret
  all_goals exact ⟨ret_int (by simp only [cosD, HS.out]; omega), bdq (below_two _ _ _) _⟩

theorem l00Min_v (a b : Int) (w : World) :
    Calls Try.prog 69 #[.int .i64 a, .int .i64 b] w fun e w' => e = .returned (.int .i64 (min a b)) ∧ w = w' := by
  by_cases h : a < b
  · go_enter Try.func69, Try.ntmps69
    go_wp2
    go_ret
    exact ⟨ret_int (by omega), rfl⟩
  · go_enter Try.func69, Try.ntmps69
    go_wp2
    go_ret
    exact ⟨ret_int (by omega), rfl⟩

theorem l00Max_v (a b : Int) (w : World) :
    Calls Try.prog 55 #[.int .i64 a, .int .i64 b] w fun e w' => e = .returned (.int .i64 (max a b)) ∧ w = w' := by
  by_cases h : b < a
  · go_enter Try.func55, Try.ntmps55
    go_wp2
    go_ret
    exact ⟨ret_int (by omega), rfl⟩
  · go_enter Try.func55, Try.ntmps55
    go_wp2
    go_ret
    exact ⟨ret_int (by omega), rfl⟩

set_option maxHeartbeats 1000000 in
theorem l05Cos_any (a b c d : Int) (w : World) (ha : okB a b = true) (hc : okB c d = true) :
    Calls Try.prog 54 #[.agg #[.int .i64 a, .int .i64 b], .agg #[.int .i64 c, .int .i64 d]] w fun e w' => e = .returned (.int .i64 (cosD a b c d)) ∧ Below w.heap.size w w' := by
  obtain ⟨a1, a2, a3, a4⟩ := okB_of' ha
  obtain ⟨c1, c2, c3, c4⟩ := okB_of' hc
  obtain ⟨t1, t2, p1, p2, q1, q2, r1, r2⟩ := sumD_bounds a b c d
  obtain ⟨p, hp⟩ : ∃ p, Hid (sineL a * sineL c = p) := ⟨_, Lib.hid rfl⟩
  obtain ⟨q, hq⟩ : ∃ q, Hid (sineL (a + 324000) * sineL (c + 324000) = q) := ⟨_, Lib.hid rfl⟩
  obtain ⟨r, hr⟩ : ∃ r, Hid (q * sineL (d - b + 324000) = r) := ⟨_, Lib.hid rfl⟩
  have hS : sumD a b c d = p * 1000000 + r := by simp only [sumD, hp.out, hq.out, hr.out]
  have HS := Lib.hid hS
  rw [hq.out, hr.out] at r1 r2
  rw [hp.out] at p1 p2
  rw [hq.out] at q1 q2
  rw [hS] at t1 t2
  clear hS
  have k1 : IntKind.i64.wrap (sineL a * sineL c) = p := by rw [hp.out]; exact IntWalk.i64_in _ (by omega)
  have k3 : IntKind.i64.wrap (sineL (a + 324000) * sineL (c + 324000)) = q := by rw [hq.out]; exact IntWalk.i64_in _ (by omega)
  have k4 : IntKind.i64.wrap (q * sineL (d - b + 324000)) = r := by rw [hr.out]; exact IntWalk.i64_in _ (by omega)
  clear ha hc
  go_enter Try.func54, Try.ntmps54
  go_wp2
  go_quiet ((go_at_call 67; exact Calls.quiet_of_same ((l03Sine_any _ _).mono fun _ _ h => ⟨h.1, h.2.symm⟩)))
  all_goals go_wp2
  all_goals go_quiet ((go_at_call 68; exact (l03Cosine_any _ _ (by omega) (by omega)).mono fun _ _ h => ⟨h.1, _, h.2.symm⟩))
  go_wp2_with fail
  refine (l03Cosine_any _ _ (by omega) (by omega)).mono ?_
  rintro e w' ⟨rfl, rfl⟩
  go_wp2_with fail
  refine (l00Floor_any _ _ _ (by omega) (by omega) (by omega) (by omega)).mono ?_
  rintro e w' ⟨rfl, rfl⟩
  go_wp2_with fail
  refine (l00Min_v _ _ _).mono ?_
  rintro e w' ⟨rfl, rfl⟩
  go_wp2_with fail
  refine (l00Max_v _ _ _).mono ?_
  rintro e w' ⟨rfl, rfl⟩
  go_wp2
  go_ret
  exact ⟨ret_int (by simp only [cosD, HS.out]), bdq (below_two _ _ _) _⟩

end Go.Proofs.Ytkiimdfnobcdpaa.sines
