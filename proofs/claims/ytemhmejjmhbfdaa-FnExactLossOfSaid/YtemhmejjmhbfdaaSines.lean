/- Sines by the rule: what is reckoned, and the contracts of the small functions, of the program and of the model. -/
import Derived.Test.YtemhmejjmhbfdaaSpots
import Derived.Deep.RegionWith
import Derived.IntWalk
namespace Go.Proofs.Ytemhmejjmhbfdaa.sines
open Go.ChangeShapes Go.WideShapes Go.ChangeAt Go.RowKit Go.Proofs.Ytemhmejjmhbfdaa.spots

def near (n d : Int) : Int := (2 * n + d) / (2 * d)
def bow (x : Int) : Int := x * (648000 - x)
def sH (x : Int) : Int := near (16000000 * bow x) (2099520000000 - 4 * bow x)
def sineL (n : Int) : Int := if n % 1296000 ≤ 648000 then sH (n % 1296000) else - sH (n % 1296000 - 648000)

theorem floor_of (n d : Int) (hd : 0 < d) : n / d = (if n.tmod d < 0 then n.tdiv d - 1 else n.tdiv d) := by
  rw [Int.tmod_eq_emod, Int.tdiv_eq_ediv]
  have h1 := Int.emod_nonneg n (show d ≠ 0 by omega)
  have h2 := Int.emod_lt_of_pos n hd
  have hs : d.sign = 1 := Int.sign_eq_one_of_pos hd
  have hn : (d.natAbs : Int) = d := by omega
  by_cases h0 : 0 ≤ n
  · simp [h0]; omega
  · by_cases hv : d ∣ n
    · simp [hv]; omega
    · simp only [h0, hv, or_self, if_false, hs, hn]
      split <;> omega

theorem div_small (n d : Int) : (n.tdiv d).natAbs ≤ n.natAbs := by
  rw [Int.natAbs_tdiv]; exact Nat.div_le_self _ _

theorem tmod_small (n d : Int) (hd : 0 < d) : -d < n.tmod d ∧ n.tmod d < d := by
  have h1 := Int.tmod_lt_of_pos n hd
  refine ⟨?_, h1⟩
  rw [Int.tmod_eq_emod]
  have h3 := Int.emod_nonneg n (show d ≠ 0 by omega)
  have h4 := Int.emod_lt_of_pos n hd
  split <;> omega

theorem bow_bounds (x : Int) (h1 : 0 ≤ x) (h2 : x ≤ 648000) : 0 ≤ bow x ∧ bow x ≤ 104976000000 := by
  refine ⟨Int.mul_nonneg h1 (by omega), ?_⟩
  have hsq : 0 ≤ (x - 324000) * (x - 324000) := by
    rcases Int.le_total 0 (x - 324000) with h | h
    · exact Int.mul_nonneg h h
    · have := Int.mul_nonneg (show 0 ≤ -(x - 324000) by omega) (show 0 ≤ -(x - 324000) by omega)
      rwa [Int.neg_mul_neg] at this
  have e : bow x = 104976000000 - (x - 324000) * (x - 324000) := by
    simp only [bow, Int.mul_sub, Int.sub_mul]; omega
  omega

theorem near_nonneg {n d : Int} (h1 : 0 ≤ n) (h2 : 0 < d) : 0 ≤ near n d := by
  exact Int.ediv_nonneg (by omega) (by omega)
theorem near_le {n d : Int} (m : Int) (h2 : 0 < d) (h : n ≤ m * d) : near n d ≤ m := by
  have h3 : (2 * n + d) / (2 * d) < m + 1 := by
    apply Int.ediv_lt_of_lt_mul (by omega)
    have : (m + 1) * (2 * d) = 2 * (m * d) + 2 * d := by
      rw [Int.add_mul, Int.mul_left_comm]; omega
    omega
  simp only [near]; omega
theorem near_ge {n d : Int} (m : Int) (h2 : 0 < d) (h : m * d ≤ n) : m ≤ near n d := by
  apply (Int.le_ediv_iff_mul_le (by omega)).2
  rw [Int.mul_left_comm]; omega
theorem near_mono {a b c d : Int} (hb : 0 < b) (hd : 0 < d) (h : a * d ≤ c * b) : near a b ≤ near c d := by
  have h1 : near a b * (2 * b) ≤ 2 * a + b := Int.ediv_mul_le _ (by omega)
  apply (Int.le_ediv_iff_mul_le (by omega)).2
  apply Int.le_of_mul_le_mul_right (a := b) _ hb
  have h2 := Int.mul_le_mul_of_nonneg_right h1 (show 0 ≤ d by omega)
  have e1 : near a b * (2 * d) * b = near a b * (2 * b) * d := by
    simp only [Int.mul_assoc, Int.mul_comm, Int.mul_left_comm]
  have e2 : (2 * a + b) * d = 2 * (a * d) + b * d := by rw [Int.add_mul, Int.mul_assoc]
  have e3 : (2 * c + d) * b = 2 * (c * b) + d * b := by rw [Int.add_mul, Int.mul_assoc]
  have e4 := Int.mul_comm b d
  omega

theorem sH_bounds (x : Int) (h1 : 0 ≤ x) (h2 : x ≤ 648000) : 0 ≤ sH x ∧ sH x ≤ 1000000 := by
  obtain ⟨b1, b2⟩ := bow_bounds x h1 h2
  refine ⟨near_nonneg (by omega) (by omega), near_le _ (by omega) (by omega)⟩

theorem sineL_bounds (n : Int) : -1000000 ≤ sineL n ∧ sineL n ≤ 1000000 := by
  have h1 := Int.emod_nonneg n (show (1296000 : Int) ≠ 0 by omega)
  have h2 := Int.emod_lt_of_pos n (show (0 : Int) < 1296000 by omega)
  simp only [sineL]
  split
  · have := sH_bounds (n % 1296000) h1 (by omega); omega
  · have := sH_bounds (n % 1296000 - 648000) (by omega) (by omega); omega

theorem bow_mono {x y : Int} (h1 : x ≤ y) (h2 : y ≤ 324000) : bow x ≤ bow y := by
  have h := Int.mul_nonneg (show 0 ≤ y - x by omega) (show 0 ≤ 648000 - y - x by omega)
  have e : bow y - bow x = (y - x) * (648000 - y - x) := by
    simp only [bow, Int.mul_sub, Int.sub_mul]; have := Int.mul_comm x y; omega
  omega

theorem sH_mono {x y : Int} (h0 : 0 ≤ x) (h1 : x ≤ y) (h2 : y ≤ 324000) : sH x ≤ sH y := by
  have hb := bow_mono h1 h2
  obtain ⟨b1, b2⟩ := bow_bounds x h0 (by omega)
  obtain ⟨c1, c2⟩ := bow_bounds y (by omega) (by omega)
  apply near_mono (by omega) (by omega)
  have e1 : 16000000 * bow x * (2099520000000 - 4 * bow y) = 16000000 * (bow x * 2099520000000) - 16000000 * (4 * (bow x * bow y)) := by
    rw [Int.mul_assoc, Int.mul_sub, Int.mul_sub, Int.mul_left_comm (bow x) 4]
  have e2 : 16000000 * bow y * (2099520000000 - 4 * bow x) = 16000000 * (bow y * 2099520000000) - 16000000 * (4 * (bow x * bow y)) := by
    rw [Int.mul_assoc, Int.mul_sub, Int.mul_sub, Int.mul_left_comm (bow y) 4, Int.mul_comm (bow y) (bow x)]
  omega

theorem sH_half_sym (x : Int) : sH (648000 - x) = sH x := by
  have : bow (648000 - x) = bow x := by
    simp only [bow]; rw [Int.mul_comm]; congr 1; omega
  simp only [sH, this]

theorem sineL_quarter {x : Int} (h0 : 0 ≤ x) (h1 : x ≤ 648000) : sineL x = sH x := by
  have : x % 1296000 = x := Int.emod_eq_of_lt h0 (by omega)
  simp only [sineL, this, if_pos h1]
theorem sH_quarter : sH 324000 = 1000000 := by decide +kernel
theorem sH_half : sH 648000 = 0 := by decide +kernel
theorem sH_zero : sH 0 = 0 := by decide +kernel
/-- What the program reckons: the wrapped angle. -/
theorem sineL_wrap (n w : Int) (hw : w = (n + 648000) % 1296000 - 648000) : sineL n = if w < 0 then - sH (w + 648000) else sH w := by
  subst hw
  simp only [sineL]
  have h1 := Int.emod_nonneg n (show (1296000 : Int) ≠ 0 by omega)
  have h2 := Int.emod_lt_of_pos n (show (0 : Int) < 1296000 by omega)
  by_cases hh : n % 1296000 < 648000
  · have e : (n + 648000) % 1296000 - 648000 = n % 1296000 := by omega
    rw [e, if_pos (by omega), if_neg (by omega)]
  · have e : (n + 648000) % 1296000 - 648000 = n % 1296000 - 1296000 := by omega
    rw [e, if_pos (by omega : n % 1296000 - 1296000 < 0)]
    by_cases h3 : n % 1296000 = 648000
    · rw [if_pos (by omega), h3]; decide +kernel
    · rw [if_neg (by omega)]; congr 2; omega

def inB (n a b : Int) : Bool := decide (a ≤ n ∧ n ≤ b)
theorem inB_of {n a b : Int} (h : inB n a b = true) : a ≤ n ∧ n ≤ b := by simpa [inB] using h

theorem within_any (n a b : Int) (w : World) :
    Calls Try.prog 107 #[.int .i64 n, .int .i64 a, .int .i64 b] w fun e w' => e = .returned (.bool (inB n a b)) ∧ w = w' := by
  by_cases h1 : a ≤ n
  · by_cases h2 : n ≤ b
    · go_enter Try.func107, Try.ntmps107
      go_wp2
      all_goals (go_ret; exact ⟨ret_bool (by rw [Bool.eq_iff_iff]; simp [inB]; omega), rfl⟩)
    · go_enter Try.func107, Try.ntmps107
      go_wp2
      all_goals (go_ret; exact ⟨ret_bool (by rw [Bool.eq_iff_iff]; simp [inB]; omega), rfl⟩)
  · have h1' : decide (a ≤ n) = false := by simpa using h1
    go_enter Try.func107, Try.ntmps107
    go_wp2
    all_goals (go_ret; exact ⟨ret_bool (by rw [Bool.eq_iff_iff]; simp [inB]; omega), rfl⟩)



theorem l00In_any (n a b : Int) (w : World) :
    Calls Try.prog 88 #[.int .i64 n, .int .i64 a, .int .i64 b] w fun e w' => e = .returned (.bool (inB n a b)) ∧ w = w' := by
  by_cases h1 : a ≤ n
  · by_cases h2 : n ≤ b
    · go_enter Try.func88, Try.ntmps88
      go_wp2
      all_goals (go_ret; exact ⟨ret_bool (by rw [Bool.eq_iff_iff]; simp [inB]; omega), rfl⟩)
    · go_enter Try.func88, Try.ntmps88
      go_wp2
      all_goals (go_ret; exact ⟨ret_bool (by rw [Bool.eq_iff_iff]; simp [inB]; omega), rfl⟩)
  · have h1' : decide (a ≤ n) = false := by simpa using h1
    go_enter Try.func88, Try.ntmps88
    go_wp2
    all_goals (go_ret; exact ⟨ret_bool (by rw [Bool.eq_iff_iff]; simp [inB]; omega), rfl⟩)






theorem floorQuotient_any (n d : Int) (w : World) (hd : 0 < d) (h1 : -9000000000000000000 ≤ n) (h2 : n ≤ 9000000000000000000) (h3 : d ≤ 9000000000000000000) :
    Calls Try.prog 159 #[.int .i64 n, .int .i64 d] w fun e w' => e = .returned (.int .i64 (n / d)) ∧ w = w' := by
  have E := Lib.hid (floor_of n d hd)
  have b := div_small n d
  obtain ⟨t1, t2⟩ := tmod_small n d hd
  have k1 : IntKind.i64.wrap (n.tdiv d) = n.tdiv d := IntWalk.i64_in _ (by omega)
  have k2 : IntKind.i64.wrap (n.tmod d) = n.tmod d := IntWalk.i64_in _ (by omega)
  have k3 : IntKind.i64.wrap (n.tdiv d - 1) = n.tdiv d - 1 := IntWalk.i64_in _ (by omega)
  have hz : d ≠ 0 := by omega
  have hm : d ≠ -1 := by omega
  by_cases h : n.tmod d < 0
  · go_enter Try.func159, Try.ntmps159
    go_wp2
    go_ret
    exact ⟨ret_int (by rw [E.out, if_pos h]), rfl⟩
  · go_enter Try.func159, Try.ntmps159
    go_wp2
    go_ret
    exact ⟨ret_int (by rw [E.out, if_neg (by omega)]), rfl⟩



theorem l00Floor_any (n d : Int) (w : World) (hd : 0 < d) (h1 : -9000000000000000000 ≤ n) (h2 : n ≤ 9000000000000000000) (h3 : d ≤ 9000000000000000000) :
    Calls Try.prog 161 #[.int .i64 n, .int .i64 d] w fun e w' => e = .returned (.int .i64 (n / d)) ∧ w = w' := by
  have E := Lib.hid (floor_of n d hd)
  have b := div_small n d
  obtain ⟨t1, t2⟩ := tmod_small n d hd
  have k1 : IntKind.i64.wrap (n.tdiv d) = n.tdiv d := IntWalk.i64_in _ (by omega)
  have k2 : IntKind.i64.wrap (n.tmod d) = n.tmod d := IntWalk.i64_in _ (by omega)
  have k3 : IntKind.i64.wrap (n.tdiv d - 1) = n.tdiv d - 1 := IntWalk.i64_in _ (by omega)
  have hz : d ≠ 0 := by omega
  have hm : d ≠ -1 := by omega
  by_cases h : n.tmod d < 0
  · go_enter Try.func161, Try.ntmps161
    go_wp2
    go_ret
    exact ⟨ret_int (by rw [E.out, if_pos h]), rfl⟩
  · go_enter Try.func161, Try.ntmps161
    go_wp2
    go_ret
    exact ⟨ret_int (by rw [E.out, if_neg (by omega)]), rfl⟩



theorem nearest_any (n d : Int) (w : World) (hd : 0 < d) (h1 : -2000000000000000000 ≤ n) (h2 : n ≤ 2000000000000000000) (h3 : d ≤ 1000000000000000000) :
    Calls Try.prog 117 #[.int .i64 n, .int .i64 d] w fun e w' => e = .returned (.int .i64 (near n d)) ∧ w = w' := by
  have k1 : IntKind.i64.wrap (2 * n + d) = 2 * n + d := IntWalk.i64_in _ (by omega)
  have k2 : IntKind.i64.wrap (2 * n) = 2 * n := IntWalk.i64_in _ (by omega)
  have k3 : IntKind.i64.wrap (2 * d) = 2 * d := IntWalk.i64_in _ (by omega)
  go_enter Try.func117, Try.ntmps117
  go_wp2_with (go_at_call 159; refine (floorQuotient_any _ _ _ (by omega) (by omega) (by omega) (by omega)).mono ?_; rintro e w' ⟨rfl, rfl⟩)
  go_ret
  exact ⟨rfl, rfl⟩



theorem l00Round_any (n d : Int) (w : World) (hd : 0 < d) (h1 : -2000000000000000000 ≤ n) (h2 : n ≤ 2000000000000000000) (h3 : d ≤ 1000000000000000000) :
    Calls Try.prog 119 #[.int .i64 n, .int .i64 d] w fun e w' => e = .returned (.int .i64 (near n d)) ∧ w = w' := by
  have k1 : IntKind.i64.wrap (2 * n + d) = 2 * n + d := IntWalk.i64_in _ (by omega)
  have k2 : IntKind.i64.wrap (2 * n) = 2 * n := IntWalk.i64_in _ (by omega)
  have k3 : IntKind.i64.wrap (2 * d) = 2 * d := IntWalk.i64_in _ (by omega)
  go_enter Try.func119, Try.ntmps119
  go_wp2_with (go_at_call 161; refine (l00Floor_any _ _ _ (by omega) (by omega) (by omega) (by omega)).mono ?_; rintro e w' ⟨rfl, rfl⟩)
  go_ret
  exact ⟨rfl, rfl⟩



theorem nearest_neg (n d : Int) (w : World) (hd : d < 0) (h1 : -2000000000000000000 ≤ n) (h2 : n ≤ 2000000000000000000) (h3 : -1000000000000000000 ≤ d) :
    Calls Try.prog 117 #[.int .i64 n, .int .i64 d] w fun e w' => e = .returned (.int .i64 (near (-n) (-d))) ∧ w = w' := by
  have k0 : IntKind.i64.wrap (-n) = -n := IntWalk.i64_in _ (by omega)
  have k0' : IntKind.i64.wrap (-d) = -d := IntWalk.i64_in _ (by omega)
  have k1 : IntKind.i64.wrap (2 * -n + -d) = 2 * -n + -d := IntWalk.i64_in _ (by omega)
  have k2 : IntKind.i64.wrap (2 * -n) = 2 * -n := IntWalk.i64_in _ (by omega)
  have k3 : IntKind.i64.wrap (2 * -d) = 2 * -d := IntWalk.i64_in _ (by omega)
  go_enter Try.func117, Try.ntmps117
  go_wp2_with (go_at_call 159; refine (floorQuotient_any _ _ _ (by omega) (by omega) (by omega) (by omega)).mono ?_; rintro e w' ⟨rfl, rfl⟩)
  go_ret
  exact ⟨rfl, rfl⟩




theorem sineOfHalf_any (x : Int) (w : World) (h1 : 0 ≤ x) (h2 : x ≤ 648000) :
    Calls Try.prog 177 #[.int .i64 x] w fun e w' => e = .returned (.int .i64 (sH x)) ∧ w = w' := by
  obtain ⟨b1, b2⟩ := bow_bounds x h1 h2
  obtain ⟨b, hb⟩ : ∃ b, Hid (bow x = b) := ⟨_, Lib.hid rfl⟩
  have hm : x * (648000 - x) = b := hb.out
  have hs : sH x = near (16000000 * b) (2099520000000 - 4 * b) := by rw [sH, hb.out]
  rw [hb.out] at b1 b2
  have k0 : IntKind.i64.wrap (648000 - x) = 648000 - x := IntWalk.i64_in _ (by omega)
  have k1 : IntKind.i64.wrap (x * (648000 - x)) = b := by rw [hm]; exact IntWalk.i64_in _ (by omega)
  rw [hs]
  clear hs
  go_enter Try.func177, Try.ntmps177
  go_wp2_with (go_at_call 117; refine (nearest_any _ _ _ (by omega) (by omega) (by omega) (by omega)).mono ?_; rintro e w' ⟨rfl, rfl⟩)
  go_ret
  exact ⟨rfl, rfl⟩



theorem sineAt_any (n : Int) (w : World) (h1 : -3000000000 ≤ n) (h2 : n ≤ 3000000000) :
    Calls Try.prog 158 #[.int .i64 n] w fun e w' => e = .returned (.int .i64 (sineL n)) ∧ w = w' := by
  have E := Lib.hid (sineL_wrap n (wrapL n) rfl)
  have b1 : -648000 ≤ wrapL n := by simp only [wrapL]; omega
  have b2 : wrapL n ≤ 647999 := by simp only [wrapL]; omega
  have c1 := sineL_bounds n
  by_cases h : wrapL n < 0
  · obtain ⟨d1, d2⟩ := sH_bounds (wrapL n + 648000) (by omega) (by omega)
    go_enter Try.func158, Try.ntmps158
    go_wp2_with (first | (go_at_call 176; refine (wrap_any _ _ h1 h2).mono ?_; rintro e w' ⟨rfl, rfl⟩) | (go_at_call 177; refine (sineOfHalf_any _ _ (by omega) (by omega)).mono ?_; rintro e w' ⟨rfl, rfl⟩))
    go_ret
    exact ⟨ret_int (by rw [E.out, if_pos h]), rfl⟩
  · go_enter Try.func158, Try.ntmps158
    go_wp2_with (go_at_call 176; refine (wrap_any _ _ h1 h2).mono ?_; rintro e w' ⟨rfl, rfl⟩)
    go_wp2_with (go_at_call 177; refine (sineOfHalf_any _ _ (by omega) (by omega)).mono ?_; rintro e w' ⟨rfl, rfl⟩)
    go_ret
    exact ⟨ret_int (by rw [E.out, if_neg (by omega)]), rfl⟩



theorem cosineAt_any (n : Int) (w : World) (h1 : -2000000000 ≤ n) (h2 : n ≤ 2000000000) :
    Calls Try.prog 116 #[.int .i64 n] w fun e w' => e = .returned (.int .i64 (sineL (n + 324000))) ∧ w = w' := by
  go_enter Try.func116, Try.ntmps116
  go_wp2_with (go_at_call 158; refine (sineAt_any _ _ (by omega) (by omega)).mono ?_; rintro e w' ⟨rfl, rfl⟩)
  go_ret
  exact ⟨rfl, rfl⟩



theorem tmod_turn (n : Int) : n % 1296000 = if n.tmod 1296000 < 0 then n.tmod 1296000 + 1296000 else n.tmod 1296000 := by
  rw [Int.tmod_eq_emod]
  have h1 := Int.emod_nonneg n (show (1296000 : Int) ≠ 0 by omega)
  have h2 := Int.emod_lt_of_pos n (show (0 : Int) < 1296000 by omega)
  split <;> split <;> omega

theorem l03Sine_low (n : Int) (w : World) (hl : n % 1296000 ≤ 648000) :
    Calls Try.prog 160 #[.int .i64 n] w fun e w' => e = .returned (.int .i64 (sH (n % 1296000))) ∧ w = w' := by
  have T := Lib.hid (tmod_turn n)
  have a1 := Int.emod_nonneg n (show (1296000 : Int) ≠ 0 by omega)
  obtain ⟨t1, t2⟩ := tmod_small n 1296000 (by omega)
  obtain ⟨x, hx⟩ : ∃ x, Hid (n % 1296000 = x) := ⟨_, Lib.hid rfl⟩
  have T2 := T.out
  rw [hx.out] at T2 a1 hl ⊢
  have T3 := Lib.hid T2
  clear T2
  obtain ⟨b1, b2⟩ := bow_bounds x a1 hl
  obtain ⟨b, hb⟩ : ∃ b, Hid (bow x = b) := ⟨_, Lib.hid rfl⟩
  have hm : x * (648000 - x) = b := hb.out
  have hs : sH x = near (16000000 * b) (2099520000000 - 4 * b) := by rw [sH, hb.out]
  rw [hb.out] at b1 b2
  have k0 : IntKind.i64.wrap (648000 - x) = 648000 - x := IntWalk.i64_in _ (by omega)
  have k1 : IntKind.i64.wrap (x * (648000 - x)) = b := by rw [hm]; exact IntWalk.i64_in _ (by omega)
  rw [hs]
  clear hs
  by_cases h : n.tmod 1296000 < 0
  · have e : n.tmod 1296000 + 1296000 = x := by rw [T3.out, if_pos h]
    have k3 : IntKind.i64.wrap (n.tmod 1296000 + 1296000) = x := by rw [e]; exact IntWalk.i64_in _ (by omega)
    have g : ¬ 648000 < x := by omega
    go_enter Try.func160, Try.ntmps160
    go_wp2_with (go_at_call 119; refine (l00Round_any _ _ _ (by omega) (by omega) (by omega) (by omega)).mono ?_; rintro e w' ⟨rfl, rfl⟩)
    go_ret
    exact ⟨ret_int (show near (16 * b * 1000000) _ = _ by rw [show 16 * b * 1000000 = 16000000 * b by omega]), rfl⟩
  · have e : n.tmod 1296000 = x := by rw [T3.out, if_neg h]
    rw [e] at h
    have g : ¬ 648000 < x := by omega
    go_enter Try.func160, Try.ntmps160
    go_wp2_with (go_at_call 119; refine (l00Round_any _ _ _ (by omega) (by omega) (by omega) (by omega)).mono ?_; rintro e w' ⟨rfl, rfl⟩)
    go_ret
    exact ⟨ret_int (show near (16 * b * 1000000) _ = _ by rw [show 16 * b * 1000000 = 16000000 * b by omega]), rfl⟩



theorem l03Sine_high (n : Int) (w : World) (hl : 648000 < n % 1296000) :
    Calls Try.prog 160 #[.int .i64 n] w fun e w' => e = .returned (.int .i64 (-sH (n % 1296000 - 648000))) ∧ w = w' := by
  have T := Lib.hid (tmod_turn n)
  have a1 := Int.emod_lt_of_pos n (show (0 : Int) < 1296000 by omega)
  obtain ⟨t1, t2⟩ := tmod_small n 1296000 (by omega)
  obtain ⟨x, hx⟩ : ∃ x, Hid (n % 1296000 = x) := ⟨_, Lib.hid rfl⟩
  have T2 := T.out
  rw [hx.out] at T2 a1 hl ⊢
  have T3 := Lib.hid T2
  clear T2
  have em : (x - 648000) % 1296000 = x - 648000 := Int.emod_eq_of_lt (by omega) (by omega)
  have C := Lib.hid (l03Sine_low (x - 648000) w (by omega))
  have C2 := C.out
  rw [em] at C2
  have C3 := Lib.hid C2
  clear C2 C em
  obtain ⟨b1, b2⟩ := sH_bounds (x - 648000) (by omega) (by omega)
  have k1 : IntKind.i64.wrap (-sH (x - 648000)) = -sH (x - 648000) := IntWalk.i64_in _ (by omega)
  by_cases h : n.tmod 1296000 < 0
  · have e : n.tmod 1296000 + 1296000 = x := by rw [T3.out, if_pos h]
    have k3 : IntKind.i64.wrap (n.tmod 1296000 + 1296000) = x := by rw [e]; exact IntWalk.i64_in _ (by omega)
    go_enter Try.func160, Try.ntmps160
    go_wp2_with (go_at_call 160; refine C3.out.mono ?_; rintro e w' ⟨rfl, rfl⟩)
    go_ret
    exact ⟨rfl, rfl⟩
  · have e : n.tmod 1296000 = x := by rw [T3.out, if_neg h]
    rw [e] at h
    go_enter Try.func160, Try.ntmps160
    go_wp2_with (go_at_call 160; refine C3.out.mono ?_; rintro e w' ⟨rfl, rfl⟩)
    go_ret
    exact ⟨rfl, rfl⟩

theorem l03Sine_any (n : Int) (w : World) :
    Calls Try.prog 160 #[.int .i64 n] w fun e w' => e = .returned (.int .i64 (sineL n)) ∧ w = w' := by
  by_cases h : n % 1296000 ≤ 648000
  · rw [sineL, if_pos h]; exact l03Sine_low n w h
  · rw [sineL, if_neg h]; exact l03Sine_high n w (by omega)



theorem l03Cosine_any (n : Int) (w : World) (h1 : -2000000000 ≤ n) (h2 : n ≤ 2000000000) :
    Calls Try.prog 118 #[.int .i64 n] w fun e w' => e = .returned (.int .i64 (sineL (n + 324000))) ∧ w = w' := by
  go_enter Try.func118, Try.ntmps118
  go_wp2_with (go_at_call 160; refine (l03Sine_any _ _).mono ?_; rintro e w' ⟨rfl, rfl⟩)
  go_ret
  exact ⟨rfl, rfl⟩


theorem codeOf_any (a b : Bool) (w : World) : Calls Try.prog 152 #[.bool a, .bool b] w fun e w' => e = .returned (.int .i64 (if a = false then 1 else if b = false then 2 else 0)) ∧ w' = w := by
  cases a <;> cases b <;>
  · go_enter Try.func152, Try.ntmps152
    go_wp2
    go_ret
    exact ⟨rfl, rfl⟩
end Go.Proofs.Ytemhmejjmhbfdaa.sines
