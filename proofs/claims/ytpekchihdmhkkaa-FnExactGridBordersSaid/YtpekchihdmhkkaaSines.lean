/- Sines by the rule: what is reckoned, and the contracts of the small functions, of the program and of the model. -/
import Derived.Test.YtpekchihdmhkkaaSpots
import Derived.Deep.RegionWith
import Derived.IntWalk
namespace Go.Proofs.Ytpekchihdmhkkaa.sines
open Go.ChangeShapes Go.WideShapes Go.ChangeAt Go.RowKit Go.Proofs.Ytpekchihdmhkkaa.spots

def near (n d : Int) : Int := (2 * n + d) / (2 * d)
def bow (x : Int) : Int := x * (648000 - x)
def sH (x : Int) : Int := near (16000000 * bow x) (2099520000000 - 4 * bow x)
def sineL (n : Int) : Int := if n % 1296000 ≤ 648000 then sH (n % 1296000) else - sH (n % 1296000 - 648000)

theorem floor_of (n d : Int) (hd : 0 < d) : n / d = (if n.tmod d < 0 then n.tdiv d - 1 else n.tdiv d) := by
  rw [Int.tmod_eq_emod, Int.tdiv_eq_ediv]
  have h1 := Int.emod_nonneg n (show d ≠ 0 by omega)
  have h2 := Int.emod_lt_of_pos n hd
  have hs : d.sign = 1 := Int.sign_eq_one_of_pos hd
  have hn : (d.natAbs : Int) = d := by omega
  by_cases h0 : 0 ≤ n
  · simp [h0]; omega
  · by_cases hv : d ∣ n
    · simp [hv]; omega
    · simp only [h0, hv, or_self, if_false, hs, hn]
      split <;> omega

theorem div_small (n d : Int) : (n.tdiv d).natAbs ≤ n.natAbs := by
  rw [Int.natAbs_tdiv]; exact Nat.div_le_self _ _

theorem tmod_small (n d : Int) (hd : 0 < d) : -d < n.tmod d ∧ n.tmod d < d := by
  have h1 := Int.tmod_lt_of_pos n hd
  refine ⟨?_, h1⟩
  rw [Int.tmod_eq_emod]
  have h3 := Int.emod_nonneg n (show d ≠ 0 by omega)
  have h4 := Int.emod_lt_of_pos n hd
  split <;> omega

theorem bow_bounds (x : Int) (h1 : 0 ≤ x) (h2 : x ≤ 648000) : 0 ≤ bow x ∧ bow x ≤ 104976000000 := by
  refine ⟨Int.mul_nonneg h1 (by omega), ?_⟩
  have hsq : 0 ≤ (x - 324000) * (x - 324000) := by
    rcases Int.le_total 0 (x - 324000) with h | h
    · exact Int.mul_nonneg h h
    · have := Int.mul_nonneg (show 0 ≤ -(x - 324000) by omega) (show 0 ≤ -(x - 324000) by omega)
      rwa [Int.neg_mul_neg] at this
  have e : bow x = 104976000000 - (x - 324000) * (x - 324000) := by
    simp only [bow, Int.mul_sub, Int.sub_mul]; omega
  omega

theorem near_nonneg {n d : Int} (h1 : 0 ≤ n) (h2 : 0 < d) : 0 ≤ near n d := by
  exact Int.ediv_nonneg (by omega) (by omega)
theorem near_le {n d : Int} (m : Int) (h2 : 0 < d) (h : n ≤ m * d) : near n d ≤ m := by
  have h3 : (2 * n + d) / (2 * d) < m + 1 := by
    apply Int.ediv_lt_of_lt_mul (by omega)
    have : (m + 1) * (2 * d) = 2 * (m * d) + 2 * d := by
      rw [Int.add_mul, Int.mul_left_comm]; omega
    omega
  simp only [near]; omega
theorem near_ge {n d : Int} (m : Int) (h2 : 0 < d) (h : m * d ≤ n) : m ≤ near n d := by
  apply (Int.le_ediv_iff_mul_le (by omega)).2
  rw [Int.mul_left_comm]; omega
theorem near_mono {a b c d : Int} (hb : 0 < b) (hd : 0 < d) (h : a * d ≤ c * b) : near a b ≤ near c d := by
  have h1 : near a b * (2 * b) ≤ 2 * a + b := Int.ediv_mul_le _ (by omega)
  apply (Int.le_ediv_iff_mul_le (by omega)).2
  apply Int.le_of_mul_le_mul_right (a := b) _ hb
  have h2 := Int.mul_le_mul_of_nonneg_right h1 (show 0 ≤ d by omega)
  have e1 : near a b * (2 * d) * b = near a b * (2 * b) * d := by
    simp only [Int.mul_assoc, Int.mul_comm, Int.mul_left_comm]
  have e2 : (2 * a + b) * d = 2 * (a * d) + b * d := by rw [Int.add_mul, Int.mul_assoc]
  have e3 : (2 * c + d) * b = 2 * (c * b) + d * b := by rw [Int.add_mul, Int.mul_assoc]
  have e4 := Int.mul_comm b d
  omega

theorem sH_bounds (x : Int) (h1 : 0 ≤ x) (h2 : x ≤ 648000) : 0 ≤ sH x ∧ sH x ≤ 1000000 := by
  obtain ⟨b1, b2⟩ := bow_bounds x h1 h2
  refine ⟨near_nonneg (by omega) (by omega), near_le _ (by omega) (by omega)⟩

theorem sineL_bounds (n : Int) : -1000000 ≤ sineL n ∧ sineL n ≤ 1000000 := by
  have h1 := Int.emod_nonneg n (show (1296000 : Int) ≠ 0 by omega)
  have h2 := Int.emod_lt_of_pos n (show (0 : Int) < 1296000 by omega)
  simp only [sineL]
  split
  · have := sH_bounds (n % 1296000) h1 (by omega); omega
  · have := sH_bounds (n % 1296000 - 648000) (by omega) (by omega); omega

theorem bow_mono {x y : Int} (h1 : x ≤ y) (h2 : y ≤ 324000) : bow x ≤ bow y := by
  have h := Int.mul_nonneg (show 0 ≤ y - x by omega) (show 0 ≤ 648000 - y - x by omega)
  have e : bow y - bow x = (y - x) * (648000 - y - x) := by
    simp only [bow, Int.mul_sub, Int.sub_mul]; have := Int.mul_comm x y; omega
  omega

theorem sH_mono {x y : Int} (h0 : 0 ≤ x) (h1 : x ≤ y) (h2 : y ≤ 324000) : sH x ≤ sH y := by
  have hb := bow_mono h1 h2
  obtain ⟨b1, b2⟩ := bow_bounds x h0 (by omega)
  obtain ⟨c1, c2⟩ := bow_bounds y (by omega) (by omega)
  apply near_mono (by omega) (by omega)
  have e1 : 16000000 * bow x * (2099520000000 - 4 * bow y) = 16000000 * (bow x * 2099520000000) - 16000000 * (4 * (bow x * bow y)) := by
    rw [Int.mul_assoc, Int.mul_sub, Int.mul_sub, Int.mul_left_comm (bow x) 4]
  have e2 : 16000000 * bow y * (2099520000000 - 4 * bow x) = 16000000 * (bow y * 2099520000000) - 16000000 * (4 * (bow x * bow y)) := by
    rw [Int.mul_assoc, Int.mul_sub, Int.mul_sub, Int.mul_left_comm (bow y) 4, Int.mul_comm (bow y) (bow x)]
  omega

theorem sH_half_sym (x : Int) : sH (648000 - x) = sH x := by
  have : bow (648000 - x) = bow x := by
    simp only [bow]; rw [Int.mul_comm]; congr 1; omega
  simp only [sH, this]

theorem sineL_quarter {x : Int} (h0 : 0 ≤ x) (h1 : x ≤ 648000) : sineL x = sH x := by
  have : x % 1296000 = x := Int.emod_eq_of_lt h0 (by omega)
  simp only [sineL, this, if_pos h1]
theorem sH_quarter : sH 324000 = 1000000 := by decide +kernel
theorem sH_half : sH 648000 = 0 := by decide +kernel
theorem sH_zero : sH 0 = 0 := by decide +kernel
/-- What the program reckons: the wrapped angle. -/
theorem sineL_wrap (n w : Int) (hw : w = (n + 648000) % 1296000 - 648000) : sineL n = if w < 0 then - sH (w + 648000) else sH w := by
  subst hw
  simp only [sineL]
  have h1 := Int.emod_nonneg n (show (1296000 : Int) ≠ 0 by omega)
  have h2 := Int.emod_lt_of_pos n (show (0 : Int) < 1296000 by omega)
  by_cases hh : n % 1296000 < 648000
  · have e : (n + 648000) % 1296000 - 648000 = n % 1296000 := by omega
    rw [e, if_pos (by omega), if_neg (by omega)]
  · have e : (n + 648000) % 1296000 - 648000 = n % 1296000 - 1296000 := by omega
    rw [e, if_pos (by omega : n % 1296000 - 1296000 < 0)]
    by_cases h3 : n % 1296000 = 648000
    · rw [if_pos (by omega), h3]; decide +kernel
    · rw [if_neg (by omega)]; congr 2; omega

def inB (n a b : Int) : Bool := decide (a ≤ n ∧ n ≤ b)
theorem inB_of {n a b : Int} (h : inB n a b = true) : a ≤ n ∧ n ≤ b := by simpa [inB] using h

theorem within_any (n a b : Int) (w : World) :
    Calls Try.prog 39 #[.int .i64 n, .int .i64 a, .int .i64 b] w fun e w' => e = .returned (.bool (inB n a b)) ∧ w = w' := by
  by_cases h1 : a ≤ n
  · by_cases h2 : n ≤ b
    · go_enter Try.func39, Try.ntmps39
      go_wp2
      all_goals (go_ret; exact ⟨ret_bool (by rw [Bool.eq_iff_iff]; simp [inB]; omega), rfl⟩)
    · go_enter Try.func39, Try.ntmps39
      go_wp2
      all_goals (go_ret; exact ⟨ret_bool (by rw [Bool.eq_iff_iff]; simp [inB]; omega), rfl⟩)
  · have h1' : decide (a ≤ n) = false := by simpa using h1
    go_enter Try.func39, Try.ntmps39
    go_wp2
    all_goals (go_ret; exact ⟨ret_bool (by rw [Bool.eq_iff_iff]; simp [inB]; omega), rfl⟩)



theorem l00In_any (n a b : Int) (w : World) :
    Calls Try.prog 61 #[.int .i64 n, .int .i64 a, .int .i64 b] w fun e w' => e = .returned (.bool (inB n a b)) ∧ w = w' := by
  by_cases h1 : a ≤ n
  · by_cases h2 : n ≤ b
    · go_enter Try.func61, Try.ntmps61
      go_wp2
      all_goals (go_ret; exact ⟨ret_bool (by rw [Bool.eq_iff_iff]; simp [inB]; omega), rfl⟩)
    · go_enter Try.func61, Try.ntmps61
      go_wp2
      all_goals (go_ret; exact ⟨ret_bool (by rw [Bool.eq_iff_iff]; simp [inB]; omega), rfl⟩)
  · have h1' : decide (a ≤ n) = false := by simpa using h1
    go_enter Try.func61, Try.ntmps61
    go_wp2
    all_goals (go_ret; exact ⟨ret_bool (by rw [Bool.eq_iff_iff]; simp [inB]; omega), rfl⟩)






theorem floorQuotient_any (n d : Int) (w : World) (hd : 0 < d) (h1 : -9000000000000000000 ≤ n) (h2 : n ≤ 9000000000000000000) (h3 : d ≤ 9000000000000000000) :
    Calls Try.prog 63 #[.int .i64 n, .int .i64 d] w fun e w' => e = .returned (.int .i64 (n / d)) ∧ w = w' := by
  have E := Lib.hid (floor_of n d hd)
  have b := div_small n d
  obtain ⟨t1, t2⟩ := tmod_small n d hd
  have k1 : IntKind.i64.wrap (n.tdiv d) = n.tdiv d := IntWalk.i64_in _ (by omega)
  have k2 : IntKind.i64.wrap (n.tmod d) = n.tmod d := IntWalk.i64_in _ (by omega)
  have k3 : IntKind.i64.wrap (n.tdiv d - 1) = n.tdiv d - 1 := IntWalk.i64_in _ (by omega)
  have hz : d ≠ 0 := by omega
  have hm : d ≠ -1 := by omega
  by_cases h : n.tmod d < 0
  · go_enter Try.func63, Try.ntmps63
    go_wp2
    go_ret
    exact ⟨ret_int (by rw [E.out, if_pos h]), rfl⟩
  · go_enter Try.func63, Try.ntmps63
    go_wp2
    go_ret
    exact ⟨ret_int (by rw [E.out, if_neg (by omega)]), rfl⟩













theorem codeOf_any (a b : Bool) (w : World) : Calls Try.prog 62 #[.bool a, .bool b] w fun e w' => e = .returned (.int .i64 (if a = false then 1 else if b = false then 2 else 0)) ∧ w' = w := by
  cases a <;> cases b <;>
  · go_enter Try.func62, Try.ntmps62
    go_wp2
    go_ret
    exact ⟨rfl, rfl⟩
end Go.Proofs.Ytpekchihdmhkkaa.sines
