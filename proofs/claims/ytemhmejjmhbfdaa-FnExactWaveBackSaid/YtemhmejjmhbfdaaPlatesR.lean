/- What the program reads from its maps: the mathematics. -/
import Derived.Test.YtemhmejjmhbfdaaPlatesI2
namespace Go.Proofs.Ytemhmejjmhbfdaa.sines
open Go.ChangeShapes Go.WideShapes Go.ChangeAt Go.RowKit Go.Proofs.Ytemhmejjmhbfdaa.spots Go.Proofs.Ytemhmejjmhbfdaa.pairs
set_option linter.unusedSimpArgs false
set_option linter.unusedVariables false

theorem near_le_iff {n d m : Int} (hd : 0 < d) : near n d ≤ m ↔ 2 * n < (2 * m + 1) * d := by
  unfold near
  rw [← Int.lt_add_one_iff, Int.ediv_lt_iff_lt_mul (by omega)]
  rw [show (m + 1) * (2 * d) = (2 * m + 1) * d + d by grind]
  omega
theorem le_near_iff {n d m : Int} (hd : 0 < d) : m ≤ near n d ↔ (2 * m - 1) * d ≤ 2 * n := by
  unfold near
  rw [Int.le_ediv_iff_mul_le (by omega)]
  rw [show m * (2 * d) = (2 * m - 1) * d + d by grind]
  omega
theorem LonAt_near {x s c z : Int} (hc : 0 < c) (h : LonAt x s c z) : (-648000 ≤ z → z ≤ 647999 → z = near (x * s * 1000000) c) ∧ (z = -648001 → near (x * s * 1000000) c ≤ -648001) ∧ (z = 648000 → 648000 ≤ near (x * s * 1000000) c) ∧ -648001 ≤ z ∧ z ≤ 648000 := by
  rcases h with ⟨rfl, rfl⟩ | ⟨_, h1, h2, h3, h4⟩
  · rw [show (0 : Int) * s * 1000000 = 0 by grind, near_zero hc]
    refine ⟨fun _ _ => rfl, by omega, by omega, by omega, by omega⟩
  · have e : 2 * (x * s * 1000000) = 2 * x * s * 1000000 := by grind
    refine ⟨fun a b => ?_, fun a => ?_, fun a => ?_, h1, h2⟩
    · have k1 : z ≤ near (x * s * 1000000) c := by
        rw [le_near_iff hc, e, show 2 * z - 1 = 2 * (z - 1) + 1 by omega]
        rcases h3 with h | h
        · omega
        · exact h
      have k2 : near (x * s * 1000000) c ≤ z := by
        rw [near_le_iff hc, e]
        rcases h4 with h | h
        · omega
        · exact h
      omega
    · rw [near_le_iff hc, e, ← a]
      rcases h4 with h | h
      · omega
      · exact h
    · rw [le_near_iff hc, e, ← a, show 2 * z - 1 = 2 * (z - 1) + 1 by omega]
      rcases h3 with h | h
      · omega
      · exact h
theorem okB_iff {a b : Int} : okB a b = true ↔ -324000 ≤ a ∧ a ≤ 324000 ∧ -648000 ≤ b ∧ b ≤ 647999 := by simp [okB]
theorem okB_near {x s c z lat : Int} (hc : 0 < c) (h : LonAt x s c z) : okB lat z = okB lat (near (x * s * 1000000) c) ∧ (okB lat z = true → z = near (x * s * 1000000) c) := by
  obtain ⟨h1, h2, h3, h4, h5⟩ := LonAt_near hc h
  constructor
  · rw [Bool.eq_iff_iff, okB_iff, okB_iff]
    by_cases a : -648000 ≤ z ∧ z ≤ 647999
    · rw [← h1 a.1 a.2]
    · by_cases b : z = -648001
      · have := h2 b; omega
      · have := h3 (by omega); omega
  · intro hk
    rw [okB_iff] at hk
    exact h1 hk.2.2.1 hk.2.2.2
/-- What the program reads: with true parallels. -/
theorem readW_math {x y s z : Int} (s0 : 1 ≤ s) (h : LonAt x s (cosL (y * s)) z) : okB (y * s) z = wbOk x y s ∧ (wbOk x y s = true → z = wbLon x y s ∧ y * s = wbLat y s) := by
  unfold wbOk wbLon wbLat
  cases hi : inB (y * s) (-324000) 324000 with
  | false =>
    simp only [Bool.false_and, Bool.false_eq_true, if_false, false_implies, and_true]
    cases hk : okB (y * s) z with
    | false => rfl
    | true =>
      rw [okB_iff] at hk
      have : inB (y * s) (-324000) 324000 = true := by simp [inB]; omega
      rw [this] at hi; cases hi
  | true =>
    obtain ⟨l0, l1⟩ := inB_of hi
    obtain ⟨c0, c1⟩ := cosL_lat l0 l1
    simp only [if_true, Bool.true_and]
    generalize cosL (y * s) = c at h c0 c1
    by_cases hc : c = 0
    · subst hc
      simp only [if_true]
      rcases h with ⟨rfl, rfl⟩ | ⟨hx, h1, h2, h3, h4⟩
      · refine ⟨?_, fun _ => ⟨rfl, trivial⟩⟩
        rw [Bool.eq_iff_iff, okB_iff]; simp; omega
      · have hs : 0 < s := by omega
        have e : 2 * x * s * 1000000 = 2000000 * (x * s) := by grind
        rw [e] at h3 h4
        have hxs : (x < 0 ∧ x * s < 0) ∨ (0 < x ∧ 0 < x * s) := by
          rcases Int.lt_or_gt_of_ne hx with a | a
          · exact .inl ⟨a, Int.mul_neg_of_neg_of_pos a hs⟩
          · exact .inr ⟨a, Int.mul_pos a hs⟩
        refine ⟨?_, fun hk => by simp at hk; omega⟩
        rw [Bool.eq_iff_iff, okB_iff]; simp only [decide_eq_true_eq]
        simp only [Int.mul_zero] at h3 h4
        omega
    · rw [if_neg hc, if_neg hc]
      obtain ⟨k1, k2⟩ := okB_near (lat := y * s) (show 0 < c by omega) h
      rw [k1]
      exact ⟨rfl, fun hk => ⟨k2 (by rw [k1]; exact hk), trivial⟩⟩
/-- .. and on the square map. -/
theorem readS_math {x y s z : Int} (h : LonAt x s 1000000 z) : okB (y * s) z = okB (y * s) (x * s) ∧ (okB (y * s) z = true → z = x * s) := by
  obtain ⟨k1, k2⟩ := okB_near (lat := y * s) (show (0 : Int) < 1000000 by omega) h
  rw [near_exact (x * s) (show (0 : Int) < 1000000 by omega)] at k1 k2
  exact ⟨k1, k2⟩
theorem wave_in {x y s : Int} (s0 : 1 ≤ s) (h : wbOk x y s = true) : inB (x * s) (-1296000) 1296000 = true := by
  unfold wbOk wbLon at h
  cases hi : inB (y * s) (-324000) 324000 with
  | false => rw [hi] at h; simp at h
  | true =>
    rw [hi] at h
    obtain ⟨l0, l1⟩ := inB_of hi
    obtain ⟨c0, c1⟩ := cosL_lat l0 l1
    simp only [if_true, Bool.true_and] at h
    generalize cosL (y * s) = c at h c0 c1
    by_cases hc : c = 0
    · rw [if_pos hc] at h
      have : x = 0 := by simpa using h
      subst this
      simp [inB]
    · rw [if_neg hc, if_neg hc, okB_iff] at h
      obtain ⟨_, _, h3, h4⟩ := h
      rw [le_near_iff (by omega)] at h3
      rw [near_le_iff (by omega)] at h4
      have m1 := mul_range (x := 2 * -648000 - 1) (s := c) (X := 1296001) (S := 1000000) (by omega) (by omega) c0 c1 (by omega)
      have m2 := mul_range (x := 2 * 647999 + 1) (s := c) (X := 1296001) (S := 1000000) (by omega) (by omega) c0 c1 (by omega)
      simp only [inB, decide_eq_true_eq]
      omega
/-- What is read from a place of a map. -/
def rdOk (x y s : Int) (wave : Bool) : Bool := if wave = true then wbOk x y s else okB (y * s) (x * s)
def rdLat (x y s : Int) (wave : Bool) : Int := if rdOk x y s wave = true then (if wave = true then wbLat y s else y * s) else 0
def rdLon (x y s : Int) (wave : Bool) : Int := if rdOk x y s wave = true then (if wave = true then wbLon x y s else x * s) else 0
end Go.Proofs.Ytemhmejjmhbfdaa.sines
