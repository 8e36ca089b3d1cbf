/- Maps on plates: the mathematics of both projections. -/
import Derived.Test.YtemhmejjmhbfdaaSines
import Derived.Test.YtemhmejjmhbfdaaSpots
namespace Go.Proofs.Ytemhmejjmhbfdaa.sines
open Go.ChangeShapes Go.WideShapes Go.ChangeAt Go.RowKit Go.Proofs.Ytemhmejjmhbfdaa.spots
set_option linter.unusedSimpArgs false
set_option linter.unusedVariables false

/-- The cosine of a latitude. -/
def cosL (lat : Int) : Int := sineL (lat + 324000)
theorem cosL_lat {lat : Int} (h0 : -324000 ≤ lat) (h1 : lat ≤ 324000) : 0 ≤ cosL lat ∧ cosL lat ≤ 1000000 := by
  unfold cosL
  rw [sineL_quarter (by omega) (by omega)]
  exact sH_bounds _ (by omega) (by omega)
theorem cosL_any (lat : Int) : -1000000 ≤ cosL lat ∧ cosL lat ≤ 1000000 := sineL_bounds _
/-- The code of a place and a scale. -/
def codeS8 (lat lon s : Int) : Int := if okB lat lon = true then (if inB s 1 100000 = true then 0 else 2) else 1
theorem codeS8_of {lat lon s : Int} (h : codeS8 lat lon s = 0) : okB lat lon = true ∧ 1 ≤ s ∧ s ≤ 100000 := by
  unfold codeS8 at h
  split at h
  · rename_i g
    split at h
    · rename_i g2
      exact ⟨g, inB_of g2⟩
    · omega
  · omega
theorem okB_of {lat lon : Int} (h : okB lat lon = true) : -324000 ≤ lat ∧ lat ≤ 324000 ∧ -648000 ≤ lon ∧ lon ≤ 647999 := by simpa [okB] using h
/-- The code of a place of a map and a scale. -/
def codeF8 (x y s : Int) : Int := if (inB s 1 100000 && inB x (-2000000) 2000000 && inB y (-2000000) 2000000) = true then 0 else 2
theorem codeF8_of {x y s : Int} (h : codeF8 x y s = 0) : 1 ≤ s ∧ s ≤ 100000 ∧ -2000000 ≤ x ∧ x ≤ 2000000 ∧ -2000000 ≤ y ∧ y ≤ 2000000 := by
  unfold codeF8 at h
  split at h
  · rename_i g
    simp only [Bool.and_eq_true] at g
    obtain ⟨⟨g1, g2⟩, g3⟩ := g
    have := inB_of g1
    have := inB_of g2
    have := inB_of g3
    omega
  · omega
theorem mul_range {x s X S : Int} (h1 : -X ≤ x) (h2 : x ≤ X) (s0 : 0 ≤ s) (s1 : s ≤ S) (X0 : 0 ≤ X) : -(X * S) ≤ x * s ∧ x * s ≤ X * S := by
  have a1 : x * s ≤ X * s := Int.mul_le_mul_of_nonneg_right h2 s0
  have a2 : X * s ≤ X * S := Int.mul_le_mul_of_nonneg_left s1 X0
  have a3 : -X * s ≤ x * s := Int.mul_le_mul_of_nonneg_right h1 s0
  rw [Int.neg_mul] at a3
  omega
/-- The nearest quotient is at most half a unit away. -/
theorem near_half (n : Int) {d : Int} (hd : 0 < d) : 2 * (near n d * d) ≤ 2 * n + d ∧ 2 * n - d ≤ 2 * (near n d * d) := by
  unfold near
  have e := Int.emod_add_mul_ediv (2 * n + d) (2 * d)
  have r1 := Int.emod_nonneg (2 * n + d) (show 2 * d ≠ 0 by omega)
  have r2 := Int.emod_lt_of_pos (2 * n + d) (show 0 < 2 * d by omega)
  generalize (2 * n + d) / (2 * d) = q at e ⊢
  have e2 : 2 * d * q = 2 * (q * d) := by grind
  rw [e2] at e
  omega
theorem near_size (n : Int) {d N : Int} (hd : 0 < d) (h1 : -N ≤ n) (h2 : n ≤ N) (hN : 0 ≤ N) : -N ≤ near n d ∧ near n d ≤ N := by
  constructor
  · refine near_ge _ hd ?_
    have : N * 1 ≤ N * d := Int.mul_le_mul_of_nonneg_left (by omega) hN
    rw [Int.neg_mul]
    omega
  · refine near_le _ hd ?_
    have : N * 1 ≤ N * d := Int.mul_le_mul_of_nonneg_left (by omega) hN
    omega
/-- A place of the square projection. -/
def plX (lon s : Int) : Int := near lon s
/-- To the east, with true parallels. -/
def waX (lat lon s : Int) : Int := near (lon * cosL lat) (1000000 * s)
def codeB8 (x y s : Int) : Int := if codeF8 x y s = 0 then (if okB (y * s) (x * s) = true then 0 else 3) else codeF8 x y s
/-- The longitude of a place of a map with true parallels. -/
def wbLon (x y s : Int) : Int := if inB (y * s) (-324000) 324000 = true then (if cosL (y * s) = 0 then 0 else near (x * s * 1000000) (cosL (y * s))) else 0
def wbLat (y s : Int) : Int := if inB (y * s) (-324000) 324000 = true then y * s else 0
def wbOk (x y s : Int) : Bool := inB (y * s) (-324000) 324000 && (if cosL (y * s) = 0 then decide (x = 0) else okB (y * s) (wbLon x y s))
def codeW8 (x y s : Int) : Int := if codeF8 x y s = 0 then (if (inB (x * s) (-1296000) 1296000 && wbOk x y s) = true then 0 else 3) else codeF8 x y s
/-- How far a place moves; whether it can be read. -/
def lossN (lat s : Int) (wave : Bool) : Int := (if wave = true then wbLat (near lat s) s else near lat s * s) - lat
def lossE (lat lon s : Int) (wave : Bool) : Int := (if wave = true then wbLon (waX lat lon s) (near lat s) s else near lon s * s) - lon
def lossOk (lat lon s : Int) (wave : Bool) : Bool := if wave = true then wbOk (waX lat lon s) (near lat s) s else okB (near lat s * s) (near lon s * s)
def codeL8 (lat lon s : Int) (wave : Bool) : Int := if codeS8 lat lon s = 0 then (if lossOk lat lon s wave = true then 0 else 10) else codeS8 lat lon s
def stretchV (lat : Int) : Int := if inB lat (-324000) 324000 = true then (if cosL lat = 0 then 0 else near 1000000000 (cosL lat)) else 0
def codeT8 (lat : Int) : Int := if inB lat (-324000) 324000 = true then (if cosL lat = 0 then 6 else 0) else 2
def onV (x y s : Int) (wave : Bool) : Bool := decide (codeF8 x y s = 0) && decide ((if wave = true then codeW8 x y s else codeB8 x y s) = 0)
/-- The way of a wave and back stays in bounds. -/
theorem waX_bounds {lat lon s : Int} (h : okB lat lon = true) (s0 : 1 ≤ s) (s1 : s ≤ 100000) : -648000 ≤ waX lat lon s ∧ waX lat lon s ≤ 648000 ∧ -700000 ≤ waX lat lon s * s ∧ waX lat lon s * s ≤ 700000 := by
  obtain ⟨h1, h2, h3, h4⟩ := okB_of h
  obtain ⟨c1, c2⟩ := cosL_lat h1 h2
  have m := mul_range (x := lon) (s := cosL lat) (X := 648000) (S := 1000000) (by omega) (by omega) c1 c2 (by omega)
  have hd : 0 < 1000000 * s := by omega
  obtain ⟨a1, a2⟩ := near_half (lon * cosL lat) hd
  have b1 : waX lat lon s ≤ 648000 := by
    refine near_le _ hd ?_
    omega
  have b2 : -648000 ≤ waX lat lon s := by
    refine near_ge _ hd ?_
    omega
  refine ⟨b2, b1, ?_, ?_⟩
  all_goals
    have e : near (lon * cosL lat) (1000000 * s) * (1000000 * s) = 1000000 * (waX lat lon s * s) := by unfold waX; grind
    rw [e] at a1 a2
    omega
theorem plate_bounds {n N s : Int} (h1 : -N ≤ n) (h2 : n ≤ N) (hN : 0 ≤ N) (s0 : 1 ≤ s) (s1 : s ≤ 100000) : -N ≤ near n s ∧ near n s ≤ N ∧ -N - 50000 ≤ near n s * s ∧ near n s * s ≤ N + 50000 := by
  obtain ⟨a1, a2⟩ := near_half n (show 0 < s by omega)
  obtain ⟨b1, b2⟩ := near_size n (show 0 < s by omega) h1 h2 hN
  refine ⟨b1, b2, by omega, by omega⟩
theorem near_exact (x : Int) {s : Int} (hs : 0 < s) : near (x * s) s = x := by
  unfold near
  rw [show 2 * (x * s) + s = s + x * (2 * s) by grind, Int.add_mul_ediv_right _ _ (by omega), Int.ediv_eq_zero_of_lt (by omega) (by omega)]
  omega
theorem near_zero {d : Int} (hd : 0 < d) : near 0 d = 0 := by
  unfold near
  exact Int.ediv_eq_zero_of_lt (by omega) (by omega)
/-- With true parallels a place lies no farther from the middle. -/
theorem wave_plate {lat lon s : Int} (h : okB lat lon = true) (s0 : 1 ≤ s) : (0 ≤ lon → 0 ≤ waX lat lon s ∧ waX lat lon s ≤ near lon s) ∧ (lon < 0 → near lon s ≤ waX lat lon s ∧ waX lat lon s ≤ 0) := by
  obtain ⟨h1, h2, h3, h4⟩ := okB_of h
  obtain ⟨c1, c2⟩ := cosL_lat h1 h2
  have hd : 0 < 1000000 * s := by omega
  have hs : 0 < s := by omega
  unfold waX
  generalize cosL lat = c at c1 c2
  constructor
  · intro h0
    constructor
    · rw [← near_zero hd]
      refine near_mono hd hd ?_
      have : 0 ≤ lon * c := Int.mul_nonneg h0 c1
      exact Int.mul_le_mul_of_nonneg_right this (by omega)
    · refine near_mono hd hs ?_
      have e : lon * c * s ≤ lon * 1000000 * s := Int.mul_le_mul_of_nonneg_right (Int.mul_le_mul_of_nonneg_left c2 h0) (by omega)
      have e2 : lon * (1000000 * s) = lon * 1000000 * s := by grind
      omega
  · intro h0
    constructor
    · refine near_mono hs hd ?_
      have e : (-lon) * c * s ≤ (-lon) * 1000000 * s := Int.mul_le_mul_of_nonneg_right (Int.mul_le_mul_of_nonneg_left c2 (by omega)) (by omega)
      have e2 : lon * (1000000 * s) = - ((-lon) * 1000000 * s) := by grind
      have e3 : lon * c * s = - ((-lon) * c * s) := by grind
      omega
    · rw [← near_zero hd]
      refine near_mono hd hd ?_
      have : 0 ≤ (-lon) * c := Int.mul_nonneg (by omega) c1
      have e : lon * c = - ((-lon) * c) := by grind
      exact Int.mul_le_mul_of_nonneg_right (by omega) (by omega)
theorem stretch_facts {lat : Int} (h : codeT8 lat = 0) : 1000 ≤ stretchV lat := by
  unfold codeT8 at h
  split at h
  · rename_i g
    split at h
    · omega
    · rename_i g2
      obtain ⟨l1, l2⟩ := inB_of g
      obtain ⟨c1, c2⟩ := cosL_lat l1 l2
      simp only [stretchV, g, if_true, g2, if_false]
      refine near_ge _ (by omega) ?_
      omega
  · omega
/-- Without true parallels a place moves by half a unit at most. -/
theorem loss_half {lat lon s : Int} (s0 : 1 ≤ s) : 2 * lossN lat s false ≤ s ∧ - s ≤ 2 * lossN lat s false ∧ 2 * lossE lat lon s false ≤ s ∧ - s ≤ 2 * lossE lat lon s false := by
  obtain ⟨a1, a2⟩ := near_half lat (show 0 < s by omega)
  obtain ⟨b1, b2⟩ := near_half lon (show 0 < s by omega)
  simp only [lossN, lossE, Bool.false_eq_true, if_false]
  omega
end Go.Proofs.Ytemhmejjmhbfdaa.sines
