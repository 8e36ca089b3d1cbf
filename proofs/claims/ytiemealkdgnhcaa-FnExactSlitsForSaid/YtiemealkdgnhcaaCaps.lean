/- Caps: what the functions answer. -/
import Derived.Test.YtiemealkdgnhcaaGores
import Derived.Test.YtiemealkdgnhcaaOkl
namespace Go.Proofs.Ytiemealkdgnhcaa.sines
open Go.ChangeShapes Go.WideShapes Go.ChangeAt Go.RowKit Go.Proofs.Ytiemealkdgnhcaa.spots Go.Proofs.Ytiemealkdgnhcaa.irows Go.Proofs.Ytiemealkdgnhcaa.pairs
set_option linter.unusedVariables false

def ansK (c v : Int) : Int := if c = 0 then v else 0
theorem ret_k2 {a b c d : Int} (h : a = b) (g : c = d) : Ending.returned (.tuple #[.int .i64 a, .int .i64 c]) = .returned (.tuple #[.int .i64 b, .int .i64 d]) := by rw [h, g]
theorem ret_k1 {a b : Int} (h : a = b) : Ending.returned (.int .i64 a) = .returned (.int .i64 b) := by rw [h]
/-- The length of an arc. -/
def arcC (a n : Int) : Int := near (a * n) 1296000
theorem mul_small {a n : Int} (a1 : 1 ≤ a) (a2 : a ≤ 1000000) (n1 : 0 ≤ n) (n2 : n ≤ 1296000) : 0 ≤ a * n ∧ a * n ≤ 1296000000000 := by
  refine ⟨Int.mul_nonneg (by omega) n1, ?_⟩
  have h1 : a * n ≤ a * 1296000 := Int.mul_le_mul_of_nonneg_left n2 (by omega)
  omega
theorem arcC_bounds {a n : Int} (a1 : 1 ≤ a) (n1 : 0 ≤ n) (n2 : n ≤ 1296000) : 0 ≤ arcC a n ∧ arcC a n ≤ a := by
  refine ⟨near_nonneg (Int.mul_nonneg (by omega) n1) (by decide), near_le _ (by decide) ?_⟩
  exact Int.mul_le_mul_of_nonneg_left n2 (by omega)
theorem arcC_mono {a m n : Int} (a1 : 1 ≤ a) (h : m ≤ n) : arcC a m ≤ arcC a n := by
  apply near_mono (by decide) (by decide)
  exact Int.mul_le_mul_of_nonneg_right (Int.mul_le_mul_of_nonneg_left h (by omega)) (by decide)
theorem arcC_quarter {a n : Int} (a1 : 1 ≤ a) (n1 : 0 ≤ n) (n2 : n ≤ 324000) : 4 * arcC a n ≤ a + 2 := by
  have h := arcC_mono a1 n2
  have e : arcC a 324000 = (2 * (a * 324000) + 1296000) / (2 * 1296000) := rfl
  omega
def codeA6 (a n : Int) : Int := if (inB a 1 1000000 && inB n 0 1296000) = true then 0 else 2
def code6 (a l : Int) : Int := if (inB a 1 1000000 && inB l 0 324000) = true then 0 else 2
theorem code6_of {a l : Int} (h : code6 a l = 0) : 1 ≤ a ∧ a ≤ 1000000 ∧ 0 ≤ l ∧ l ≤ 324000 := by
  unfold code6 at h
  split at h
  · rename_i k
    simp [inB] at k
    omega
  · omega
theorem code6_cases (a l : Int) : code6 a l = 0 ∨ code6 a l = 2 := by
  unfold code6
  split <;> simp
/-- The code of a circumference and a radius. -/
def codeR (a r : Int) : Int := if (inB a 1 1000000 && inB r 0 100000) = true then (if a < 4 * r then 5 else 0) else 2
theorem codeR_of {a r : Int} (h : codeR a r = 0) : 1 ≤ a ∧ a ≤ 1000000 ∧ 0 ≤ r ∧ r ≤ 100000 ∧ 4 * r ≤ a := by
  unfold codeR at h
  split at h
  · rename_i k
    simp [inB] at k
    split at h <;> omega
  · omega
theorem codeR_cases (a r : Int) : codeR a r = 0 ∨ codeR a r = 2 ∨ codeR a r = 5 := by
  unfold codeR
  split
  · split <;> simp
  · simp
/-- The latitude down to which a disc covers the sphere. -/
def edgeC (a r : Int) : Int := 324000 - r * 1296000 / a
theorem edgeC_bounds {a r : Int} (a1 : 1 ≤ a) (r1 : 0 ≤ r) (h : 4 * r ≤ a) : 0 ≤ r * 1296000 / a ∧ r * 1296000 / a ≤ 324000 := by
  refine ⟨Int.ediv_nonneg (by omega) (by omega), ?_⟩
  have h1 : r * 1296000 / a < 324001 := Int.ediv_lt_of_lt_mul (by omega) (by omega)
  omega
/-- By how much a rim is longer than its parallel. -/
def excC (a l : Int) : Int := near (710 * arcC a (324000 - l)) 113 - near (a * sineL (l + 324000)) 1000000
theorem excC_parts {a l : Int} (h : code6 a l = 0) : 0 ≤ arcC a (324000 - l) ∧ arcC a (324000 - l) ≤ 1000000 ∧ 0 ≤ near (710 * arcC a (324000 - l)) 113 ∧ near (710 * arcC a (324000 - l)) 113 ≤ 6283186 ∧
    0 ≤ a * sineL (l + 324000) ∧ a * sineL (l + 324000) ≤ 1000000000000 ∧ 0 ≤ near (a * sineL (l + 324000)) 1000000 ∧ near (a * sineL (l + 324000)) 1000000 ≤ 1000000 := by
  obtain ⟨a1, a2, l1, l2⟩ := code6_of h
  obtain ⟨b1, b2⟩ := arcC_bounds (n := 324000 - l) a1 (by omega) (by omega)
  obtain ⟨c1, c2⟩ := round_bounds a1 a2 (by omega) l2
  refine ⟨b1, by omega, near_nonneg (by omega) (by decide), near_le _ (by decide) (by omega), c1, by omega, near_nonneg c1 (by decide), near_le _ (by decide) (by omega)⟩
theorem excC_bounds {a l : Int} (h : code6 a l = 0) : -1000000 ≤ excC a l ∧ excC a l ≤ 6283186 := by
  obtain ⟨_, _, h1, h2, _, _, h3, h4⟩ := excC_parts h
  unfold excC
  omega
/-- The slits that take what a rim is too long. -/
def slitC (a l m : Int) : Int := (max 0 (excC a l) + m - 1) / m
def codeS6 (a l m : Int) : Int := if (inB a 1 1000000 && inB l 0 324000 && inB m 1 100000) = true then (if 72 < slitC a l m then 5 else 0) else 2
theorem slitC_bounds {a l m : Int} (h : code6 a l = 0) (m1 : 1 ≤ m) : 0 ≤ slitC a l m ∧ slitC a l m ≤ 6283186 := by
  obtain ⟨e1, e2⟩ := excC_bounds h
  unfold slitC
  have h0 : 0 ≤ max 0 (excC a l) := by omega
  have h1 : max 0 (excC a l) ≤ 6283186 := by omega
  generalize max 0 (excC a l) = x at h0 h1
  refine ⟨Int.ediv_nonneg (by omega) (by omega), ?_⟩
  have h2 : (x + m - 1) / m < 6283187 := by
    apply Int.ediv_lt_of_lt_mul (by omega)
    have h3 : x + m - 1 < 6283186 * m + m := by
      have : 6283186 * 1 ≤ 6283186 * m := by omega
      omega
    omega
  omega
/-- The rings of a disc. -/
def manyN (r d : Int) : Int := (r + d - 1) / d
def codeN (r d : Int) : Int := if (inB r 0 100000 && inB d 1 100000) = true then (if 60 < manyN r d then 5 else 0) else 2
theorem codeN_of {r d : Int} (h : codeN r d = 0) : 0 ≤ r ∧ r ≤ 100000 ∧ 1 ≤ d ∧ d ≤ 100000 ∧ manyN r d ≤ 60 := by
  unfold codeN at h
  split at h
  · rename_i k
    simp [inB] at k
    split at h <;> omega
  · omega
theorem manyN_bounds {r d : Int} (r1 : 0 ≤ r) (r2 : r ≤ 100000) (d1 : 1 ≤ d) : 0 ≤ manyN r d ∧ manyN r d ≤ 100000 := by
  unfold manyN
  refine ⟨Int.ediv_nonneg (by omega) (by omega), ?_⟩
  have h2 : (r + d - 1) / d < 100001 := by
    apply Int.ediv_lt_of_lt_mul (by omega)
    have h3 : r * 1 ≤ r * d := Int.mul_le_mul_of_nonneg_left d1 r1
    have h4 : r * d ≤ 100000 * d := Int.mul_le_mul_of_nonneg_right r2 (by omega)
    omega
  omega
/-- How many rings are whole. -/
def wholeN (r d : Int) : Nat := ((r - 1) / d).toNat
theorem wholeN_iff {r d : Int} (r1 : 0 < r) (d1 : 1 ≤ d) (k : Nat) : ((k : Int) + 1) * d < r ↔ k < wholeN r d := by
  have h1 : (0 : Int) ≤ (r - 1) / d := Int.ediv_nonneg (by omega) (by omega)
  have h2 : ((k : Int) + 1) ≤ (r - 1) / d ↔ ((k : Int) + 1) * d ≤ r - 1 := Int.le_ediv_iff_mul_le (by omega)
  unfold wholeN
  omega
theorem wholeN_le {r d : Int} (h : codeN r d = 0) : wholeN r d ≤ 60 := by
  obtain ⟨r1, r2, d1, d2, hm⟩ := codeN_of h
  unfold wholeN manyN at *
  have h1 : (r - 1) / d ≤ (r + d - 1) / d := Int.ediv_le_ediv (by omega) (by omega)
  omega
def ringsK (d : Int) (k : Nat) : List Int := (List.range k).map fun i : Nat => ((i : Int) + 1) * d
theorem ringsK_len (d : Int) (k : Nat) : (ringsK d k).length = k := by simp [ringsK]
theorem ringsK_succ (d : Int) (k : Nat) : ringsK d (k + 1) = ringsK d k ++ [((k : Int) + 1) * d] := by simp [ringsK, List.range_succ]
def ringsL (r d : Int) : List Int := if 0 < r then ringsK d (wholeN r d) ++ [r] else []
theorem ringsL_len {r d : Int} (h : codeN r d = 0) : (ringsL r d).length ≤ 61 := by
  have := wholeN_le h
  unfold ringsL
  split
  · simp [ringsK_len]; omega
  · simp
/-- The ring of a place. -/
def ringC (a d p : Int) : Int := a * (324000 - p) / 1296000 / d
def codeQ (a r d p q : Int) : Int := if okB p q = true then (if (inB a 1 1000000 && inB r 0 100000 && inB d 1 100000) = true then (if a < 4 * r then 5 else if 60 < manyN r d then 5 else if p < edgeC a r then 3 else 0) else 2) else 1
/-- Overlaps. -/
def codeV (a r l : Int) : Int := if code6 a l = 0 then codeR a r else 2
def leastC (a l o : Int) : Int := arcC a (324000 - l) + o
def codeM (a l o : Int) : Int := if (inB a 1 1000000 && inB l 0 324000 && inB o 0 100000) = true then (if 100000 < leastC a l o then 5 else if a < 4 * leastC a l o then 5 else 0) else 2
/-- The places under a cap. -/
def underK (e : Int) (ps : List (Int × Int)) : Nat → List Int
  | 0 => []
  | k + 1 => if e ≤ (ps.getD k (0, 0)).1 then underK e ps k ++ [(k : Int)] else underK e ps k
theorem underK_len (e : Int) (ps : List (Int × Int)) : ∀ k, (underK e ps k).length ≤ k
  | 0 => Nat.le_refl _
  | k + 1 => by
    have := underK_len e ps k
    unfold underK
    split
    · simp; omega
    · omega
def codeU (a r : Int) (ps : List (Int × Int)) : Int := if okL ps = true then (if codeR a r = 2 ∨ 100 < ps.length then 2 else codeR a r) else 1
def underL (a r : Int) (ps : List (Int × Int)) : List Int := if codeU a r ps = 0 then underK (edgeC a r) ps ps.length else []
end Go.Proofs.Ytiemealkdgnhcaa.sines
