/- Chains: what is reckoned of lines, and the fewest points. -/
import Derived.Test.YtemhmejjmhbfdabSines
namespace Go.Proofs.Ytemhmejjmhbfdab.sines
open Go.ChangeShapes Go.WideShapes Go.ChangeAt Go.RowKit Go.Proofs.Ytemhmejjmhbfdab.spots
set_option linter.unusedVariables false
abbrev Pl := Int × Int
def pAt (ps : List Pl) (i : Nat) : Pl := ps.getD i (0, 0)
theorem pAt_eq {ps : List Pl} {i : Nat} (h : i < ps.length) : pAt ps i = ps[i] := by simp [pAt, h]
/-- On which side of a line a place is. -/
def crossI (a b p : Pl) : Int := (b.1 - a.1) * (p.2 - a.2) - (b.2 - a.2) * (p.1 - a.1)
/-- The squared distance of two places. -/
def farI (a b : Pl) : Int := (b.1 - a.1) * (b.1 - a.1) + (b.2 - a.2) * (b.2 - a.2)
def nearB (a b p : Pl) (d : Int) : Bool := if a = b then decide (farI a p ≤ d * d) else decide (crossI a b p * crossI a b p ≤ d * d * farI a b)
def okP (p : Pl) : Bool := inB p.1 0 2000 && inB p.2 0 2000
def okC (ps : List Pl) : Bool := ps.all okP && inB (ps.length : Int) 2 24
theorem okP_of {p : Pl} (h : okP p = true) : 0 ≤ p.1 ∧ p.1 ≤ 2000 ∧ 0 ≤ p.2 ∧ p.2 ≤ 2000 := by
  simp [okP, inB] at h
  omega
theorem okC_of {ps : List Pl} (h : okC ps = true) : 2 ≤ ps.length ∧ ps.length ≤ 24 ∧ ∀ i, i < ps.length → okP (pAt ps i) = true := by
  simp only [okC, Bool.and_eq_true, List.all_eq_true] at h
  obtain ⟨h1, h2⟩ := h
  obtain ⟨h3, h4⟩ := inB_of h2
  refine ⟨by omega, by omega, fun i hi => ?_⟩
  rw [pAt_eq hi]
  exact h1 _ (List.getElem_mem _)
theorem sq_bound {x : Int} (h1 : -2000 ≤ x) (h2 : x ≤ 2000) : 0 ≤ x * x ∧ x * x ≤ 4000000 := by
  have h3 : 0 ≤ (2000 - x) * (2000 + x) := Int.mul_nonneg (by omega) (by omega)
  have h4 : (2000 - x) * (2000 + x) = 4000000 - x * x := by grind
  have h5 : 0 ≤ x * x := by
    rcases Int.le_total 0 x with h | h
    · exact Int.mul_nonneg h h
    · have : 0 ≤ (-x) * (-x) := Int.mul_nonneg (by omega) (by omega)
      rwa [Int.neg_mul_neg] at this
  omega
theorem sq_nonneg' (x : Int) : 0 ≤ x * x := by
  rcases Int.le_total 0 x with h | h
  · exact Int.mul_nonneg h h
  · have : 0 ≤ (-x) * (-x) := Int.mul_nonneg (by omega) (by omega)
    rwa [Int.neg_mul_neg] at this
theorem mul_bound {x y : Int} (h1 : -2000 ≤ x) (h2 : x ≤ 2000) (h3 : -2000 ≤ y) (h4 : y ≤ 2000) : -4000000 ≤ x * y ∧ x * y ≤ 4000000 := by
  obtain ⟨a1, a2⟩ := sq_bound h1 h2
  obtain ⟨b1, b2⟩ := sq_bound h3 h4
  have c1 := sq_nonneg' (x - y)
  have c2 := sq_nonneg' (x + y)
  have e1 : (x - y) * (x - y) = x * x - 2 * (x * y) + y * y := by grind
  have e2 : (x + y) * (x + y) = x * x + 2 * (x * y) + y * y := by grind
  omega
theorem farI_bounds {a b : Pl} (ha : okP a = true) (hb : okP b = true) : 0 ≤ farI a b ∧ farI a b ≤ 8000000 := by
  obtain ⟨a1, a2, a3, a4⟩ := okP_of ha
  obtain ⟨b1, b2, b3, b4⟩ := okP_of hb
  obtain ⟨c1, c2⟩ := sq_bound (x := b.1 - a.1) (by omega) (by omega)
  obtain ⟨d1, d2⟩ := sq_bound (x := b.2 - a.2) (by omega) (by omega)
  unfold farI
  omega
theorem crossI_bounds {a b p : Pl} (ha : okP a = true) (hb : okP b = true) (hp : okP p = true) : -8000000 ≤ crossI a b p ∧ crossI a b p ≤ 8000000 := by
  obtain ⟨a1, a2, a3, a4⟩ := okP_of ha
  obtain ⟨b1, b2, b3, b4⟩ := okP_of hb
  obtain ⟨p1, p2, p3, p4⟩ := okP_of hp
  obtain ⟨c1, c2⟩ := mul_bound (x := b.1 - a.1) (y := p.2 - a.2) (by omega) (by omega) (by omega) (by omega)
  obtain ⟨d1, d2⟩ := mul_bound (x := b.2 - a.2) (y := p.1 - a.1) (by omega) (by omega) (by omega) (by omega)
  unfold crossI
  omega
theorem crossSq_bounds {a b p : Pl} (ha : okP a = true) (hb : okP b = true) (hp : okP p = true) : 0 ≤ crossI a b p * crossI a b p ∧ crossI a b p * crossI a b p ≤ 64000000000000 := by
  obtain ⟨h1, h2⟩ := crossI_bounds ha hb hp
  refine ⟨sq_nonneg' _, ?_⟩
  have h3 : 0 ≤ (8000000 - crossI a b p) * (8000000 + crossI a b p) := Int.mul_nonneg (by omega) (by omega)
  have h4 : (8000000 - crossI a b p) * (8000000 + crossI a b p) = 64000000000000 - crossI a b p * crossI a b p := by grind
  omega
theorem boundSq {d : Int} (h1 : 0 ≤ d) (h2 : d ≤ 3000) : 0 ≤ d * d ∧ d * d ≤ 9000000 := by
  refine ⟨Int.mul_nonneg h1 h1, ?_⟩
  have h3 : 0 ≤ (3000 - d) * (3000 + d) := Int.mul_nonneg (by omega) (by omega)
  have h4 : (3000 - d) * (3000 + d) = 9000000 - d * d := by grind
  omega
theorem boundFar {d F : Int} (h1 : 0 ≤ d) (h2 : d ≤ 3000) (f1 : 0 ≤ F) (f2 : F ≤ 8000000) : 0 ≤ d * d * F ∧ d * d * F ≤ 72000000000000 := by
  obtain ⟨a1, a2⟩ := boundSq h1 h2
  refine ⟨Int.mul_nonneg a1 f1, ?_⟩
  have h3 : d * d * F ≤ 9000000 * F := Int.mul_le_mul_of_nonneg_right a2 f1
  omega
theorem near_mono' {a b p : Pl} {d e : Int} (h0 : 0 ≤ d) (h : d ≤ e) (hn : nearB a b p d = true) : nearB a b p e = true := by
  have h1 : d * d ≤ e * e := Int.mul_le_mul h h h0 (by omega)
  have h2 : 0 ≤ farI a b := by unfold farI; have := sq_nonneg' (b.1 - a.1); have := sq_nonneg' (b.2 - a.2); omega
  unfold nearB at hn ⊢
  by_cases hab : a = b
  · rw [if_pos hab] at hn ⊢
    simp only [decide_eq_true_eq] at hn ⊢; omega
  · rw [if_neg hab] at hn ⊢
    simp only [decide_eq_true_eq] at hn ⊢
    have h3 : d * d * farI a b ≤ e * e * farI a b := Int.mul_le_mul_of_nonneg_right h1 h2
    omega
theorem near_sym (a b p : Pl) (d : Int) : nearB a b p d = nearB b a p d := by
  unfold nearB
  by_cases h : a = b
  · subst h; rfl
  · rw [if_neg h, if_neg (fun e => h e.symm)]
    have e1 : crossI b a p * crossI b a p = crossI a b p * crossI a b p := by unfold crossI; grind
    have e2 : farI b a = farI a b := by unfold farI; grind
    rw [e1, e2]
theorem near_top {a b p : Pl} (ha : okP a = true) (hb : okP b = true) (hp : okP p = true) : nearB a b p 3000 = true := by
  obtain ⟨f1, f2⟩ := farI_bounds ha hb
  obtain ⟨g1, g2⟩ := farI_bounds ha hp
  unfold nearB
  split
  · simp only [decide_eq_true_eq]; omega
  · simp only [decide_eq_true_eq]
    have e : crossI a b p * crossI a b p + ((b.1 - a.1) * (p.1 - a.1) + (b.2 - a.2) * (p.2 - a.2)) * ((b.1 - a.1) * (p.1 - a.1) + (b.2 - a.2) * (p.2 - a.2)) = farI a p * farI a b := by unfold crossI farI; grind
    have s := sq_nonneg' ((b.1 - a.1) * (p.1 - a.1) + (b.2 - a.2) * (p.2 - a.2))
    have h3 : farI a p * farI a b ≤ 9000000 * farI a b := Int.mul_le_mul_of_nonneg_right (by omega) f1
    have h4 : (3000 : Int) * 3000 = 9000000 := by decide
    rw [h4]
    omega
/-- Whether a line may stand for a part of a chain. -/
def withinB (ps : List Pl) (d : Int) (i k : Nat) : Bool := (List.range k).all fun j => decide (j ≤ i) || nearB (pAt ps i) (pAt ps k) (pAt ps j) d
theorem withinB_iff {ps : List Pl} {d : Int} {i k : Nat} : withinB ps d i k = true ↔ ∀ j, i < j → j < k → nearB (pAt ps i) (pAt ps k) (pAt ps j) d = true := by
  simp only [withinB, List.all_eq_true, List.mem_range, Bool.or_eq_true, decide_eq_true_eq]
  constructor
  · intro h j h1 h2
    rcases h j h2 with h3 | h3
    · omega
    · exact h3
  · intro h j h2
    by_cases h1 : j ≤ i
    · exact .inl h1
    · exact .inr (h j (by omega) h2)
theorem withinB_step (ps : List Pl) (d : Int) (i : Nat) : withinB ps d i (i + 1) = true := withinB_iff.2 fun j h1 h2 => by omega
theorem withinB_mono {ps : List Pl} {d e : Int} {i k : Nat} (h0 : 0 ≤ d) (h : d ≤ e) (hw : withinB ps d i k = true) : withinB ps e i k = true :=
  withinB_iff.2 fun j h1 h2 => near_mono' h0 h (withinB_iff.1 hw j h1 h2)
theorem withinB_top {ps : List Pl} (hc : okC ps = true) {i k : Nat} (hi : i < ps.length) (hk : k < ps.length) : withinB ps 3000 i k = true :=
  withinB_iff.2 fun j h1 h2 => near_top ((okC_of hc).2.2 i hi) ((okC_of hc).2.2 k hk) ((okC_of hc).2.2 j (by omega))
theorem pAt_reverse {ps : List Pl} {i : Nat} (h : i < ps.length) : pAt ps.reverse i = pAt ps (ps.length - 1 - i) := by
  rw [pAt_eq (by simpa using h), pAt_eq (by omega), List.getElem_reverse]
theorem withinB_reverse {ps : List Pl} {d : Int} {i k : Nat} (hi : i ≤ k) (hk : k < ps.length) : withinB ps.reverse d i k = withinB ps d (ps.length - 1 - k) (ps.length - 1 - i) := by
  have : withinB ps.reverse d i k = true ↔ withinB ps d (ps.length - 1 - k) (ps.length - 1 - i) = true := by
    rw [withinB_iff, withinB_iff]
    constructor
    · intro h j h1 h2
      have := h (ps.length - 1 - j) (by omega) (by omega)
      rw [pAt_reverse (by omega), pAt_reverse hk, pAt_reverse (by omega), near_sym, show ps.length - 1 - (ps.length - 1 - j) = j by omega] at this
      exact this
    · intro h j h1 h2
      rw [pAt_reverse (by omega), pAt_reverse hk, pAt_reverse (by omega), near_sym]
      exact h (ps.length - 1 - j) (by omega) (by omega)
  cases h1 : withinB ps.reverse d i k <;> cases h2 : withinB ps d (ps.length - 1 - k) (ps.length - 1 - i) <;> simp [h1, h2] at this ⊢

/-! ### the fewest points -/
/-- The best next point among the first m ones behind i. -/
def bestT (W : Nat → Nat → Bool) (n i : Nat) (N : Nat → Nat) : Nat → Nat × Nat
  | 0 => (n, 0)
  | m + 1 => if N (i + 1 + m) + 1 < (bestT W n i N m).1 ∧ W i (i + 1 + m) = true then (N (i + 1 + m) + 1, i + 1 + m) else bestT W n i N m
theorem bestT_congr {W : Nat → Nat → Bool} {n i : Nat} {N M : Nat → Nat} : ∀ m, (∀ k, i < k → k < i + 1 + m → N k = M k) → bestT W n i N m = bestT W n i M m
  | 0, _ => rfl
  | m + 1, h => by
    rw [bestT, bestT, bestT_congr m fun k h1 h2 => h k h1 (by omega), h (i + 1 + m) (by omega) (by omega)]
/-- What the tables hold when m points from the end on, besides the last one, are done. -/
def tabN (W : Nat → Nat → Bool) (n : Nat) : Nat → Nat → Nat × Nat
  | 0, _ => (0, 0)
  | m + 1, j => if j + 2 + m = n then bestT W n j (fun k => (tabN W n m k).1) (m + 1) else tabN W n m j
theorem tabN_late {W : Nat → Nat → Bool} {n j : Nat} : ∀ m m', n ≤ j + 1 + m → m ≤ m' → tabN W n m' j = tabN W n m j
  | m, 0, h1, h2 => by obtain rfl : m = 0 := (by omega); rfl
  | m, m' + 1, h1, h2 => by
    by_cases h : m = m' + 1
    · subst h; rfl
    · rw [tabN, if_neg (by omega)]
      exact tabN_late m m' h1 (by omega)
theorem tabN_early {W : Nat → Nat → Bool} {n j : Nat} : ∀ m, j + 2 + m ≤ n → tabN W n m j = (0, 0)
  | 0, _ => rfl
  | m + 1, h => by rw [tabN, if_neg (by omega)]; exact tabN_early m (by omega)
theorem tabN_now {W : Nat → Nat → Bool} {n j m : Nat} (h : j + 2 + m = n) : tabN W n (m + 1) j = bestT W n j (fun k => (tabN W n m k).1) (m + 1) := by rw [tabN, if_pos h]
theorem tabN_past {W : Nat → Nat → Bool} {n j m : Nat} (h : j + 2 + m ≠ n) : tabN W n (m + 1) j = tabN W n m j := by rw [tabN, if_neg h]
def tabF (W : Nat → Nat → Bool) (n : Nat) (j : Nat) : Nat × Nat := tabN W n (n - 1) j
theorem tabF_last {W : Nat → Nat → Bool} {n : Nat} (j : Nat) (h : n ≤ j + 1) : tabF W n j = (0, 0) := by
  unfold tabF
  rw [tabN_late 0 (n - 1) (by omega) (by omega)]
  rfl
theorem tabF_step {W : Nat → Nat → Bool} {n : Nat} (j : Nat) (h : j + 1 < n) : tabF W n j = bestT W n j (fun k => (tabF W n k).1) (n - 1 - j) := by
  unfold tabF
  obtain ⟨m, hm⟩ : ∃ m, n = j + 2 + m := ⟨n - (j + 2), by omega⟩
  rw [tabN_late (m + 1) (n - 1) (by omega) (by omega), tabN, if_pos hm.symm, show n - 1 - j = m + 1 by omega]
  exact bestT_congr _ fun k h1 h2 => by rw [tabN_late m (n - 1) (by omega) (by omega)]
/-- What the best next point is good for: if one is near enough, one is told; it is the first of the best. -/
theorem bestT_facts {W : Nat → Nat → Bool} {n i : Nat} {N : Nat → Nat} : ∀ m,
    (bestT W n i N m = (n, 0) ∨ (i < (bestT W n i N m).2 ∧ (bestT W n i N m).2 < i + 1 + m ∧ W i (bestT W n i N m).2 = true ∧ (bestT W n i N m).1 = N (bestT W n i N m).2 + 1 ∧ (bestT W n i N m).1 < n ∧ ∀ k, i < k → k < (bestT W n i N m).2 → W i k = true → (bestT W n i N m).1 < N k + 1)) ∧
    (bestT W n i N m).1 ≤ n ∧ ∀ k, i < k → k < i + 1 + m → W i k = true → (bestT W n i N m).1 ≤ N k + 1
  | 0 => ⟨.inl rfl, Nat.le_refl _, fun k h1 h2 => by omega⟩
  | m + 1 => by
    obtain ⟨h1, h2, h3⟩ := @bestT_facts W n i N m
    by_cases hc : N (i + 1 + m) + 1 < (bestT W n i N m).1 ∧ W i (i + 1 + m) = true
    · have e : bestT W n i N (m + 1) = (N (i + 1 + m) + 1, i + 1 + m) := by rw [bestT, if_pos hc]
      rw [e]
      refine ⟨.inr ⟨by simp only; omega, by simp only; omega, hc.2, rfl, by simp only; omega, fun k k1 k2 kw => ?_⟩, by simp only; omega, fun k k1 k2 kw => ?_⟩
      · have := h3 k k1 k2 kw; simp only; omega
      · by_cases hk : k = i + 1 + m
        · subst hk; exact Nat.le_refl _
        · have := h3 k k1 (by omega) kw; simp only; omega
    · have e : bestT W n i N (m + 1) = bestT W n i N m := by rw [bestT, if_neg hc]
      rw [e]
      refine ⟨?_, h2, fun k k1 k2 kw => ?_⟩
      · rcases h1 with h1 | ⟨a1, a2, a3⟩
        · exact .inl h1
        · exact .inr ⟨a1, by omega, a3⟩
      · by_cases hk : k = i + 1 + m
        · subst hk
          rcases Nat.lt_or_ge (N (i + 1 + m) + 1) (bestT W n i N m).1 with h | h
          · exact absurd ⟨h, kw⟩ hc
          · exact h
        · exact h3 k k1 (by omega) kw
/-- The tables: a next point that is near enough, the best one, the first of several. -/
theorem tabF_facts {W : Nat → Nat → Bool} {n : Nat} (hW : ∀ k, k + 1 < n → W k (k + 1) = true) : ∀ d j, n = j + 1 + d → (tabF W n j).1 ≤ d ∧
    (0 < d → j < (tabF W n j).2 ∧ (tabF W n j).2 < n ∧ W j (tabF W n j).2 = true ∧ (tabF W n j).1 = (tabF W n (tabF W n j).2).1 + 1 ∧ (∀ k, j < k → k < n → W j k = true → (tabF W n j).1 ≤ (tabF W n k).1 + 1) ∧ ∀ k, j < k → k < (tabF W n j).2 → W j k = true → (tabF W n j).1 < (tabF W n k).1 + 1) := by
  intro d
  induction d with
  | zero => intro j h; rw [tabF_last j (by omega)]; exact ⟨Nat.le_refl _, fun h => by omega⟩
  | succ d ih =>
    intro j h
    have h1 := (ih (j + 1) (by omega)).1
    have hs := tabF_step (W := W) j (show j + 1 < n by omega)
    obtain ⟨f1, f2, f3⟩ := @bestT_facts W n j (fun k => (tabF W n k).1) (n - 1 - j)
    rw [← hs] at f1 f2 f3
    have h2 := f3 (j + 1) (by omega) (by omega) (hW j (by omega))
    try simp only at h2
    try simp only at f3
    refine ⟨by omega, fun _ => ?_⟩
    rcases f1 with f1 | ⟨a1, a2, a3, a4, a5, a6⟩
    · rw [f1] at h2; simp only at h2; omega
    · exact ⟨a1, by omega, a3, a4, fun k k1 k2 kw => f3 k k1 (by omega) kw, a6⟩
/-- Ways from a point to the last one. -/
def IsWay (W : Nat → Nat → Bool) (n : Nat) : Nat → List Nat → Prop
  | _, [] => False
  | i, [x] => x = i ∧ i + 1 = n
  | i, x :: y :: r => x = i ∧ i < y ∧ y < n ∧ W i y = true ∧ IsWay W n y (y :: r)
theorem way_least {W : Nat → Nat → Bool} {n : Nat} (hW : ∀ k, k + 1 < n → W k (k + 1) = true) : ∀ (l : List Nat) (i : Nat), i < n → IsWay W n i l → (tabF W n i).1 + 1 ≤ l.length
  | [], i, _, h => h.elim
  | [x], i, _, h => by
    obtain ⟨rfl, h⟩ := h
    rw [tabF_last x (by omega)]
    simp
  | x :: y :: r, i, hi, h => by
    obtain ⟨rfl, h1, h2, h3, h4⟩ := h
    have ih := way_least hW (y :: r) y h2 h4
    have := (((tabF_facts hW (n - 1 - x) x (by omega)).2 (by omega)).2.2.2.2.1) y h1 h2 h3
    simp only [List.length_cons] at ih ⊢
    omega
/-- The told way. -/
def wayL (W : Nat → Nat → Bool) (n : Nat) : Nat → Nat → List Nat
  | 0, i => [i]
  | f + 1, i => if i + 1 < n then i :: wayL W n f (tabF W n i).2 else [i]
theorem wayL_facts {W : Nat → Nat → Bool} {n : Nat} (hW : ∀ k, k + 1 < n → W k (k + 1) = true) : ∀ (f i : Nat), i < n → n ≤ i + 1 + f → IsWay W n i (wayL W n f i) ∧ (wayL W n f i).length = (tabF W n i).1 + 1 ∧ ∃ r, wayL W n f i = i :: r
  | 0, i, h1, h2 => by
    refine ⟨⟨rfl, by omega⟩, ?_, ⟨[], rfl⟩⟩
    rw [tabF_last i (by omega)]
    rfl
  | f + 1, i, h1, h2 => by
    unfold wayL
    split
    · rename_i hlt
      obtain ⟨a1, a2, a3, a4, _⟩ := (tabF_facts hW (n - 1 - i) i (by omega)).2 (by omega)
      obtain ⟨w1, w2, r, w3⟩ := wayL_facts hW f (tabF W n i).2 a2 (by omega)
      refine ⟨?_, ?_, ⟨_, rfl⟩⟩
      · rw [w3] at w1 ⊢
        exact ⟨rfl, a1, a2, a3, w1⟩
      · rw [List.length_cons, w2]; omega
    · refine ⟨⟨rfl, by omega⟩, ?_, ⟨[], rfl⟩⟩
      rw [tabF_last i (by omega)]
      rfl
end Go.Proofs.Ytemhmejjmhbfdab.sines
