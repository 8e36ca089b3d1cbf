/- Chains: the least bound, chains from their end, lengths and sides. -/
import Derived.Test.YtemhmejjmhbfdabChain
namespace Go.Proofs.Ytemhmejjmhbfdab.sines
open Go.ChangeShapes Go.WideShapes Go.ChangeAt Go.RowKit Go.Proofs.Ytemhmejjmhbfdab.spots
set_option linter.unusedVariables false
/-- The first fewest points that stand for a chain. -/
def fewL (ps : List Pl) (d : Int) : List Nat := wayL (withinB ps d) ps.length ps.length 0
theorem fewL_way {ps : List Pl} {d : Int} (h : 0 < ps.length) : IsWay (withinB ps d) ps.length 0 (fewL ps d) ∧ (fewL ps d).length = (tabF (withinB ps d) ps.length 0).1 + 1 ∧ ∃ r, fewL ps d = 0 :: r :=
  wayL_facts (fun k _ => withinB_step ps d k) _ _ h (by omega)
theorem fewL_least {ps : List Pl} {d : Int} (h : 0 < ps.length) {l : List Nat} (hl : IsWay (withinB ps d) ps.length 0 l) : (fewL ps d).length ≤ l.length := by
  rw [(fewL_way h).2.1]
  exact way_least (fun k _ => withinB_step ps d k) l 0 h hl
theorem way_mono {V W : Nat → Nat → Bool} {n : Nat} (h : ∀ i k, i < k → k < n → V i k = true → W i k = true) : ∀ (l : List Nat) (i : Nat), IsWay V n i l → IsWay W n i l
  | [], _, hl => hl
  | [x], _, hl => hl
  | x :: y :: r, i, hl => by
    obtain ⟨h1, h2, h3, h4, h5⟩ := hl
    exact ⟨h1, h2, h3, h _ _ h2 h3 h4, way_mono h (y :: r) y h5⟩
theorem fewL_mono {ps : List Pl} {d e : Int} (h : 0 < ps.length) (h0 : 0 ≤ d) (hd : d ≤ e) : (fewL ps e).length ≤ (fewL ps d).length :=
  fewL_least h (way_mono (fun i k _ _ hw => withinB_mono h0 hd hw) _ _ (fewL_way h).1)
theorem fewL_len_ge {ps : List Pl} {d : Int} (h : 2 ≤ ps.length) : 2 ≤ (fewL ps d).length := by
  obtain ⟨w, _, r, e⟩ := fewL_way (ps := ps) (d := d) (by omega)
  rw [e] at w ⊢
  cases r with
  | nil => obtain ⟨_, w⟩ := w; omega
  | cons y r => simp
theorem fewL_len_le {ps : List Pl} {d : Int} (h : 2 ≤ ps.length) : (fewL ps d).length ≤ ps.length := by
  rw [(fewL_way (by omega)).2.1]
  have := (tabF_facts (W := withinB ps d) (n := ps.length) (fun k _ => withinB_step ps d k) (ps.length - 1) 0 (by omega)).1
  omega
theorem fewL_top {ps : List Pl} (hc : okC ps = true) : (fewL ps 3000).length = 2 := by
  obtain ⟨h1, h2, _⟩ := okC_of hc
  have h3 := fewL_len_ge (d := 3000) h1
  have h4 := fewL_least (ps := ps) (d := 3000) (l := [0, ps.length - 1]) (by omega) ⟨rfl, by omega, by omega, withinB_top hc (by omega) (by omega), rfl, by omega⟩
  simp at h4
  omega
/-- A way from the end. -/
theorem way_append {W : Nat → Nat → Bool} {n : Nat} : ∀ (l : List Nat) (i x : Nat), IsWay W (x + 1) i (l ++ [x]) → ∀ y, x < y → y < n → W x y = true → y + 1 = n → IsWay W n i (l ++ [x, y])
  | [], i, x, h, y, h1, h2, h3, h4 => by
    obtain ⟨rfl, _⟩ := h
    exact ⟨rfl, h1, h2, h3, rfl, h4⟩
  | [a], i, x, h, y, h1, h2, h3, h4 => by
    obtain ⟨rfl, b1, b2, b3, b4⟩ := h
    exact ⟨rfl, b1, by omega, b3, way_append [] x x b4 y h1 h2 h3 h4⟩
  | a :: b :: r, i, x, h, y, h1, h2, h3, h4 => by
    obtain ⟨rfl, b1, b2, b3, b4⟩ := h
    exact ⟨rfl, b1, by omega, b3, way_append (b :: r) b x b4 y h1 h2 h3 h4⟩
/-- A way of a chain, from its end, is one of the chain from its end. -/
theorem way_reverse {W : Nat → Nat → Bool} {n : Nat} : ∀ (l : List Nat) (i : Nat), i < n → IsWay W n i l → IsWay (fun a b => W (n - 1 - b) (n - 1 - a)) (n - i) 0 (l.reverse.map fun j => n - 1 - j)
  | [], _, _, h => h.elim
  | [x], i, hi, h => by
    obtain ⟨rfl, h⟩ := h
    show IsWay _ _ 0 [n - 1 - x]
    exact ⟨by omega, by omega⟩
  | x :: y :: r, i, hi, h => by
    obtain ⟨rfl, h1, h2, h3, h4⟩ := h
    have ih := way_reverse (y :: r) y h2 h4
    rw [List.reverse_cons, List.map_append] at ih
    rw [List.reverse_cons, List.reverse_cons, List.append_assoc, List.map_append]
    show IsWay _ _ 0 ((r.reverse.map fun j => n - 1 - j) ++ [n - 1 - y, n - 1 - x])
    have ih' : IsWay (fun a b => W (n - 1 - b) (n - 1 - a)) (n - 1 - y + 1) 0 ((r.reverse.map fun j => n - 1 - j) ++ [n - 1 - y]) := by
      rw [show n - 1 - y + 1 = n - y by omega]; exact ih
    refine way_append _ _ _ ih' _ (by omega) (by omega) ?_ (by omega)
    show W (n - 1 - (n - 1 - x)) (n - 1 - (n - 1 - y)) = true
    rw [show n - 1 - (n - 1 - x) = x by omega, show n - 1 - (n - 1 - y) = y by omega]
    exact h3
theorem fewL_reverse_le {ps : List Pl} {d : Int} (h : 0 < ps.length) : (fewL ps.reverse d).length ≤ (fewL ps d).length := by
  have hw := way_reverse (fewL ps d) 0 h (fewL_way h).1
  have h2 := fewL_least (ps := ps.reverse) (d := d) (l := (fewL ps d).reverse.map fun j => ps.length - 1 - j) (by simpa using h) (by
    rw [List.length_reverse]
    refine way_mono (fun i k hi hk hv => ?_) _ _ hw
    rw [withinB_reverse (by omega) (by simpa using hk)]
    exact hv)
  simpa using h2
theorem fewL_reverse {ps : List Pl} {d : Int} (h : 0 < ps.length) : (fewL ps.reverse d).length = (fewL ps d).length := by
  have h1 := fewL_reverse_le (d := d) h
  have h2 := fewL_reverse_le (ps := ps.reverse) (d := d) (by simpa using h)
  rw [List.reverse_reverse] at h2
  omega
/-- Points that stand for a chain. -/
def StandsN (ps : List Pl) (d : Int) (l : List Nat) : Prop := 2 ≤ l.length ∧ l.head? = some 0 ∧ l.getLast? = some (ps.length - 1) ∧ (∀ k, (h : k < l.length) → l[k] < ps.length) ∧ ∀ k, (h : k + 1 < l.length) → l[k] < l[k + 1] ∧ withinB ps d l[k] l[k + 1] = true
theorem way_at {W : Nat → Nat → Bool} {n : Nat} : ∀ (l : List Nat) (i : Nat), i < n → IsWay W n i l → l.head? = some i ∧ l.getLast? = some (n - 1) ∧ (∀ k, (h : k < l.length) → l[k] < n) ∧ ∀ k, (h : k + 1 < l.length) → l[k] < l[k + 1] ∧ W l[k] l[k + 1] = true
  | [], _, _, h => h.elim
  | [x], i, hi, h => by
    obtain ⟨rfl, h⟩ := h
    refine ⟨rfl, by simp; omega, fun k hk => ?_, fun k hk => by simp at hk⟩
    obtain rfl : k = 0 := by simp at hk; omega
    exact hi
  | x :: y :: r, i, hi, h => by
    obtain ⟨rfl, h1, h2, h3, h4⟩ := h
    obtain ⟨i1, i2, i3, i4⟩ := way_at (y :: r) y h2 h4
    refine ⟨rfl, by rw [List.getLast?_cons_cons]; exact i2, fun k hk => ?_, fun k hk => ?_⟩
    · cases k with
      | zero => exact hi
      | succ k => exact i3 k (by simpa using hk)
    · cases k with
      | zero => exact ⟨h1, h3⟩
      | succ k => exact i4 k (by simpa using hk)
theorem fewL_stands {ps : List Pl} {d : Int} (h : 2 ≤ ps.length) : StandsN ps d (fewL ps d) := by
  obtain ⟨h1, h2, h3, h4⟩ := way_at _ 0 (by omega) (fewL_way (ps := ps) (d := d) (by omega)).1
  exact ⟨fewL_len_ge h, h1, h2, h3, h4⟩
/-- The least bound for so many points. -/
def leastD (ps : List Pl) (many : Int) : Int := (((List.range 3001).find? fun b : Nat => decide (((fewL ps (b : Int)).length : Int) ≤ many)).getD 3000 : Nat)
theorem leastD_is {ps : List Pl} {many : Int} (hc : okC ps = true) (hm : 2 ≤ many) : 0 ≤ leastD ps many ∧ leastD ps many ≤ 3000 ∧ ((fewL ps (leastD ps many)).length : Int) ≤ many ∧ ∀ b, 0 ≤ b → b < leastD ps many → many < ((fewL ps b).length : Int) := by
  obtain ⟨x, hx⟩ : ∃ x, (List.range 3001).find? (fun b : Nat => decide (((fewL ps (b : Int)).length : Int) ≤ many)) = some x := by
    have : ((List.range 3001).find? fun b : Nat => decide (((fewL ps (b : Int)).length : Int) ≤ many)).isSome = true := by
      rw [List.find?_isSome]
      refine ⟨3000, by simp, ?_⟩
      have := fewL_top hc
      simp only [decide_eq_true_eq]
      show ((fewL ps 3000).length : Int) ≤ many
      omega
    exact Option.isSome_iff_exists.1 this
  have hp := List.find?_some hx
  have hmem := List.mem_of_find?_eq_some hx
  simp only [decide_eq_true_eq] at hp
  have e : leastD ps many = (x : Int) := by unfold leastD; rw [hx]; rfl
  rw [e]
  refine ⟨by omega, by have := List.mem_range.1 hmem; omega, hp, fun b b0 b1 => ?_⟩
  rw [List.find?_range_eq_some] at hx
  obtain ⟨_, _, h3⟩ := hx
  have := h3 b.toNat (by omega)
  simp only [Bool.not_eq_true', decide_eq_false_iff_not] at this
  rw [show ((b.toNat : Nat) : Int) = b by omega] at this
  omega
theorem leastD_eq {ps : List Pl} {many h : Int} (hc : okC ps = true) (hm : 2 ≤ many) (h0 : 0 ≤ h) (h1 : h ≤ 3000) (hg : ((fewL ps h).length : Int) ≤ many) (hb : h = 0 ∨ many < ((fewL ps (h - 1)).length : Int)) : leastD ps many = h := by
  obtain ⟨a0, a1, a2, a3⟩ := leastD_is hc hm
  have hl := (okC_of hc).1
  rcases Int.lt_trichotomy (leastD ps many) h with k | k | k
  · rcases hb with hb | hb
    · omega
    · have := fewL_mono (ps := ps) (d := leastD ps many) (e := h - 1) (by omega) a0 (by omega)
      omega
  · exact k
  · have := a3 h h0 k
    omega

/-! ### lengths -/
/-- A square root, rounded down (for numbers below 16000000). -/
def rootI (n : Int) : Int := (((List.range 4000).find? fun r : Nat => decide (n < ((r : Int) + 1) * ((r : Int) + 1))).getD 0 : Nat)
theorem sq_lt {x y : Int} (h0 : 0 ≤ x) (h : x < y) : x * x < y * y := by
  have h1 : x * x ≤ x * y := Int.mul_le_mul_of_nonneg_left (by omega) h0
  have h2 : x * y < y * y := Int.mul_lt_mul_of_pos_right h (by omega)
  omega
theorem sq_le {x y : Int} (h0 : 0 ≤ x) (h : x ≤ y) : x * x ≤ y * y := Int.mul_le_mul h h h0 (by omega)
theorem root_eq {n r : Int} (h0 : 0 ≤ r) (h1 : r * r ≤ n) (h2 : n < (r + 1) * (r + 1)) (hn : n < 16000000) : rootI n = r := by
  have hr : r < 4000 := by
    rcases Int.lt_or_le r 4000 with h | h
    · exact h
    · have := sq_le (by omega) h; omega
  have hx : (List.range 4000).find? (fun r : Nat => decide (n < ((r : Int) + 1) * ((r : Int) + 1))) = some r.toNat := by
    rw [List.find?_range_eq_some]
    have e : ((r.toNat : Nat) : Int) = r := by omega
    refine ⟨by simp only [decide_eq_true_eq, e]; exact h2, List.mem_range.2 (by omega), fun j hj => ?_⟩
    simp only [Bool.not_eq_true', decide_eq_false_iff_not, Int.not_lt]
    have := sq_le (x := (j : Int) + 1) (y := r) (by omega) (by omega)
    omega
  unfold rootI
  rw [hx]
  show ((r.toNat : Nat) : Int) = r
  omega
theorem root_is {n : Int} (h0 : 0 ≤ n) (hn : n < 16000000) : 0 ≤ rootI n ∧ rootI n < 4000 ∧ rootI n * rootI n ≤ n ∧ n < (rootI n + 1) * (rootI n + 1) := by
  obtain ⟨x, hx⟩ : ∃ x, (List.range 4000).find? (fun r : Nat => decide (n < ((r : Int) + 1) * ((r : Int) + 1))) = some x := by
    have : ((List.range 4000).find? fun r : Nat => decide (n < ((r : Int) + 1) * ((r : Int) + 1))).isSome = true := by
      rw [List.find?_isSome]
      refine ⟨3999, by simp, ?_⟩
      simp only [decide_eq_true_eq]
      show n < (3999 + 1) * (3999 + 1)
      omega
    exact Option.isSome_iff_exists.1 this
  have hm := List.mem_range.1 (List.mem_of_find?_eq_some hx)
  have e : rootI n = (x : Int) := by unfold rootI; rw [hx]; rfl
  rw [List.find?_range_eq_some] at hx
  obtain ⟨h1, _, h3⟩ := hx
  simp only [decide_eq_true_eq] at h1
  rw [e]
  refine ⟨by omega, by omega, ?_, h1⟩
  cases x with
  | zero => simpa using h0
  | succ x =>
    have := h3 x (by omega)
    simp only [Bool.not_eq_true', decide_eq_false_iff_not, Int.not_lt] at this
    rw [show ((x + 1 : Nat) : Int) = (x : Int) + 1 by omega]
    exact this
def ceilI (n : Int) : Int := if rootI n * rootI n < n then rootI n + 1 else rootI n
theorem ceil_is {n : Int} (h0 : 0 ≤ n) (hn : n < 16000000) : rootI n ≤ ceilI n ∧ ceilI n ≤ rootI n + 1 ∧ n ≤ ceilI n * ceilI n := by
  obtain ⟨a, b, c, d⟩ := root_is h0 hn
  unfold ceilI
  split <;> omega
def lowN (ps : List Pl) : Nat → Int
  | 0 => 0
  | k + 1 => lowN ps k + rootI (farI (pAt ps k) (pAt ps (k + 1)))
def highN (ps : List Pl) : Nat → Int
  | 0 => 0
  | k + 1 => highN ps k + ceilI (farI (pAt ps k) (pAt ps (k + 1)))
def alongN (ps : List Pl) : Nat → Int
  | 0 => 0
  | k + 1 => alongN ps k + max ((pAt ps (k + 1)).1 - (pAt ps k).1) ((pAt ps k).1 - (pAt ps (k + 1)).1)
theorem step_facts {a b : Pl} (ha : okP a = true) (hb : okP b = true) : 0 ≤ rootI (farI a b) ∧ rootI (farI a b) < 4000 ∧ rootI (farI a b) ≤ ceilI (farI a b) ∧ ceilI (farI a b) ≤ rootI (farI a b) + 1 ∧ max (b.1 - a.1) (a.1 - b.1) ≤ ceilI (farI a b) := by
  obtain ⟨f1, f2⟩ := farI_bounds ha hb
  obtain ⟨r1, r2, r3, r4⟩ := root_is f1 (by omega)
  obtain ⟨c1, c2, c3⟩ := ceil_is f1 (by omega)
  refine ⟨r1, r2, c1, c2, ?_⟩
  have h1 : (b.1 - a.1) * (b.1 - a.1) ≤ farI a b := by unfold farI; have := sq_nonneg' (b.2 - a.2); omega
  have key : ∀ x : Int, x * x ≤ farI a b → x ≤ ceilI (farI a b) := fun x hx => by
    rcases Int.lt_or_le (ceilI (farI a b)) x with h | h
    · have := sq_lt (by omega) h; omega
    · exact h
  have h2 := key _ h1
  have h3 := key (a.1 - b.1) (by have : (a.1 - b.1) * (a.1 - b.1) = (b.1 - a.1) * (b.1 - a.1) := by grind
                                 omega)
  omega
theorem sums_facts {ps : List Pl} (hc : okC ps = true) : ∀ k, k < ps.length → 0 ≤ lowN ps k ∧ lowN ps k ≤ 4000 * k ∧ lowN ps k ≤ highN ps k ∧ highN ps k ≤ lowN ps k + k ∧ alongN ps k ≤ highN ps k ∧ 0 ≤ alongN ps k ∧ alongN ps k ≤ 2000 * k := by
  intro k
  induction k with
  | zero => intro _; simp [lowN, highN, alongN]
  | succ k ih =>
    intro hk
    obtain ⟨h1, h2, h3, h4, h5, h6, h7⟩ := ih (by omega)
    obtain ⟨_, _, ho⟩ := okC_of hc
    obtain ⟨s1, s2, s3, s4, s5⟩ := step_facts (ho k (by omega)) (ho (k + 1) hk)
    obtain ⟨x1, x2, _⟩ := okP_of (ho k (by omega))
    obtain ⟨y1, y2, _⟩ := okP_of (ho (k + 1) hk)
    simp only [lowN, highN, alongN]
    omega
theorem farI_sym (a b : Pl) : farI a b = farI b a := by unfold farI; grind
theorem low_reverse {ps : List Pl} : ∀ k, k < ps.length → lowN ps.reverse k + lowN ps (ps.length - 1 - k) = lowN ps (ps.length - 1) := by
  intro k
  induction k with
  | zero => intro _; simp [lowN]
  | succ k ih =>
    intro hk
    have h := ih (by omega)
    rw [show ps.length - 1 - k = (ps.length - 1 - (k + 1)) + 1 by omega] at h
    simp only [lowN] at h ⊢
    rw [pAt_reverse (by omega), pAt_reverse hk, farI_sym, show ps.length - 1 - k = ps.length - 1 - (k + 1) + 1 by omega]
    omega
theorem high_reverse {ps : List Pl} : ∀ k, k < ps.length → highN ps.reverse k + highN ps (ps.length - 1 - k) = highN ps (ps.length - 1) := by
  intro k
  induction k with
  | zero => intro _; simp [highN]
  | succ k ih =>
    intro hk
    have h := ih (by omega)
    rw [show ps.length - 1 - k = (ps.length - 1 - (k + 1)) + 1 by omega] at h
    simp only [highN] at h ⊢
    rw [pAt_reverse (by omega), pAt_reverse hk, farI_sym, show ps.length - 1 - k = ps.length - 1 - (k + 1) + 1 by omega]
    omega

/-! ### sides -/
def leftN (ps : List Pl) (k : Nat) : Nat := (ps.take k).countP fun p => decide (0 < crossI (pAt ps 0) (pAt ps (ps.length - 1)) p)
def rightN (ps : List Pl) (k : Nat) : Nat := (ps.take k).countP fun p => decide (crossI (pAt ps 0) (pAt ps (ps.length - 1)) p < 0)
theorem leftN_succ {ps : List Pl} {k : Nat} (h : k < ps.length) : leftN ps (k + 1) = leftN ps k + if 0 < crossI (pAt ps 0) (pAt ps (ps.length - 1)) (pAt ps k) then 1 else 0 := by
  unfold leftN
  rw [List.take_add_one, List.getElem?_eq_getElem h, List.countP_append, pAt_eq h]
  simp [List.countP_cons]
theorem rightN_succ {ps : List Pl} {k : Nat} (h : k < ps.length) : rightN ps (k + 1) = rightN ps k + if crossI (pAt ps 0) (pAt ps (ps.length - 1)) (pAt ps k) < 0 then 1 else 0 := by
  unfold rightN
  rw [List.take_add_one, List.getElem?_eq_getElem h, List.countP_append, pAt_eq h]
  simp [List.countP_cons]
theorem cross_swap (a b p : Pl) : crossI b a p = - crossI a b p := by unfold crossI; grind
theorem cross_first (a b : Pl) : crossI a b a = 0 := by unfold crossI; grind
theorem cross_last (a b : Pl) : crossI a b b = 0 := by unfold crossI; grind
theorem sides_reverse {ps : List Pl} (h : 2 ≤ ps.length) : leftN ps.reverse ps.reverse.length = rightN ps ps.length ∧ rightN ps.reverse ps.reverse.length = leftN ps ps.length := by
  have e1 : pAt ps.reverse 0 = pAt ps (ps.length - 1) := by rw [pAt_reverse (by omega)]; rfl
  have e2 : pAt ps.reverse (ps.reverse.length - 1) = pAt ps 0 := by rw [List.length_reverse, pAt_reverse (by omega)]; congr 1; omega
  unfold leftN rightN
  rw [e1, e2, List.take_length, List.take_length, List.countP_reverse, List.countP_reverse]
  constructor
  · congr 1; funext p; rw [cross_swap]; simp
  · congr 1; funext p; rw [cross_swap]; simp
theorem countP_two {α : Type} (p q : α → Bool) (l : List α) (h : ∀ x ∈ l, ¬ (p x = true ∧ q x = true)) : l.countP p + l.countP q ≤ l.length := by
  induction l with
  | nil => simp
  | cons x l ih =>
    have := ih fun y hy => h y (by simp [hy])
    have h2 := h x (by simp)
    simp only [List.countP_cons, List.length_cons]
    cases hp : p x <;> cases hq : q x <;> simp [hp, hq] at h2 ⊢ <;> omega
theorem sides_few {ps : List Pl} (h : 2 ≤ ps.length) : leftN ps ps.length + rightN ps ps.length ≤ ps.length - 2 := by
  obtain ⟨a, t, rfl⟩ : ∃ a t, ps = a :: t := by cases ps with | nil => simp at h | cons a t => exact ⟨a, t, rfl⟩
  have ht : t ≠ [] := by intro e; subst e; simp at h
  obtain ⟨m, b, rfl⟩ : ∃ m b, t = m ++ [b] := ⟨t.dropLast, t.getLast ht, (List.dropLast_concat_getLast ht).symm⟩
  have e1 : pAt (a :: (m ++ [b])) 0 = a := rfl
  have e2 : pAt (a :: (m ++ [b])) ((a :: (m ++ [b])).length - 1) = b := by
    rw [pAt_eq (by simp)]
    simp
  unfold leftN rightN
  rw [e1, e2, List.take_length]
  simp only [List.countP_cons, List.countP_append, List.countP_nil, cross_first, cross_last]
  have := countP_two (fun p => decide (0 < crossI a b p)) (fun p => decide (crossI a b p < 0)) m (fun x _ hx => by simp at hx; omega)
  simp
  omega
end Go.Proofs.Ytemhmejjmhbfdab.sines
