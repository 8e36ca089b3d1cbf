/- What FnSpotRoutes asks of the answers: orders, sums of legs, the least and the greatest ones. -/
import Derived.Test.YtkiimdfnobcdpaaFirst
import Derived.Test.YtkiimdfnobcdpaaRoute
import Derived.Test.YtkiimdfnobcdpaaFar
import Derived.Test.YtkiimdfnobcdpaaMid
namespace Go.Proofs.Ytkiimdfnobcdpaa.sines
open Go.ChangeShapes Go.WideShapes Go.ChangeAt Go.RowKit Go.Proofs.Ytkiimdfnobcdpaa.spots Go.Proofs.Ytkiimdfnobcdpaa.irows Go.Proofs.Ytkiimdfnobcdpaa.pairs Go.Proofs.Ytkiimdfnobcdpaa.trows

/-- The legs of a way from a spot through others. -/
def sumW (d : Nat → Nat → Int) : Nat → List Nat → Int
  | _, [] => 0
  | l, x :: xs => d l x + sumW d x xs
theorem GF_facts {d : Nat → Nat → Int} {n : Nat} (hn : n < 8) : ∀ k v l, v < 2 ^ n → (free n v).length = k →
    (GF d n k v l).length = k ∧ (GF d n k v l).Nodup ∧ (∀ x ∈ GF d n k v l, x ∈ free n v) ∧ sumW d l (GF d n k v l) = TT d n v l
  | 0, v, l, hv, hk => by
    have hf : free n v = [] := List.length_eq_zero_iff.1 hk
    rw [TT_none hf]
    simp [GF, sumW]
  | k + 1, v, l, hv, hk => by
    have hf : free n v ≠ [] := fun e => by rw [e] at hk; simp at hk
    obtain ⟨x, _, hx, hT, hG, _, _⟩ := TT_step (d := d) (l := l) hn hv hf
    obtain ⟨x1, x2⟩ := free_mem.1 hx
    obtain ⟨f1, f2, f3⟩ := free_facts n hn v hv x x1 x2
    obtain ⟨i1, i2, i3, i4⟩ := GF_facts (d := d) hn k (v ||| 2 ^ x) x f3 (by omega)
    have ek : (free n (v ||| 2 ^ x)).length = k := by omega
    rw [hk, ek] at hG
    rw [hG]
    refine ⟨by simp [i1], List.nodup_cons.2 ⟨fun hm => (free_with x).1 (i3 x hm) |>.2 rfl, i2⟩, fun y hy => ?_, ?_⟩
    · rcases List.mem_cons.1 hy with rfl | hy
      · exact hx
      · exact ((free_with y).1 (i3 y hy)).1
    · show d l x + sumW d x (GF d n k (v ||| 2 ^ x) x) = TT d n v l
      rw [i4, hT]
      rfl
/-- No way through all that is left is shorter. -/
theorem TT_least {d : Nat → Nat → Int} {n : Nat} (hn : n < 8) : ∀ (xs : List Nat) v l, v < 2 ^ n → xs.Nodup → (∀ x ∈ xs, x ∈ free n v) → xs.length = (free n v).length → TT d n v l ≤ sumW d l xs
  | [], v, l, _, _, _, hl => by
    have hf : free n v = [] := List.length_eq_zero_iff.1 hl.symm
    rw [TT_none hf]
    exact Int.le_refl _
  | x :: xs, v, l, hv, hd, hm, hl => by
    have hf : free n v ≠ [] := fun e => by rw [e] at hl; simp at hl
    obtain ⟨y, _, hy, hT, _, hle, _⟩ := TT_step (d := d) (l := l) hn hv hf
    obtain ⟨d1, d2⟩ := List.nodup_cons.1 hd
    have hx := hm x List.mem_cons_self
    obtain ⟨x1, x2⟩ := free_mem.1 hx
    obtain ⟨f1, f2, f3⟩ := free_facts n hn v hv x x1 x2
    have ih := TT_least (d := d) hn xs (v ||| 2 ^ x) x f3 d2 (fun z hz => (free_with z).2 ⟨hm z (List.mem_cons_of_mem _ hz), fun e => d1 (e ▸ hz)⟩) (by simp at hl; omega)
    have := hle x hx
    show _ ≤ d l x + sumW d x xs
    unfold HH at *
    omega
theorem free_one_mem : ∀ n, n < 8 → ∀ x, x < 8 → (x ∈ free n 1 ↔ x < n ∧ 0 < x) := by decide +kernel
/-- The told order. -/
def ordN (d : Nat → Nat → Int) (n : Nat) : List Nat := 0 :: GF d n (n - 1) 1 0
theorem ordN_facts (d : Nat → Nat → Int) {n : Nat} (hn : n < 8) (h0 : 0 < n) : (ordN d n).length = n ∧ (ordN d n).Nodup ∧ (∀ x ∈ ordN d n, x < n) ∧ sumW d 0 (GF d n (n - 1) 1 0) = TT d n 1 0 := by
  obtain ⟨f1, f2⟩ := free_one n hn h0
  obtain ⟨i1, i2, i3, i4⟩ := GF_facts (d := d) hn (n - 1) 1 0 f2 f1
  have hx : ∀ x ∈ GF d n (n - 1) 1 0, x < n ∧ 0 < x := fun x hx => by
    have h := i3 x hx
    have hl := (free_mem.1 h).1
    exact (free_one_mem n hn x (by omega)).1 h
  refine ⟨by simp [ordN, i1]; omega, List.nodup_cons.2 ⟨fun h => by have := (hx 0 h).2; omega, i2⟩, fun x h => ?_, i4⟩
  rcases List.mem_cons.1 h with rfl | h
  · exact h0
  · exact (hx x h).1
theorem plain_least (d : Nat → Nat → Int) {n : Nat} (hn : n < 8) (h0 : 0 < n) : TT d n 1 0 ≤ sumW d 0 (List.range' 1 (n - 1)) := by
  obtain ⟨f1, f2⟩ := free_one n hn h0
  refine TT_least hn _ 1 0 f2 List.nodup_range' (fun x hx => ?_) (by rw [f1]; simp)
  have := List.mem_range'_1.1 hx
  exact (free_one_mem n hn x (by omega)).2 (by omega)
def sumTo (f : Nat → Int) : Nat → Int
  | 0 => 0
  | k + 1 => sumTo f k + f k
theorem sumTo_congr {f g : Nat → Int} : ∀ k, (∀ i, i < k → f i = g i) → sumTo f k = sumTo g k
  | 0, _ => rfl
  | k + 1, h => by
    have := sumTo_congr k (fun i hi => h i (by omega))
    have := h k (by omega)
    unfold sumTo
    omega
theorem sumTo_shift (f : Nat → Int) : ∀ k, sumTo f (k + 1) = f 0 + sumTo (fun i => f (i + 1)) k
  | 0 => by simp [sumTo]
  | k + 1 => by
    have := sumTo_shift f k
    rw [sumTo, this]
    simp only [sumTo]
    omega
theorem sumW_to (d : Nat → Nat → Int) : ∀ (xs : List Nat) l, sumW d l xs = sumTo (fun i => d ((l :: xs).getD i 0) ((l :: xs).getD (i + 1) 0)) xs.length
  | [], l => rfl
  | x :: xs, l => by
    have ih := sumW_to d xs x
    show d l x + sumW d x xs = sumTo _ (xs.length + 1)
    rw [sumTo_shift, ih]
    rfl
theorem routeN_to (ps : List (Int × Int)) : ∀ k, routeN ps k = sumTo (legD ps) k
  | 0 => rfl
  | k + 1 => by rw [routeN, sumTo, routeN_to ps k]
/-- The spots in an order. -/
def inOrder (ps : List (Int × Int)) (os : List Nat) : List (Int × Int) := os.map fun i => ps.getD i (0, 0)
theorem inOrder_len (ps : List (Int × Int)) (os : List Nat) : (inOrder ps os).length = os.length := by simp [inOrder]
theorem inOrder_at {ps : List (Int × Int)} {os : List Nat} {j : Nat} (h : j < os.length) (k : os[j] < ps.length) : (inOrder ps os)[j]'(by rw [inOrder_len]; exact h) = ps[os[j]] := by simp [inOrder, k]
theorem inOrder_snoc {ps : List (Int × Int)} {os : List Nat} {k : Nat} (h : k < os.length) (hk : os[k] < ps.length) : inOrder ps (os.take (k + 1)) = inOrder ps (os.take k) ++ [ps[os[k]]] := by
  unfold inOrder
  rw [← List.take_append_getElem h, List.map_append]
  simp [hk]
theorem inOrder_ok {ps : List (Int × Int)} {os : List Nat} (hk : okL ps = true) (h : ∀ x ∈ os, x < ps.length) : okL (inOrder ps os) = true := by
  refine okL_of fun j hj => ?_
  have hj' : j < os.length := by rw [inOrder_len] at hj; exact hj
  have hx := h _ (List.getElem_mem hj')
  rw [inOrder_at hj' hx]
  exact okL_at hk _ hx
theorem legD_order {ps : List (Int × Int)} {os : List Nat} (h : ∀ x ∈ os, x < ps.length) {j : Nat} (hj : j + 1 < os.length) : legD (inOrder ps os) j = dd ps (os.getD j 0) (os.getD (j + 1) 0) := by
  have h0 : j < os.length := by omega
  have a := h _ (List.getElem_mem h0)
  have b := h _ (List.getElem_mem hj)
  rw [legD_of (by rw [inOrder_len]; exact hj), inOrder_at h0 a, inOrder_at hj b]
  rw [show os.getD j 0 = os[j] by simp [h0], show os.getD (j + 1) 0 = os[j + 1] by simp [hj], dd_of a b]
theorem route_told {ps : List (Int × Int)} (hn : ps.length < 8) (h0 : 0 < ps.length) : routeN (inOrder ps (ordN (dd ps) ps.length)) (ps.length - 1) = TT (dd ps) ps.length 1 0 := by
  obtain ⟨o1, o2, o3, o4⟩ := ordN_facts (dd ps) hn h0
  rw [← o4, sumW_to, routeN_to]
  have el : (GF (dd ps) ps.length (ps.length - 1) 1 0).length = ps.length - 1 := by simp [ordN] at o1; omega
  rw [el]
  refine sumTo_congr _ fun i hi => ?_
  exact legD_order o3 (by omega)
theorem route_plain {ps : List (Int × Int)} (hn : ps.length < 8) (h0 : 0 < ps.length) : TT (dd ps) ps.length 1 0 ≤ routeN ps (ps.length - 1) := by
  refine Int.le_trans (plain_least (dd ps) hn h0) (Int.le_of_eq ?_)
  rw [sumW_to, routeN_to]
  rw [show (List.range' 1 (ps.length - 1)).length = ps.length - 1 by simp]
  refine sumTo_congr _ fun i hi => ?_
  have e : (0 :: List.range' 1 (ps.length - 1)) = List.range' 0 ps.length := by
    obtain ⟨m, hm⟩ : ∃ m, ps.length = m + 1 := ⟨ps.length - 1, by omega⟩
    rw [hm, List.range'_succ]
    simp
  have g : ∀ j, j < ps.length → (List.range' 0 ps.length).getD j 0 = j := fun j hj => by simp [List.getD_eq_getElem?_getD, hj]
  rw [e, legD_of (by omega), g i (by omega), g (i + 1) (by omega), dd_of]
theorem nearI_mem (g : Nat → Int) (most : Int) : ∀ (k j : Nat), (j : Int) ∈ nearI g most k ↔ j < k ∧ g j ≤ most
  | 0, j => by simp [nearI]
  | k + 1, j => by
    have ih := nearI_mem g most k j
    unfold nearI
    split
    · rename_i hk
      rw [List.mem_append, ih, List.mem_singleton]
      constructor
      · rintro (h | h)
        · exact ⟨by omega, h.2⟩
        · obtain rfl : j = k := by omega
          exact ⟨by omega, hk⟩
      · rintro ⟨h1, h2⟩
        by_cases e : j = k
        · exact .inr (by omega)
        · exact .inl ⟨by omega, h2⟩
    · rename_i hk
      rw [ih]
      constructor
      · rintro ⟨h1, h2⟩; exact ⟨by omega, h2⟩
      · rintro ⟨h1, h2⟩
        refine ⟨?_, h2⟩
        by_cases e : j = k
        · subst e; exact absurd h2 hk
        · omega
/-- A list that rises, in bounds. -/
def RisesTo (zs : List Int) (n : Int) : Prop := (∀ z ∈ zs, 0 ≤ z ∧ z < n) ∧ zs.Pairwise (· < ·)
theorem nearI_low (g : Nat → Int) (most : Int) : ∀ k, ∀ z ∈ nearI g most k, 0 ≤ z ∧ z < (k : Int)
  | 0, z, h => by simp [nearI] at h
  | k + 1, z, h => by
    unfold nearI at h
    split at h
    · rcases List.mem_append.1 h with h | h
      · have := nearI_low g most k z h; omega
      · rw [List.mem_singleton] at h; omega
    · have := nearI_low g most k z h; omega
theorem nearI_rises (g : Nat → Int) (most : Int) (n : Nat) : RisesTo (nearI g most n) (n : Int) := by
  refine ⟨nearI_low g most n, ?_⟩
  induction n with
  | zero => simp [nearI]
  | succ k ih =>
    unfold nearI
    split
    · refine List.pairwise_append.2 ⟨ih, by simp, fun a ha b hb => ?_⟩
      have := nearI_low g most k a ha
      rw [List.mem_singleton] at hb
      omega
    · exact ih
/-- The nearest one stands first. -/
theorem nearI_head (g : Nat → Int) (f : Nat) (hf : ∀ j, j < f → g f < g j) : ∀ k, f < k → ∃ t, nearI g (g f) k = (f : Int) :: t
  | 0, h => by omega
  | k + 1, h => by
    unfold nearI
    by_cases e : f = k
    · subst e
      have none : ∀ m, m ≤ f → nearI g (g f) m = [] := by
        intro m
        induction m with
        | zero => intro _; rfl
        | succ m ih =>
          intro hm
          have := hf m (by omega)
          unfold nearI
          rw [if_neg (by omega), ih (by omega)]
      rw [if_pos (Int.le_refl _), none f (Nat.le_refl _)]
      exact ⟨[], rfl⟩
    · obtain ⟨t, ht⟩ := nearI_head g f hf k (by omega)
      rw [ht]
      split
      · exact ⟨t ++ [(k : Int)], rfl⟩
      · exact ⟨t, rfl⟩
theorem maxG_le {g : Nat → Int} {D : Int} (h0 : 0 ≤ D) : ∀ k, (∀ j, j < k → g j ≤ D) → maxG g k ≤ D
  | 0, _ => h0
  | k + 1, h => by
    have := maxG_le h0 k (fun j hj => h j (by omega))
    have := h k (by omega)
    unfold maxG
    omega
theorem inF_ge (ps : List (Int × Int)) (i : Nat) (s : Nat × Nat) : ∀ m, dd ps s.1 s.2 ≤ dd ps (inF ps i m s).1 (inF ps i m s).2 ∧ ∀ j, j < m → dd ps i (i + 1 + j) ≤ dd ps (inF ps i m s).1 (inF ps i m s).2
  | 0 => ⟨Int.le_refl _, fun j h => by omega⟩
  | m + 1 => by
    obtain ⟨a, b⟩ := inF_ge ps i s m
    have e : inF ps i (m + 1) s = stepF ps (inF ps i m s) i (i + 1 + m) := rfl
    have key : dd ps (inF ps i m s).1 (inF ps i m s).2 ≤ dd ps (inF ps i (m + 1) s).1 (inF ps i (m + 1) s).2 ∧ dd ps i (i + 1 + m) ≤ dd ps (inF ps i (m + 1) s).1 (inF ps i (m + 1) s).2 := by
      rw [e]
      unfold stepF
      split
      · rename_i h
        exact ⟨Int.le_of_lt h, Int.le_refl _⟩
      · rename_i h
        exact ⟨Int.le_refl _, Int.not_lt.1 h⟩
    refine ⟨Int.le_trans a key.1, fun j hj => ?_⟩
    by_cases ej : j = m
    · subst ej; exact key.2
    · exact Int.le_trans (b j (by omega)) key.1
theorem outF_ge (ps : List (Int × Int)) : ∀ i, i ≤ ps.length → ∀ x y, x < i → x < y → y < ps.length → dd ps x y ≤ dd ps (outF ps i).1 (outF ps i).2
  | 0, _, x, y, h, _, _ => by omega
  | i + 1, hi, x, y, h, hxy, hy => by
    obtain ⟨a, b⟩ := inF_ge ps i (outF ps i) (ps.length - (i + 1))
    show _ ≤ dd ps (inF ps i (ps.length - (i + 1)) (outF ps i)).1 (inF ps i (ps.length - (i + 1)) (outF ps i)).2
    by_cases e : x = i
    · subst e
      have := b (y - (x + 1)) (by omega)
      rw [show x + 1 + (y - (x + 1)) = y by omega] at this
      exact this
    · exact Int.le_trans (outF_ge ps i (by omega) x y (by omega) hxy hy) a
theorem far_great {ps : List (Int × Int)} (h2 : 2 ≤ ps.length) : dd ps (farP ps).1 (farP ps).2 = maxG (mxD ps) ps.length := by
  obtain ⟨l1, l2⟩ := outF_lt ps h2 ps.length (Nat.le_refl _)
  have up : ∀ x y, x < ps.length → y < ps.length → dd ps x y ≤ dd ps (farP ps).1 (farP ps).2 := fun x y hx hy => by
    rcases Nat.lt_trichotomy x y with h | h | h
    · exact outF_ge ps _ (Nat.le_refl _) x y hx h hy
    · subst h
      rw [dd_self]
      exact (dd_bounds ps _ _).1
    · rw [dd_sym]
      exact outF_ge ps _ (Nat.le_refl _) y x hy h hx
  have z := (dd_bounds ps (farP ps).1 (farP ps).2).1
  refine Int.le_antisymm ?_ (maxG_le z _ fun i hi => maxG_le z _ fun j hj => up i j hi hj)
  have a := maxG_ge (mxD ps) ps.length (farP ps).1 (by show (outF ps ps.length).1 < _; omega)
  have b := maxG_ge (dd ps (farP ps).1) ps.length (farP ps).2 l2
  exact Int.le_trans b a
end Go.Proofs.Ytkiimdfnobcdpaa.sines
