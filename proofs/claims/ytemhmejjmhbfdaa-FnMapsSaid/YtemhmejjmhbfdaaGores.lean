/- Gores: what is reckoned, and the contracts of the small functions of the program and of the model. -/
import Derived.Test.YtemhmejjmhbfdaaSineF
import Derived.Test.YtemhmejjmhbfdaaIRows
import Derived.Laws.Rows
namespace Go.Proofs.Ytemhmejjmhbfdaa.sines
open Go.ChangeShapes Go.WideShapes Go.ChangeAt Go.RowKit Go.Proofs.Ytemhmejjmhbfdaa.spots Go.Proofs.Ytemhmejjmhbfdaa.irows

def goreL : List Int := [6, 8, 9, 10, 12, 15, 16, 18, 20, 24, 25, 27, 30, 32, 36, 40, 45, 48]
def goreB (n : Int) : Bool := goreL.contains n
theorem goreB_mem {n : Int} : goreB n = true ↔ n ∈ goreL := by simp [goreB]
theorem goreL_len : goreL.length = 18 := rfl
theorem goreL_at (j : Nat) (h : j < 18) : ∃ z, goreL[j]? = some z ∧ z ∈ goreL := ⟨goreL[j]'(by rw [goreL_len]; exact h), List.getElem?_eq_getElem (by rw [goreL_len]; exact h), List.getElem_mem _⟩
theorem goreL_facts : ∀ n ∈ goreL, 6 ≤ n ∧ n ≤ 48 ∧ n * (1296000 / n) = 1296000 ∧ 27000 ≤ 1296000 / n ∧ 1296000 / n ≤ 216000 ∧ (1296000 / n) % 2 = 0 ∧ n * (1000000 : Int) ≤ 48000000 := by decide +kernel
theorem goreL_strict : ∀ i j : Fin 18, i < j → goreL[i]'i.2 < goreL[j]'j.2 := by decide +kernel
theorem goreB_facts {n : Int} (h : goreB n = true) : 6 ≤ n ∧ n ≤ 48 ∧ n * (1296000 / n) = 1296000 ∧ 27000 ≤ 1296000 / n ∧ 1296000 / n ≤ 216000 ∧ (1296000 / n) % 2 = 0 := by
  obtain ⟨h1, h2, h3, h4, h5, h6, _⟩ := goreL_facts n (goreB_mem.1 h)
  exact ⟨h1, h2, h3, h4, h5, h6⟩
theorem goreB_low {n : Int} (h : n < 6) : goreB n = false := by
  cases e : goreB n with
  | false => rfl
  | true => have := (goreB_facts e).1; omega
theorem goreB_high {n : Int} (h : 48 < n) : goreB n = false := by
  cases e : goreB n with
  | false => rfl
  | true => have := (goreB_facts e).2.1; omega
theorem goreB_fin : ∀ m : Fin 43, decide ((1296000 : Int).tmod (6 + (m.val : Int)) = 0) = goreB (6 + (m.val : Int)) := by decide +kernel
theorem goreB_mod {n : Int} (h1 : 6 ≤ n) (h2 : n ≤ 48) : decide ((1296000 : Int).tmod n = 0) = goreB n := by
  have := goreB_fin ⟨(n - 6).toNat, by omega⟩
  have e : (6 : Int) + ((n - 6).toNat : Int) = n := by omega
  simpa only [e] using this
/-- The gore at a longitude. -/
def eastL (lon : Int) : Int := if lon < 0 then lon + 1296000 else lon
def goreAtL (g lon : Int) : Int := eastL lon / (1296000 / g)
theorem eastL_bounds {lon : Int} (h1 : -648000 ≤ lon) (h2 : lon ≤ 647999) : 0 ≤ eastL lon ∧ eastL lon < 1296000 := by simp only [eastL]; split <;> omega
theorem goreAtL_bounds {g lon : Int} (h : goreB g = true) (h1 : -648000 ≤ lon) (h2 : lon ≤ 647999) : 0 ≤ goreAtL g lon ∧ goreAtL g lon < g := by
  obtain ⟨g1, g2, g3, g4, g5, g6⟩ := goreB_facts h
  obtain ⟨e1, e2⟩ := eastL_bounds h1 h2
  exact ⟨Int.ediv_nonneg e1 (by omega), Int.ediv_lt_of_lt_mul (by omega) (by omega)⟩
/-- The length of one of some equal parts of a parallel. -/
def gpart (p a l : Int) : Int := near (a * sineL (l + 324000)) (1000000 * p)
def closeE (g a l : Int) : Int := g * gpart g a l - gpart 1 a l
theorem cos_bounds {l : Int} (h1 : -324000 ≤ l) (h2 : l ≤ 324000) : 0 ≤ sineL (l + 324000) ∧ sineL (l + 324000) ≤ 1000000 := by
  rw [sineL_quarter (by omega) (by omega)]
  exact sH_bounds _ (by omega) (by omega)
theorem round_bounds {a l : Int} (a1 : 1 ≤ a) (a2 : a ≤ 1000000) (h1 : -324000 ≤ l) (h2 : l ≤ 324000) : 0 ≤ a * sineL (l + 324000) ∧ a * sineL (l + 324000) ≤ a * 1000000 := by
  obtain ⟨c1, c2⟩ := cos_bounds h1 h2
  exact ⟨Int.mul_nonneg (by omega) c1, Int.mul_le_mul_of_nonneg_left c2 (by omega)⟩
theorem gpart_bounds {p a l : Int} (p1 : 1 ≤ p) (a1 : 1 ≤ a) (a2 : a ≤ 1000000) (h1 : -324000 ≤ l) (h2 : l ≤ 324000) : 0 ≤ gpart p a l ∧ gpart p a l ≤ a := by
  obtain ⟨r1, r2⟩ := round_bounds a1 a2 h1 h2
  refine ⟨near_nonneg r1 (by omega), near_le _ (by omega) ?_⟩
  have e : a * (1000000 * p) = a * 1000000 * p := by rw [Int.mul_assoc]
  have e2 : a * 1000000 * 1 ≤ a * 1000000 * p := Int.mul_le_mul_of_nonneg_left p1 (by omega)
  omega
theorem near_between {n d : Int} (hd : 0 < d) : 2 * n - d < 2 * d * near n d ∧ 2 * d * near n d ≤ 2 * n + d := by
  have e := Int.emod_add_mul_ediv (2 * n + d) (2 * d)
  have m1 := Int.emod_nonneg (2 * n + d) (show 2 * d ≠ 0 by omega)
  have m2 := Int.emod_lt_of_pos (2 * n + d) (show 0 < 2 * d by omega)
  simp only [near]
  omega
theorem closeE_bounds {g a l : Int} (g1 : 6 ≤ g) (g2 : g ≤ 48) : -(g + 1) ≤ 2 * closeE g a l ∧ 2 * closeE g a l ≤ g + 1 := by
  obtain ⟨x1, x2⟩ := near_between (n := a * sineL (l + 324000)) (d := 1000000 * g) (by omega)
  obtain ⟨y1, y2⟩ := near_between (n := a * sineL (l + 324000)) (d := 1000000 * 1) (by omega)
  have e : 2 * (1000000 * g) * gpart g a l = 2000000 * (g * gpart g a l) := by rw [← Int.mul_assoc 2, Int.mul_assoc]; rfl
  simp only [closeE]
  have e1 : gpart g a l = near (a * sineL (l + 324000)) (1000000 * g) := rfl
  have e2 : gpart 1 a l = near (a * sineL (l + 324000)) (1000000 * 1) := rfl
  rw [← e1] at x1 x2
  rw [← e2] at y1 y2
  omega
theorem gpart_mono {p a l m : Int} (p1 : 1 ≤ p) (a1 : 1 ≤ a) (h0 : 0 ≤ l) (h1 : l ≤ m) (h2 : m ≤ 324000) : gpart p a m ≤ gpart p a l := by
  have el : sineL (l + 324000) = sH (324000 - l) := by
    rw [sineL_quarter (by omega) (by omega), ← sH_half_sym]; congr 1; omega
  have em : sineL (m + 324000) = sH (324000 - m) := by
    rw [sineL_quarter (by omega) (by omega), ← sH_half_sym]; congr 1; omega
  have := sH_mono (x := 324000 - m) (y := 324000 - l) (by omega) (by omega) (by omega)
  apply near_mono (by omega) (by omega)
  rw [el, em]
  exact Int.mul_le_mul_of_nonneg_right (Int.mul_le_mul_of_nonneg_left this (by omega)) (by omega)
/-- The parallels of a step, from the equator to the pole. -/
def stepsN (d : Int) : Nat := (324000 / d).toNat + 1
theorem stepsN_iff {d : Int} {k : Nat} (h : 1 ≤ d) : (k : Int) * d ≤ 324000 ↔ k < stepsN d := by
  have h1 : (0 : Int) ≤ 324000 / d := Int.ediv_nonneg (by omega) (by omega)
  have h2 : (k : Int) ≤ 324000 / d ↔ (k : Int) * d ≤ 324000 := Int.le_ediv_iff_mul_le (by omega)
  simp only [stepsN]
  omega
theorem stepsN_le {d : Int} (h : 3240 ≤ d) : stepsN d ≤ 101 := by
  have h2 : (324000 : Int) / d < 101 := Int.ediv_lt_of_lt_mul (by omega) (by omega)
  simp only [stepsN]
  omega
def widthsL (g a d : Int) (k : Nat) : List Int := (List.range k).map fun i : Nat => gpart g a ((i : Int) * d)
theorem widthsL_len (g a d : Int) (k : Nat) : (widthsL g a d k).length = k := by simp [widthsL]
theorem widthsL_succ (g a d : Int) (k : Nat) : widthsL g a d (k + 1) = widthsL g a d k ++ [gpart g a ((k : Int) * d)] := by simp [widthsL, List.range_succ]
theorem widthsL_at (g a d : Int) (k i : Nat) (h : i < k) : (widthsL g a d k)[i]'(by rw [widthsL_len]; exact h) = gpart g a ((i : Int) * d) := by simp [widthsL]
def absI (n : Int) : Int := if n < 0 then -n else n
/-- Which of the first parallels has the worst closing error. -/
def worstN (g a d : Int) : Nat → Nat
  | 0 => 0
  | k + 1 => if absI (closeE g a ((k : Int) * d)) > absI (closeE g a ((worstN g a d k : Int) * d)) then k else worstN g a d k
theorem worstN_le (g a d : Int) (k : Nat) : worstN g a d k ≤ k := by
  induction k with
  | zero => exact Nat.le_refl _
  | succ k ih => simp only [worstN]; split <;> omega
theorem worstN_lt (g a d : Int) (k : Nat) : worstN g a d (k + 1) ≤ k := by
  simp only [worstN]; split
  · exact Nat.le_refl _
  · exact worstN_le _ _ _ _
theorem worstN_first (g a d : Int) (k : Nat) : absI (closeE g a 0) ≤ absI (closeE g a ((worstN g a d k : Int) * d)) := by
  induction k with
  | zero => simp [worstN]
  | succ k ih => simp only [worstN]; split <;> omega
/-- The least number of gores that is narrow enough. -/
def fewG (a p : Int) : Option Int := goreL.find? fun n => decide (gpart n a 0 ≤ p)
theorem fewG_some {a p r : Int} (h1 : r ∈ goreL) (h2 : gpart r a 0 ≤ p) (h3 : ∀ m ∈ goreL, m < r → p < gpart m a 0) : fewG a p = some r := by
  obtain ⟨j, hj, e⟩ := List.mem_iff_getElem.1 h1
  subst e
  apply List.find?_eq_some_iff_getElem.2
  refine ⟨by simpa using h2, j, hj, rfl, fun i hi => ?_⟩
  have := h3 (goreL[i]'(by omega)) (List.getElem_mem _) (goreL_strict ⟨i, by show i < 18; have : goreL.length = 18 := rfl; omega⟩ ⟨j, hj⟩ hi)
  simp; omega
theorem fewG_none {a p : Int} (h3 : ∀ m ∈ goreL, p < gpart m a 0) : fewG a p = none := by
  apply List.find?_eq_none.2
  intro m hm
  have := h3 m hm
  simp; omega
theorem fewG_mem {a p r : Int} (h : fewG a p = some r) : r ∈ goreL ∧ gpart r a 0 ≤ p := by
  have h1 := List.mem_of_find?_eq_some h
  have h2 := List.find?_some h
  exact ⟨h1, by simpa using h2⟩


/-- The program's table lies as the text lays it. -/
def goreRow : Array Value := (ints goreL).toArray
theorem goreRow_size : goreRow.size = 18 := rfl
theorem goreRow_at (j : Nat) (h : j < 18) : ∃ z, goreL[j]? = some z ∧ z ∈ goreL ∧ goreRow[j]? = some (.int .i64 z) := by
  obtain ⟨z, h1, h2⟩ := goreL_at j h
  refine ⟨z, h1, h2, ?_⟩
  simp [goreRow, ints, h1]
/-- Of the list of the variables that the statement names: the table, if it stands first. -/
theorem ints_of_head {P : Program} {W : World} {name : String} {zs : List Int} {rest : List (String × DataW Unit)} {g : Nat} {t e : TypeId} {n : Nat}
    (hg : P.globalNamed name = some g) (hty : (P.globals[g]?).map (·.type) = some t) (ht : P.underlying t = some (.array n e)) (he : P.underlying e = some (.int .i64)) (hce : P.cellsOf e = 1) (hct : P.cellsOf t = n)
    (h : laidMet P ((name, .agg (zs.map fun z => .lit (.int .i64 z))) :: rest) W) : ∃ t' fr, W.heap[g]? = some (.cells (ints zs).toArray t' fr) := by
  obtain ⟨ps, ⟨g0, t0, cs0, f0, p0, q0, hg0, ht0, hv0, hd0, _, _⟩, _, _⟩ := h
  obtain rfl := Option.some.inj (hg.symm.trans hg0)
  obtain rfl := Option.some.inj (hty.symm.trans ht0)
  obtain ⟨xs, m1, rfl, hx1, hlen, hn3, hel⟩ := DataW.trod_array ht hd0
  simp only [Prod.mk.injEq, DataW.agg.injEq] at hx1
  have hbl : zs.length = xs.length := by simpa using congrArg List.length hx1.1
  rw [hct] at hlen
  have hcs : cs0 = (ints zs).toArray := by
    apply Array.toList_inj.1
    apply List.ext_getElem?
    intro i
    by_cases hi : i < n
    · have hxi : xs[i]? = some (xs[i]'(by omega)) := by simp
      have h1 := hel i hi
      rw [hxi, hce] at h1
      obtain ⟨z, hs1, hs2, _⟩ := DataW.trod_int he h1
      have h2 : (xs.map (·.1))[i]? = (zs.map fun z => (DataW.lit (.int .i64 z) : DataW Unit))[i]? := by rw [← hx1.1]
      simp only [List.getElem?_map, hxi, Option.map_some, hs2] at h2
      have h3 : cs0.toList[i]? = some (.int .i64 z) := by
        have := congrArg (·[0]?) hs1
        simpa [List.getElem?_take, List.getElem?_drop] using this
      rw [h3]
      cases hz : zs[i]? with
      | none => rw [hz] at h2; cases h2
      | some y =>
        rw [hz] at h2
        simp at h2
        simp [ints, hz, h2]
    · rw [List.getElem?_eq_none (by omega), List.getElem?_eq_none (by simp [ints]; omega)]
  simp only [World.var?, hg, Option.bind_some] at hv0
  split at hv0
  · rename_i cs t' fr hb
    cases hv0
    exact ⟨t', fr, by rw [← hcs]; exact hb⟩
  · cases hv0
theorem cInt : Try.prog.cellsOf 2 = 1 := by kernel_rfl
set_option maxRecDepth 100000 in
set_option maxHeartbeats 400000 in
theorem isLat_any (n : Int) (w : World)  :
    Calls Try.prog 115 #[.int .i64 n] w fun e w' => e = .returned (.bool (inB n (-324000) 324000)) ∧ w = w' := by
  go_enter Try.func115, Try.ntmps115
  go_wp2_with (go_at_call 107; refine (within_any _ _ _ _).mono ?_; rintro e w' ⟨rfl, rfl⟩)
  go_ret
  exact ⟨rfl, rfl⟩












end Go.Proofs.Ytemhmejjmhbfdaa.sines
