/- The least angle with a sine: the bisection of the model and the search of the program. -/
import Derived.Test.YtkiimdfnobcdpaaSineF
import Derived.Test.YtkiimdfnobcdpaaSearch
import Derived.BigQuiet
namespace Go.Proofs.Ytkiimdfnobcdpaa.sines
open Go.ChangeShapes Go.WideShapes Go.ChangeAt Go.RowKit Go.Proofs.Ytkiimdfnobcdpaa.spots Go.Shelf Go.Lib Go.Sort

theorem count_at (p : Nat → Bool) : ∀ (n k : Nat), k ≤ n → (∀ i, i < k → p i = false) → (∀ i, k ≤ i → i < n → p i = true) → (List.range n).countP (fun i => !p i) = k
  | 0, k, hk, _, _ => by simp; omega
  | n + 1, k, hk, h1, h2 => by
    rw [List.range_succ, List.countP_append]
    by_cases hn : k = n + 1
    · subst hn
      rw [count_at p n n (Nat.le_refl _) (fun i hi => h1 i (by omega)) (fun i hi hi2 => by omega)]
      simp [h1 n (by omega)]
    · rw [count_at p n k (by omega) h1 (fun i hi hi2 => h2 i hi (by omega))]
      simp [h2 n (by omega) (by omega)]

/-- The least angle from 0 to a quarter turn whose sine is at least s. -/
def arcG (n : Nat) (s : Int) : Nat := (List.range n).countP (fun i : Nat => !decide (s ≤ sineL (i : Int)))
def arcN (s : Int) : Nat := arcG 324000 s
theorem sine_le {x y : Int} (h0 : 0 ≤ x) (h1 : x ≤ y) (h2 : y ≤ 324000) : sineL x ≤ sineL y := by
  rw [sineL_quarter h0 (by omega), sineL_quarter (by omega) (by omega)]
  exact sH_mono h0 h1 h2
theorem arcG_at (N : Nat) (hN : N ≤ 324000) (s : Int) (k : Nat) (hk : k ≤ N) (h1 : k = 0 ∨ sineL ((k : Int) - 1) < s) (h2 : k = N ∨ s ≤ sineL (k : Int)) : arcG N s = k := by
  refine count_at (fun i : Nat => decide (s ≤ sineL (i : Int))) _ _ hk (fun i hi => ?_) (fun i hi hi2 => ?_)
  · rcases h1 with h | h
    · omega
    · have := sine_le (x := (i : Int)) (y := (k : Int) - 1) (by omega) (by omega) (by omega)
      simp only [decide_eq_false_iff_not]; omega
  · rcases h2 with h | h
    · omega
    · have := sine_le (x := (k : Int)) (y := (i : Int)) (by omega) (by omega) (by omega)
      simp only [decide_eq_true_eq]; omega
theorem arcG_le (N : Nat) (s : Int) : arcG N s ≤ N := by
  have := List.countP_le_length (p := fun i : Nat => !decide (s ≤ sineL (i : Int))) (l := List.range N)
  simpa [arcG] using this
theorem arc_at (s : Int) (k : Nat) (hk : k ≤ 324000) (h1 : k = 0 ∨ sineL ((k : Int) - 1) < s) (h2 : k = 324000 ∨ s ≤ sineL (k : Int)) : arcN s = k := arcG_at 324000 (Nat.le_refl _) s k hk h1 h2
theorem arc_le (s : Int) : arcN s ≤ 324000 := arcG_le _ _

set_option maxHeartbeats 1000000 in
theorem l03Arc_any (s : Int) (w : World) :
    Calls Try.prog 56 #[.int .i64 s] w fun e w' => e = .returned (.int .i64 (arcN s : Nat)) ∧ w = w' := by
  go_enter Try.func56, Try.ntmps56
  go_wp2
  go_loop [3, 4, 5] (fun a b _ => ∃ lo hi : Int, a = .int .i64 lo ∧ b = .int .i64 hi ∧ -1 ≤ lo ∧ lo < hi ∧ hi ≤ 324000 ∧ (lo = -1 ∨ sineL lo < s) ∧ (hi = 324000 ∨ s ≤ sineL hi)) (fun a b _ => (intOf b - intOf a).toNat)
  case atStart => exact ⟨-1, 324000, rfl, rfl, by omega, by omega, by omega, .inl rfl, .inl rfl⟩
  case round =>
    obtain ⟨lo, hi, rfl, rfl, h1, h2, h3, h4, h5⟩ := hrel
    have H4 := Lib.hid h4
    have H5 := Lib.hid h5
    clear h4 h5
    by_cases hd : 1 < hi - lo
    · have g1 : lo < (lo + hi) / 2 := by omega
      have g2 : (lo + hi) / 2 < hi := by omega
      have k1 : (lo + hi).tdiv 2 = (lo + hi) / 2 := Int.tdiv_eq_ediv_of_nonneg (by omega)
      obtain ⟨m, hm⟩ : ∃ m, Hid ((lo + hi) / 2 = m) := ⟨_, Lib.hid rfl⟩
      rw [hm.out] at g1 g2 k1
      have k2 : (lo + hi) / 2 = m := hm.out
      by_cases hs : s ≤ sineL m
      · go_wp2_with (go_at_call 67; refine (l03Sine_any _ _).mono ?_; rintro e w' ⟨rfl, rfl⟩)
        go_round
        case rel => exact ⟨lo, m, rfl, rfl, h1, g1, by omega, H4.out, .inr hs⟩
        case measure => simp [intOf]; omega
      · go_wp2_with (go_at_call 67; refine (l03Sine_any _ _).mono ?_; rintro e w' ⟨rfl, rfl⟩)
        go_round
        case rel => exact ⟨m, hi, rfl, rfl, by omega, g2, h3, .inr (by omega), H5.out⟩
        case measure => simp [intOf]; omega
    · go_wp2
      go_ret
      obtain ⟨u, rfl⟩ := Int.eq_ofNat_of_zero_le (show 0 ≤ hi by omega)
      obtain rfl : lo = (u : Int) - 1 := by omega
      exact ⟨ret_int (by
        rw [arc_at s u (by omega) (by rcases H4.out with h | h; exact .inl (by omega); exact .inr h) (by rcases H5.out with h | h; exact .inl (by omega); exact .inr h)]), rfl⟩

set_option maxHeartbeats 1000000 in
theorem closure_any (b i : Nat) (s : Int) (W : World) (hi : i ≤ 324000) (hs : W.cell? ⟨b, 0, none⟩ = some (.int .i64 s)) :
    Calls Try.prog 75 (#[.int .i64 (i : Int)] ++ #[.pointer (some ⟨b, 0, none⟩)]) W fun e w' => e = .returned (.bool (decide (s ≤ sineL (i : Int)))) ∧ ∃ q, w' = W.drewN q := by
  have h1 : -3000000000 ≤ (i : Int) := by omega
  have h2 : (i : Int) ≤ 3000000000 := by omega
  go_enter Try.func75, Try.ntmps75
  go_wp2
  go_quiet ((go_at_call 71; exact Calls.quiet_of_same ((sineAt_any _ _ h1 h2).mono fun _ _ h => ⟨h.1, h.2.symm⟩)))
  all_goals go_wp2
  all_goals go_ret
  all_goals exact ⟨by first | rfl | simp, _, rfl⟩

theorem implArcOf_bad (s : Int) (w : World) (h : inB s 0 1000000 = false) :
    Calls Try.prog 61 #[.int .i64 s] w fun e w' => e = .returned (.tuple #[.int .i64 0, .int .i64 2]) ∧ Below w.heap.size w w' := by
  go_enter Try.func61, Try.ntmps61
  go_wp2_with (go_at_call 40; refine (within_any _ _ _ _).mono ?_; rintro e w' ⟨rfl, rfl⟩)
  exact bodyPost_ret (v := .tuple #[.int .i64 0, .int .i64 2]) (by simp [results, Try.results61, go_sem]) rfl ⟨rfl, (Below.refl _ _).alloc (Nat.le_refl _) _⟩

theorem search_any (b : Nat) (s : Int) (W : World) (hb : b < W.heap.size) (hs : W.cell? ⟨b, 0, none⟩ = some (.int .i64 s)) :
    Calls Try.prog 74 #[.int .i64 324000, .func (.func 75) #[] #[.pointer (some ⟨b, 0, none⟩)]] W fun e w' => e = .returned (.int .i64 (arcN s : Nat)) ∧ ∃ q os, w' = grow (W.drewN q) os := by
  have eg : ∀ args w, (callFunc 75 args).run Try.prog w = .ok (.enter 75 args) w := enters_of Try.func75 (by kernel_rfl) rfl
  have hS := Any.sort_Search Try.search 75 #[.pointer (some ⟨b, 0, none⟩)] 324000 (fun i => decide (s ≤ sineL (i : Int))) W eg (by omega)
    (fun m os i hi => (closure_any b i s _ (by omega) (cell_grown hb hs m os)).mono fun _ _ ⟨he, q, hq⟩ => ⟨he, q, #[], by rw [hq, grow_empty]⟩)
    (fun x y hxy hy h => by
      have h' : s ≤ sineL (x : Int) := by simpa using h
      have := sine_le (x := (x : Int)) (y := (y : Int)) (by omega) (by omega) (by omega)
      simp only [decide_eq_true_eq]; omega)
  exact hS

set_option maxHeartbeats 1000000 in
theorem implArcOf_yes (s : Int) (w : World) (h : inB s 0 1000000 = true) :
    Calls Try.prog 61 #[.int .i64 s] w fun e w' => e = .returned (.tuple #[.int .i64 (arcN s : Nat), .int .i64 0]) ∧ Below w.heap.size w w' := by
  have hmf : ∀ (fn : Fn) (first cap : Array Value) (w : World), (Instr.makeFunc fn first cap).run Try.prog w = .ok (.func fn first cap) w := fun _ _ _ _ => rfl
  have hC : (w.alloc (.cells #[.int .i64 s] 2)).cell? ⟨w.heap.size, 0, none⟩ = some (.int .i64 s) := cell_new_sl _ _ _
  have HC := Lib.hid (search_any w.heap.size s (w.alloc (.cells #[.int .i64 s] 2)) (by simp) hC)
  obtain ⟨k, hk⟩ : ∃ k : Nat, Hid (arcN s = k) := ⟨_, Lib.hid rfl⟩
  have hk2 := arc_le s
  rw [hk.out] at hk2 ⊢
  go_enter Try.func61, Try.ntmps61
  go_wp2_with (go_at_call 40; refine (within_any _ _ _ _).mono ?_; rintro e w' ⟨rfl, rfl⟩)
  go_wp2_with fail
  refine HC.out.mono ?_
  rintro e w' ⟨rfl, q, os, rfl⟩
  rw [hk.out]
  go_wp2
  exact bodyPost_ret (v := .tuple #[.int .i64 (k : Nat), .int .i64 0]) (by simp [results, Try.results61, go_sem]) rfl ⟨rfl, by
    have h1 := below_grown_sl (w.alloc (.cells #[.int .i64 s] 2)).heap.size _ q os (Nat.le_refl _)
    exact ((Below.refl w.heap.size w).alloc (Nat.le_refl _) _).trans (h1.mono (by simp))⟩
end Go.Proofs.Ytkiimdfnobcdpaa.sines
