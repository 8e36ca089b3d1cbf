/- The program's widths of parallels and its longitudes that are read: contracts. -/
import Derived.Test.YtemhmejjmhbfdaaPlatesX
import Derived.BigQuiet
namespace Go.Proofs.Ytemhmejjmhbfdaa.sines
open Go.ChangeShapes Go.WideShapes Go.ChangeAt Go.RowKit Go.Proofs.Ytemhmejjmhbfdaa.spots Go.Proofs.Ytemhmejjmhbfdaa.pairs
set_option linter.unusedSimpArgs false
set_option linter.unusedVariables false

theorem wrapW_any (n : Int) (w : World) (h1 : -3000000000000 ≤ n) (h2 : n ≤ 3000000000000) :
    Calls Try.prog 176 #[.int .i64 n] w fun e w' => e = .returned (.int .i64 (wrapL n)) ∧ w = w' := by
  obtain ⟨b1, b2, e1⟩ := wrapL_tmod n
  have E1 := Lib.hid e1
  clear e1
  by_cases h3 : (n + 648000).tmod 1296000 < 0
  · go_enter Try.func176, Try.ntmps176
    go_wp2
    go_ret
    exact ⟨ret_int (by rw [E1.out, if_pos h3]), rfl⟩
  · go_enter Try.func176, Try.ntmps176
    go_wp2
    go_ret
    exact ⟨ret_int (by rw [E1.out, if_neg (by omega)]), rfl⟩
theorem sineAtW_any (n : Int) (w : World) (h1 : -2000000000000 ≤ n) (h2 : n ≤ 2000000000000) :
    Calls Try.prog 158 #[.int .i64 n] w fun e w' => e = .returned (.int .i64 (sineL n)) ∧ w = w' := by
  have E := Lib.hid (sineL_wrap n (wrapL n) rfl)
  have b1 : -648000 ≤ wrapL n := by simp only [wrapL]; omega
  have b2 : wrapL n ≤ 647999 := by simp only [wrapL]; omega
  have c1 := sineL_bounds n
  by_cases h : wrapL n < 0
  · obtain ⟨d1, d2⟩ := sH_bounds (wrapL n + 648000) (by omega) (by omega)
    go_enter Try.func158, Try.ntmps158
    go_wp2_with (first | (go_at_call 176; refine (wrapW_any _ _ (by omega) (by omega)).mono ?_; rintro e w' ⟨rfl, rfl⟩) | (go_at_call 177; refine (sineOfHalf_any _ _ (by omega) (by omega)).mono ?_; rintro e w' ⟨rfl, rfl⟩))
    go_ret
    exact ⟨ret_int (by rw [E.out, if_pos h]), rfl⟩
  · go_enter Try.func158, Try.ntmps158
    go_wp2_with (go_at_call 176; refine (wrapW_any _ _ (by omega) (by omega)).mono ?_; rintro e w' ⟨rfl, rfl⟩)
    go_wp2_with (go_at_call 177; refine (sineOfHalf_any _ _ (by omega) (by omega)).mono ?_; rintro e w' ⟨rfl, rfl⟩)
    go_ret
    exact ⟨ret_int (by rw [E.out, if_neg (by omega)]), rfl⟩
theorem cosineAtW_any (n : Int) (w : World) (h1 : -1000000000000 ≤ n) (h2 : n ≤ 1000000000000) :
    Calls Try.prog 116 #[.int .i64 n] w fun e w' => e = .returned (.int .i64 (cosL n)) ∧ w = w' := by
  have hc : cosL n = sineL (n + 324000) := rfl
  rw [hc]
  clear hc
  go_enter Try.func116, Try.ntmps116
  go_wp2_with (go_at_call 158; refine (sineAtW_any _ _ (by omega) (by omega)).mono ?_; rintro e w' ⟨rfl, rfl⟩)
  go_ret
  exact ⟨rfl, rfl⟩
theorem waveWidth_any (n : Int) (w : World) (h1 : -1000000000000 ≤ n) (h2 : n ≤ 1000000000000) :
    Calls Try.prog 202 #[.agg #[], .int .i64 n] w fun e w' => e = .returned (.int .i64 (cosL n)) ∧ Below w.heap.size w w' := by
  have C := Lib.hid (fun W => cosineAtW_any n W h1 h2)
  go_enter Try.func202, Try.ntmps202
  go_wp2_with (go_at_call 116; refine (C.out _).mono ?_; rintro e w' ⟨rfl, rfl⟩)
  go_ret
  exact ⟨rfl, (Below.refl _ _).alloc (Nat.le_refl _) _⟩
theorem squareWidth_any (n : Int) (w : World) :
    Calls Try.prog 203 #[.agg #[], .int .i64 n] w fun e w' => e = .returned (.int .i64 1000000) ∧ Below w.heap.size w w' := by
  go_enter Try.func203, Try.ntmps203
  go_wp2
  go_ret
  exact ⟨rfl, (Below.refl _ _).alloc (Nat.le_refl _) _⟩
set_option maxHeartbeats 4000000 in
set_option maxRecDepth 1000000 in
/-- The program's search at a function of whatever answers: some place up to n. -/
theorem searchAny (g : Nat) (cb : Array Value) (n : Nat) (p : Nat → Bool) (w : World) (eg : ∀ args w, (callFunc g args).run Try.prog w = .ok (.enter g args) w) (hsz : n ≤ 1000000000)
    (hf : ∀ (i : Nat) (W : World), i < n → Below w.heap.size w W → Calls Try.prog g (#[.int .i64 i] ++ cb) W fun e w' => e = .returned (.bool (p i)) ∧ Below w.heap.size w w') :
    Calls Try.prog 174 #[.int .i64 n, .func (.func g) #[] cb] w fun e w' => (∃ k : Nat, k ≤ n ∧ (k = 0 ∨ p (k - 1) = false) ∧ (k = n ∨ p k = true) ∧ e = .returned (.int .i64 (k : Nat))) ∧ Below w.heap.size w w' := by
  have HF := Lib.hid hf
  clear hf
  go_enter Try.func174, Try.ntmps174
  go_wp2
  go_loopw [5, 6] (fun a b wr => ∃ lo hi : Nat, a = .int .i64 lo ∧ b = .int .i64 hi ∧ lo ≤ hi ∧ hi ≤ n ∧ (lo = 0 ∨ p (lo - 1) = false) ∧ (hi = n ∨ p hi = true) ∧ Below w.heap.size w wr) (fun a b _ => (intOf b - intOf a).toNat)
  case atStart => exact ⟨0, n, rfl, rfl, Nat.zero_le _, Nat.le_refl _, .inl rfl, .inl rfl, Below.refl _ _⟩
  case round =>
    obtain ⟨lo, hi, rfl, rfl, h1, h2, hl, hh, hb⟩ := hrel
    have HB := Lib.hid hb
    have HL := Lib.hid hl
    have HH := Lib.hid hh
    clear hl hh
    by_cases hlt : lo < hi
    · have hc := HF.out ((lo + hi) / 2) wr (by omega) hb
      rw [show (((lo + hi) / 2 : Nat) : Int) = ((lo : Int) + (hi : Int)) / 2 by omega] at hc
      clear hb
      cases hp : p ((lo + hi) / 2) <;> rw [hp] at hc
      · have HP := Lib.hid hp
        clear hp
        go_wp2_with (refine hc.mono ?_; rintro e w1 ⟨rfl, hb1⟩; have HB1 := Lib.hid hb1; clear hb1)
        go_roundw
        case rel => exact ⟨(lo + hi) / 2 + 1, hi, by rw [show ((lo : Int) + (hi : Int)) / 2 + 1 = (((lo + hi) / 2 + 1 : Nat) : Int) by omega], rfl, by omega, h2, .inr HP.out, HH.out, HB1.out⟩
        case measure => simp [intOf]; omega
      · have HP := Lib.hid hp
        clear hp
        go_wp2_with (refine hc.mono ?_; rintro e w1 ⟨rfl, hb1⟩; have HB1 := Lib.hid hb1; clear hb1)
        go_roundw
        case rel => exact ⟨lo, (lo + hi) / 2, rfl, by rw [show ((lo : Int) + (hi : Int)) / 2 = (((lo + hi) / 2 : Nat) : Int) by omega], by omega, by omega, HL.out, .inr HP.out, HB1.out⟩
        case measure => simp [intOf]; omega
    · obtain rfl : lo = hi := by omega
      clear hb
      go_wp2
      go_ret
      exact ⟨⟨lo, h2, HL.out, HH.out, rfl⟩, HB.out⟩
theorem mul_range2 {a c A C : Int} (h1 : -A ≤ a) (h2 : a ≤ A) (c0 : -C ≤ c) (c1 : c ≤ C) (A0 : 0 ≤ A) : -(A * C) ≤ a * c ∧ a * c ≤ A * C := by
  rcases Int.le_total 0 c with h | h
  · exact mul_range h1 h2 h c1 A0
  · have := mul_range (x := a) (s := -c) h1 h2 (by omega) (show -c ≤ C by omega) A0
    rw [Int.mul_neg] at this
    omega
/-- What the program reads for the longitude at x on a parallel of a width. -/
def LonAt (x s c z : Int) : Prop := (x = 0 ∧ z = 0) ∨ (x ≠ 0 ∧ -648001 ≤ z ∧ z ≤ 648000 ∧ (z = -648001 ∨ (2 * (z - 1) + 1) * c ≤ 2 * x * s * 1000000) ∧ (z = 648000 ∨ 2 * x * s * 1000000 < (2 * z + 1) * c))
set_option maxHeartbeats 1000000 in
theorem lonClosure_any (bw bx bm i : Nat) (x s c : Int) (W : World) (hi : i ≤ 1296001) (x0 : -2000000 ≤ x) (x1 : x ≤ 2000000) (s0 : 1 ≤ s) (s1 : s ≤ 100000) (c0 : -1000000 ≤ c) (c1 : c ≤ 1000000)
    (hw : W.cell? ⟨bw, 0, none⟩ = some (.int .i64 c)) (hx : W.cell? ⟨bx, 0, none⟩ = some (.int .i64 x)) (hm : W.cell? ⟨bm, 1, none⟩ = some (.int .i64 s)) :
    Calls Try.prog 175 (#[.int .i64 (i : Int)] ++ #[.pointer (some ⟨bw, 0, none⟩), .pointer (some ⟨bx, 0, none⟩), .pointer (some ⟨bm, 0, none⟩)]) W fun e w' => e = .returned (.bool (decide (2 * x * s * 1000000 < (2 * ((i : Int) - 648001) + 1) * c))) ∧ w' = W := by
  have m1 := mul_range (x := 2 * x) (s := s) (X := 4000000) (S := 100000) (by omega) (by omega) (by omega) s1 (by omega)
  have m2 := mul_range2 (a := 2 * ((i : Int) - 648001) + 1) (c := c) (A := 1296001) (C := 1000000) (by omega) (by omega) c0 c1 (by omega)
  obtain ⟨v2, k1, e1⟩ : ∃ v, IntKind.i64.wrap (2 * x) = v ∧ v = 2 * x := ⟨_, rfl, IntWalk.i64_in _ (by omega)⟩
  obtain ⟨v1, k2, e2⟩ : ∃ v, IntKind.i64.wrap (v2 * s) = v ∧ v = 2 * x * s := ⟨_, rfl, by rw [e1]; exact IntWalk.i64_in _ (by omega)⟩
  obtain ⟨v, k3, e3⟩ : ∃ v, IntKind.i64.wrap (v1 * 1000000) = v ∧ v = 2 * x * s * 1000000 := ⟨_, rfl, by rw [e2]; exact IntWalk.i64_in _ (by omega)⟩
  obtain ⟨z, k4, e4⟩ : ∃ v, IntKind.i64.wrap (-648001 + (i : Int)) = v ∧ v = (i : Int) - 648001 := ⟨_, rfl, by rw [IntWalk.i64_in _ (by omega)]; omega⟩
  obtain ⟨z2, k5, e5⟩ : ∃ v, IntKind.i64.wrap (2 * z) = v ∧ v = 2 * z := ⟨_, rfl, IntWalk.i64_in _ (by omega)⟩
  obtain ⟨z3, k6, e6⟩ : ∃ v, IntKind.i64.wrap (z2 + 1) = v ∧ v = 2 * ((i : Int) - 648001) + 1 := ⟨_, rfl, by rw [IntWalk.i64_in _ (by omega)]; omega⟩
  obtain ⟨y, k7, e7⟩ : ∃ v, IntKind.i64.wrap (z3 * c) = v ∧ v = (2 * ((i : Int) - 648001) + 1) * c := ⟨_, rfl, by rw [e6]; exact IntWalk.i64_in _ (by omega)⟩
  rw [← e3, ← e7]
  clear m1 m2 hi x0 x1 s0 s1 c0 c1 e1 e2 e3 e4 e5 e6 e7
  go_enter Try.func175, Try.ntmps175
  go_wp2
  go_ret
  exact ⟨by first | rfl | simp, rfl⟩
end Go.Proofs.Ytemhmejjmhbfdaa.sines
