/- The program's boxes of maps: contracts. -/
import Derived.Test.YtemhmejjmhbfdaaPlatesI12
namespace Go.Proofs.Ytemhmejjmhbfdaa.sines
open Go.ChangeShapes Go.WideShapes Go.ChangeAt Go.RowKit Go.Proofs.Ytemhmejjmhbfdaa.spots Go.Proofs.Ytemhmejjmhbfdaa.pairs
set_option linter.unusedSimpArgs false
set_option linter.unusedVariables false

set_option maxRecDepth 100000 in
set_option maxHeartbeats 1000000 in
theorem sw_any (a b c d : Int) (w : World) :
    Calls Try.prog 96 #[.agg #[.int .i64 a, .int .i64 b], .agg #[.int .i64 c, .int .i64 d]] w fun e w' => e = .returned (.agg #[.int .i64 (min a c), .int .i64 (min b d)]) ∧ Below w.heap.size w w' := by
  rcases Int.lt_trichotomy a c with h1 | h1 | h1 <;> rcases Int.lt_trichotomy b d with h2 | h2 | h2
  · rw [show min a c = a by omega, show min b d = b by omega]
    have B0 := Lib.hid ((((Below.refl w.heap.size w).alloc (Nat.le_refl _) (.cells #[.int .i64 a, .int .i64 b] 29)).alloc (by simp) (.cells #[.int .i64 c, .int .i64 d] 29)).alloc (by simp; omega) (.cells #[.int .i64 a, .int .i64 b] 29))
    obtain ⟨z1, u1, u2, u3, u4, u5⟩ := cells222 w (.int .i64 a) (.int .i64 b) (.int .i64 c) (.int .i64 d) (.int .i64 0) (.int .i64 0) 29 29 29
    obtain ⟨_, _, _, _, _, v5⟩ := cells222 w (.int .i64 a) (.int .i64 b) (.int .i64 c) (.int .i64 d) (.int .i64 a) (.int .i64 b) 29 29 29
    obtain ⟨f1, f2, f3, f4⟩ := cel2_cells u5
    obtain ⟨q1, q2, _, _⟩ := cel2_cells v5
    clear z1 u5 v5
    go_enter Try.func96, Try.ntmps96
    go_wp2
    exact bodyPost_ret (v := .agg #[.int .i64 a, .int .i64 b]) (by simp [results, Try.results96, go_sem, q1, q2]) rfl ⟨rfl, B0.out⟩
  · rw [show min a c = a by omega, show min b d = b by omega]
    subst h2
    have B0 := Lib.hid ((((Below.refl w.heap.size w).alloc (Nat.le_refl _) (.cells #[.int .i64 a, .int .i64 b] 29)).alloc (by simp) (.cells #[.int .i64 c, .int .i64 b] 29)).alloc (by simp; omega) (.cells #[.int .i64 a, .int .i64 b] 29))
    obtain ⟨z1, u1, u2, u3, u4, u5⟩ := cells222 w (.int .i64 a) (.int .i64 b) (.int .i64 c) (.int .i64 b) (.int .i64 0) (.int .i64 0) 29 29 29
    obtain ⟨_, _, _, _, _, v5⟩ := cells222 w (.int .i64 a) (.int .i64 b) (.int .i64 c) (.int .i64 b) (.int .i64 a) (.int .i64 b) 29 29 29
    obtain ⟨f1, f2, f3, f4⟩ := cel2_cells u5
    obtain ⟨q1, q2, _, _⟩ := cel2_cells v5
    clear z1 u5 v5
    go_enter Try.func96, Try.ntmps96
    go_wp2
    exact bodyPost_ret (v := .agg #[.int .i64 a, .int .i64 b]) (by simp [results, Try.results96, go_sem, q1, q2]) rfl ⟨rfl, B0.out⟩
  · rw [show min a c = a by omega, show min b d = d by omega]
    have B0 := Lib.hid ((((Below.refl w.heap.size w).alloc (Nat.le_refl _) (.cells #[.int .i64 a, .int .i64 b] 29)).alloc (by simp) (.cells #[.int .i64 c, .int .i64 d] 29)).alloc (by simp; omega) (.cells #[.int .i64 a, .int .i64 d] 29))
    obtain ⟨z1, u1, u2, u3, u4, u5⟩ := cells222 w (.int .i64 a) (.int .i64 b) (.int .i64 c) (.int .i64 d) (.int .i64 0) (.int .i64 0) 29 29 29
    obtain ⟨_, _, _, _, _, v5⟩ := cells222 w (.int .i64 a) (.int .i64 b) (.int .i64 c) (.int .i64 d) (.int .i64 a) (.int .i64 d) 29 29 29
    obtain ⟨f1, f2, f3, f4⟩ := cel2_cells u5
    obtain ⟨q1, q2, _, _⟩ := cel2_cells v5
    clear z1 u5 v5
    go_enter Try.func96, Try.ntmps96
    go_wp2
    exact bodyPost_ret (v := .agg #[.int .i64 a, .int .i64 d]) (by simp [results, Try.results96, go_sem, q1, q2]) rfl ⟨rfl, B0.out⟩
  · rw [show min a c = a by omega, show min b d = b by omega]
    subst h1
    have B0 := Lib.hid ((((Below.refl w.heap.size w).alloc (Nat.le_refl _) (.cells #[.int .i64 a, .int .i64 b] 29)).alloc (by simp) (.cells #[.int .i64 a, .int .i64 d] 29)).alloc (by simp; omega) (.cells #[.int .i64 a, .int .i64 b] 29))
    obtain ⟨z1, u1, u2, u3, u4, u5⟩ := cells222 w (.int .i64 a) (.int .i64 b) (.int .i64 a) (.int .i64 d) (.int .i64 0) (.int .i64 0) 29 29 29
    obtain ⟨_, _, _, _, _, v5⟩ := cells222 w (.int .i64 a) (.int .i64 b) (.int .i64 a) (.int .i64 d) (.int .i64 a) (.int .i64 b) 29 29 29
    obtain ⟨f1, f2, f3, f4⟩ := cel2_cells u5
    obtain ⟨q1, q2, _, _⟩ := cel2_cells v5
    clear z1 u5 v5
    go_enter Try.func96, Try.ntmps96
    go_wp2
    exact bodyPost_ret (v := .agg #[.int .i64 a, .int .i64 b]) (by simp [results, Try.results96, go_sem, q1, q2]) rfl ⟨rfl, B0.out⟩
  · rw [show min a c = a by omega, show min b d = b by omega]
    subst h1
    subst h2
    have B0 := Lib.hid ((((Below.refl w.heap.size w).alloc (Nat.le_refl _) (.cells #[.int .i64 a, .int .i64 b] 29)).alloc (by simp) (.cells #[.int .i64 a, .int .i64 b] 29)).alloc (by simp; omega) (.cells #[.int .i64 a, .int .i64 b] 29))
    obtain ⟨z1, u1, u2, u3, u4, u5⟩ := cells222 w (.int .i64 a) (.int .i64 b) (.int .i64 a) (.int .i64 b) (.int .i64 0) (.int .i64 0) 29 29 29
    obtain ⟨_, _, _, _, _, v5⟩ := cells222 w (.int .i64 a) (.int .i64 b) (.int .i64 a) (.int .i64 b) (.int .i64 a) (.int .i64 b) 29 29 29
    obtain ⟨f1, f2, f3, f4⟩ := cel2_cells u5
    obtain ⟨q1, q2, _, _⟩ := cel2_cells v5
    clear z1 u5 v5
    go_enter Try.func96, Try.ntmps96
    go_wp2
    exact bodyPost_ret (v := .agg #[.int .i64 a, .int .i64 b]) (by simp [results, Try.results96, go_sem, q1, q2]) rfl ⟨rfl, B0.out⟩
  · rw [show min a c = a by omega, show min b d = d by omega]
    subst h1
    have B0 := Lib.hid ((((Below.refl w.heap.size w).alloc (Nat.le_refl _) (.cells #[.int .i64 a, .int .i64 b] 29)).alloc (by simp) (.cells #[.int .i64 a, .int .i64 d] 29)).alloc (by simp; omega) (.cells #[.int .i64 a, .int .i64 d] 29))
    obtain ⟨z1, u1, u2, u3, u4, u5⟩ := cells222 w (.int .i64 a) (.int .i64 b) (.int .i64 a) (.int .i64 d) (.int .i64 0) (.int .i64 0) 29 29 29
    obtain ⟨_, _, _, _, _, v5⟩ := cells222 w (.int .i64 a) (.int .i64 b) (.int .i64 a) (.int .i64 d) (.int .i64 a) (.int .i64 d) 29 29 29
    obtain ⟨f1, f2, f3, f4⟩ := cel2_cells u5
    obtain ⟨q1, q2, _, _⟩ := cel2_cells v5
    clear z1 u5 v5
    go_enter Try.func96, Try.ntmps96
    go_wp2
    exact bodyPost_ret (v := .agg #[.int .i64 a, .int .i64 d]) (by simp [results, Try.results96, go_sem, q1, q2]) rfl ⟨rfl, B0.out⟩
  · rw [show min a c = c by omega, show min b d = b by omega]
    have B0 := Lib.hid ((((Below.refl w.heap.size w).alloc (Nat.le_refl _) (.cells #[.int .i64 a, .int .i64 b] 29)).alloc (by simp) (.cells #[.int .i64 c, .int .i64 d] 29)).alloc (by simp; omega) (.cells #[.int .i64 c, .int .i64 b] 29))
    obtain ⟨z1, u1, u2, u3, u4, u5⟩ := cells222 w (.int .i64 a) (.int .i64 b) (.int .i64 c) (.int .i64 d) (.int .i64 0) (.int .i64 0) 29 29 29
    obtain ⟨_, _, _, _, _, v5⟩ := cells222 w (.int .i64 a) (.int .i64 b) (.int .i64 c) (.int .i64 d) (.int .i64 c) (.int .i64 b) 29 29 29
    obtain ⟨f1, f2, f3, f4⟩ := cel2_cells u5
    obtain ⟨q1, q2, _, _⟩ := cel2_cells v5
    clear z1 u5 v5
    go_enter Try.func96, Try.ntmps96
    go_wp2
    exact bodyPost_ret (v := .agg #[.int .i64 c, .int .i64 b]) (by simp [results, Try.results96, go_sem, q1, q2]) rfl ⟨rfl, B0.out⟩
  · rw [show min a c = c by omega, show min b d = b by omega]
    subst h2
    have B0 := Lib.hid ((((Below.refl w.heap.size w).alloc (Nat.le_refl _) (.cells #[.int .i64 a, .int .i64 b] 29)).alloc (by simp) (.cells #[.int .i64 c, .int .i64 b] 29)).alloc (by simp; omega) (.cells #[.int .i64 c, .int .i64 b] 29))
    obtain ⟨z1, u1, u2, u3, u4, u5⟩ := cells222 w (.int .i64 a) (.int .i64 b) (.int .i64 c) (.int .i64 b) (.int .i64 0) (.int .i64 0) 29 29 29
    obtain ⟨_, _, _, _, _, v5⟩ := cells222 w (.int .i64 a) (.int .i64 b) (.int .i64 c) (.int .i64 b) (.int .i64 c) (.int .i64 b) 29 29 29
    obtain ⟨f1, f2, f3, f4⟩ := cel2_cells u5
    obtain ⟨q1, q2, _, _⟩ := cel2_cells v5
    clear z1 u5 v5
    go_enter Try.func96, Try.ntmps96
    go_wp2
    exact bodyPost_ret (v := .agg #[.int .i64 c, .int .i64 b]) (by simp [results, Try.results96, go_sem, q1, q2]) rfl ⟨rfl, B0.out⟩
  · rw [show min a c = c by omega, show min b d = d by omega]
    have B0 := Lib.hid ((((Below.refl w.heap.size w).alloc (Nat.le_refl _) (.cells #[.int .i64 a, .int .i64 b] 29)).alloc (by simp) (.cells #[.int .i64 c, .int .i64 d] 29)).alloc (by simp; omega) (.cells #[.int .i64 c, .int .i64 d] 29))
    obtain ⟨z1, u1, u2, u3, u4, u5⟩ := cells222 w (.int .i64 a) (.int .i64 b) (.int .i64 c) (.int .i64 d) (.int .i64 0) (.int .i64 0) 29 29 29
    obtain ⟨_, _, _, _, _, v5⟩ := cells222 w (.int .i64 a) (.int .i64 b) (.int .i64 c) (.int .i64 d) (.int .i64 c) (.int .i64 d) 29 29 29
    obtain ⟨f1, f2, f3, f4⟩ := cel2_cells u5
    obtain ⟨q1, q2, _, _⟩ := cel2_cells v5
    clear z1 u5 v5
    go_enter Try.func96, Try.ntmps96
    go_wp2
    exact bodyPost_ret (v := .agg #[.int .i64 c, .int .i64 d]) (by simp [results, Try.results96, go_sem, q1, q2]) rfl ⟨rfl, B0.out⟩
set_option maxRecDepth 100000 in
set_option maxHeartbeats 1000000 in
theorem ne_any (a b c d : Int) (w : World) :
    Calls Try.prog 97 #[.agg #[.int .i64 a, .int .i64 b], .agg #[.int .i64 c, .int .i64 d]] w fun e w' => e = .returned (.agg #[.int .i64 (max a c), .int .i64 (max b d)]) ∧ Below w.heap.size w w' := by
  rcases Int.lt_trichotomy a c with h1 | h1 | h1 <;> rcases Int.lt_trichotomy b d with h2 | h2 | h2
  · rw [show max a c = c by omega, show max b d = d by omega]
    have B0 := Lib.hid ((((Below.refl w.heap.size w).alloc (Nat.le_refl _) (.cells #[.int .i64 a, .int .i64 b] 29)).alloc (by simp) (.cells #[.int .i64 c, .int .i64 d] 29)).alloc (by simp; omega) (.cells #[.int .i64 c, .int .i64 d] 29))
    obtain ⟨z1, u1, u2, u3, u4, u5⟩ := cells222 w (.int .i64 a) (.int .i64 b) (.int .i64 c) (.int .i64 d) (.int .i64 0) (.int .i64 0) 29 29 29
    obtain ⟨_, _, _, _, _, v5⟩ := cells222 w (.int .i64 a) (.int .i64 b) (.int .i64 c) (.int .i64 d) (.int .i64 c) (.int .i64 d) 29 29 29
    obtain ⟨f1, f2, f3, f4⟩ := cel2_cells u5
    obtain ⟨q1, q2, _, _⟩ := cel2_cells v5
    clear z1 u5 v5
    go_enter Try.func97, Try.ntmps97
    go_wp2
    exact bodyPost_ret (v := .agg #[.int .i64 c, .int .i64 d]) (by simp [results, Try.results97, go_sem, q1, q2]) rfl ⟨rfl, B0.out⟩
  · rw [show max a c = c by omega, show max b d = b by omega]
    subst h2
    have B0 := Lib.hid ((((Below.refl w.heap.size w).alloc (Nat.le_refl _) (.cells #[.int .i64 a, .int .i64 b] 29)).alloc (by simp) (.cells #[.int .i64 c, .int .i64 b] 29)).alloc (by simp; omega) (.cells #[.int .i64 c, .int .i64 b] 29))
    obtain ⟨z1, u1, u2, u3, u4, u5⟩ := cells222 w (.int .i64 a) (.int .i64 b) (.int .i64 c) (.int .i64 b) (.int .i64 0) (.int .i64 0) 29 29 29
    obtain ⟨_, _, _, _, _, v5⟩ := cells222 w (.int .i64 a) (.int .i64 b) (.int .i64 c) (.int .i64 b) (.int .i64 c) (.int .i64 b) 29 29 29
    obtain ⟨f1, f2, f3, f4⟩ := cel2_cells u5
    obtain ⟨q1, q2, _, _⟩ := cel2_cells v5
    clear z1 u5 v5
    go_enter Try.func97, Try.ntmps97
    go_wp2
    exact bodyPost_ret (v := .agg #[.int .i64 c, .int .i64 b]) (by simp [results, Try.results97, go_sem, q1, q2]) rfl ⟨rfl, B0.out⟩
  · rw [show max a c = c by omega, show max b d = b by omega]
    have B0 := Lib.hid ((((Below.refl w.heap.size w).alloc (Nat.le_refl _) (.cells #[.int .i64 a, .int .i64 b] 29)).alloc (by simp) (.cells #[.int .i64 c, .int .i64 d] 29)).alloc (by simp; omega) (.cells #[.int .i64 c, .int .i64 b] 29))
    obtain ⟨z1, u1, u2, u3, u4, u5⟩ := cells222 w (.int .i64 a) (.int .i64 b) (.int .i64 c) (.int .i64 d) (.int .i64 0) (.int .i64 0) 29 29 29
    obtain ⟨_, _, _, _, _, v5⟩ := cells222 w (.int .i64 a) (.int .i64 b) (.int .i64 c) (.int .i64 d) (.int .i64 c) (.int .i64 b) 29 29 29
    obtain ⟨f1, f2, f3, f4⟩ := cel2_cells u5
    obtain ⟨q1, q2, _, _⟩ := cel2_cells v5
    clear z1 u5 v5
    go_enter Try.func97, Try.ntmps97
    go_wp2
    exact bodyPost_ret (v := .agg #[.int .i64 c, .int .i64 b]) (by simp [results, Try.results97, go_sem, q1, q2]) rfl ⟨rfl, B0.out⟩
  · rw [show max a c = a by omega, show max b d = d by omega]
    subst h1
    have B0 := Lib.hid ((((Below.refl w.heap.size w).alloc (Nat.le_refl _) (.cells #[.int .i64 a, .int .i64 b] 29)).alloc (by simp) (.cells #[.int .i64 a, .int .i64 d] 29)).alloc (by simp; omega) (.cells #[.int .i64 a, .int .i64 d] 29))
    obtain ⟨z1, u1, u2, u3, u4, u5⟩ := cells222 w (.int .i64 a) (.int .i64 b) (.int .i64 a) (.int .i64 d) (.int .i64 0) (.int .i64 0) 29 29 29
    obtain ⟨_, _, _, _, _, v5⟩ := cells222 w (.int .i64 a) (.int .i64 b) (.int .i64 a) (.int .i64 d) (.int .i64 a) (.int .i64 d) 29 29 29
    obtain ⟨f1, f2, f3, f4⟩ := cel2_cells u5
    obtain ⟨q1, q2, _, _⟩ := cel2_cells v5
    clear z1 u5 v5
    go_enter Try.func97, Try.ntmps97
    go_wp2
    exact bodyPost_ret (v := .agg #[.int .i64 a, .int .i64 d]) (by simp [results, Try.results97, go_sem, q1, q2]) rfl ⟨rfl, B0.out⟩
  · rw [show max a c = a by omega, show max b d = b by omega]
    subst h1
    subst h2
    have B0 := Lib.hid ((((Below.refl w.heap.size w).alloc (Nat.le_refl _) (.cells #[.int .i64 a, .int .i64 b] 29)).alloc (by simp) (.cells #[.int .i64 a, .int .i64 b] 29)).alloc (by simp; omega) (.cells #[.int .i64 a, .int .i64 b] 29))
    obtain ⟨z1, u1, u2, u3, u4, u5⟩ := cells222 w (.int .i64 a) (.int .i64 b) (.int .i64 a) (.int .i64 b) (.int .i64 0) (.int .i64 0) 29 29 29
    obtain ⟨_, _, _, _, _, v5⟩ := cells222 w (.int .i64 a) (.int .i64 b) (.int .i64 a) (.int .i64 b) (.int .i64 a) (.int .i64 b) 29 29 29
    obtain ⟨f1, f2, f3, f4⟩ := cel2_cells u5
    obtain ⟨q1, q2, _, _⟩ := cel2_cells v5
    clear z1 u5 v5
    go_enter Try.func97, Try.ntmps97
    go_wp2
    exact bodyPost_ret (v := .agg #[.int .i64 a, .int .i64 b]) (by simp [results, Try.results97, go_sem, q1, q2]) rfl ⟨rfl, B0.out⟩
  · rw [show max a c = a by omega, show max b d = b by omega]
    subst h1
    have B0 := Lib.hid ((((Below.refl w.heap.size w).alloc (Nat.le_refl _) (.cells #[.int .i64 a, .int .i64 b] 29)).alloc (by simp) (.cells #[.int .i64 a, .int .i64 d] 29)).alloc (by simp; omega) (.cells #[.int .i64 a, .int .i64 b] 29))
    obtain ⟨z1, u1, u2, u3, u4, u5⟩ := cells222 w (.int .i64 a) (.int .i64 b) (.int .i64 a) (.int .i64 d) (.int .i64 0) (.int .i64 0) 29 29 29
    obtain ⟨_, _, _, _, _, v5⟩ := cells222 w (.int .i64 a) (.int .i64 b) (.int .i64 a) (.int .i64 d) (.int .i64 a) (.int .i64 b) 29 29 29
    obtain ⟨f1, f2, f3, f4⟩ := cel2_cells u5
    obtain ⟨q1, q2, _, _⟩ := cel2_cells v5
    clear z1 u5 v5
    go_enter Try.func97, Try.ntmps97
    go_wp2
    exact bodyPost_ret (v := .agg #[.int .i64 a, .int .i64 b]) (by simp [results, Try.results97, go_sem, q1, q2]) rfl ⟨rfl, B0.out⟩
  · rw [show max a c = a by omega, show max b d = d by omega]
    have B0 := Lib.hid ((((Below.refl w.heap.size w).alloc (Nat.le_refl _) (.cells #[.int .i64 a, .int .i64 b] 29)).alloc (by simp) (.cells #[.int .i64 c, .int .i64 d] 29)).alloc (by simp; omega) (.cells #[.int .i64 a, .int .i64 d] 29))
    obtain ⟨z1, u1, u2, u3, u4, u5⟩ := cells222 w (.int .i64 a) (.int .i64 b) (.int .i64 c) (.int .i64 d) (.int .i64 0) (.int .i64 0) 29 29 29
    obtain ⟨_, _, _, _, _, v5⟩ := cells222 w (.int .i64 a) (.int .i64 b) (.int .i64 c) (.int .i64 d) (.int .i64 a) (.int .i64 d) 29 29 29
    obtain ⟨f1, f2, f3, f4⟩ := cel2_cells u5
    obtain ⟨q1, q2, _, _⟩ := cel2_cells v5
    clear z1 u5 v5
    go_enter Try.func97, Try.ntmps97
    go_wp2
    exact bodyPost_ret (v := .agg #[.int .i64 a, .int .i64 d]) (by simp [results, Try.results97, go_sem, q1, q2]) rfl ⟨rfl, B0.out⟩
  · rw [show max a c = a by omega, show max b d = b by omega]
    subst h2
    have B0 := Lib.hid ((((Below.refl w.heap.size w).alloc (Nat.le_refl _) (.cells #[.int .i64 a, .int .i64 b] 29)).alloc (by simp) (.cells #[.int .i64 c, .int .i64 b] 29)).alloc (by simp; omega) (.cells #[.int .i64 a, .int .i64 b] 29))
    obtain ⟨z1, u1, u2, u3, u4, u5⟩ := cells222 w (.int .i64 a) (.int .i64 b) (.int .i64 c) (.int .i64 b) (.int .i64 0) (.int .i64 0) 29 29 29
    obtain ⟨_, _, _, _, _, v5⟩ := cells222 w (.int .i64 a) (.int .i64 b) (.int .i64 c) (.int .i64 b) (.int .i64 a) (.int .i64 b) 29 29 29
    obtain ⟨f1, f2, f3, f4⟩ := cel2_cells u5
    obtain ⟨q1, q2, _, _⟩ := cel2_cells v5
    clear z1 u5 v5
    go_enter Try.func97, Try.ntmps97
    go_wp2
    exact bodyPost_ret (v := .agg #[.int .i64 a, .int .i64 b]) (by simp [results, Try.results97, go_sem, q1, q2]) rfl ⟨rfl, B0.out⟩
  · rw [show max a c = a by omega, show max b d = b by omega]
    have B0 := Lib.hid ((((Below.refl w.heap.size w).alloc (Nat.le_refl _) (.cells #[.int .i64 a, .int .i64 b] 29)).alloc (by simp) (.cells #[.int .i64 c, .int .i64 d] 29)).alloc (by simp; omega) (.cells #[.int .i64 a, .int .i64 b] 29))
    obtain ⟨z1, u1, u2, u3, u4, u5⟩ := cells222 w (.int .i64 a) (.int .i64 b) (.int .i64 c) (.int .i64 d) (.int .i64 0) (.int .i64 0) 29 29 29
    obtain ⟨_, _, _, _, _, v5⟩ := cells222 w (.int .i64 a) (.int .i64 b) (.int .i64 c) (.int .i64 d) (.int .i64 a) (.int .i64 b) 29 29 29
    obtain ⟨f1, f2, f3, f4⟩ := cel2_cells u5
    obtain ⟨q1, q2, _, _⟩ := cel2_cells v5
    clear z1 u5 v5
    go_enter Try.func97, Try.ntmps97
    go_wp2
    exact bodyPost_ret (v := .agg #[.int .i64 a, .int .i64 b]) (by simp [results, Try.results97, go_sem, q1, q2]) rfl ⟨rfl, B0.out⟩
end Go.Proofs.Ytemhmejjmhbfdaa.sines
