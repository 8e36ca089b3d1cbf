/- The program's functions of caps that answer numbers: contracts. -/
import Derived.Test.YtiemealkdgnhcaaCapsI1
namespace Go.Proofs.Ytiemealkdgnhcaa.sines
open Go.ChangeShapes Go.WideShapes Go.ChangeAt Go.RowKit Go.Proofs.Ytiemealkdgnhcaa.spots Go.Proofs.Ytiemealkdgnhcaa.irows Go.Proofs.Ytiemealkdgnhcaa.pairs
set_option linter.unusedSimpArgs false
set_option linter.unusedVariables false

theorem field_disc (a x : Int) : ∀ w : World, (Instr.field 61 (.agg #[.int .i64 a, .int .i64 x]) 1).run Try.prog w = .ok (.int .i64 x) w := fun _ => by kernel_rfl

set_option maxRecDepth 100000 in
set_option maxHeartbeats 1000000 in
theorem implArcLength_f (a n : Int) (w : World) (h : inB a 1 1000000 = false) :
    Calls Try.prog 29 #[.int .i64 a, .int .i64 n] w fun e w' => e = .returned (.tuple #[.int .i64 (0), .int .i64 (2)]) ∧ Below w.heap.size w w' := by
  go_enter Try.func29, Try.ntmps29
  go_wp2_with (first | (go_at_call 64; refine (isAround_any _ _).mono ?_; rw [h]; rintro e w' ⟨rfl, rfl⟩))
  exact bodyPost_ret (v := .tuple #[.int .i64 (0), .int .i64 (2)]) (by simp [results, Try.results29, go_sem] <;> rfl) rfl ⟨rfl, Below.refl _ _⟩
set_option maxRecDepth 100000 in
set_option maxHeartbeats 1000000 in
theorem implArcLength_tf (a n : Int) (w : World) (h : inB a 1 1000000 = true) (g : inB n 0 1296000 = false) :
    Calls Try.prog 29 #[.int .i64 a, .int .i64 n] w fun e w' => e = .returned (.tuple #[.int .i64 (0), .int .i64 (2)]) ∧ Below w.heap.size w w' := by
  go_enter Try.func29, Try.ntmps29
  go_wp2_with (first | (go_at_call 64; refine (isAround_any _ _).mono ?_; rw [h]; rintro e w' ⟨rfl, rfl⟩) | (go_at_call 83; refine (within_any _ _ _ _).mono ?_; rw [g]; rintro e w' ⟨rfl, rfl⟩))
  exact bodyPost_ret (v := .tuple #[.int .i64 (0), .int .i64 (2)]) (by simp [results, Try.results29, go_sem] <;> rfl) rfl ⟨rfl, Below.refl _ _⟩
set_option maxRecDepth 100000 in
set_option maxHeartbeats 1000000 in
theorem implArcLength_tt (a n : Int) (w : World) (h : inB a 1 1000000 = true) (g : inB n 0 1296000 = true) :
    Calls Try.prog 29 #[.int .i64 a, .int .i64 n] w fun e w' => e = .returned (.tuple #[.int .i64 (arcC a n), .int .i64 (0)]) ∧ Below w.heap.size w w' := by
  obtain ⟨a1, a2⟩ := inB_of h
  obtain ⟨n1, n2⟩ := inB_of g
  go_enter Try.func29, Try.ntmps29
  go_wp2_with (first | (go_at_call 64; refine (isAround_any _ _).mono ?_; rw [h]; rintro e w' ⟨rfl, rfl⟩) | (go_at_call 83; refine (within_any _ _ _ _).mono ?_; rw [g]; rintro e w' ⟨rfl, rfl⟩) | (go_at_call 84; refine (lengthOfArc_any _ _ _ a1 a2 n1 n2).mono ?_; rintro e w' ⟨rfl, rfl⟩))
  exact bodyPost_ret (v := .tuple #[.int .i64 (arcC a n), .int .i64 (0)]) (by simp [results, Try.results29, go_sem] <;> rfl) rfl ⟨rfl, Below.refl _ _⟩
theorem implArcLength_any (a n : Int) (w : World) :
    Calls Try.prog 29 #[.int .i64 a, .int .i64 n] w fun e w' => e = .returned (.tuple #[.int .i64 (ansK (codeA6 a n) (arcC a n)), .int .i64 (codeA6 a n)]) ∧ Below w.heap.size w w' := by
  cases h : inB a 1 1000000 with
  | false => refine (implArcLength_f _ _ _ h).mono ?_; rintro e w' ⟨rfl, hw⟩; exact ⟨ret_k2 (by simp [codeA6, ansK, h]) (by simp [codeA6, ansK, h]), hw⟩
  | true =>
    cases g : inB n 0 1296000 with
    | false => refine (implArcLength_tf _ _ _ h g).mono ?_; rintro e w' ⟨rfl, hw⟩; exact ⟨ret_k2 (by simp [codeA6, ansK, h, g]) (by simp [codeA6, ansK, h, g]), hw⟩
    | true => refine (implArcLength_tt _ _ _ h g).mono ?_; rintro e w' ⟨rfl, hw⟩; exact ⟨ret_k2 (by simp [codeA6, ansK, h, g]) (by simp [codeA6, ansK, h, g]), hw⟩

/-- Two bounds tell the code of a circumference and a parallel. -/
theorem code6_ff {a l : Int} (h : inB a 1 1000000 = false) : code6 a l = 2 := by simp [code6, h]
theorem code6_tf {a l : Int} (g : inB l 0 324000 = false) : code6 a l = 2 := by simp [code6, g]
theorem code6_tt {a l : Int} (h : inB a 1 1000000 = true) (g : inB l 0 324000 = true) : code6 a l = 0 := by simp [code6, h, g]
set_option maxRecDepth 100000 in
set_option maxHeartbeats 1000000 in
theorem implCapRadius_f (a l : Int) (w : World) (h : inB a 1 1000000 = false) :
    Calls Try.prog 20 #[.int .i64 a, .int .i64 l] w fun e w' => e = .returned (.tuple #[.int .i64 (0), .int .i64 (2)]) ∧ Below w.heap.size w w' := by
  go_enter Try.func20, Try.ntmps20
  go_wp2_with (first | (go_at_call 64; refine (isAround_any _ _).mono ?_; rw [h]; rintro e w' ⟨rfl, rfl⟩))
  exact bodyPost_ret (v := .tuple #[.int .i64 (0), .int .i64 (2)]) (by simp [results, Try.results20, go_sem] <;> rfl) rfl ⟨rfl, Below.refl _ _⟩
set_option maxRecDepth 100000 in
set_option maxHeartbeats 1000000 in
theorem implCapRadius_tf (a l : Int) (w : World) (h : inB a 1 1000000 = true) (g : inB l 0 324000 = false) :
    Calls Try.prog 20 #[.int .i64 a, .int .i64 l] w fun e w' => e = .returned (.tuple #[.int .i64 (0), .int .i64 (2)]) ∧ Below w.heap.size w w' := by
  go_enter Try.func20, Try.ntmps20
  go_wp2_with (first | (go_at_call 64; refine (isAround_any _ _).mono ?_; rw [h]; rintro e w' ⟨rfl, rfl⟩) | (go_at_call 65; refine (isNorthLat_any _ _).mono ?_; rw [g]; rintro e w' ⟨rfl, rfl⟩))
  exact bodyPost_ret (v := .tuple #[.int .i64 (0), .int .i64 (2)]) (by simp [results, Try.results20, go_sem] <;> rfl) rfl ⟨rfl, Below.refl _ _⟩
set_option maxRecDepth 100000 in
set_option maxHeartbeats 1000000 in
theorem implCapRadius_tt (a l : Int) (w : World) (h : inB a 1 1000000 = true) (g : inB l 0 324000 = true) :
    Calls Try.prog 20 #[.int .i64 a, .int .i64 l] w fun e w' => e = .returned (.tuple #[.int .i64 (arcC a (324000 - l)), .int .i64 (0)]) ∧ Below w.heap.size w w' := by
  obtain ⟨a1, a2⟩ := inB_of h
  obtain ⟨l1, l2⟩ := inB_of g
  have DD := Lib.hid (fun w => discDownTo_any a l w a1 a2 l1 l2)
  generalize arcC a (324000 - l) = x at DD ⊢
  have hfd := field_disc a x
  go_enter Try.func20, Try.ntmps20
  go_wp2_with (first | (go_at_call 64; refine (isAround_any _ _).mono ?_; rw [h]; rintro e w' ⟨rfl, rfl⟩) | (go_at_call 65; refine (isNorthLat_any _ _).mono ?_; rw [g]; rintro e w' ⟨rfl, rfl⟩) | (go_at_call 66; refine (DD.out _).mono ?_; rintro e w1 ⟨rfl, hb1⟩))
  exact bodyPost_ret (v := .tuple #[.int .i64 (x), .int .i64 (0)]) (by simp [results, Try.results20, go_sem] <;> rfl) rfl ⟨rfl, hb1⟩
theorem implCapRadius_any (a l : Int) (w : World) :
    Calls Try.prog 20 #[.int .i64 a, .int .i64 l] w fun e w' => e = .returned (.tuple #[.int .i64 (ansK (code6 a l) (arcC a (324000 - l))), .int .i64 (code6 a l)]) ∧ Below w.heap.size w w' := by
  cases h : inB a 1 1000000 with
  | false => rw [code6_ff h]; exact implCapRadius_f _ _ _ h
  | true =>
    cases g : inB l 0 324000 with
    | false => rw [code6_tf g]; exact implCapRadius_tf _ _ _ h g
    | true => rw [code6_tt h g]; exact implCapRadius_tt _ _ _ h g

set_option maxRecDepth 100000 in
set_option maxHeartbeats 1000000 in
theorem implRimExcess_f (a l : Int) (w : World) (h : inB a 1 1000000 = false) :
    Calls Try.prog 46 #[.int .i64 a, .int .i64 l] w fun e w' => e = .returned (.tuple #[.int .i64 (0), .int .i64 (2)]) ∧ Below w.heap.size w w' := by
  go_enter Try.func46, Try.ntmps46
  go_wp2_with (first | (go_at_call 64; refine (isAround_any _ _).mono ?_; rw [h]; rintro e w' ⟨rfl, rfl⟩))
  exact bodyPost_ret (v := .tuple #[.int .i64 (0), .int .i64 (2)]) (by simp [results, Try.results46, go_sem] <;> rfl) rfl ⟨rfl, Below.refl _ _⟩
set_option maxRecDepth 100000 in
set_option maxHeartbeats 1000000 in
theorem implRimExcess_tf (a l : Int) (w : World) (h : inB a 1 1000000 = true) (g : inB l 0 324000 = false) :
    Calls Try.prog 46 #[.int .i64 a, .int .i64 l] w fun e w' => e = .returned (.tuple #[.int .i64 (0), .int .i64 (2)]) ∧ Below w.heap.size w w' := by
  go_enter Try.func46, Try.ntmps46
  go_wp2_with (first | (go_at_call 64; refine (isAround_any _ _).mono ?_; rw [h]; rintro e w' ⟨rfl, rfl⟩) | (go_at_call 65; refine (isNorthLat_any _ _).mono ?_; rw [g]; rintro e w' ⟨rfl, rfl⟩))
  exact bodyPost_ret (v := .tuple #[.int .i64 (0), .int .i64 (2)]) (by simp [results, Try.results46, go_sem] <;> rfl) rfl ⟨rfl, Below.refl _ _⟩
set_option maxRecDepth 100000 in
set_option maxHeartbeats 1000000 in
theorem implRimExcess_tt (a l : Int) (w : World) (h : inB a 1 1000000 = true) (g : inB l 0 324000 = true) :
    Calls Try.prog 46 #[.int .i64 a, .int .i64 l] w fun e w' => e = .returned (.tuple #[.int .i64 (excC a l), .int .i64 (0)]) ∧ Below w.heap.size w w' := by
  have RX := Lib.hid (fun w => rimExcess_any a l w (code6_tt h g))
  generalize excC a l = x at RX ⊢
  go_enter Try.func46, Try.ntmps46
  go_wp2_with (first | (go_at_call 64; refine (isAround_any _ _).mono ?_; rw [h]; rintro e w' ⟨rfl, rfl⟩) | (go_at_call 65; refine (isNorthLat_any _ _).mono ?_; rw [g]; rintro e w' ⟨rfl, rfl⟩) | (go_at_call 90; refine (RX.out _).mono ?_; rintro e w1 ⟨rfl, hb1⟩))
  exact bodyPost_ret (v := .tuple #[.int .i64 (x), .int .i64 (0)]) (by simp [results, Try.results46, go_sem] <;> rfl) rfl ⟨rfl, hb1⟩
theorem implRimExcess_any (a l : Int) (w : World) :
    Calls Try.prog 46 #[.int .i64 a, .int .i64 l] w fun e w' => e = .returned (.tuple #[.int .i64 (ansK (code6 a l) (excC a l)), .int .i64 (code6 a l)]) ∧ Below w.heap.size w w' := by
  cases h : inB a 1 1000000 with
  | false => rw [code6_ff h]; exact implRimExcess_f _ _ _ h
  | true =>
    cases g : inB l 0 324000 with
    | false => rw [code6_tf g]; exact implRimExcess_tf _ _ _ h g
    | true => rw [code6_tt h g]; exact implRimExcess_tt _ _ _ h g

set_option maxRecDepth 100000 in
set_option maxHeartbeats 1000000 in
theorem implSlitsFor_f (a l m : Int) (w : World) (h : inB a 1 1000000 = false) :
    Calls Try.prog 37 #[.int .i64 a, .int .i64 l, .int .i64 m] w fun e w' => e = .returned (.tuple #[.int .i64 (0), .int .i64 (2)]) ∧ Below w.heap.size w w' := by
  go_enter Try.func37, Try.ntmps37
  go_wp2_with (first | (go_at_call 64; refine (isAround_any _ _).mono ?_; rw [h]; rintro e w' ⟨rfl, rfl⟩))
  exact bodyPost_ret (v := .tuple #[.int .i64 (0), .int .i64 (2)]) (by simp [results, Try.results37, go_sem] <;> rfl) rfl ⟨rfl, Below.refl _ _⟩
set_option maxRecDepth 100000 in
set_option maxHeartbeats 1000000 in
theorem implSlitsFor_tf (a l m : Int) (w : World) (h : inB a 1 1000000 = true) (g : inB l 0 324000 = false) :
    Calls Try.prog 37 #[.int .i64 a, .int .i64 l, .int .i64 m] w fun e w' => e = .returned (.tuple #[.int .i64 (0), .int .i64 (2)]) ∧ Below w.heap.size w w' := by
  go_enter Try.func37, Try.ntmps37
  go_wp2_with (first | (go_at_call 64; refine (isAround_any _ _).mono ?_; rw [h]; rintro e w' ⟨rfl, rfl⟩) | (go_at_call 65; refine (isNorthLat_any _ _).mono ?_; rw [g]; rintro e w' ⟨rfl, rfl⟩))
  exact bodyPost_ret (v := .tuple #[.int .i64 (0), .int .i64 (2)]) (by simp [results, Try.results37, go_sem] <;> rfl) rfl ⟨rfl, Below.refl _ _⟩
set_option maxRecDepth 100000 in
set_option maxHeartbeats 1000000 in
theorem implSlitsFor_ttf (a l m : Int) (w : World) (h : inB a 1 1000000 = true) (g : inB l 0 324000 = true) (j : inB m 1 100000 = false) :
    Calls Try.prog 37 #[.int .i64 a, .int .i64 l, .int .i64 m] w fun e w' => e = .returned (.tuple #[.int .i64 (0), .int .i64 (2)]) ∧ Below w.heap.size w w' := by
  go_enter Try.func37, Try.ntmps37
  go_wp2_with (first | (go_at_call 64; refine (isAround_any _ _).mono ?_; rw [h]; rintro e w' ⟨rfl, rfl⟩) | (go_at_call 65; refine (isNorthLat_any _ _).mono ?_; rw [g]; rintro e w' ⟨rfl, rfl⟩) | (go_at_call 70; refine (isWidth_any _ _).mono ?_; rw [j]; rintro e w' ⟨rfl, rfl⟩))
  exact bodyPost_ret (v := .tuple #[.int .i64 (0), .int .i64 (2)]) (by simp [results, Try.results37, go_sem] <;> rfl) rfl ⟨rfl, Below.refl _ _⟩
set_option maxRecDepth 100000 in
set_option maxHeartbeats 1000000 in
theorem implSlitsFor_pfull (a l m : Int) (w : World) (h : inB a 1 1000000 = true) (g : inB l 0 324000 = true) (j : inB m 1 100000 = true) (p : 0 < excC a l) (k : 72 < slitC a l m) :
    Calls Try.prog 37 #[.int .i64 a, .int .i64 l, .int .i64 m] w fun e w' => e = .returned (.tuple #[.int .i64 (0), .int .i64 (5)]) ∧ Below w.heap.size w w' := by
  obtain ⟨m1, m2⟩ := inB_of j
  obtain ⟨b1, b2⟩ := excC_bounds (code6_tt h g)
  have RX := Lib.hid (fun w => rimExcess_any a l w (code6_tt h g))
  obtain ⟨x, hx⟩ : ∃ x, Hid (excC a l = x) := ⟨_, Lib.hid rfl⟩
  rw [hx.out] at p b1 b2 RX
  have e0 : slitC a l m = (x + m - 1) / m := by
    show (max 0 (excC a l) + m - 1) / m = _
    rw [hx.out, show max 0 x = x by omega]
  have QQ := Lib.hid (fun w => quo_any x m w (by omega) (by omega) m1 m2)
  rw [← e0] at QQ
  obtain ⟨s, hs⟩ : ∃ s, Hid (slitC a l m = s) := ⟨_, Lib.hid rfl⟩
  rw [hs.out] at k QQ
  clear e0
  go_enter Try.func37, Try.ntmps37
  go_wp2_with (first | (go_at_call 64; refine (isAround_any _ _).mono ?_; rw [h]; rintro e w' ⟨rfl, rfl⟩) | (go_at_call 65; refine (isNorthLat_any _ _).mono ?_; rw [g]; rintro e w' ⟨rfl, rfl⟩) | (go_at_call 70; refine (isWidth_any _ _).mono ?_; rw [j]; rintro e w' ⟨rfl, rfl⟩) | (go_at_call 90; refine (RX.out _).mono ?_; rintro e w1 ⟨rfl, hb1⟩) | (go_at_call 89; refine (QQ.out _).mono ?_; rintro e w' ⟨rfl, rfl⟩))
  exact bodyPost_ret (v := .tuple #[.int .i64 (0), .int .i64 (5)]) (by simp [results, Try.results37, go_sem] <;> rfl) rfl ⟨rfl, hb1⟩
set_option maxRecDepth 100000 in
set_option maxHeartbeats 1000000 in
theorem implSlitsFor_pyes (a l m : Int) (w : World) (h : inB a 1 1000000 = true) (g : inB l 0 324000 = true) (j : inB m 1 100000 = true) (p : 0 < excC a l) (k : ¬ 72 < slitC a l m) :
    Calls Try.prog 37 #[.int .i64 a, .int .i64 l, .int .i64 m] w fun e w' => e = .returned (.tuple #[.int .i64 (slitC a l m), .int .i64 (0)]) ∧ Below w.heap.size w w' := by
  obtain ⟨m1, m2⟩ := inB_of j
  obtain ⟨b1, b2⟩ := excC_bounds (code6_tt h g)
  have RX := Lib.hid (fun w => rimExcess_any a l w (code6_tt h g))
  obtain ⟨x, hx⟩ : ∃ x, Hid (excC a l = x) := ⟨_, Lib.hid rfl⟩
  rw [hx.out] at p b1 b2 RX
  have e0 : slitC a l m = (x + m - 1) / m := by
    show (max 0 (excC a l) + m - 1) / m = _
    rw [hx.out, show max 0 x = x by omega]
  have QQ := Lib.hid (fun w => quo_any x m w (by omega) (by omega) m1 m2)
  rw [← e0] at QQ
  obtain ⟨s, hs⟩ : ∃ s, Hid (slitC a l m = s) := ⟨_, Lib.hid rfl⟩
  rw [hs.out] at k QQ ⊢
  clear e0
  go_enter Try.func37, Try.ntmps37
  go_wp2_with (first | (go_at_call 64; refine (isAround_any _ _).mono ?_; rw [h]; rintro e w' ⟨rfl, rfl⟩) | (go_at_call 65; refine (isNorthLat_any _ _).mono ?_; rw [g]; rintro e w' ⟨rfl, rfl⟩) | (go_at_call 70; refine (isWidth_any _ _).mono ?_; rw [j]; rintro e w' ⟨rfl, rfl⟩) | (go_at_call 90; refine (RX.out _).mono ?_; rintro e w1 ⟨rfl, hb1⟩) | (go_at_call 89; refine (QQ.out _).mono ?_; rintro e w' ⟨rfl, rfl⟩))
  exact bodyPost_ret (v := .tuple #[.int .i64 (s), .int .i64 (0)]) (by simp [results, Try.results37, go_sem] <;> rfl) rfl ⟨rfl, hb1⟩
set_option maxRecDepth 100000 in
set_option maxHeartbeats 1000000 in
theorem implSlitsFor_zfull (a l m : Int) (w : World) (h : inB a 1 1000000 = true) (g : inB l 0 324000 = true) (j : inB m 1 100000 = true) (p : excC a l = 0) (k : 72 < slitC a l m) :
    Calls Try.prog 37 #[.int .i64 a, .int .i64 l, .int .i64 m] w fun e w' => e = .returned (.tuple #[.int .i64 (0), .int .i64 (5)]) ∧ Below w.heap.size w w' := by
  obtain ⟨m1, m2⟩ := inB_of j
  obtain ⟨b1, b2⟩ := excC_bounds (code6_tt h g)
  have RX := Lib.hid (fun w => rimExcess_any a l w (code6_tt h g))
  obtain ⟨x, hx⟩ : ∃ x, Hid (excC a l = x) := ⟨_, Lib.hid rfl⟩
  rw [hx.out] at p b1 b2 RX
  have e0 : slitC a l m = ((0 : Int) + m - 1) / m := by
    show (max 0 (excC a l) + m - 1) / m = _
    rw [hx.out, show max 0 x = (0 : Int) by omega]
  have QQ := Lib.hid (fun w => quo_any (0 : Int) m w (by omega) (by omega) m1 m2)
  rw [← e0] at QQ
  obtain ⟨s, hs⟩ : ∃ s, Hid (slitC a l m = s) := ⟨_, Lib.hid rfl⟩
  rw [hs.out] at k QQ
  clear e0 hx
  subst p
  go_enter Try.func37, Try.ntmps37
  go_wp2_with (first | (go_at_call 64; refine (isAround_any _ _).mono ?_; rw [h]; rintro e w' ⟨rfl, rfl⟩) | (go_at_call 65; refine (isNorthLat_any _ _).mono ?_; rw [g]; rintro e w' ⟨rfl, rfl⟩) | (go_at_call 70; refine (isWidth_any _ _).mono ?_; rw [j]; rintro e w' ⟨rfl, rfl⟩) | (go_at_call 90; refine (RX.out _).mono ?_; rintro e w1 ⟨rfl, hb1⟩) | (go_at_call 89; refine (QQ.out _).mono ?_; rintro e w' ⟨rfl, rfl⟩))
  exact bodyPost_ret (v := .tuple #[.int .i64 (0), .int .i64 (5)]) (by simp [results, Try.results37, go_sem] <;> rfl) rfl ⟨rfl, hb1⟩
set_option maxRecDepth 100000 in
set_option maxHeartbeats 1000000 in
theorem implSlitsFor_zyes (a l m : Int) (w : World) (h : inB a 1 1000000 = true) (g : inB l 0 324000 = true) (j : inB m 1 100000 = true) (p : excC a l = 0) (k : ¬ 72 < slitC a l m) :
    Calls Try.prog 37 #[.int .i64 a, .int .i64 l, .int .i64 m] w fun e w' => e = .returned (.tuple #[.int .i64 (slitC a l m), .int .i64 (0)]) ∧ Below w.heap.size w w' := by
  obtain ⟨m1, m2⟩ := inB_of j
  obtain ⟨b1, b2⟩ := excC_bounds (code6_tt h g)
  have RX := Lib.hid (fun w => rimExcess_any a l w (code6_tt h g))
  obtain ⟨x, hx⟩ : ∃ x, Hid (excC a l = x) := ⟨_, Lib.hid rfl⟩
  rw [hx.out] at p b1 b2 RX
  have e0 : slitC a l m = ((0 : Int) + m - 1) / m := by
    show (max 0 (excC a l) + m - 1) / m = _
    rw [hx.out, show max 0 x = (0 : Int) by omega]
  have QQ := Lib.hid (fun w => quo_any (0 : Int) m w (by omega) (by omega) m1 m2)
  rw [← e0] at QQ
  obtain ⟨s, hs⟩ : ∃ s, Hid (slitC a l m = s) := ⟨_, Lib.hid rfl⟩
  rw [hs.out] at k QQ ⊢
  clear e0 hx
  subst p
  go_enter Try.func37, Try.ntmps37
  go_wp2_with (first | (go_at_call 64; refine (isAround_any _ _).mono ?_; rw [h]; rintro e w' ⟨rfl, rfl⟩) | (go_at_call 65; refine (isNorthLat_any _ _).mono ?_; rw [g]; rintro e w' ⟨rfl, rfl⟩) | (go_at_call 70; refine (isWidth_any _ _).mono ?_; rw [j]; rintro e w' ⟨rfl, rfl⟩) | (go_at_call 90; refine (RX.out _).mono ?_; rintro e w1 ⟨rfl, hb1⟩) | (go_at_call 89; refine (QQ.out _).mono ?_; rintro e w' ⟨rfl, rfl⟩))
  exact bodyPost_ret (v := .tuple #[.int .i64 (s), .int .i64 (0)]) (by simp [results, Try.results37, go_sem] <;> rfl) rfl ⟨rfl, hb1⟩
set_option maxRecDepth 100000 in
set_option maxHeartbeats 1000000 in
theorem implSlitsFor_nfull (a l m : Int) (w : World) (h : inB a 1 1000000 = true) (g : inB l 0 324000 = true) (j : inB m 1 100000 = true) (p : excC a l < 0) (k : 72 < slitC a l m) :
    Calls Try.prog 37 #[.int .i64 a, .int .i64 l, .int .i64 m] w fun e w' => e = .returned (.tuple #[.int .i64 (0), .int .i64 (5)]) ∧ Below w.heap.size w w' := by
  obtain ⟨m1, m2⟩ := inB_of j
  obtain ⟨b1, b2⟩ := excC_bounds (code6_tt h g)
  have RX := Lib.hid (fun w => rimExcess_any a l w (code6_tt h g))
  obtain ⟨x, hx⟩ : ∃ x, Hid (excC a l = x) := ⟨_, Lib.hid rfl⟩
  rw [hx.out] at p b1 b2 RX
  have e0 : slitC a l m = ((0 : Int) + m - 1) / m := by
    show (max 0 (excC a l) + m - 1) / m = _
    rw [hx.out, show max 0 x = (0 : Int) by omega]
  have QQ := Lib.hid (fun w => quo_any (0 : Int) m w (by omega) (by omega) m1 m2)
  rw [← e0] at QQ
  obtain ⟨s, hs⟩ : ∃ s, Hid (slitC a l m = s) := ⟨_, Lib.hid rfl⟩
  rw [hs.out] at k QQ
  clear e0
  go_enter Try.func37, Try.ntmps37
  go_wp2_with (first | (go_at_call 64; refine (isAround_any _ _).mono ?_; rw [h]; rintro e w' ⟨rfl, rfl⟩) | (go_at_call 65; refine (isNorthLat_any _ _).mono ?_; rw [g]; rintro e w' ⟨rfl, rfl⟩) | (go_at_call 70; refine (isWidth_any _ _).mono ?_; rw [j]; rintro e w' ⟨rfl, rfl⟩) | (go_at_call 90; refine (RX.out _).mono ?_; rintro e w1 ⟨rfl, hb1⟩) | (go_at_call 89; refine (QQ.out _).mono ?_; rintro e w' ⟨rfl, rfl⟩))
  exact bodyPost_ret (v := .tuple #[.int .i64 (0), .int .i64 (5)]) (by simp [results, Try.results37, go_sem] <;> rfl) rfl ⟨rfl, hb1⟩
set_option maxRecDepth 100000 in
set_option maxHeartbeats 1000000 in
theorem implSlitsFor_nyes (a l m : Int) (w : World) (h : inB a 1 1000000 = true) (g : inB l 0 324000 = true) (j : inB m 1 100000 = true) (p : excC a l < 0) (k : ¬ 72 < slitC a l m) :
    Calls Try.prog 37 #[.int .i64 a, .int .i64 l, .int .i64 m] w fun e w' => e = .returned (.tuple #[.int .i64 (slitC a l m), .int .i64 (0)]) ∧ Below w.heap.size w w' := by
  obtain ⟨m1, m2⟩ := inB_of j
  obtain ⟨b1, b2⟩ := excC_bounds (code6_tt h g)
  have RX := Lib.hid (fun w => rimExcess_any a l w (code6_tt h g))
  obtain ⟨x, hx⟩ : ∃ x, Hid (excC a l = x) := ⟨_, Lib.hid rfl⟩
  rw [hx.out] at p b1 b2 RX
  have e0 : slitC a l m = ((0 : Int) + m - 1) / m := by
    show (max 0 (excC a l) + m - 1) / m = _
    rw [hx.out, show max 0 x = (0 : Int) by omega]
  have QQ := Lib.hid (fun w => quo_any (0 : Int) m w (by omega) (by omega) m1 m2)
  rw [← e0] at QQ
  obtain ⟨s, hs⟩ : ∃ s, Hid (slitC a l m = s) := ⟨_, Lib.hid rfl⟩
  rw [hs.out] at k QQ ⊢
  clear e0
  go_enter Try.func37, Try.ntmps37
  go_wp2_with (first | (go_at_call 64; refine (isAround_any _ _).mono ?_; rw [h]; rintro e w' ⟨rfl, rfl⟩) | (go_at_call 65; refine (isNorthLat_any _ _).mono ?_; rw [g]; rintro e w' ⟨rfl, rfl⟩) | (go_at_call 70; refine (isWidth_any _ _).mono ?_; rw [j]; rintro e w' ⟨rfl, rfl⟩) | (go_at_call 90; refine (RX.out _).mono ?_; rintro e w1 ⟨rfl, hb1⟩) | (go_at_call 89; refine (QQ.out _).mono ?_; rintro e w' ⟨rfl, rfl⟩))
  exact bodyPost_ret (v := .tuple #[.int .i64 (s), .int .i64 (0)]) (by simp [results, Try.results37, go_sem] <;> rfl) rfl ⟨rfl, hb1⟩
theorem implSlitsFor_any (a l m : Int) (w : World) :
    Calls Try.prog 37 #[.int .i64 a, .int .i64 l, .int .i64 m] w fun e w' => e = .returned (.tuple #[.int .i64 (ansK (codeS6 a l m) (slitC a l m)), .int .i64 (codeS6 a l m)]) ∧ Below w.heap.size w w' := by
  cases h : inB a 1 1000000 with
  | false => refine (implSlitsFor_f _ _ _ _ h).mono ?_; rintro e w' ⟨rfl, hw⟩; exact ⟨ret_k2 (by simp [codeS6, ansK, h]) (by simp [codeS6, ansK, h]), hw⟩
  | true =>
    cases g : inB l 0 324000 with
    | false => refine (implSlitsFor_tf _ _ _ _ h g).mono ?_; rintro e w' ⟨rfl, hw⟩; exact ⟨ret_k2 (by simp [codeS6, ansK, h, g]) (by simp [codeS6, ansK, h, g]), hw⟩
    | true =>
      cases j : inB m 1 100000 with
      | false => refine (implSlitsFor_ttf _ _ _ _ h g j).mono ?_; rintro e w' ⟨rfl, hw⟩; exact ⟨ret_k2 (by simp [codeS6, ansK, h, g, j]) (by simp [codeS6, ansK, h, g, j]), hw⟩
      | true =>
        rcases Int.lt_trichotomy (excC a l) 0 with p | p | p
        · by_cases k : 72 < slitC a l m
          · refine (implSlitsFor_nfull _ _ _ _ h g j p k).mono ?_; rintro e w' ⟨rfl, hw⟩; exact ⟨ret_k2 (by simp [codeS6, ansK, h, g, j, k]) (by simp [codeS6, ansK, h, g, j, k]), hw⟩
          · refine (implSlitsFor_nyes _ _ _ _ h g j p k).mono ?_; rintro e w' ⟨rfl, hw⟩; exact ⟨ret_k2 (by simp [codeS6, ansK, h, g, j, k]) (by simp [codeS6, ansK, h, g, j, k]), hw⟩
        · by_cases k : 72 < slitC a l m
          · refine (implSlitsFor_zfull _ _ _ _ h g j p k).mono ?_; rintro e w' ⟨rfl, hw⟩; exact ⟨ret_k2 (by simp [codeS6, ansK, h, g, j, k]) (by simp [codeS6, ansK, h, g, j, k]), hw⟩
          · refine (implSlitsFor_zyes _ _ _ _ h g j p k).mono ?_; rintro e w' ⟨rfl, hw⟩; exact ⟨ret_k2 (by simp [codeS6, ansK, h, g, j, k]) (by simp [codeS6, ansK, h, g, j, k]), hw⟩
        · by_cases k : 72 < slitC a l m
          · refine (implSlitsFor_pfull _ _ _ _ h g j p k).mono ?_; rintro e w' ⟨rfl, hw⟩; exact ⟨ret_k2 (by simp [codeS6, ansK, h, g, j, k]) (by simp [codeS6, ansK, h, g, j, k]), hw⟩
          · refine (implSlitsFor_pyes _ _ _ _ h g j p k).mono ?_; rintro e w' ⟨rfl, hw⟩; exact ⟨ret_k2 (by simp [codeS6, ansK, h, g, j, k]) (by simp [codeS6, ansK, h, g, j, k]), hw⟩

set_option maxRecDepth 100000 in
set_option maxHeartbeats 1000000 in
theorem implCapEdge_2 (a r : Int) (w : World) (h : codeR a r = 2) :
    Calls Try.prog 17 #[.int .i64 a, .int .i64 r] w fun e w' => e = .returned (.tuple #[.int .i64 (0), .int .i64 (2)]) ∧ Below w.heap.size w w' := by
  go_enter Try.func17, Try.ntmps17
  go_wp2_with (first | (go_at_call 59; refine (discCode_any _ _ _ _).mono ?_; rw [codeD_true, h]; rintro e w1 ⟨rfl, hb1⟩))
  exact bodyPost_ret (v := .tuple #[.int .i64 (0), .int .i64 (2)]) (by simp [results, Try.results17, go_sem] <;> rfl) rfl ⟨rfl, ((Below.refl w.heap.size w).alloc (Nat.le_refl _) _).trans (hb1.mono (by simp))⟩
set_option maxRecDepth 100000 in
set_option maxHeartbeats 1000000 in
theorem implCapEdge_5 (a r : Int) (w : World) (h : codeR a r = 5) :
    Calls Try.prog 17 #[.int .i64 a, .int .i64 r] w fun e w' => e = .returned (.tuple #[.int .i64 (0), .int .i64 (5)]) ∧ Below w.heap.size w w' := by
  go_enter Try.func17, Try.ntmps17
  go_wp2_with (first | (go_at_call 59; refine (discCode_any _ _ _ _).mono ?_; rw [codeD_true, h]; rintro e w1 ⟨rfl, hb1⟩))
  exact bodyPost_ret (v := .tuple #[.int .i64 (0), .int .i64 (5)]) (by simp [results, Try.results17, go_sem] <;> rfl) rfl ⟨rfl, ((Below.refl w.heap.size w).alloc (Nat.le_refl _) _).trans (hb1.mono (by simp))⟩
set_option maxRecDepth 100000 in
set_option maxHeartbeats 1000000 in
theorem implCapEdge_yes (a r : Int) (w : World) (h : codeR a r = 0) :
    Calls Try.prog 17 #[.int .i64 a, .int .i64 r] w fun e w' => e = .returned (.tuple #[.int .i64 (edgeC a r), .int .i64 0]) ∧ Below w.heap.size w w' := by
  obtain ⟨a1, a2, r1, r2, r3⟩ := codeR_of h
  have ED := Lib.hid (fun w => edge_any a r w a1 a2 r1 r2 r3)
  generalize edgeC a r = E at ED ⊢
  go_enter Try.func17, Try.ntmps17
  go_wp2_with fail
  refine (discCode_any _ _ _ _).mono ?_
  rw [codeD_true, h]
  rintro e w1 ⟨rfl, hb1⟩
  have c0 : w1.cell? ⟨w.heap.size, 0, none⟩ = some (.int .i64 a) := (hb1.cell (p := ⟨w.heap.size, 0, none⟩) (by simp)).trans (by simp)
  have c1 : w1.cell? ⟨w.heap.size, 1, none⟩ = some (.int .i64 r) := (hb1.cell (p := ⟨w.heap.size, 1, none⟩) (by simp)).trans (by simp)
  have HB := Lib.hid (((Below.refl w.heap.size w).alloc (Nat.le_refl _) _).trans (hb1.mono (by simp)))
  clear hb1
  go_wp2_with fail
  refine (ED.out _).mono ?_
  rintro e w2 ⟨rfl, hb2⟩
  have HB2 := Lib.hid (HB.out.trans (hb2.mono HB.out.size))
  clear hb2 c0 c1
  go_wp2
  exact bodyPost_ret (v := .tuple #[.int .i64 E, .int .i64 0]) (by simp [results, Try.results17, go_sem]) rfl ⟨rfl, HB2.out⟩
theorem implCapEdge_any (a r : Int) (w : World) :
    Calls Try.prog 17 #[.int .i64 a, .int .i64 r] w fun e w' => e = .returned (.tuple #[.int .i64 (ansK (codeR a r) (edgeC a r)), .int .i64 (codeR a r)]) ∧ Below w.heap.size w w' := by
  rcases codeR_cases a r with h | h | h
  · rw [h]; exact implCapEdge_yes _ _ _ h
  · rw [h]; exact implCapEdge_2 _ _ _ h
  · rw [h]; exact implCapEdge_5 _ _ _ h

set_option maxRecDepth 100000 in
set_option maxHeartbeats 1000000 in
theorem implSmallestCap_f (a l o : Int) (w : World) (h : inB a 1 1000000 = false) :
    Calls Try.prog 40 #[.int .i64 a, .int .i64 l, .int .i64 o] w fun e w' => e = .returned (.tuple #[.int .i64 (0), .int .i64 (2)]) ∧ Below w.heap.size w w' := by
  go_enter Try.func40, Try.ntmps40
  go_wp2_with (first | (go_at_call 64; refine (isAround_any _ _).mono ?_; rw [h]; rintro e w' ⟨rfl, rfl⟩))
  exact bodyPost_ret (v := .tuple #[.int .i64 (0), .int .i64 (2)]) (by simp [results, Try.results40, go_sem] <;> rfl) rfl ⟨rfl, Below.refl _ _⟩
set_option maxRecDepth 100000 in
set_option maxHeartbeats 1000000 in
theorem implSmallestCap_tf (a l o : Int) (w : World) (h : inB a 1 1000000 = true) (g : inB l 0 324000 = false) :
    Calls Try.prog 40 #[.int .i64 a, .int .i64 l, .int .i64 o] w fun e w' => e = .returned (.tuple #[.int .i64 (0), .int .i64 (2)]) ∧ Below w.heap.size w w' := by
  go_enter Try.func40, Try.ntmps40
  go_wp2_with (first | (go_at_call 64; refine (isAround_any _ _).mono ?_; rw [h]; rintro e w' ⟨rfl, rfl⟩) | (go_at_call 65; refine (isNorthLat_any _ _).mono ?_; rw [g]; rintro e w' ⟨rfl, rfl⟩))
  exact bodyPost_ret (v := .tuple #[.int .i64 (0), .int .i64 (2)]) (by simp [results, Try.results40, go_sem] <;> rfl) rfl ⟨rfl, Below.refl _ _⟩
set_option maxRecDepth 100000 in
set_option maxHeartbeats 1000000 in
theorem implSmallestCap_ttf (a l o : Int) (w : World) (h : inB a 1 1000000 = true) (g : inB l 0 324000 = true) (j : inB o 0 100000 = false) :
    Calls Try.prog 40 #[.int .i64 a, .int .i64 l, .int .i64 o] w fun e w' => e = .returned (.tuple #[.int .i64 (0), .int .i64 (2)]) ∧ Below w.heap.size w w' := by
  go_enter Try.func40, Try.ntmps40
  go_wp2_with (first | (go_at_call 64; refine (isAround_any _ _).mono ?_; rw [h]; rintro e w' ⟨rfl, rfl⟩) | (go_at_call 65; refine (isNorthLat_any _ _).mono ?_; rw [g]; rintro e w' ⟨rfl, rfl⟩) | (go_at_call 69; refine (isRadius_any _ _).mono ?_; rw [j]; rintro e w' ⟨rfl, rfl⟩))
  exact bodyPost_ret (v := .tuple #[.int .i64 (0), .int .i64 (2)]) (by simp [results, Try.results40, go_sem] <;> rfl) rfl ⟨rfl, Below.refl _ _⟩
set_option maxRecDepth 100000 in
set_option maxHeartbeats 1000000 in
theorem implSmallestCap_full (a l o : Int) (w : World) (h : inB a 1 1000000 = true) (g : inB l 0 324000 = true) (j : inB o 0 100000 = true) (k : 100000 < leastC a l o) :
    Calls Try.prog 40 #[.int .i64 a, .int .i64 l, .int .i64 o] w fun e w' => e = .returned (.tuple #[.int .i64 (0), .int .i64 (5)]) ∧ Below w.heap.size w w' := by
  obtain ⟨a1, a2⟩ := inB_of h
  obtain ⟨l1, l2⟩ := inB_of g
  obtain ⟨o1, o2⟩ := inB_of j
  obtain ⟨p1, p2, _⟩ := excC_parts (code6_tt h g)
  have DD := Lib.hid (fun w => discDownTo_any a l w a1 a2 l1 l2)
  have e0 : leastC a l o = arcC a (324000 - l) + o := rfl
  obtain ⟨s, hs⟩ : ∃ s, Hid (leastC a l o = s) := ⟨_, Lib.hid rfl⟩
  rw [hs.out] at e0 k
  generalize arcC a (324000 - l) = x at DD p1 p2 e0
  have kw : IntKind.i64.wrap (x + o) = s := by rw [← e0]; exact IntWalk.i64_in _ (by omega)
  have s1 : 0 ≤ s := by omega
  have s2 : s ≤ 1100000 := by omega
  have ES := Lib.hid e0
  clear e0
  have ks : inB s 0 100000 = false := by simp [inB]; omega
  have j' : inB o 0 100000 = true := j
  go_enter Try.func40, Try.ntmps40
  go_wp2_with (first | (go_at_call 64; refine (isAround_any _ _).mono ?_; rw [h]; rintro e w' ⟨rfl, rfl⟩) | (go_at_call 65; refine (isNorthLat_any _ _).mono ?_; rw [g]; rintro e w' ⟨rfl, rfl⟩) | (go_at_call 69; refine (isRadius_any o _).mono ?_; rw [j]; rintro e w' ⟨rfl, rfl⟩) | (go_at_call 69; refine (isRadius_any s _).mono ?_; rw [ks]; rintro e w' ⟨rfl, rfl⟩) | (go_at_call 66; refine (DD.out _).mono ?_; rintro e w1 ⟨rfl, hb1⟩; have hz1 := hb1.size))
  exact bodyPost_ret (v := .tuple #[.int .i64 0, .int .i64 5]) (by simp [results, Try.results40, go_sem]) rfl ⟨rfl, by repeat (first | exact hb1 | refine Below.setCell ?_ (by simp; omega) _ | refine Below.alloc ?_ hz1 _)⟩
set_option maxRecDepth 100000 in
set_option maxHeartbeats 1000000 in
theorem implSmallestCap_full2 (a l o : Int) (w : World) (h : inB a 1 1000000 = true) (g : inB l 0 324000 = true) (j : inB o 0 100000 = true) (k : ¬ 100000 < leastC a l o) (k2 : a < 4 * leastC a l o) :
    Calls Try.prog 40 #[.int .i64 a, .int .i64 l, .int .i64 o] w fun e w' => e = .returned (.tuple #[.int .i64 (0), .int .i64 (5)]) ∧ Below w.heap.size w w' := by
  obtain ⟨a1, a2⟩ := inB_of h
  obtain ⟨l1, l2⟩ := inB_of g
  obtain ⟨o1, o2⟩ := inB_of j
  obtain ⟨p1, p2, _⟩ := excC_parts (code6_tt h g)
  have DD := Lib.hid (fun w => discDownTo_any a l w a1 a2 l1 l2)
  have e0 : leastC a l o = arcC a (324000 - l) + o := rfl
  obtain ⟨s, hs⟩ : ∃ s, Hid (leastC a l o = s) := ⟨_, Lib.hid rfl⟩
  rw [hs.out] at e0 k k2
  generalize arcC a (324000 - l) = x at DD p1 p2 e0
  have kw : IntKind.i64.wrap (x + o) = s := by rw [← e0]; exact IntWalk.i64_in _ (by omega)
  have s1 : 0 ≤ s := by omega
  have s2 : s ≤ 1100000 := by omega
  have ES := Lib.hid e0
  clear e0
  have ks : inB s 0 100000 = true := by simp [inB]; omega
  have kd : decide (a < 4 * s) = true := by simpa using k2
  have j' : inB o 0 100000 = true := j
  go_enter Try.func40, Try.ntmps40
  go_wp2_with (first | (go_at_call 64; refine (isAround_any _ _).mono ?_; rw [h]; rintro e w' ⟨rfl, rfl⟩) | (go_at_call 65; refine (isNorthLat_any _ _).mono ?_; rw [g]; rintro e w' ⟨rfl, rfl⟩) | (go_at_call 69; refine (isRadius_any o _).mono ?_; rw [j]; rintro e w' ⟨rfl, rfl⟩) | (go_at_call 69; refine (isRadius_any s _).mono ?_; rw [ks]; rintro e w' ⟨rfl, rfl⟩) | (go_at_call 66; refine (DD.out _).mono ?_; rintro e w1 ⟨rfl, hb1⟩; have hz1 := hb1.size) | (go_at_call 93; refine (beyond_any a s _ s1 s2).mono ?_; rw [kd]; rintro e w2 ⟨rfl, hb2⟩))
  exact bodyPost_ret (v := .tuple #[.int .i64 0, .int .i64 5]) (by simp [results, Try.results40, go_sem]) rfl ⟨rfl, Below.trans (by repeat (first | exact hb1 | refine Below.setCell ?_ (by simp; omega) _ | refine Below.alloc ?_ hz1 _)) (hb2.mono (by simp; omega))⟩
set_option maxRecDepth 100000 in
set_option maxHeartbeats 1000000 in
theorem implSmallestCap_yes (a l o : Int) (w : World) (h : inB a 1 1000000 = true) (g : inB l 0 324000 = true) (j : inB o 0 100000 = true) (k : ¬ 100000 < leastC a l o) (k2 : ¬ a < 4 * leastC a l o) :
    Calls Try.prog 40 #[.int .i64 a, .int .i64 l, .int .i64 o] w fun e w' => e = .returned (.tuple #[.int .i64 (leastC a l o), .int .i64 (0)]) ∧ Below w.heap.size w w' := by
  obtain ⟨a1, a2⟩ := inB_of h
  obtain ⟨l1, l2⟩ := inB_of g
  obtain ⟨o1, o2⟩ := inB_of j
  obtain ⟨p1, p2, _⟩ := excC_parts (code6_tt h g)
  have DD := Lib.hid (fun w => discDownTo_any a l w a1 a2 l1 l2)
  have e0 : leastC a l o = arcC a (324000 - l) + o := rfl
  obtain ⟨s, hs⟩ : ∃ s, Hid (leastC a l o = s) := ⟨_, Lib.hid rfl⟩
  rw [hs.out] at e0 k k2
  generalize arcC a (324000 - l) = x at DD p1 p2 e0
  have kw : IntKind.i64.wrap (x + o) = s := by rw [← e0]; exact IntWalk.i64_in _ (by omega)
  have s1 : 0 ≤ s := by omega
  have s2 : s ≤ 1100000 := by omega
  have ES := Lib.hid e0
  clear e0
  have ks : inB s 0 100000 = true := by simp [inB]; omega
  have kd : decide (a < 4 * s) = false := by simpa using k2
  have j' : inB o 0 100000 = true := j
  rw [hs.out]
  go_enter Try.func40, Try.ntmps40
  go_wp2_with (first | (go_at_call 64; refine (isAround_any _ _).mono ?_; rw [h]; rintro e w' ⟨rfl, rfl⟩) | (go_at_call 65; refine (isNorthLat_any _ _).mono ?_; rw [g]; rintro e w' ⟨rfl, rfl⟩) | (go_at_call 69; refine (isRadius_any o _).mono ?_; rw [j]; rintro e w' ⟨rfl, rfl⟩) | (go_at_call 69; refine (isRadius_any s _).mono ?_; rw [ks]; rintro e w' ⟨rfl, rfl⟩) | (go_at_call 66; refine (DD.out _).mono ?_; rintro e w1 ⟨rfl, hb1⟩; have hz1 := hb1.size) | (go_at_call 93; refine (beyond_any a s _ s1 s2).mono ?_; rw [kd]; rintro e w2 ⟨rfl, hb2⟩; have c1 := hb2.cell (p := ⟨w1.heap.size, 1, none⟩) (by simp); simp [go_sem] at c1))
  exact bodyPost_ret (v := .tuple #[.int .i64 s, .int .i64 0]) (by simp [results, Try.results40, go_sem]) rfl ⟨rfl, Below.trans (by repeat (first | exact hb1 | refine Below.setCell ?_ (by simp; omega) _ | refine Below.alloc ?_ hz1 _)) (hb2.mono (by simp; omega))⟩
theorem implSmallestCap_any (a l o : Int) (w : World) :
    Calls Try.prog 40 #[.int .i64 a, .int .i64 l, .int .i64 o] w fun e w' => e = .returned (.tuple #[.int .i64 (ansK (codeM a l o) (leastC a l o)), .int .i64 (codeM a l o)]) ∧ Below w.heap.size w w' := by
  cases h : inB a 1 1000000 with
  | false => refine (implSmallestCap_f _ _ _ _ h).mono ?_; rintro e w' ⟨rfl, hw⟩; exact ⟨ret_k2 (by simp [codeM, ansK, h]) (by simp [codeM, ansK, h]), hw⟩
  | true =>
    cases g : inB l 0 324000 with
    | false => refine (implSmallestCap_tf _ _ _ _ h g).mono ?_; rintro e w' ⟨rfl, hw⟩; exact ⟨ret_k2 (by simp [codeM, ansK, h, g]) (by simp [codeM, ansK, h, g]), hw⟩
    | true =>
      cases j : inB o 0 100000 with
      | false => refine (implSmallestCap_ttf _ _ _ _ h g j).mono ?_; rintro e w' ⟨rfl, hw⟩; exact ⟨ret_k2 (by simp [codeM, ansK, h, g, j]) (by simp [codeM, ansK, h, g, j]), hw⟩
      | true =>
        by_cases k : 100000 < leastC a l o
        · refine (implSmallestCap_full _ _ _ _ h g j k).mono ?_; rintro e w' ⟨rfl, hw⟩; exact ⟨ret_k2 (by simp [codeM, ansK, h, g, j, k]) (by simp [codeM, ansK, h, g, j, k]), hw⟩
        · by_cases k2 : a < 4 * leastC a l o
          · refine (implSmallestCap_full2 _ _ _ _ h g j k k2).mono ?_; rintro e w' ⟨rfl, hw⟩; exact ⟨ret_k2 (by simp [codeM, ansK, h, g, j, k, k2]) (by simp [codeM, ansK, h, g, j, k, k2]), hw⟩
          · refine (implSmallestCap_yes _ _ _ _ h g j k k2).mono ?_; rintro e w' ⟨rfl, hw⟩; exact ⟨ret_k2 (by simp [codeM, ansK, h, g, j, k, k2]) (by simp [codeM, ansK, h, g, j, k, k2]), hw⟩

/-- The code of an overlap is that of its disc. -/
theorem codeD_V (a r l : Int) : codeD a r (inB l 0 324000) = codeV a r l := by
  unfold codeD codeV code6 codeR
  cases inB a 1 1000000 <;> cases inB r 0 100000 <;> cases inB l 0 324000 <;> simp
set_option maxRecDepth 100000 in
set_option maxHeartbeats 1000000 in
theorem implCapOverlap_any (a r l : Int) (w : World) :
    Calls Try.prog 43 #[.int .i64 a, .int .i64 r, .int .i64 l] w fun e w' => e = .returned (.tuple #[.int .i64 (ansK (codeV a r l) (r - arcC a (324000 - l))), .int .i64 (codeV a r l)]) ∧ Below w.heap.size w w' := by
  obtain ⟨b, hb⟩ : ∃ b, Hid (inB l 0 324000 = b) := ⟨_, Lib.hid rfl⟩
  have NL := Lib.hid (fun w => isNorthLat_any l w)
  rw [hb.out] at NL
  have CV := Lib.hid (codeD_V a r l)
  rw [hb.out] at CV
  obtain ⟨C, hC⟩ : ∃ C, Hid (codeV a r l = C) := ⟨_, Lib.hid rfl⟩
  have DC := Lib.hid (fun W w hb => discCode_rel a r b W w hb)
  rw [CV.out, hC.out] at DC
  rw [hC.out]
  obtain ⟨w0, hw0⟩ : ∃ w0, Hid (w.alloc (.cells #[.int .i64 a, .int .i64 r] 61) = w0) := ⟨_, Lib.hid rfl⟩
  have B0 := Lib.hid (show Below w.heap.size w w0 by rw [← hw0.out]; exact (Below.refl _ _).alloc (Nat.le_refl _) _)
  have z0 : w.heap.size < w0.heap.size := by rw [← hw0.out]; simp
  have c0 : w0.cell? ⟨w.heap.size, 0, none⟩ = some (.int .i64 a) := by rw [← hw0.out]; simp
  have c1 : w0.cell? ⟨w.heap.size, 1, none⟩ = some (.int .i64 r) := by rw [← hw0.out]; simp
  by_cases hc : C = 0
  · subst hc
    have hv := hC.out
    unfold codeV at hv
    split at hv
    · rename_i h6
      obtain ⟨a1, a2, l1, l2⟩ := code6_of h6
      obtain ⟨_, _, r1, r2, r3⟩ := codeR_of hv
      obtain ⟨p1, p2, _⟩ := excC_parts h6
      have DD := Lib.hid (fun w => discDownTo_any a l w a1 a2 l1 l2)
      generalize arcC a (324000 - l) = x at DD p1 p2 ⊢
      have kw : IntKind.i64.wrap (r - x) = r - x := IntWalk.i64_in _ (by omega)
      have hfd := field_disc a x
      clear hv h6
      go_enter Try.func43, Try.ntmps43
      go_wp2_with fail
      rw [hw0.out]
      go_region_held3 (fun U => U.cell? ⟨w.heap.size, 0, none⟩ = some (.int .i64 a) ∧ U.cell? ⟨w.heap.size, 1, none⟩ = some (.int .i64 r)) (first | exact ⟨c0, c1⟩ | exact ⟨n0, n1⟩ | (simp [go_sem]; first | exact ⟨c0, c1⟩ | exact ⟨n0, n1⟩))
        (first | (go_at_call 65; refine (NL.out _).mono ?_; rintro e w' ⟨rfl, rfl⟩) | (go_at_call 59; refine (DC.out w0 _ (by repeat (first | assumption | exact Below.refl _ _ | refine Below.drew ?_ | refine bdq ?_ _))).mono ?_; rintro e w1 ⟨rfl, hb1⟩; have n0 := (hb1.cell (p := ⟨w.heap.size, 0, none⟩) z0).trans c0; have n1 := (hb1.cell (p := ⟨w.heap.size, 1, none⟩) z0).trans c1))
      all_goals
        have HB1 := Lib.hid (B0.out.trans (hb1.mono B0.out.size))
        have HB1 : Hid (Below w.heap.size w _) := (by first | exact HB1 | exact Lib.hid (bdq HB1.out _) | exact Lib.hid (bdrew HB1.out))
        clear hb1
        go_wp2_with fail
        refine (DD.out _).mono ?_
        rintro e w2 ⟨rfl, hb2⟩
        have HB2 := Lib.hid (HB1.out.trans (hb2.mono HB1.out.size))
        clear hb2
        go_wp2
        exact bodyPost_ret (v := .tuple #[.int .i64 (r - x), .int .i64 0]) (by simp [results, Try.results43, go_sem]) rfl ⟨rfl, HB2.out⟩
    · omega
  · have hc1 : (C != 0) = true := by simpa using hc
    rw [show ansK C (r - arcC a (324000 - l)) = 0 by simp [ansK, hc]]
    clear hc
    go_enter Try.func43, Try.ntmps43
    go_wp2_with fail
    rw [hw0.out]
    go_region_held3 (fun U => U.cell? ⟨w.heap.size, 0, none⟩ = some (.int .i64 a) ∧ U.cell? ⟨w.heap.size, 1, none⟩ = some (.int .i64 r)) (first | exact ⟨c0, c1⟩ | exact ⟨n0, n1⟩ | (simp [go_sem]; first | exact ⟨c0, c1⟩ | exact ⟨n0, n1⟩))
      (first | (go_at_call 65; refine (NL.out _).mono ?_; rintro e w' ⟨rfl, rfl⟩) | (go_at_call 59; refine (DC.out w0 _ (by repeat (first | assumption | exact Below.refl _ _ | refine Below.drew ?_ | refine bdq ?_ _))).mono ?_; rintro e w1 ⟨rfl, hb1⟩; have n0 := (hb1.cell (p := ⟨w.heap.size, 0, none⟩) z0).trans c0; have n1 := (hb1.cell (p := ⟨w.heap.size, 1, none⟩) z0).trans c1))
    all_goals
      have HB1 := Lib.hid (B0.out.trans (hb1.mono B0.out.size))
      clear hb1
      go_wp2
      exact bodyPost_ret (v := .tuple #[.int .i64 0, .int .i64 C]) (by simp [results, Try.results43, go_sem]) rfl ⟨rfl, (by first | exact HB1.out | exact bdq HB1.out _ | exact bdrew HB1.out)⟩

end Go.Proofs.Ytiemealkdgnhcaa.sines
