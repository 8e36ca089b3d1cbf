/- The program's caps: discs and numbers: contracts. -/
import Derived.Test.YtiemealkdgnhcaaCapsU
import Derived.Deep.RegionHeld3
namespace Go.Proofs.Ytiemealkdgnhcaa.sines
open Go.ChangeShapes Go.WideShapes Go.ChangeAt Go.RowKit Go.Proofs.Ytiemealkdgnhcaa.spots Go.Proofs.Ytiemealkdgnhcaa.irows Go.Proofs.Ytiemealkdgnhcaa.pairs
set_option linter.unusedSimpArgs false
set_option linter.unusedVariables false

theorem isNorthLat_any (n : Int) (w : World) :
    Calls Try.prog 65 #[.int .i64 n] w fun e w' => e = .returned (.bool (inB n 0 324000)) ∧ w = w' := by
  go_enter Try.func65, Try.ntmps65
  go_wp2_with (go_at_call 83; refine (within_any _ _ _ _).mono ?_; rintro e w' ⟨rfl, rfl⟩)
  go_ret
  exact ⟨rfl, rfl⟩

theorem isRadius_any (n : Int) (w : World) :
    Calls Try.prog 69 #[.int .i64 n] w fun e w' => e = .returned (.bool (inB n 0 100000)) ∧ w = w' := by
  go_enter Try.func69, Try.ntmps69
  go_wp2_with (go_at_call 83; refine (within_any _ _ _ _).mono ?_; rintro e w' ⟨rfl, rfl⟩)
  go_ret
  exact ⟨rfl, rfl⟩

theorem isWidth_any (n : Int) (w : World) :
    Calls Try.prog 70 #[.int .i64 n] w fun e w' => e = .returned (.bool (inB n 1 100000)) ∧ w = w' := by
  go_enter Try.func70, Try.ntmps70
  go_wp2_with (go_at_call 83; refine (within_any _ _ _ _).mono ?_; rintro e w' ⟨rfl, rfl⟩)
  go_ret
  exact ⟨rfl, rfl⟩

set_option maxHeartbeats 400000 in
theorem lengthOfArc_any (a n : Int) (w : World) (a1 : 1 ≤ a) (a2 : a ≤ 1000000) (n1 : 0 ≤ n) (n2 : n ≤ 1296000) :
    Calls Try.prog 84 #[.int .i64 a, .int .i64 n] w fun e w' => e = .returned (.int .i64 (arcC a n)) ∧ w = w' := by
  obtain ⟨m1, m2⟩ := mul_small a1 a2 n1 n2
  have k1 : IntKind.i64.wrap (a * n) = a * n := IntWalk.i64_in _ (by omega)
  go_enter Try.func84, Try.ntmps84
  go_wp2_with (first | (go_at_call 101; refine (nearest_any _ _ _ (by omega) (by omega) (by omega) (by omega)).mono ?_; rintro e w' ⟨rfl, rfl⟩))
  go_ret
  exact ⟨rfl, rfl⟩

set_option maxHeartbeats 400000 in
theorem discDownTo_any (a l : Int) (w : World) (a1 : 1 ≤ a) (a2 : a ≤ 1000000) (l1 : 0 ≤ l) (l2 : l ≤ 324000) :
    Calls Try.prog 66 #[.int .i64 a, .int .i64 l] w fun e w' => e = .returned (.agg #[.int .i64 a, .int .i64 (arcC a (324000 - l))]) ∧ Below w.heap.size w w' := by
  have k1 : IntKind.i64.wrap (324000 - l) = 324000 - l := IntWalk.i64_in _ (by omega)
  go_enter Try.func66, Try.ntmps66
  go_wp2_with (first | (go_at_call 84; refine (lengthOfArc_any _ _ _ a1 a2 (by omega) (by omega)).mono ?_; rintro e w' ⟨rfl, rfl⟩))
  exact bodyPost_ret (v := .agg #[.int .i64 a, .int .i64 (arcC a (324000 - l))]) (by simp [results, Try.results66, go_sem]) rfl ⟨rfl, by repeat (first | exact Below.refl _ _ | refine Below.setCell ?_ (by simp) _ | refine Below.alloc ?_ (by simp <;> omega) _)⟩

set_option maxHeartbeats 400000 in
theorem beyond_any (a r : Int) (w : World) (r1 : 0 ≤ r) (r2 : r ≤ 1100000) :
    Calls Try.prog 93 #[.agg #[.int .i64 a, .int .i64 r]] w fun e w' => e = .returned (.bool (decide (a < 4 * r))) ∧ Below w.heap.size w w' := by
  have k1 : IntKind.i64.wrap (4 * r) = 4 * r := IntWalk.i64_in _ (by omega)
  go_enter Try.func93, Try.ntmps93
  go_wp2
  go_ret
  exact ⟨ret_bool (by first | rfl | simp), (Below.refl _ _).alloc (Nat.le_refl _) _⟩

set_option maxHeartbeats 400000 in
theorem edge_any (a r : Int) (w : World) (a1 : 1 ≤ a) (a2 : a ≤ 1000000) (r1 : 0 ≤ r) (r2 : r ≤ 100000) (h : 4 * r ≤ a) :
    Calls Try.prog 60 #[.agg #[.int .i64 a, .int .i64 r]] w fun e w' => e = .returned (.int .i64 (edgeC a r)) ∧ Below w.heap.size w w' := by
  obtain ⟨d1, d2⟩ := edgeC_bounds a1 r1 h
  have k1 : IntKind.i64.wrap (r * 1296000) = r * 1296000 := IntWalk.i64_in _ (by omega)
  have k2 : (r * 1296000).tdiv a = r * 1296000 / a := Int.tdiv_eq_ediv_of_nonneg (by omega)
  have k3 : IntKind.i64.wrap (r * 1296000 / a) = r * 1296000 / a := IntWalk.i64_in _ (by omega)
  have k4 : IntKind.i64.wrap (324000 - r * 1296000 / a) = 324000 - r * 1296000 / a := IntWalk.i64_in _ (by omega)
  have hz : a ≠ 0 := by omega
  have hm : a ≠ -1 := by omega
  go_enter Try.func60, Try.ntmps60
  go_wp2
  go_ret
  exact ⟨ret_k1 (by simp only [edgeC, k2, k3, k4] <;> rfl), (Below.refl _ _).alloc (Nat.le_refl _) _⟩
theorem edge_rel (a r : Int) (W0 w : World) (hb : Below W0.heap.size W0 w) (a1 : 1 ≤ a) (a2 : a ≤ 1000000) (r1 : 0 ≤ r) (r2 : r ≤ 100000) (h : 4 * r ≤ a) :
    Calls Try.prog 60 #[.agg #[.int .i64 a, .int .i64 r]] w fun e w' => e = .returned (.int .i64 (edgeC a r)) ∧ Below W0.heap.size W0 w' :=
  (edge_any a r w a1 a2 r1 r2 h).mono fun _ _ ⟨h1, k⟩ => ⟨h1, hb.trans (k.mono hb.size)⟩

set_option maxRecDepth 100000 in
set_option maxHeartbeats 1000000 in
theorem covers_any (a r p q : Int) (w : World) (a1 : 1 ≤ a) (a2 : a ≤ 1000000) (r1 : 0 ≤ r) (r2 : r ≤ 100000) (h : 4 * r ≤ a) :
    Calls Try.prog 80 #[.agg #[.int .i64 a, .int .i64 r], .agg #[.int .i64 p, .int .i64 q]] w fun e w' => e = .returned (.bool (decide (edgeC a r ≤ p))) ∧ Below w.heap.size w w' := by
  have ED := Lib.hid (fun W w hb => edge_rel a r W w hb a1 a2 r1 r2 h)
  generalize edgeC a r = E at ED ⊢
  go_enter Try.func80, Try.ntmps80
  go_wp2
  have c0 : ((w.alloc (.cells #[.int .i64 a, .int .i64 r] 61)).alloc (.cells #[.int .i64 p, .int .i64 q] 35)).cell? ⟨w.heap.size, 0, none⟩ = some (.int .i64 a) := by rw [World.cell?_alloc_past _ _ _ (by simp)]; simp
  have c1 : ((w.alloc (.cells #[.int .i64 a, .int .i64 r] 61)).alloc (.cells #[.int .i64 p, .int .i64 q] 35)).cell? ⟨w.heap.size, 1, none⟩ = some (.int .i64 r) := by rw [World.cell?_alloc_past _ _ _ (by simp)]; simp
  have c2 : ((w.alloc (.cells #[.int .i64 a, .int .i64 r] 61)).alloc (.cells #[.int .i64 p, .int .i64 q] 35)).cell? ⟨w.heap.size + 1, 0, none⟩ = some (.int .i64 p) := by rw [show w.heap.size + 1 = (w.alloc (.cells #[.int .i64 a, .int .i64 r] 61)).heap.size by simp]; simp
  have HB := Lib.hid (show Below w.heap.size w ((w.alloc (.cells #[.int .i64 a, .int .i64 r] 61)).alloc (.cells #[.int .i64 p, .int .i64 q] 35)) from ((Below.refl _ _).alloc (Nat.le_refl _) _).alloc (by simp) _)
  have hsz : w.heap.size + 2 = ((w.alloc (.cells #[.int .i64 a, .int .i64 r] 61)).alloc (.cells #[.int .i64 p, .int .i64 q] 35)).heap.size := by simp
  generalize ((w.alloc (.cells #[.int .i64 a, .int .i64 r] 61)).alloc (.cells #[.int .i64 p, .int .i64 q] 35)) = W at c0 c1 c2 HB hsz ⊢
  go_region_held3 (fun U => U.cell? ⟨w.heap.size, 0, none⟩ = some (.int .i64 a) ∧ U.cell? ⟨w.heap.size, 1, none⟩ = some (.int .i64 r) ∧ U.cell? ⟨w.heap.size + 1, 0, none⟩ = some (.int .i64 p)) (first | exact ⟨c0, c1, c2⟩ | exact ⟨n0, n1, n2⟩ | (simp [go_sem]; first | exact ⟨c0, c1, c2⟩ | exact ⟨n0, n1, n2⟩))
    (first | (go_at_call 60; refine (ED.out W _ (by repeat (first | assumption | exact Below.refl _ _ | refine Below.drew ?_ | refine bdq ?_ _))).mono ?_; rintro e w1 ⟨rfl, hb1⟩; have n0 := (hb1.cell (p := ⟨w.heap.size, 0, none⟩) (by simp; omega)).trans c0; have n1 := (hb1.cell (p := ⟨w.heap.size, 1, none⟩) (by simp; omega)).trans c1; have n2 := (hb1.cell (p := ⟨w.heap.size + 1, 0, none⟩) (by simp; omega)).trans c2))
  all_goals
    have HBB := Lib.hid (HB.out.trans (hb1.mono (by omega)))
    go_wp2
    go_ret
    exact ⟨ret_bool (by first | rfl | simp), (by first | exact HBB.out | exact bdq HBB.out _ | exact bdrew HBB.out)⟩

set_option maxHeartbeats 400000 in
theorem fromPole_any (a r p q : Int) (w : World) (a1 : 1 ≤ a) (a2 : a ≤ 1000000) (p1 : 0 ≤ p) (p2 : p ≤ 324000) :
    Calls Try.prog 87 #[.agg #[.int .i64 a, .int .i64 r], .agg #[.int .i64 p, .int .i64 q]] w fun e w' => e = .returned (.int .i64 (a * (324000 - p) / 1296000)) ∧ Below w.heap.size w w' := by
  obtain ⟨m1, m2⟩ := mul_small (n := 324000 - p) a1 a2 (by omega) (by omega)
  have h1 : 0 ≤ a * (324000 - p) / 1296000 := Int.ediv_nonneg m1 (by decide)
  have k1 : IntKind.i64.wrap (324000 - p) = 324000 - p := IntWalk.i64_in _ (by omega)
  have k2 : IntKind.i64.wrap (a * (324000 - p)) = a * (324000 - p) := IntWalk.i64_in _ (by omega)
  have k3 : (a * (324000 - p)).tdiv 1296000 = a * (324000 - p) / 1296000 := Int.tdiv_eq_ediv_of_nonneg m1
  have k4 : IntKind.i64.wrap (a * (324000 - p) / 1296000) = a * (324000 - p) / 1296000 := IntWalk.i64_in _ (by omega)
  go_enter Try.func87, Try.ntmps87
  go_wp2
  go_ret
  exact ⟨ret_k1 (by first | rfl | simp only [k3, k4]), ((Below.refl _ _).alloc (Nat.le_refl _) _).alloc (by simp) _⟩

set_option maxHeartbeats 400000 in
theorem rim_any (a r : Int) (w : World) (r1 : 0 ≤ r) (r2 : r ≤ 1000000) :
    Calls Try.prog 103 #[.agg #[.int .i64 a, .int .i64 r]] w fun e w' => e = .returned (.int .i64 (near (710 * r) 113)) ∧ Below w.heap.size w w' := by
  have k1 : IntKind.i64.wrap (r * 710) = r * 710 := IntWalk.i64_in _ (by omega)
  go_enter Try.func103, Try.ntmps103
  go_wp2_with (first | (go_at_call 101; refine (nearest_any _ _ _ (by omega) (by omega) (by omega) (by omega)).mono ?_; rintro e w' ⟨rfl, rfl⟩))
  go_ret
  exact ⟨ret_k1 (by rw [Int.mul_comm]), (Below.refl _ _).alloc (Nat.le_refl _) _⟩

set_option maxHeartbeats 1000000 in
theorem rimExcess_any (a l : Int) (w : World) (h : code6 a l = 0) :
    Calls Try.prog 90 #[.int .i64 a, .int .i64 l] w fun e w' => e = .returned (.int .i64 (excC a l)) ∧ Below w.heap.size w w' := by
  obtain ⟨a1, a2, l1, l2⟩ := code6_of h
  obtain ⟨p1, p2, p3, p4, p5, p6, p7, p8⟩ := excC_parts h
  have e1 : gpart 1 a l = near (a * sineL (l + 324000)) 1000000 := rfl
  have ee : excC a l = near (710 * arcC a (324000 - l)) 113 - gpart 1 a l := rfl
  rw [← e1] at p7 p8
  have DD := Lib.hid (fun w => discDownTo_any a l w a1 a2 l1 l2)
  have RR := Lib.hid (fun w => rim_any a (arcC a (324000 - l)) w p1 p2)
  have PP := Lib.hid (fun w => parallelPart_any 1 a l w (by omega) (by omega) a1 a2 (by omega) l2)
  rw [ee]
  generalize near (710 * arcC a (324000 - l)) 113 = y at p3 p4 RR ⊢
  generalize arcC a (324000 - l) = x at DD RR
  generalize gpart 1 a l = z at p7 p8 PP ⊢
  clear ee e1 p1 p2 p5 p6
  have k1 : IntKind.i64.wrap (y - z) = y - z := IntWalk.i64_in _ (by omega)
  go_enter Try.func90, Try.ntmps90
  go_wp2_with fail
  refine (DD.out _).mono ?_
  rintro e w1 ⟨rfl, hb1⟩
  go_wp2_with fail
  refine (RR.out _).mono ?_
  rintro e w2 ⟨rfl, hb2⟩
  have HB := Lib.hid (hb1.trans (hb2.mono hb1.size))
  clear hb1 hb2
  go_wp2_with fail
  refine (PP.out _).mono ?_
  rintro e w' ⟨rfl, rfl⟩
  go_wp2
  go_ret
  exact ⟨rfl, HB.out⟩

theorem quo_any (n d : Int) (w : World) (n0 : 0 ≤ n) (n1 : n ≤ 10000000) (d1 : 1 ≤ d) (d2 : d ≤ 100000) :
    Calls Try.prog 89 #[.int .i64 n, .int .i64 d] w fun e w' => e = .returned (.int .i64 ((n + d - 1) / d)) ∧ w = w' := by
  have q0 : 0 ≤ (n + d - 1) / d := Int.ediv_nonneg (by omega) (by omega)
  have q1 : (n + d - 1) / d ≤ n + d - 1 := Int.ediv_le_self _ (by omega)
  have k1 : IntKind.i64.wrap (n + d) = n + d := IntWalk.i64_in _ (by omega)
  have k2 : IntKind.i64.wrap (n + d - 1) = n + d - 1 := IntWalk.i64_in _ (by omega)
  have k3 : (n + d - 1).tdiv d = (n + d - 1) / d := Int.tdiv_eq_ediv_of_nonneg (by omega)
  have k4 : IntKind.i64.wrap ((n + d - 1) / d) = (n + d - 1) / d := IntWalk.i64_in _ (by omega)
  have hz : d ≠ 0 := by omega
  have hm : d ≠ -1 := by omega
  go_enter Try.func89, Try.ntmps89
  go_wp2
  go_ret
  exact ⟨ret_k1 (by first | rfl | simp only [k3, k4]), rfl⟩

theorem manyRings_any (r d : Int) (w : World) (r1 : 0 ≤ r) (r2 : r ≤ 100000) (d1 : 1 ≤ d) (d2 : d ≤ 100000) :
    Calls Try.prog 71 #[.int .i64 r, .int .i64 d] w fun e w' => e = .returned (.bool (decide (60 < manyN r d))) ∧ w = w' := by
  have Q := Lib.hid (fun w => quo_any r d w r1 (by omega) d1 d2)
  have e : manyN r d = (r + d - 1) / d := rfl
  rw [e]
  generalize (r + d - 1) / d = x at Q ⊢
  clear e
  go_enter Try.func71, Try.ntmps71
  go_wp2_with fail
  refine (Q.out _).mono ?_
  rintro e w' ⟨rfl, rfl⟩
  go_wp2
  go_ret
  exact ⟨ret_bool (by first | rfl | simp), rfl⟩

/-- Which code a disc has, and other numbers with it. -/
def codeD (a r : Int) (b : Bool) : Int := if (inB a 1 1000000 && inB r 0 100000 && b) = true then (if a < 4 * r then 5 else 0) else 2
theorem codeD_true (a r : Int) : codeD a r true = codeR a r := by simp [codeD, codeR]
theorem codeD_false (a r : Int) : codeD a r false = 2 := by simp [codeD]
set_option maxRecDepth 100000 in
set_option maxHeartbeats 1000000 in
theorem discCode_f (a r : Int) (b : Bool) (w : World) (h : inB a 1 1000000 = false) :
    Calls Try.prog 59 #[.agg #[.int .i64 a, .int .i64 r], .bool b] w fun e w' => e = .returned (.int .i64 2) ∧ Below w.heap.size w w' := by
  go_enter Try.func59, Try.ntmps59
  go_wp2_with (first | (go_at_call 64; refine (isAround_any _ _).mono ?_; rw [h]; rintro e w' ⟨rfl, rfl⟩))
  go_ret
  exact ⟨rfl, (Below.refl _ _).alloc (Nat.le_refl _) _⟩
set_option maxRecDepth 100000 in
set_option maxHeartbeats 1000000 in
theorem discCode_tf (a r : Int) (b : Bool) (w : World) (h : inB a 1 1000000 = true) (g : inB r 0 100000 = false) :
    Calls Try.prog 59 #[.agg #[.int .i64 a, .int .i64 r], .bool b] w fun e w' => e = .returned (.int .i64 2) ∧ Below w.heap.size w w' := by
  go_enter Try.func59, Try.ntmps59
  go_wp2_with (first | (go_at_call 64; refine (isAround_any _ _).mono ?_; rw [h]; rintro e w' ⟨rfl, rfl⟩) | (go_at_call 69; refine (isRadius_any _ _).mono ?_; rw [g]; rintro e w' ⟨rfl, rfl⟩))
  go_ret
  exact ⟨rfl, (Below.refl _ _).alloc (Nat.le_refl _) _⟩
set_option maxRecDepth 100000 in
set_option maxHeartbeats 1000000 in
theorem discCode_ttf (a r : Int) (w : World) (h : inB a 1 1000000 = true) (g : inB r 0 100000 = true) :
    Calls Try.prog 59 #[.agg #[.int .i64 a, .int .i64 r], .bool false] w fun e w' => e = .returned (.int .i64 2) ∧ Below w.heap.size w w' := by
  go_enter Try.func59, Try.ntmps59
  go_wp2_with (first | (go_at_call 64; refine (isAround_any _ _).mono ?_; rw [h]; rintro e w' ⟨rfl, rfl⟩) | (go_at_call 69; refine (isRadius_any _ _).mono ?_; rw [g]; rintro e w' ⟨rfl, rfl⟩))
  go_ret
  exact ⟨rfl, (Below.refl _ _).alloc (Nat.le_refl _) _⟩
set_option maxRecDepth 100000 in
set_option maxHeartbeats 1000000 in
theorem discCode_tttf (a r : Int) (w : World) (h : inB a 1 1000000 = true) (g : inB r 0 100000 = true) (k : a < 4 * r) :
    Calls Try.prog 59 #[.agg #[.int .i64 a, .int .i64 r], .bool true] w fun e w' => e = .returned (.int .i64 5) ∧ Below w.heap.size w w' := by
  obtain ⟨r1, r2⟩ := inB_of g
  have kd : decide (a < 4 * r) = true := by simpa using k
  go_enter Try.func59, Try.ntmps59
  go_wp2_with (first | (go_at_call 64; refine (isAround_any _ _).mono ?_; rw [h]; rintro e w' ⟨rfl, rfl⟩) | (go_at_call 69; refine (isRadius_any _ _).mono ?_; rw [g]; rintro e w' ⟨rfl, rfl⟩) | (go_at_call 93; refine (beyond_any _ _ _ r1 (by omega)).mono ?_; rw [kd]; rintro e w1 ⟨rfl, hb1⟩))
  go_ret
  exact ⟨rfl, ((Below.refl w.heap.size w).alloc (Nat.le_refl _) _).trans (hb1.mono (by simp))⟩
set_option maxRecDepth 100000 in
set_option maxHeartbeats 1000000 in
theorem discCode_tttt (a r : Int) (w : World) (h : inB a 1 1000000 = true) (g : inB r 0 100000 = true) (k : ¬ a < 4 * r) :
    Calls Try.prog 59 #[.agg #[.int .i64 a, .int .i64 r], .bool true] w fun e w' => e = .returned (.int .i64 0) ∧ Below w.heap.size w w' := by
  obtain ⟨r1, r2⟩ := inB_of g
  have kd : decide (a < 4 * r) = false := by simpa using k
  go_enter Try.func59, Try.ntmps59
  go_wp2_with (first | (go_at_call 64; refine (isAround_any _ _).mono ?_; rw [h]; rintro e w' ⟨rfl, rfl⟩) | (go_at_call 69; refine (isRadius_any _ _).mono ?_; rw [g]; rintro e w' ⟨rfl, rfl⟩) | (go_at_call 93; refine (beyond_any _ _ _ r1 (by omega)).mono ?_; rw [kd]; rintro e w1 ⟨rfl, hb1⟩))
  go_ret
  exact ⟨rfl, ((Below.refl w.heap.size w).alloc (Nat.le_refl _) _).trans (hb1.mono (by simp))⟩
theorem discCode_any (a r : Int) (b : Bool) (w : World) :
    Calls Try.prog 59 #[.agg #[.int .i64 a, .int .i64 r], .bool b] w fun e w' => e = .returned (.int .i64 (codeD a r b)) ∧ Below w.heap.size w w' := by
  cases h : inB a 1 1000000 with
  | false => refine (discCode_f _ _ _ _ h).mono ?_; rintro e w' ⟨rfl, hw⟩; exact ⟨ret_k1 (by simp [codeD, h]), hw⟩
  | true =>
    cases g : inB r 0 100000 with
    | false => refine (discCode_tf _ _ _ _ h g).mono ?_; rintro e w' ⟨rfl, hw⟩; exact ⟨ret_k1 (by simp [codeD, h, g]), hw⟩
    | true =>
      cases b with
      | false => refine (discCode_ttf _ _ _ h g).mono ?_; rintro e w' ⟨rfl, hw⟩; exact ⟨ret_k1 (by simp [codeD, h, g]), hw⟩
      | true =>
        by_cases k : a < 4 * r
        · refine (discCode_tttf _ _ _ h g k).mono ?_; rintro e w' ⟨rfl, hw⟩; exact ⟨ret_k1 (by simp [codeD, h, g, k]), hw⟩
        · refine (discCode_tttt _ _ _ h g k).mono ?_; rintro e w' ⟨rfl, hw⟩; exact ⟨ret_k1 (by simp [codeD, h, g, k]), hw⟩
theorem discCode_rel (a r : Int) (b : Bool) (W0 w : World) (hb : Below W0.heap.size W0 w) :
    Calls Try.prog 59 #[.agg #[.int .i64 a, .int .i64 r], .bool b] w fun e w' => e = .returned (.int .i64 (codeD a r b)) ∧ Below W0.heap.size W0 w' :=
  (discCode_any a r b w).mono fun _ _ ⟨h1, k⟩ => ⟨h1, hb.trans (k.mono hb.size)⟩

end Go.Proofs.Ytiemealkdgnhcaa.sines
