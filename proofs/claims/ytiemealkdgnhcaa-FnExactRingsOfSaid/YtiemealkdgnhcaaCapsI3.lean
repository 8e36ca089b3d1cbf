/- RingsOf of the program: the iterator over the rings of a disc, collected. -/
import Derived.RangeFuncNested
import Derived.RangeFuncBound
import Derived.RangeFuncCalls
import Derived.RangeFuncLeaves
import Derived.RangeFuncBox
import Derived.Shelf.Abstract
import Derived.Shelf.RegionOpen
import Derived.OwnWalkIn
import Derived.TacticsInMore
import Derived.LoopNIn
import Derived.LoopIn
import Derived.Maps.AppendAt
import Derived.Test.YtiemealkdgnhcaaCapsI1
namespace Go.Proofs.Ytiemealkdgnhcaa.sines
open Go.ChangeShapes Go.WideShapes Go.ChangeAt Go.RowKit Go.Shelf Go.Proofs.Ytiemealkdgnhcaa.spots Go.Proofs.Ytiemealkdgnhcaa.irows Go.Proofs.Ytiemealkdgnhcaa.pairs
attribute [local go_sem] Oper.semAt_some
set_option linter.unusedSimpArgs false
set_option linter.unusedVariables false

/-- As long as rings are left, the next one begins below the radius. -/
theorem rings_lt {r d : Int} {pre rest : List Int} (hc : codeN r d = 0) (h : ringsL r d = pre ++ rest) : (pre.length : Int) * d < r ↔ rest ≠ [] := by
  obtain ⟨r1, r2, d1, d2, _⟩ := codeN_of hc
  by_cases h0 : 0 < r
  · have hl : pre.length + rest.length = wholeN r d + 1 := by
      have := congrArg List.length h
      simp [ringsL, h0, ringsK_len] at this
      omega
    have e : rest ≠ [] ↔ pre.length ≤ wholeN r d := by
      cases rest with
      | nil => simp at hl ⊢; omega
      | cons x t => simp at hl ⊢; omega
    rw [e]
    cases hp : pre.length with
    | zero => simp; omega
    | succ k =>
      have := wholeN_iff h0 d1 k
      rw [show ((k + 1 : Nat) : Int) = (k : Int) + 1 by omega, this]
      omega
  · have hr : r = 0 := by omega
    subst hr
    have e : pre ++ rest = [] := by rw [← h]; simp [ringsL]
    obtain ⟨rfl, rfl⟩ := List.append_eq_nil_iff.1 e
    simp
/-- The next ring ends a width further, or with the radius. -/
theorem rings_mid {r d x : Int} {pre rest : List Int} (hc : codeN r d = 0) (h : ringsL r d = pre ++ x :: rest) : ((pre.length : Int) * d + d < r → x = (pre.length : Int) * d + d) ∧ (¬ (pre.length : Int) * d + d < r → x = r) := by
  obtain ⟨r1, r2, d1, d2, _⟩ := codeN_of hc
  have h0 : 0 < r := by
    have := (rings_lt hc h).2 (by simp)
    have : 0 ≤ (pre.length : Int) * d := Int.mul_nonneg (by omega) (by omega)
    omega
  have IFF := wholeN_iff h0 d1 pre.length
  rw [Int.add_mul, Int.one_mul] at IFF
  have hx : (ringsL r d)[pre.length]? = some x := by rw [h]; simp
  have hl : pre.length ≤ wholeN r d := by
    have := congrArg List.length h
    simp [ringsL, h0, ringsK_len] at this
    omega
  simp only [ringsL, if_pos h0] at hx
  by_cases hk : pre.length < wholeN r d
  · refine ⟨fun _ => ?_, fun k => absurd (IFF.2 hk) k⟩
    rw [List.getElem?_append_left (by rw [ringsK_len]; exact hk)] at hx
    simp [ringsK, hk] at hx
    rw [← hx, Int.add_mul, Int.one_mul]
  · refine ⟨fun k => absurd (IFF.1 k) hk, fun _ => ?_⟩
    rw [List.getElem?_append_right (by rw [ringsK_len]; omega), ringsK_len, show pre.length - wholeN r d = 0 by omega] at hx
    simp at hx
    exact hx.symm

set_option maxRecDepth 100000 in
set_option maxHeartbeats 1000000 in
theorem rings1_in (F : Fence) (n : Nat) (h6 : F.fn 97) (hro : F.round = none) (hn : 1 ≤ n) (l B C n₀ : Nat) (r d : Int) (hc : codeN r d = 0) (hBn : B < n₀) (hCn : C < n₀) (J Jx : List Int → World → Prop)
    (hY : ∀ pre x W, J pre W → pre.length < 61 → YieldAt F (n - 1) Try.prog l #[.int .i64 x] W fun e W' =>
      (e = .returned (.bool true) ∧ J (pre ++ [x]) W' ∧ Below n₀ W W') ∨ (e = .returned (.bool false) ∧ Jx (pre ++ [x]) W'))
    (W : World) (hB : W.cell? ⟨B, 0, none⟩ = some (.int .i64 r)) (hC : W.cell? ⟨C, 0, none⟩ = some (.int .i64 d)) (h0 : J [] W) :
    CallsIn F n Try.prog 97 #[.func (.yield l) #[] #[], .pointer (some ⟨B, 0, none⟩), .pointer (some ⟨C, 0, none⟩)] W fun e W' => (∃ v, e = .returned v) ∧
      ((∃ ys, ys = ringsL r d ∧ J ys W') ∨ (∃ pre, pre <+: ringsL r d ∧ Jx pre W')) := by
  obtain ⟨r1, r2, d1, d2, _⟩ := codeN_of hc
  have hN := ringsL_len hc
  refine callsIn_of_wp Try.func97 rfl h6 ?_ hro
  simp only [Try.ntmps97, List.size_toArray, List.length_cons, List.length_nil, Nat.reduceAdd, Nat.reduceSub, Array.replicate_succ, Array.replicate_zero, List.push_toArray, List.append_toArray, List.nil_append, List.cons_append]
  gi_wp2
  gi_loopw [4] (fun p wr => ∃ (pre rest : List Int) (z : Int), p = .int .i64 z ∧ ringsL r d = pre ++ rest ∧ z = (pre.length : Int) * d ∧ 0 ≤ z ∧ z ≤ 200000 ∧ wr.cell? ⟨B, 0, none⟩ = some (.int .i64 r) ∧ wr.cell? ⟨C, 0, none⟩ = some (.int .i64 d) ∧ J pre wr)
    (fun p _ => (200001 - intOf p).toNat)
  case atStart =>
    exact ⟨[], ringsL r d, 0, rfl, rfl, by simp, by omega, by omega, hB, hC, h0⟩
  case round =>
    obtain ⟨pre, rest, z, rfl, hx, hz, hz0, hz1, hb, hd, hJs⟩ := hrel
    have hlen : pre.length + rest.length ≤ 61 := by rw [hx] at hN; simpa using hN
    have hit := rings_lt hc hx
    rw [← hz] at hit
    have HZ := Lib.hid hz
    have HX := Lib.hid hx
    clear hz hx
    cases rest with
    | nil =>
      have hgt : ¬ z < r := fun k => (hit.1 k) rfl
      clear hit
      gi_wp2
      go_end0
      exact ⟨⟨_, rfl⟩, .inl (by first | exact ⟨pre, by simp [HX.out], hJs⟩ | (rw [HX.out]; simpa using hJs))⟩
    | cons x rest =>
      have hlt : z < r := hit.2 (by simp)
      clear hit
      obtain ⟨m1, m2⟩ := rings_mid hc HX.out
      rw [← HZ.out] at m1 m2
      have k1 : IntKind.i64.wrap (z + d) = z + d := IntWalk.i64_in _ (by omega)
      have hzd : z + d ≤ 200000 := by omega
      have hz1' : 0 ≤ z + d := by omega
      obtain ⟨fn, tmps, assign, body, hy, hR⟩ := hY pre x wr hJs (by simp at hlen; omega)
      rcases Int.lt_trichotomy (z + d) r with hm | hm | hm
      · have ex := m1 hm
        subst ex
        have mn : min (z + d) r = z + d := by omega
        clear m1 m2
        gi_wp2
        refine hR.mono ?_
        rintro e W3 (⟨rfl, hJ3, hk3⟩ | ⟨rfl, hJx3⟩)
        · have hb3 := (hk3.cell (p := ⟨B, 0, none⟩) hBn).trans hb
          have hd3 := (hk3.cell (p := ⟨C, 0, none⟩) hCn).trans hd
          gi_wp2
          go_roundw
          case rel =>
            refine ⟨pre ++ [z + d], rest, z + d, rfl, by simp [HX.out], ?_, by omega, by omega, hb3, hd3, hJ3⟩
            rw [HZ.out]; simp [Int.add_mul]
          case measure => simp [intOf]; omega
        · gi_wp2
          refine bodyPost_ret (results_none rfl _ _ _) rfl ?_
          exact ⟨⟨_, rfl⟩, .inr ⟨pre ++ [z + d], ⟨rest, by simp [HX.out]⟩, hJx3⟩⟩
      · have ex := m2 (by omega)
        subst ex
        have mn : min x x = x := by omega
        have hm2 : ¬ x < z + d := by omega
        have hm3 : ¬ z + d < x := by omega
        clear m1 m2
        gi_wp2
        refine hR.mono ?_
        rintro e W3 (⟨rfl, hJ3, hk3⟩ | ⟨rfl, hJx3⟩)
        · have hb3 := (hk3.cell (p := ⟨B, 0, none⟩) hBn).trans hb
          have hd3 := (hk3.cell (p := ⟨C, 0, none⟩) hCn).trans hd
          gi_wp2
          go_roundw
          case rel =>
            refine ⟨pre ++ [x], rest, x, (by first | rfl | rw [hm]), by simp [HX.out], ?_, by omega, by omega, hb3, hd3, hJ3⟩
            have := HZ.out; simp [Int.add_mul]; omega
          case measure => simp [intOf]; omega
        · gi_wp2
          refine bodyPost_ret (results_none rfl _ _ _) rfl ?_
          exact ⟨⟨_, rfl⟩, .inr ⟨pre ++ [x], ⟨rest, by simp [HX.out]⟩, hJx3⟩⟩
      · have ex := m2 (by omega)
        subst ex
        have mn : min (z + d) x = x := by omega
        have hm2 : ¬ z + d < x := by omega
        clear m1 m2
        gi_wp2
        refine hR.mono ?_
        rintro e W3 (⟨rfl, hJ3, hk3⟩ | ⟨rfl, hJx3⟩)
        · have hb3 := (hk3.cell (p := ⟨B, 0, none⟩) hBn).trans hb
          have hd3 := (hk3.cell (p := ⟨C, 0, none⟩) hCn).trans hd
          gi_wp2
          go_roundw
          case rel =>
            refine ⟨pre ++ [x], rest, z + d, rfl, by simp [HX.out], ?_, by omega, by omega, hb3, hd3, hJ3⟩
            rw [HZ.out]; simp [Int.add_mul]
          case measure => simp [intOf]; omega
        · gi_wp2
          refine bodyPost_ret (results_none rfl _ _ _) rfl ?_
          exact ⟨⟨_, rfl⟩, .inr ⟨pre ++ [x], ⟨rest, by simp [HX.out]⟩, hJx3⟩⟩

theorem rings_stops (F : Fence) (n : Nat) (h6 : F.fn 97) (hro : F.round = none) (hn : 1 ≤ n) (B C n₀ : Nat) (r d : Int) (hc : codeN r d = 0) (hBn : B < n₀) (hCn : C < n₀) (w : World) (hn0 : n₀ ≤ w.heap.size)
    (hB : w.cell? ⟨B, 0, none⟩ = some (.int .i64 r)) (hC : w.cell? ⟨C, 0, none⟩ = some (.int .i64 d)) :
    SeqStopsK F n Try.prog 97 #[.pointer (some ⟨B, 0, none⟩), .pointer (some ⟨C, 0, none⟩)] (fun x : Int => #[Value.int .i64 x]) (Below n₀) (fun ys => ys = ringsL r d) (fun pre => pre <+: ringsL r d) 61 w := fun l J Jx W hW _ _ hY h0 =>
  rings1_in F n h6 hro hn l B C n₀ r d hc hBn hCn J Jx hY W ((hW.cell (p := ⟨B, 0, none⟩) (by simp; omega)).trans hB) ((hW.cell (p := ⟨C, 0, none⟩) (by simp; omega)).trans hC) h0

set_option maxRecDepth 100000 in
set_option maxHeartbeats 2000000 in
theorem appendRings_any (r d : Int) (B C : Nat) (w : World) (hc : codeN r d = 0) (hB : B < w.heap.size) (hC : C < w.heap.size) (cB : w.cell? ⟨B, 0, none⟩ = some (.int .i64 r)) (cC : w.cell? ⟨C, 0, none⟩ = some (.int .i64 d)) :
    Calls Try.prog 96 #[.slice none 0 0, .func (.func 97) #[] #[.pointer (some ⟨B, 0, none⟩), .pointer (some ⟨C, 0, none⟩)]] w fun e w' => ∃ v, e = .returned v ∧ IRow w' w.heap.size v (ringsL r d) ∧ Below w.heap.size w w' := by
  obtain ⟨i0, hi, hz0, hz1, hz2⟩ := info_parts info_int
  refine (callsIn_wide (n := 5)).1 ?_
  refine callsIn_of_wp_marks Try.func96 rfl trivial ?_ rfl
  simp only [Try.ntmps96, List.size_toArray, List.length_cons, List.length_nil, Nat.reduceAdd, Nat.reduceSub, Array.replicate_succ, Array.replicate_zero, List.push_toArray, List.append_toArray, List.nil_append, List.cons_append]
  refine wpIn_wide.2 ?_
  go_wp2
  obtain ⟨wL, hwL⟩ : ∃ wL, w.alloc (.cells #[.slice none 0 0] 27) = wL := ⟨_, rfl⟩
  have zL : wL.heap.size = w.heap.size + 1 := by rw [← hwL]; simp
  have B0 : Below w.heap.size w wL := by rw [← hwL]; exact (Below.refl _ w).alloc (Nat.le_refl _) _
  have bO : Boxed wL w.heap.size 27 (.slice none 0 0) := by rw [← hwL]; exact Boxed.new w _ _
  rw [hwL]
  clear hwL
  refine (wpIn_wide (n := 5)).1 ?_
  refine' wpIn_rangeFunc_ownF (F := Fence.wide) (n := 5) rfl (by omega) (gf := 97) (lb := #[.pointer (some ⟨B, 0, none⟩), .pointer (some ⟨C, 0, none⟩)]) rfl trivial (enters_of Try.func97 (by kernel_rfl) rfl)
    (rings_stops Fence.wide (5 - 1) trivial rfl (by omega) B C w.heap.size r d hc hB hC wL (by omega) ((B0.cell (p := ⟨B, 0, none⟩) hB).trans cB) ((B0.cell (p := ⟨C, 0, none⟩) hC).trans cC)) belowK_t (belowK_b (by omega)) (Below.refl _ _) (fun _ => rfl)
    (fun pre W => (∃ v, Boxed W w.heap.size 27 v ∧ W.ownsRow w.heap.size 2 1 v pre.length (ints pre) ∧ True) ∧ Below w.heap.size w W)
    (fun _ _ _ => False)
    (OwnFrom.and (Own.from (fun s X Y row hs hg hr => holdsRow_own w.heap.size w.heap.size 27 2 1 (fun pre => pre.length) (fun pre => ints pre) (fun _ _ => True) s X Y row hs hg hr) _) (ownFrom_below (Nat.le_refl _) (by omega)))
    (fun _ _ _ _ _ hs _ _ => hs)
    ⟨⟨_, bO, World.ownsRow_nil _ _ _ _, trivial⟩, B0⟩
    _ ?assign ?body ?done ?stop
  case assign =>
    intro l x W K hK
    gi_wp2
    exact hK
  case body =>
    rintro l pre x W ⟨⟨v, hv, hrow, -⟩, hB⟩ hlt
    have hcv := hv.cell
    have hsz := hB.size
    have hmL : pre.length + 1 ≤ maxLen := by unfold maxLen; omega
    gi_wp2_with (gi_at_builtin; refine wpListIn_append_own _ rfl _ _ 27 rfl w.heap.size 2 i0 (.int .i64 0) 1 8 Try.underlying27 hi hz0 hz1 hz2 rfl (by decide) _ _ _ rfl (hrow.alloc _) ⟨W.heap.size, 0, none⟩ 1 1 [.int .i64 x] rfl rfl (cell_one_new _ _ _) (by simp [Value.oneCell']) (by omega) (by omega) (by simp; omega) ?_; intro v' w1 hown' hgrow _; obtain ⟨g', cap', rfl⟩ := ownsRow_succ hown'; obtain ⟨hv1, hv2, hr2, hk2, hb2⟩ := hv.appended (by decide) hrow hsz (Nat.le_refl _) hown' hgrow; have hc1 := hv1.cell; have hf1 := hv1.frozen)
    exact ⟨hk2, hb2, ⟨⟨_, hv2, by simpa [ints] using hr2, trivial⟩, hB.trans hb2⟩⟩
  case done =>
    rintro D ys W hD rfl ⟨⟨v, hv, hrow, -⟩, hB⟩ hK
    have hcv := hv.cell
    go_wp2
    refine ⟨by simp, .inl ⟨_, _, rfl, run_takeDeferred hK, ?_⟩⟩
    refine ⟨v, by simp [results, Try.results96, go_sem], v, rfl, ?_, hB.trans (belowK_b (w := w) (Nat.le_refl _) W D _ _ (by omega) hK rfl rfl)⟩
    exact ownsRow_putObj hrow _ hK rfl
  case stop =>
    rintro D c pre W _ _ hh _
    exact hh.elim
set_option maxHeartbeats 1000000 in
theorem collectRings_any (r d : Int) (B C : Nat) (w : World) (hc : codeN r d = 0) (hB : B < w.heap.size) (hC : C < w.heap.size) (cB : w.cell? ⟨B, 0, none⟩ = some (.int .i64 r)) (cC : w.cell? ⟨C, 0, none⟩ = some (.int .i64 d)) :
    Calls Try.prog 72 #[.func (.func 97) #[] #[.pointer (some ⟨B, 0, none⟩), .pointer (some ⟨C, 0, none⟩)]] w fun e w' => ∃ v, e = .returned v ∧ IRow w' w.heap.size v (ringsL r d) ∧ Below w.heap.size w w' := by
  go_enter Try.func72, Try.ntmps72
  go_wp2_with fail
  refine (appendRings_any r d B C w hc hB hC cB cC).mono ?_
  rintro e w1 ⟨v, rfl, hr, hb⟩
  have HR := Lib.hid hr
  have HB := Lib.hid hb
  clear hr hb
  go_wp2
  go_ret
  exact ⟨_, rfl, HR.out, HB.out⟩

set_option maxHeartbeats 400000 in
theorem outerRadii_any (r d : Int) (w : World) :
    Calls Try.prog 73 #[.int .i64 r, .int .i64 d] w fun e w' => e = .returned (.func (.func 97) #[] #[.pointer (some ⟨w.heap.size, 0, none⟩), .pointer (some ⟨w.heap.size + 1, 0, none⟩)]) ∧ w'.heap.size = w.heap.size + 2 ∧ w'.cell? ⟨w.heap.size, 0, none⟩ = some (.int .i64 r) ∧ w'.cell? ⟨w.heap.size + 1, 0, none⟩ = some (.int .i64 d) ∧ Below w.heap.size w w' := by
  go_enter Try.func73, Try.ntmps73
  go_wp2
  go_ret
  refine ⟨rfl, by simp, ?_, ?_, ((Below.refl _ _).alloc (Nat.le_refl _) _).alloc (by simp) _⟩
  · rw [World.cell?_alloc_past _ _ _ (by simp)]; simp
  · rw [show w.heap.size + 1 = (w.alloc (.cells #[.int .i64 r] 2)).heap.size by simp]; simp

set_option maxRecDepth 100000 in
set_option maxHeartbeats 1000000 in
theorem implRingsOf_f (r d : Int) (w : World) (g : inB r 0 100000 = false) :
    Calls Try.prog 23 #[.int .i64 r, .int .i64 d] w fun e w' => e = .returned (.tuple #[.slice none 0 0, .int .i64 2]) ∧ w = w' := by
  go_enter Try.func23, Try.ntmps23
  go_wp2_with (first | (go_at_call 69; refine (isRadius_any _ _).mono ?_; rw [g]; rintro e w' ⟨rfl, rfl⟩))
  exact bodyPost_ret (v := .tuple #[.slice none 0 0, .int .i64 2]) (by simp [results, Try.results23, go_sem]) rfl ⟨rfl, rfl⟩
set_option maxRecDepth 100000 in
set_option maxHeartbeats 1000000 in
theorem implRingsOf_tf (r d : Int) (w : World) (g : inB r 0 100000 = true) (j : inB d 1 100000 = false) :
    Calls Try.prog 23 #[.int .i64 r, .int .i64 d] w fun e w' => e = .returned (.tuple #[.slice none 0 0, .int .i64 2]) ∧ w = w' := by
  go_enter Try.func23, Try.ntmps23
  go_wp2_with (first | (go_at_call 69; refine (isRadius_any _ _).mono ?_; rw [g]; rintro e w' ⟨rfl, rfl⟩) | (go_at_call 70; refine (isWidth_any _ _).mono ?_; rw [j]; rintro e w' ⟨rfl, rfl⟩))
  exact bodyPost_ret (v := .tuple #[.slice none 0 0, .int .i64 2]) (by simp [results, Try.results23, go_sem]) rfl ⟨rfl, rfl⟩
set_option maxRecDepth 100000 in
set_option maxHeartbeats 1000000 in
theorem implRingsOf_many (r d : Int) (w : World) (g : inB r 0 100000 = true) (j : inB d 1 100000 = true) (k : 60 < manyN r d) :
    Calls Try.prog 23 #[.int .i64 r, .int .i64 d] w fun e w' => e = .returned (.tuple #[.slice none 0 0, .int .i64 5]) ∧ w = w' := by
  obtain ⟨r1, r2⟩ := inB_of g
  obtain ⟨d1, d2⟩ := inB_of j
  have kd : decide (60 < manyN r d) = true := by simpa using k
  clear k
  go_enter Try.func23, Try.ntmps23
  go_wp2_with (first | (go_at_call 69; refine (isRadius_any _ _).mono ?_; rw [g]; rintro e w' ⟨rfl, rfl⟩) | (go_at_call 70; refine (isWidth_any _ _).mono ?_; rw [j]; rintro e w' ⟨rfl, rfl⟩) | (go_at_call 71; refine (manyRings_any _ _ _ r1 r2 d1 d2).mono ?_; rw [kd]; rintro e w' ⟨rfl, rfl⟩))
  exact bodyPost_ret (v := .tuple #[.slice none 0 0, .int .i64 5]) (by simp [results, Try.results23, go_sem]) rfl ⟨rfl, rfl⟩
set_option maxRecDepth 100000 in
set_option maxHeartbeats 1000000 in
theorem implRingsOf_yes (r d : Int) (w : World) (g : inB r 0 100000 = true) (j : inB d 1 100000 = true) (k : ¬ 60 < manyN r d) :
    Calls Try.prog 23 #[.int .i64 r, .int .i64 d] w fun e w' => ∃ u, e = .returned (.tuple #[u, .int .i64 0]) ∧ IRow w' w.heap.size u (ringsL r d) ∧ Below w.heap.size w w' := by
  obtain ⟨r1, r2⟩ := inB_of g
  obtain ⟨d1, d2⟩ := inB_of j
  have hc := Lib.hid (show codeN r d = 0 by rw [codeN_in g j, if_neg k])
  have kd : decide (60 < manyN r d) = false := by simpa using k
  clear k
  go_enter Try.func23, Try.ntmps23
  go_wp2_with (first | (go_at_call 69; refine (isRadius_any _ _).mono ?_; rw [g]; rintro e w' ⟨rfl, rfl⟩) | (go_at_call 70; refine (isWidth_any _ _).mono ?_; rw [j]; rintro e w' ⟨rfl, rfl⟩) | (go_at_call 71; refine (manyRings_any _ _ _ r1 r2 d1 d2).mono ?_; rw [kd]; rintro e w' ⟨rfl, rfl⟩) | (go_at_call 73; refine (outerRadii_any _ _ _).mono ?_; rintro e w1 ⟨rfl, z1, c1, c2, hb1⟩; have B1 := Lib.hid hb1; clear hb1) | (go_at_call 72; refine (collectRings_any r d w.heap.size (w.heap.size + 1) w1 hc.out (by omega) (by omega) c1 c2).mono ?_; rintro e w2 ⟨v, rfl, hr2, hb2⟩; have R2 := Lib.hid hr2; have B2 := Lib.hid (B1.out.trans (hb2.mono B1.out.size)); clear hb2 hr2))
  exact bodyPost_ret (v := .tuple #[v, .int .i64 0]) (by simp [results, Try.results23, go_sem]) rfl ⟨_, rfl, irow_up R2.out B1.out.size, B2.out⟩
theorem implRingsOf_any (r d : Int) (w : World) :
    Calls Try.prog 23 #[.int .i64 r, .int .i64 d] w fun e w' => ∃ u, e = .returned (.tuple #[u, .int .i64 (codeN r d)]) ∧ IRow w' w.heap.size u (ringsV r d) ∧ Below w.heap.size w w' := by
  cases g : inB r 0 100000 with
  | false =>
    have hc : codeN r d = 2 := by simp [codeN, g]
    rw [ringsV_bad (by omega), hc]
    exact (implRingsOf_f r d w g).mono fun _ _ ⟨h1, h2⟩ => ⟨_, h1, irow_nil _ _, h2 ▸ Below.refl _ _⟩
  | true =>
    cases j : inB d 1 100000 with
    | false =>
      have hc : codeN r d = 2 := by simp [codeN, g, j]
      rw [ringsV_bad (by omega), hc]
      exact (implRingsOf_tf r d w g j).mono fun _ _ ⟨h1, h2⟩ => ⟨_, h1, irow_nil _ _, h2 ▸ Below.refl _ _⟩
    | true =>
      by_cases k : 60 < manyN r d
      · have hc : codeN r d = 5 := by rw [codeN_in g j, if_pos k]
        rw [ringsV_bad (by omega), hc]
        exact (implRingsOf_many r d w g j k).mono fun _ _ ⟨h1, h2⟩ => ⟨_, h1, irow_nil _ _, h2 ▸ Below.refl _ _⟩
      · have hc : codeN r d = 0 := by rw [codeN_in g j, if_neg k]
        rw [show ringsV r d = ringsL r d by simp [ringsV, hc], hc]
        exact implRingsOf_yes r d w g j k

end Go.Proofs.Ytiemealkdgnhcaa.sines
