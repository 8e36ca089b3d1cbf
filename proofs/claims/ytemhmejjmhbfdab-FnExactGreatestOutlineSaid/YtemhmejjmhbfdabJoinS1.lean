/- The model's closed chains and areas: contracts. -/
import Derived.Test.YtemhmejjmhbfdabJoinM
import Derived.Test.YtemhmejjmhbfdabChainS3
namespace Go.Proofs.Ytemhmejjmhbfdab.sines
open Go.ChangeShapes Go.WideShapes Go.ChangeAt Go.RowKit Go.Proofs.Ytemhmejjmhbfdab.spots Go.Proofs.Ytemhmejjmhbfdab.irows Go.Proofs.Ytemhmejjmhbfdab.pairsPlace
set_option linter.unusedSimpArgs false
set_option linter.unusedVariables false

/-- The first and the last place of a list, as they are read. -/
theorem ends_at {ps : List Pl} {w : World} {B : Nat} {v : Value} (h : PAt w B v ps) (h0 : 0 < ps.length) : ∃ b off c, v = .slice (some ⟨b, off, none⟩) ps.length c ∧ b < B ∧
    w.cell? ⟨b, off, none⟩ = some (.int .i64 (pAt ps 0).1) ∧ w.cell? ⟨b, off + 1, none⟩ = some (.int .i64 (pAt ps 0).2) ∧
    w.cell? ⟨b, off + (ps.length - 1) * 2, none⟩ = some (.int .i64 (lastP ps).1) ∧ w.cell? ⟨b, off + (ps.length - 1) * 2 + 1, none⟩ = some (.int .i64 (lastP ps).2) := by
  obtain ⟨a, c, rfl, h⟩ := h
  obtain ⟨b, off, rfl, hb, c1, c2⟩ := h 0 h0
  obtain ⟨b', off', e, _, d1, d2⟩ := h (ps.length - 1) (by omega)
  simp only [Option.some.injEq, Addr.mk.injEq, and_true] at e
  obtain ⟨rfl, rfl⟩ := e
  rw [pat_of h0] at c1 c2
  rw [pat_of (by omega)] at d1 d2
  exact ⟨b, off, c, rfl, hb, by simpa using c1, by simpa using c2, d1, d2⟩
theorem eqlP (a b c d : Int) (w : World) : (binOp .eql 120 (.agg #[.int .i64 a, .int .i64 b]) (.agg #[.int .i64 c, .int .i64 d])).run Try.prog w = .ok (.bool (decide (a = c ∧ b = d))) w := by
  by_cases h1 : a = c
  · by_cases h2 : b = d
    · subst h1 h2; simp [go_sem, binOp, Op.equal, Op.maxDepth]
    · subst h1; simp [go_sem, binOp, Op.equal, Op.maxDepth, h2]
  · simp [go_sem, binOp, Op.equal, Op.maxDepth, h1]
set_option maxRecDepth 100000 in
set_option maxHeartbeats 1000000 in
theorem l10Closed_any (v : Value) (ps : List (Int × Int)) (w : World) (hv : PAt w w.heap.size v ps) (hl : ps.length ≤ 1048576) :
    Calls Try.prog 71 #[v] w fun e w' => e = .returned (.bool (closedB ps)) ∧ Below w.heap.size w w' := by
  by_cases h4 : 4 ≤ ps.length
  · obtain ⟨bb, off, c, rfl, hbs, c1, c2, d1, d2⟩ := ends_at hv (by omega)
    rw [closedB_eq h4]
    clear hv
    obtain ⟨n, hn⟩ : ∃ n : Nat, Hid (ps.length = n) := ⟨_, Lib.hid rfl⟩
    obtain ⟨z, hz⟩ : ∃ z : Nat, Hid (ps.length - 1 = z) := ⟨_, Lib.hid rfl⟩
    have hnz : n = z + 1 := by have := hn.out; have := hz.out; omega
    have h4z : 3 ≤ z := by have := hz.out; omega
    have hlz : z ≤ 1048576 := by have := hz.out; omega
    rw [hz.out] at d1 d2
    rw [hn.out, hnz]
    clear h4 hl
    have e1 : ((z + 1 : Nat) : Int) - 1 = (z : Int) := by omega
    have e2 : ((z : Int) + 1) - 1 = (z : Int) := by omega
    have e4 : (4 : Int) ≤ ((z + 1 : Nat) : Int) := by omega
    have e4' : (4 : Int) ≤ (z : Int) + 1 := by omega
    have kz : IntKind.i64.wrap (z : Int) = (z : Int) := IntWalk.i64_in _ (by omega)
    have z0 : 0 ≤ (z : Int) := by omega
    have z1 : (z : Int) < ((z + 1 : Nat) : Int) := by omega
    have z1' : (z : Int) < (z : Int) + 1 := by omega
    have p0 : (0 : Int) < ((z + 1 : Nat) : Int) := by omega
    have p0' : (0 : Int) < (z : Int) + 1 := by omega
    have eB : decide (pAt ps 0 = lastP ps) = (decide ((pAt ps 0).1 = (lastP ps).1) && decide ((pAt ps 0).2 = (lastP ps).2)) := by
      by_cases h1 : pAt ps 0 = lastP ps
      · rw [h1]; simp
      · by_cases h2 : (pAt ps 0).1 = (lastP ps).1 ∧ (pAt ps 0).2 = (lastP ps).2
        · exact absurd (Prod.ext h2.1 h2.2) h1
        · rw [decide_eq_false h1]
          by_cases h3 : (pAt ps 0).1 = (lastP ps).1
          · have h4 : ¬ (pAt ps 0).2 = (lastP ps).2 := fun k => h2 ⟨h3, k⟩
            simp [h3, h4]
          · simp [h3]
    rw [eB]
    clear eB hn hz hnz
    generalize (pAt ps 0).1 = x1 at c1 ⊢
    generalize (pAt ps 0).2 = x2 at c2 ⊢
    generalize (lastP ps).1 = y1 at d1 ⊢
    generalize (lastP ps).2 = y2 at d2 ⊢
    by_cases h1 : x1 = y1
    · by_cases h2 : x2 = y2
      · subst h1 h2
        go_enter Try.func71, Try.ntmps71
        go_wp2
        all_goals (try (go_quiet (fail); go_wp2))
        all_goals
          go_ret
          exact ⟨retB (by simp), (by first | exact Below.refl _ _ | exact bdP (Below.refl _ _) _)⟩
      · subst h1
        go_enter Try.func71, Try.ntmps71
        go_wp2
        all_goals (try (go_quiet (fail); go_wp2))
        all_goals
          go_ret
          exact ⟨retB (by simp [h2]), (by first | exact Below.refl _ _ | exact bdP (Below.refl _ _) _)⟩
    · go_enter Try.func71, Try.ntmps71
      go_wp2
      all_goals (try (go_quiet (fail); go_wp2))
      all_goals
        go_ret
        exact ⟨retB (by simp [h1]), (by first | exact Below.refl _ _ | exact bdP (Below.refl _ _) _)⟩
  · obtain ⟨ar, c, rfl, hcl⟩ := hv
    rw [closedB_no h4]
    have h4i : ¬ 4 ≤ (ps.length : Int) := by omega
    have h4d : decide (4 ≤ (ps.length : Int)) = false := by simp; omega
    go_enter Try.func71, Try.ntmps71
    go_wp2
    all_goals (try (go_quiet (fail); go_wp2))
    all_goals
      go_ret
      exact ⟨rfl, (by first | exact Below.refl _ _ | exact bdP (Below.refl _ _) _)⟩
set_option maxRecDepth 100000 in
set_option maxHeartbeats 2000000 in
theorem l10Area_any (v : Value) (ps : List (Int × Int)) (w : World) (hv : PAt w w.heap.size v ps) (hok : okC ps = true) :
    Calls Try.prog 73 #[v] w fun e w' => e = .returned (.int .i64 (areaI ps)) ∧ Below w.heap.size w w' := by
  obtain ⟨q1, q2, q3⟩ := okC_of hok
  obtain ⟨bb, off, c, rfl, hbs, _, _, _, _⟩ := ends_at hv (by omega)
  have HCL := Lib.hid (show ∀ k, k < ps.length → w.cell? ⟨bb, off + k * 2, none⟩ = some (.int .i64 (pAt ps k).1) ∧ w.cell? ⟨bb, off + k * 2 + 1, none⟩ = some (.int .i64 (pAt ps k).2) from fun k hk => by
    obtain ⟨a, c', e, h⟩ := hv
    injection e with e1 e2 e3
    subst e1
    obtain ⟨b', o', e, _, h1, h2⟩ := h k hk
    simp only [Option.some.injEq, Addr.mk.injEq, and_true] at e
    obtain ⟨rfl, rfl⟩ := e
    rw [pat_of hk] at h1 h2
    exact ⟨h1, h2⟩)
  have HO := Lib.hid q3
  have AB := Lib.hid (areaN_bounds q3)
  clear hv q3
  have hl2 : (ps.length : Int) ≤ 24 := by omega
  have hl3 : 2 ≤ (ps.length : Int) := by omega
  go_enter Try.func73, Try.ntmps73
  go_wp2
  go_loopw [3, 4] (fun s i wr => ∃ k q : Nat, k + 1 ≤ ps.length ∧ i = .int .i64 ((k : Int) + 1) ∧ s = .int .i64 (areaN ps k) ∧ wr = w.drewN q) (fun _ i _ => ps.length - (intOf i).toNat)
  case atStart => exact ⟨0, 0, by omega, rfl, rfl, rfl⟩
  case round =>
    obtain ⟨k, q, hk, rfl, rfl, rfl⟩ := hrel
    obtain ⟨b1, b2⟩ := AB.out k (by omega)
    by_cases hlt : k + 1 < ps.length
    · obtain ⟨c1, c2⟩ := HCL.out k (by omega)
      obtain ⟨d1, d2⟩ := HCL.out (k + 1) hlt
      obtain ⟨n1, n2, n3, n4, n5, n6⟩ := edgeA_bounds (HO.out k (by omega)) (HO.out (k + 1) hlt)
      have ES := Lib.hid (show areaN ps (k + 1) = areaN ps k + edgeA (pAt ps k) (pAt ps (k + 1)) from rfl)
      have hk0 : 0 ≤ (k : Int) := by omega
      have hk1 : (k : Int) < (ps.length : Int) := by omega
      have hk2 : (k : Int) + 1 < (ps.length : Int) := by omega
      have hk3 : 0 ≤ (k : Int) + 1 := by omega
      have km : IntKind.i64.wrap ((k : Int) + 1 - 1) = (k : Int) := by rw [show (k : Int) + 1 - 1 = (k : Int) by omega]; exact IntWalk.i64_in _ (by omega)
      have kk : IntKind.i64.wrap (k : Int) = (k : Int) := IntWalk.i64_in _ (by omega)
      have kp : IntKind.i64.wrap ((k : Int) + 1 + 1) = (k : Int) + 1 + 1 := IntWalk.i64_in _ (by omega)
      have tn : ((k : Int) + 1).toNat = k + 1 := by omega
      unfold edgeA at n1 n2 ES
      generalize areaN ps k = S at b1 b2 ES ⊢
      generalize (pAt ps k).1 = x1 at c1 n1 n2 n3 n4 n5 n6 ES
      generalize (pAt ps k).2 = x2 at c2 n1 n2 n3 n4 n5 n6 ES
      generalize (pAt ps (k + 1)).1 = y1 at d1 n1 n2 n3 n4 n5 n6 ES
      generalize (pAt ps (k + 1)).2 = y2 at d2 n1 n2 n3 n4 n5 n6 ES
      have m1 : IntKind.i64.wrap (x1 * y2) = x1 * y2 := IntWalk.i64_in _ (by omega)
      have m2 : IntKind.i64.wrap (y1 * x2) = y1 * x2 := IntWalk.i64_in _ (by omega)
      have m3 : IntKind.i64.wrap (x1 * y2 - y1 * x2) = x1 * y2 - y1 * x2 := IntWalk.i64_in _ (by omega)
      have m4 : IntKind.i64.wrap (S + (x1 * y2 - y1 * x2)) = S + (x1 * y2 - y1 * x2) := IntWalk.i64_in _ (by omega)
      clear n1 n2 n3 n4 n5 n6 b1 b2
      go_wp2
      all_goals (try (go_quiet (fail); go_wp2))
      all_goals
        go_roundw
        case rel => exact ⟨k + 1, _, by omega, by go_num, by rw [ES.out], rfl⟩
        case measure => simp [intOf]; omega
    · have EA := Lib.hid (show areaN ps k = areaI ps by unfold areaI; rw [show ps.length - 1 = k by omega])
      have hk2 : ¬ (k : Int) + 1 < (ps.length : Int) := by omega
      go_wp2
      go_ret
      exact ⟨retI EA.out, bdP (Below.refl _ _) _⟩
end Go.Proofs.Ytemhmejjmhbfdab.sines
