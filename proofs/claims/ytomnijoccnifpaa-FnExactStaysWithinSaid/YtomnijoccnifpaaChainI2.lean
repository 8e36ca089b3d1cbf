/- The program's chains: equality, sides, squares. -/
import Derived.Test.YtomnijoccnifpaaChainI1
namespace Go.Proofs.Ytomnijoccnifpaa.sines
open Go.ChangeShapes Go.WideShapes Go.ChangeAt Go.RowKit Go.Proofs.Ytomnijoccnifpaa.spots Go.Proofs.Ytomnijoccnifpaa.irows Go.Proofs.Ytomnijoccnifpaa.pairsPlace
set_option linter.unusedSimpArgs false
set_option linter.unusedVariables false

set_option maxRecDepth 100000 in
set_option maxHeartbeats 1000000 in
theorem equalP_any (v u : Value) (ps qs : List (Int × Int)) (w : World) (hv : PAt w w.heap.size v ps) (hu : PAt w w.heap.size u qs) (hl : ps.length ≤ 1048576) (hm : qs.length ≤ 1048576) :
    Calls Try.prog 46 #[v, u] w fun e w' => e = .returned (.bool (decide (ps = qs))) ∧ Below w.heap.size w w' := by
  obtain ⟨ar, c, rfl, hcl⟩ := hv
  obtain ⟨br, c2, rfl, hdl⟩ := hu
  have HCL := Lib.hid hcl
  have HDL := Lib.hid hdl
  clear hcl hdl
  have hl2 : (ps.length : Int) ≤ 1048576 := by omega
  have hm2 : (qs.length : Int) ≤ 1048576 := by omega
  obtain ⟨R, hR⟩ : ∃ R, Hid (decide (ps = qs) = R) := ⟨_, Lib.hid rfl⟩
  rw [hR.out]
  by_cases hne : ps.length = qs.length
  · have hne2 : (ps.length : Int) = (qs.length : Int) := by omega
    have hb : ((ps.length : Int) == (qs.length : Int)) = true := by simp [hne]
    have hb2 : ((ps.length : Int) != (qs.length : Int)) = false := by simp [hne]
    go_enter Try.func46, Try.ntmps46
    go_wp2
    go_loopw [13] (fun i wr => ∃ k q : Nat, k ≤ ps.length ∧ i = .int .i64 (k : Int) ∧ (∀ j, j < k → pAt ps j = pAt qs j) ∧ wr = w.drewN q) (fun i _ => ps.length - (intOf i).toNat)
    case atStart => exact ⟨0, 0, Nat.zero_le _, rfl, fun j h => by omega, rfl⟩
    case round =>
      obtain ⟨k, q, hk, rfl, ha, rfl⟩ := hrel
      have HA := Lib.hid ha
      clear ha hb hb2
      by_cases hlt : k < ps.length
      · obtain ⟨b, off, rfl, hbs, c1, c2⟩ := HCL.out k hlt
        obtain ⟨b2, off2, rfl, hbs2, d1, d2⟩ := HDL.out k (by omega)
        rw [pat_of hlt] at c1 c2
        rw [pat_of (by omega)] at d1 d2
        have hk0 : 0 ≤ (k : Int) := by omega
        have hk1 : (k : Int) < (ps.length : Int) := by omega
        have hk2 : (k : Int) < (qs.length : Int) := by omega
        have NO := Lib.hid (show ((pAt ps k).1, (pAt ps k).2) ≠ ((pAt qs k).1, (pAt qs k).2) → R = false from fun h => by
          rw [← hR.out]
          cases e : decide (ps = qs) with
          | false => rfl
          | true => simp only [decide_eq_true_eq] at e; subst e; exact absurd rfl h)
        have YES := Lib.hid (show ((pAt ps k).1, (pAt ps k).2) = ((pAt qs k).1, (pAt qs k).2) → ∀ j, j < k + 1 → pAt ps j = pAt qs j from fun h j hj => by
          by_cases e : j = k
          · subst e; exact h
          · exact HA.out j (by omega))
        generalize (pAt ps k).1 = x1 at c1 NO YES
        generalize (pAt ps k).2 = x2 at c2 NO YES
        generalize (pAt qs k).1 = y1 at d1 NO YES
        generalize (pAt qs k).2 = y2 at d2 NO YES
        by_cases h1 : x1 = y1
        · by_cases h2 : x2 = y2
          · have Y := Lib.hid (YES.out (by rw [h1, h2]))
            subst h1 h2
            clear YES NO
            go_wp2
            all_goals (try (go_quiet (fail); go_wp2))
            all_goals
              go_roundw
              case rel => exact ⟨k + 1, _, by omega, by go_num, Y.out, rfl⟩
              case measure => simp [intOf]; omega
          · obtain rfl := NO.out (fun e => h2 (by simpa using (Prod.mk.inj e).2))
            subst h1
            clear YES NO
            go_wp2
            all_goals (try (go_quiet (fail); go_wp2))
            all_goals
              go_ret
              exact ⟨rfl, (by first | exact bdP (bdP (Below.refl _ _) _) _ | exact bdP (Below.refl _ _) _)⟩
        · obtain rfl := NO.out (fun e => h1 (by simpa using (Prod.mk.inj e).1))
          clear YES NO
          go_wp2
          all_goals (try (go_quiet (fail); go_wp2))
          all_goals
            go_ret
            exact ⟨rfl, (by first | exact bdP (bdP (Below.refl _ _) _) _ | exact bdP (Below.refl _ _) _)⟩
      · obtain rfl : k = ps.length := by omega
        have RT : R = true := by rw [← hR.out]; exact decide_eq_true (pat_ext hne HA.out)
        subst RT
        go_wp2
        go_ret
        exact ⟨rfl, bdP (Below.refl _ _) _⟩
  · have RF : R = false := by rw [← hR.out]; exact decide_eq_false (fun e => hne (by rw [e]))
    subst RF
    have hb : ((ps.length : Int) == (qs.length : Int)) = false := by simp; omega
    have hb2 : ((ps.length : Int) != (qs.length : Int)) = true := by simp; omega
    have hne2 : ¬ (ps.length : Int) = (qs.length : Int) := by omega
    go_enter Try.func46, Try.ntmps46
    go_wp2
    go_ret
    exact ⟨rfl, Below.refl _ _⟩
theorem implSameChain_any (v u : Value) (ps qs : List (Int × Int)) (w : World) (hv : PAt w w.heap.size v ps) (hu : PAt w w.heap.size u qs) (hl : ps.length ≤ 1048576) (hm : qs.length ≤ 1048576) :
    Calls Try.prog 22 #[v, u] w fun e w' => e = .returned (.bool (decide (ps = qs))) ∧ Below w.heap.size w w' := by
  have HV := Lib.hid hv
  have HU := Lib.hid hu
  obtain ⟨ar, c, rfl, _⟩ := hv
  obtain ⟨br, c2, rfl, _⟩ := hu
  go_enter Try.func22, Try.ntmps22
  go_wp2_with fail
  refine (equalP_any _ _ ps qs _ HV.out HU.out hl hm).mono ?_
  rintro e w1 ⟨rfl, hb⟩
  go_wp2
  go_ret
  exact ⟨rfl, hb⟩
set_option maxHeartbeats 1000000 in
theorem sideOf_any (a1 a2 b1 b2 p1 p2 : Int) (w : World) (ha : okP (a1, a2) = true) (hb : okP (b1, b2) = true) (hp : okP (p1, p2) = true) :
    Calls Try.prog 40 #[.agg #[.int .i64 a1, .int .i64 a2], .agg #[.int .i64 b1, .int .i64 b2], .agg #[.int .i64 p1, .int .i64 p2]] w fun e w' => e = .returned (.int .i64 (crossI (a1, a2) (b1, b2) (p1, p2))) ∧ Below w.heap.size w w' := by
  obtain ⟨x1, x2, x3, x4⟩ := okP_of ha
  obtain ⟨y1, y2, y3, y4⟩ := okP_of hb
  obtain ⟨z1, z2, z3, z4⟩ := okP_of hp
  simp only at x1 x2 x3 x4 y1 y2 y3 y4 z1 z2 z3 z4
  obtain ⟨c1, c2⟩ := mul_bound (x := b1 - a1) (y := p2 - a2) (by omega) (by omega) (by omega) (by omega)
  obtain ⟨d1, d2⟩ := mul_bound (x := b2 - a2) (y := p1 - a1) (by omega) (by omega) (by omega) (by omega)
  have k1 : IntKind.i64.wrap (b1 - a1) = b1 - a1 := IntWalk.i64_in _ (by omega)
  have k2 : IntKind.i64.wrap (p2 - a2) = p2 - a2 := IntWalk.i64_in _ (by omega)
  have k3 : IntKind.i64.wrap (b2 - a2) = b2 - a2 := IntWalk.i64_in _ (by omega)
  have k4 : IntKind.i64.wrap (p1 - a1) = p1 - a1 := IntWalk.i64_in _ (by omega)
  have k5 : IntKind.i64.wrap ((b1 - a1) * (p2 - a2)) = (b1 - a1) * (p2 - a2) := IntWalk.i64_in _ (by omega)
  have k6 : IntKind.i64.wrap ((b2 - a2) * (p1 - a1)) = (b2 - a2) * (p1 - a1) := IntWalk.i64_in _ (by omega)
  have k7 : IntKind.i64.wrap ((b1 - a1) * (p2 - a2) - (b2 - a2) * (p1 - a1)) = (b1 - a1) * (p2 - a2) - (b2 - a2) * (p1 - a1) := IntWalk.i64_in _ (by omega)
  go_enter Try.func40, Try.ntmps40
  go_wp2
  go_ret
  exact ⟨rfl, (((Below.refl _ _).alloc (Nat.le_refl _) _).alloc (by simp) _).alloc (by simp; omega) _⟩
set_option maxHeartbeats 1000000 in
theorem squareBetween_any (a1 a2 b1 b2 : Int) (w : World) (ha : okP (a1, a2) = true) (hb : okP (b1, b2) = true) :
    Calls Try.prog 38 #[.agg #[.int .i64 a1, .int .i64 a2], .agg #[.int .i64 b1, .int .i64 b2]] w fun e w' => e = .returned (.int .i64 (farI (a1, a2) (b1, b2))) ∧ Below w.heap.size w w' := by
  obtain ⟨x1, x2, x3, x4⟩ := okP_of ha
  obtain ⟨y1, y2, y3, y4⟩ := okP_of hb
  simp only at x1 x2 x3 x4 y1 y2 y3 y4
  obtain ⟨c1, c2⟩ := sq_bound (x := b1 - a1) (by omega) (by omega)
  obtain ⟨d1, d2⟩ := sq_bound (x := b2 - a2) (by omega) (by omega)
  have k1 : IntKind.i64.wrap (b1 - a1) = b1 - a1 := IntWalk.i64_in _ (by omega)
  have k3 : IntKind.i64.wrap (b2 - a2) = b2 - a2 := IntWalk.i64_in _ (by omega)
  have k5 : IntKind.i64.wrap ((b1 - a1) * (b1 - a1)) = (b1 - a1) * (b1 - a1) := IntWalk.i64_in _ (by omega)
  have k6 : IntKind.i64.wrap ((b2 - a2) * (b2 - a2)) = (b2 - a2) * (b2 - a2) := IntWalk.i64_in _ (by omega)
  have k7 : IntKind.i64.wrap ((b1 - a1) * (b1 - a1) + (b2 - a2) * (b2 - a2)) = (b1 - a1) * (b1 - a1) + (b2 - a2) * (b2 - a2) := IntWalk.i64_in _ (by omega)
  go_enter Try.func38, Try.ntmps38
  go_wp2
  go_quiet (fail)
  go_wp2
  go_ret
  exact ⟨rfl, bdP (((Below.refl _ _).alloc (Nat.le_refl _) _).alloc (by simp) _) _⟩
theorem sideOf_rel (a1 a2 b1 b2 p1 p2 : Int) (W0 w : World) (hw : Below W0.heap.size W0 w) (ha : okP (a1, a2) = true) (hb : okP (b1, b2) = true) (hp : okP (p1, p2) = true) :
    Calls Try.prog 40 #[.agg #[.int .i64 a1, .int .i64 a2], .agg #[.int .i64 b1, .int .i64 b2], .agg #[.int .i64 p1, .int .i64 p2]] w fun e w' => e = .returned (.int .i64 (crossI (a1, a2) (b1, b2) (p1, p2))) ∧ Below W0.heap.size W0 w' :=
  (sideOf_any a1 a2 b1 b2 p1 p2 w ha hb hp).mono fun _ _ ⟨h1, k⟩ => ⟨h1, hw.trans (k.mono hw.size)⟩
theorem squareBetween_rel (a1 a2 b1 b2 : Int) (W0 w : World) (hw : Below W0.heap.size W0 w) (ha : okP (a1, a2) = true) (hb : okP (b1, b2) = true) :
    Calls Try.prog 38 #[.agg #[.int .i64 a1, .int .i64 a2], .agg #[.int .i64 b1, .int .i64 b2]] w fun e w' => e = .returned (.int .i64 (farI (a1, a2) (b1, b2))) ∧ Below W0.heap.size W0 w' :=
  (squareBetween_any a1 a2 b1 b2 w ha hb).mono fun _ _ ⟨h1, k⟩ => ⟨h1, hw.trans (k.mono hw.size)⟩
end Go.Proofs.Ytomnijoccnifpaa.sines
