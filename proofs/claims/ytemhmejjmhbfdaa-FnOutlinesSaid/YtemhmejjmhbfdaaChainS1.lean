/- The model's small functions of chains: contracts. -/
import Derived.Test.YtemhmejjmhbfdaaChain2
import Derived.Test.YtemhmejjmhbfdaaPairsPlace
import Derived.Deep.RegionHeld3
namespace Go.Proofs.Ytemhmejjmhbfdaa.sines
open Go.ChangeShapes Go.WideShapes Go.ChangeAt Go.RowKit Go.Proofs.Ytemhmejjmhbfdaa.spots Go.Proofs.Ytemhmejjmhbfdaa.irows Go.Proofs.Ytemhmejjmhbfdaa.pairsPlace
set_option linter.unusedSimpArgs false
set_option linter.unusedVariables false

theorem bdP {B : Nat} {a w : World} (h : Below B a w) (q : Nat) : Below B a (w.drewN q) := ⟨h.os, h.tape, h.output, h.size, h.block⟩
theorem retB {a b : Bool} (h : a = b) : Ending.returned (.bool a) = .returned (.bool b) := by rw [h]
theorem retI {a b : Int} (h : a = b) : Ending.returned (.int .i64 a) = .returned (.int .i64 b) := by rw [h]
set_option maxHeartbeats 1000000 in
theorem l07Cross_any (a1 a2 b1 b2 p1 p2 : Int) (w : World) (ha : okP (a1, a2) = true) (hb : okP (b1, b2) = true) (hp : okP (p1, p2) = true) :
    Calls Try.prog 183 #[.agg #[.int .i64 a1, .int .i64 a2], .agg #[.int .i64 b1, .int .i64 b2], .agg #[.int .i64 p1, .int .i64 p2]] w fun e w' => e = .returned (.int .i64 (crossI (a1, a2) (b1, b2) (p1, p2))) ∧ Below w.heap.size w w' := by
  obtain ⟨x1, x2, x3, x4⟩ := okP_of ha
  obtain ⟨y1, y2, y3, y4⟩ := okP_of hb
  obtain ⟨z1, z2, z3, z4⟩ := okP_of hp
  simp only at x1 x2 x3 x4 y1 y2 y3 y4 z1 z2 z3 z4
  obtain ⟨c1, c2⟩ := mul_bound (x := b1 - a1) (y := p2 - a2) (by omega) (by omega) (by omega) (by omega)
  obtain ⟨d1, d2⟩ := mul_bound (x := b2 - a2) (y := p1 - a1) (by omega) (by omega) (by omega) (by omega)
  have k1 : IntKind.i64.wrap (b1 - a1) = b1 - a1 := IntWalk.i64_in _ (by omega)
  have k2 : IntKind.i64.wrap (p2 - a2) = p2 - a2 := IntWalk.i64_in _ (by omega)
  have k3 : IntKind.i64.wrap (b2 - a2) = b2 - a2 := IntWalk.i64_in _ (by omega)
  have k4 : IntKind.i64.wrap (p1 - a1) = p1 - a1 := IntWalk.i64_in _ (by omega)
  have k5 : IntKind.i64.wrap ((b1 - a1) * (p2 - a2)) = (b1 - a1) * (p2 - a2) := IntWalk.i64_in _ (by omega)
  have k6 : IntKind.i64.wrap ((b2 - a2) * (p1 - a1)) = (b2 - a2) * (p1 - a1) := IntWalk.i64_in _ (by omega)
  have k7 : IntKind.i64.wrap ((b1 - a1) * (p2 - a2) - (b2 - a2) * (p1 - a1)) = (b1 - a1) * (p2 - a2) - (b2 - a2) * (p1 - a1) := IntWalk.i64_in _ (by omega)
  go_enter Try.func183, Try.ntmps183
  go_wp2
  go_ret
  exact ⟨rfl, (((Below.refl _ _).alloc (Nat.le_refl _) _).alloc (by simp) _).alloc (by simp; omega) _⟩
set_option maxHeartbeats 1000000 in
theorem l07Far_any (a1 a2 b1 b2 : Int) (w : World) (ha : okP (a1, a2) = true) (hb : okP (b1, b2) = true) :
    Calls Try.prog 182 #[.agg #[.int .i64 a1, .int .i64 a2], .agg #[.int .i64 b1, .int .i64 b2]] w fun e w' => e = .returned (.int .i64 (farI (a1, a2) (b1, b2))) ∧ Below w.heap.size w w' := by
  obtain ⟨x1, x2, x3, x4⟩ := okP_of ha
  obtain ⟨y1, y2, y3, y4⟩ := okP_of hb
  simp only at x1 x2 x3 x4 y1 y2 y3 y4
  obtain ⟨c1, c2⟩ := sq_bound (x := b1 - a1) (by omega) (by omega)
  obtain ⟨d1, d2⟩ := sq_bound (x := b2 - a2) (by omega) (by omega)
  have k1 : IntKind.i64.wrap (b1 - a1) = b1 - a1 := IntWalk.i64_in _ (by omega)
  have k3 : IntKind.i64.wrap (b2 - a2) = b2 - a2 := IntWalk.i64_in _ (by omega)
  have k5 : IntKind.i64.wrap ((b1 - a1) * (b1 - a1)) = (b1 - a1) * (b1 - a1) := IntWalk.i64_in _ (by omega)
  have k6 : IntKind.i64.wrap ((b2 - a2) * (b2 - a2)) = (b2 - a2) * (b2 - a2) := IntWalk.i64_in _ (by omega)
  have k7 : IntKind.i64.wrap ((b1 - a1) * (b1 - a1) + (b2 - a2) * (b2 - a2)) = (b1 - a1) * (b1 - a1) + (b2 - a2) * (b2 - a2) := IntWalk.i64_in _ (by omega)
  go_enter Try.func182, Try.ntmps182
  go_wp2
  go_ret
  exact ⟨rfl, ((Below.refl _ _).alloc (Nat.le_refl _) _).alloc (by simp) _⟩
set_option maxRecDepth 100000 in
set_option maxHeartbeats 2000000 in
theorem l07Near_any (a1 a2 b1 b2 p1 p2 d : Int) (w : World) (ha : okP (a1, a2) = true) (hb : okP (b1, b2) = true) (hp : okP (p1, p2) = true) (d0 : 0 ≤ d) (d1 : d ≤ 3000) :
    Calls Try.prog 171 #[.agg #[.int .i64 a1, .int .i64 a2], .agg #[.int .i64 b1, .int .i64 b2], .agg #[.int .i64 p1, .int .i64 p2], .int .i64 d] w fun e w' => e = .returned (.bool (nearB (a1, a2) (b1, b2) (p1, p2) d)) ∧ Below w.heap.size w w' := by
  obtain ⟨s1, s2⟩ := boundSq d0 d1
  have k1 : IntKind.i64.wrap (d * d) = d * d := IntWalk.i64_in _ (by omega)
  have B0 : Below w.heap.size w (((w.alloc (.cells #[.int .i64 a1, .int .i64 a2] 60)).alloc (.cells #[.int .i64 b1, .int .i64 b2] 60)).alloc (.cells #[.int .i64 p1, .int .i64 p2] 60)) := (((Below.refl _ _).alloc (Nat.le_refl _) _).alloc (by simp) _).alloc (by simp; omega) _
  by_cases h : (a1, a2) = (b1, b2)
  · obtain ⟨rfl, rfl⟩ : a1 = b1 ∧ a2 = b2 := by simpa using h
    have FA := Lib.hid (fun w => l07Far_any a1 a2 p1 p2 w ha hp)
    have e : nearB (a1, a2) (a1, a2) (p1, p2) d = decide (farI (a1, a2) (p1, p2) ≤ d * d) := by unfold nearB; rw [if_pos rfl]
    rw [e]
    generalize farI (a1, a2) (p1, p2) = x at FA ⊢
    clear e h
    go_enter Try.func171, Try.ntmps171
    go_wp2_with (first | (go_at_call 182; refine (FA.out _).mono ?_; rintro e w1 ⟨rfl, hb1⟩))
    go_ret
    exact ⟨rfl, B0.trans (hb1.mono B0.size)⟩
  · have CR := Lib.hid (fun w => l07Cross_any a1 a2 b1 b2 p1 p2 w ha hb hp)
    have FA := Lib.hid (fun w => l07Far_any a1 a2 b1 b2 w ha hb)
    obtain ⟨c1, c2⟩ := crossSq_bounds ha hb hp
    obtain ⟨f1, f2⟩ := farI_bounds ha hb
    obtain ⟨g1, g2⟩ := boundFar d0 d1 f1 f2
    have e : nearB (a1, a2) (b1, b2) (p1, p2) d = decide (crossI (a1, a2) (b1, b2) (p1, p2) * crossI (a1, a2) (b1, b2) (p1, p2) ≤ d * d * farI (a1, a2) (b1, b2)) := by unfold nearB; rw [if_neg h]
    rw [e]
    generalize crossI (a1, a2) (b1, b2) (p1, p2) = x at CR c1 c2 ⊢
    generalize farI (a1, a2) (b1, b2) = y at FA f1 f2 g1 g2 ⊢
    have k2 : IntKind.i64.wrap (x * x) = x * x := IntWalk.i64_in _ (by omega)
    have k3 : IntKind.i64.wrap (d * d * y) = d * d * y := IntWalk.i64_in _ (by omega)
    have hne : ¬ (a1 = b1 ∧ a2 = b2) := fun k => h (by rw [k.1, k.2])
    have hz : w.heap.size + 1 + 1 < (((w.alloc (.cells #[.int .i64 a1, .int .i64 a2] 60)).alloc (.cells #[.int .i64 b1, .int .i64 b2] 60)).alloc (.cells #[.int .i64 p1, .int .i64 p2] 60)).heap.size := by simp
    have c0 : (((w.alloc (.cells #[.int .i64 a1, .int .i64 a2] 60)).alloc (.cells #[.int .i64 b1, .int .i64 b2] 60)).alloc (.cells #[.int .i64 p1, .int .i64 p2] 60)).cell? ⟨w.heap.size, 0, none⟩ = some (.int .i64 a1) := by rw [World.cell?_alloc_past _ _ _ (by simp; omega), World.cell?_alloc_past _ _ _ (by simp)]; simp
    have c1' : (((w.alloc (.cells #[.int .i64 a1, .int .i64 a2] 60)).alloc (.cells #[.int .i64 b1, .int .i64 b2] 60)).alloc (.cells #[.int .i64 p1, .int .i64 p2] 60)).cell? ⟨w.heap.size, 1, none⟩ = some (.int .i64 a2) := by rw [World.cell?_alloc_past _ _ _ (by simp; omega), World.cell?_alloc_past _ _ _ (by simp)]; simp
    have c2' : (((w.alloc (.cells #[.int .i64 a1, .int .i64 a2] 60)).alloc (.cells #[.int .i64 b1, .int .i64 b2] 60)).alloc (.cells #[.int .i64 p1, .int .i64 p2] 60)).cell? ⟨w.heap.size + 1, 0, none⟩ = some (.int .i64 b1) := by rw [World.cell?_alloc_past _ _ _ (by simp)]; rw [show w.heap.size + 1 = (w.alloc (.cells #[.int .i64 a1, .int .i64 a2] 60)).heap.size by simp]; simp
    have c3' : (((w.alloc (.cells #[.int .i64 a1, .int .i64 a2] 60)).alloc (.cells #[.int .i64 b1, .int .i64 b2] 60)).alloc (.cells #[.int .i64 p1, .int .i64 p2] 60)).cell? ⟨w.heap.size + 1, 1, none⟩ = some (.int .i64 b2) := by rw [World.cell?_alloc_past _ _ _ (by simp)]; rw [show w.heap.size + 1 = (w.alloc (.cells #[.int .i64 a1, .int .i64 a2] 60)).heap.size by simp]; simp
    clear e h g1 g2 c1 c2 f1 f2
    have HB0 := Lib.hid B0
    clear B0
    by_cases q1 : a1 = b1
    · have q2 : ¬ a2 = b2 := fun k => hne ⟨q1, k⟩
      subst q1
      go_enter Try.func171, Try.ntmps171
      go_wp2_with (first | (go_at_call 183; refine (CR.out _).mono ?_; rintro e w1 ⟨rfl, hb1⟩; have n0 := (hb1.cell (p := ⟨w.heap.size, 0, none⟩) (by simp; omega)).trans c0; have n1 := (hb1.cell (p := ⟨w.heap.size, 1, none⟩) (by simp; omega)).trans c1'; have n2 := (hb1.cell (p := ⟨w.heap.size + 1, 0, none⟩) (by simp)).trans c2'; have n3 := (hb1.cell (p := ⟨w.heap.size + 1, 1, none⟩) (by simp)).trans c3'; have HB1 := Lib.hid (HB0.out.trans (hb1.mono HB0.out.size)); clear hb1) | (go_at_call 182; refine (FA.out _).mono ?_; rintro e w2 ⟨rfl, hb2⟩; have HB2 := Lib.hid (HB1.out.trans (hb2.mono HB1.out.size)); clear hb2))
      go_ret
      exact ⟨rfl, HB2.out⟩
    · go_enter Try.func171, Try.ntmps171
      go_wp2_with (first | (go_at_call 183; refine (CR.out _).mono ?_; rintro e w1 ⟨rfl, hb1⟩; have n0 := (hb1.cell (p := ⟨w.heap.size, 0, none⟩) (by simp; omega)).trans c0; have n1 := (hb1.cell (p := ⟨w.heap.size, 1, none⟩) (by simp; omega)).trans c1'; have n2 := (hb1.cell (p := ⟨w.heap.size + 1, 0, none⟩) (by simp)).trans c2'; have n3 := (hb1.cell (p := ⟨w.heap.size + 1, 1, none⟩) (by simp)).trans c3'; have HB1 := Lib.hid (HB0.out.trans (hb1.mono HB0.out.size)); clear hb1) | (go_at_call 182; refine (FA.out _).mono ?_; rintro e w2 ⟨rfl, hb2⟩; have HB2 := Lib.hid (HB1.out.trans (hb2.mono HB1.out.size)); clear hb2))
      go_ret
      exact ⟨rfl, HB2.out⟩
theorem l07Near_rel (a1 a2 b1 b2 p1 p2 d : Int) (W0 w : World) (hw : Below W0.heap.size W0 w) (ha : okP (a1, a2) = true) (hb : okP (b1, b2) = true) (hp : okP (p1, p2) = true) (d0 : 0 ≤ d) (d1 : d ≤ 3000) :
    Calls Try.prog 171 #[.agg #[.int .i64 a1, .int .i64 a2], .agg #[.int .i64 b1, .int .i64 b2], .agg #[.int .i64 p1, .int .i64 p2], .int .i64 d] w fun e w' => e = .returned (.bool (nearB (a1, a2) (b1, b2) (p1, p2) d)) ∧ Below W0.heap.size W0 w' :=
  (l07Near_any a1 a2 b1 b2 p1 p2 d w ha hb hp d0 d1).mono fun _ _ ⟨h1, k⟩ => ⟨h1, hw.trans (k.mono hw.size)⟩
theorem pat_of {ps : List Pl} {k : Nat} (h : k < ps.length) : ps[k] = pAt ps k := (pAt_eq h).symm
set_option maxRecDepth 100000 in
set_option maxHeartbeats 2000000 in
theorem l07Within_any (v : Value) (ps : List (Int × Int)) (d : Int) (i k : Nat) (w : World) (hv : PAt w w.heap.size v ps) (hl : ps.length ≤ 24) (hik : i < k) (hk : k < ps.length) (ho : ∀ j, j < ps.length → okP (pAt ps j) = true) (d0 : 0 ≤ d) (d1 : d ≤ 3000) :
    Calls Try.prog 141 #[v, .int .i64 (i : Int), .int .i64 (k : Int), .int .i64 d] w fun e w' => e = .returned (.bool (withinB ps d i k)) ∧ Below w.heap.size w w' := by
  obtain ⟨ar, c, rfl, hcl⟩ := hv
  have HCL := Lib.hid hcl
  clear hcl
  have hi0 : 0 ≤ (i : Int) := by omega
  have hk0 : 0 ≤ (k : Int) := by omega
  have hi1 : (i : Int) < (ps.length : Int) := by omega
  have hk1 : (k : Int) < (ps.length : Int) := by omega
  have ki : IntKind.i64.wrap ((i : Int) + 1) = (i : Int) + 1 := IntWalk.i64_in _ (by omega)
  obtain ⟨R, hR⟩ : ∃ R, Hid (withinB ps d i k = R) := ⟨_, Lib.hid rfl⟩
  rw [hR.out]
  obtain ⟨bi, oi, ra, hbi, i1, i2⟩ := HCL.out i (by omega)
  obtain ⟨bk, ok, rk, hbk, k1, k2⟩ := HCL.out k hk
  subst ra
  simp only [Option.some.injEq, Addr.mk.injEq, and_true] at rk
  obtain ⟨rfl, rfl⟩ := rk
  have oki := ho i (by omega)
  have okk := ho k hk
  rw [pat_of (by omega)] at i1 i2 k1 k2
  have HO := Lib.hid ho
  clear ho
  go_enter Try.func141, Try.ntmps141
  go_wp2
  go_loopw [9] (fun x wr => ∃ j : Nat, i + 1 ≤ j ∧ j ≤ k ∧ x = .int .i64 (j : Int) ∧ (∀ m, i < m → m < j → nearB (pAt ps i) (pAt ps k) (pAt ps m) d = true) ∧ Below w.heap.size w wr) (fun x _ => k - (intOf x).toNat)
  case atStart => exact ⟨i + 1, Nat.le_refl _, hik, by go_num, fun m h1 h2 => by omega, Below.refl _ _⟩
  case round =>
    obtain ⟨j, hj1, hj2, rfl, hall, hb⟩ := hrel
    have HA := Lib.hid hall
    have HB := Lib.hid hb
    have hsz := hb.size
    by_cases hlt : j < k
    · obtain ⟨bj, oj, rj, hbj, j1, j2⟩ := HCL.out j (by omega)
      simp only [Option.some.injEq, Addr.mk.injEq, and_true] at rj
      obtain ⟨rfl, rfl⟩ := rj
      have okj := HO.out j (by omega)
      rw [pat_of (by omega)] at j1 j2
      have u1 := (hb.cell (p := ⟨bi, oi + i * 2, none⟩) hbi).trans i1
      have u2 := (hb.cell (p := ⟨bi, oi + i * 2 + 1, none⟩) hbi).trans i2
      have u3 := (hb.cell (p := ⟨bi, oi + k * 2, none⟩) hbi).trans k1
      have u4 := (hb.cell (p := ⟨bi, oi + k * 2 + 1, none⟩) hbi).trans k2
      have u5 := (hb.cell (p := ⟨bi, oi + j * 2, none⟩) hbi).trans j1
      have u6 := (hb.cell (p := ⟨bi, oi + j * 2 + 1, none⟩) hbi).trans j2
      have hbw : bi < wr.heap.size := by omega
      have hj0 : 0 ≤ (j : Int) := by omega
      have hj3 : (j : Int) < (ps.length : Int) := by omega
      have hjk : (j : Int) < (k : Int) := by omega
      have kj : IntKind.i64.wrap ((j : Int) + 1) = (j : Int) + 1 := IntWalk.i64_in _ (by omega)
      have NR := Lib.hid (fun W w hw => l07Near_rel (pAt ps i).1 (pAt ps i).2 (pAt ps k).1 (pAt ps k).2 (pAt ps j).1 (pAt ps j).2 d W w hw oki okk okj d0 d1)
      have YES := Lib.hid (show nearB (pAt ps i) (pAt ps k) (pAt ps j) d = true → ∀ m, i < m → m < j + 1 → nearB (pAt ps i) (pAt ps k) (pAt ps m) d = true from fun h m h1 h2 => by
        by_cases e : m = j
        · subst e; exact h
        · exact HA.out m h1 (by omega))
      have NO := Lib.hid (show nearB (pAt ps i) (pAt ps k) (pAt ps j) d = false → R = false from fun h => by
        rw [← hR.out]
        cases e : withinB ps d i k with
        | false => rfl
        | true => rw [withinB_iff.1 e j (by omega) hlt] at h; cases h)
      have eB : nearB ((pAt ps i).1, (pAt ps i).2) ((pAt ps k).1, (pAt ps k).2) ((pAt ps j).1, (pAt ps j).2) d = nearB (pAt ps i) (pAt ps k) (pAt ps j) d := rfl
      rw [eB] at NR
      generalize nearB (pAt ps i) (pAt ps k) (pAt ps j) d = bn at NR YES NO
      clear eB j1 j2 hb hall okj
      generalize (pAt ps i).1 = x1 at u1 NR
      generalize (pAt ps i).2 = x2 at u2 NR
      generalize (pAt ps k).1 = y1 at u3 NR
      generalize (pAt ps k).2 = y2 at u4 NR
      generalize (pAt ps j).1 = z1 at u5 NR
      generalize (pAt ps j).2 = z2 at u6 NR
      go_wp2_with fail
      go_region_held3 (fun W => W.cell? ⟨bi, oi + i * 2, none⟩ = some (.int .i64 x1) ∧ W.cell? ⟨bi, oi + i * 2 + 1, none⟩ = some (.int .i64 x2) ∧ W.cell? ⟨bi, oi + k * 2, none⟩ = some (.int .i64 y1) ∧ W.cell? ⟨bi, oi + k * 2 + 1, none⟩ = some (.int .i64 y2) ∧ W.cell? ⟨bi, oi + j * 2, none⟩ = some (.int .i64 z1) ∧ W.cell? ⟨bi, oi + j * 2 + 1, none⟩ = some (.int .i64 z2)) (first | exact ⟨u1, u2, u3, u4, u5, u6⟩ | exact ⟨n1, n2, n3, n4, n5, n6⟩ | (simp [go_sem]; first | exact ⟨u1, u2, u3, u4, u5, u6⟩ | exact ⟨n1, n2, n3, n4, n5, n6⟩)) (first | (go_at_call 171; refine (NR.out wr _ (by repeat (first | assumption | exact Below.refl _ _ | refine Below.drew ?_ | refine bdP ?_ _))).mono ?_; rintro e w1 ⟨rfl, hb1⟩; have n1 := (hb1.cell (p := ⟨bi, oi + i * 2, none⟩) hbw).trans u1; have n2 := (hb1.cell (p := ⟨bi, oi + i * 2 + 1, none⟩) hbw).trans u2; have n3 := (hb1.cell (p := ⟨bi, oi + k * 2, none⟩) hbw).trans u3; have n4 := (hb1.cell (p := ⟨bi, oi + k * 2 + 1, none⟩) hbw).trans u4; have n5 := (hb1.cell (p := ⟨bi, oi + j * 2, none⟩) hbw).trans u5; have n6 := (hb1.cell (p := ⟨bi, oi + j * 2 + 1, none⟩) hbw).trans u6))
      all_goals
        have HB1 := Lib.hid (HB.out.trans (hb1.mono hsz))
        cases bn with
        | false =>
          obtain rfl := NO.out rfl
          go_wp2
          go_ret
          exact ⟨rfl, (by first | exact HB1.out | exact bdP HB1.out _ | exact bdrew HB1.out)⟩
        | true =>
          have Y := Lib.hid (YES.out rfl)
          go_wp2
          go_roundw
          case rel => exact ⟨j + 1, by omega, by omega, by go_num, Y.out, (by first | exact HB1.out | exact bdP HB1.out _ | exact bdrew HB1.out)⟩
          case measure => simp [intOf]; omega
    · obtain rfl : j = k := by omega
      have RT : R = true := by rw [← hR.out]; exact withinB_iff.2 HA.out
      subst RT
      clear hb hall
      go_wp2
      go_ret
      exact ⟨rfl, HB.out⟩
end Go.Proofs.Ytemhmejjmhbfdaa.sines
