/- FnSineTables answers true for every two lists of bytes. -/
import Derived.Test.YtbnihalbepffoaaSineTable
import Derived.Test.YtbnihalbepffoaaWorstStep
import Derived.Test.YtbnihalbepffoaaA2
import Derived.BigRegion
namespace Go.Proofs.Ytbnihalbepffoaa.sineTables
open Go.ChangeShapes Go.WideShapes Go.ChangeAt Go.RowKit Go.Proofs.Ytbnihalbepffoaa.spots Go.Proofs.Ytbnihalbepffoaa.sines Go.Proofs.Ytbnihalbepffoaa.irows Go.Proofs.Ytbnihalbepffoaa.src Go.Proofs.Ytbnihalbepffoaa.a2

theorem near_zero (d : Int) (hd : 0 < d) : near 0 d = 0 := by
  have h1 := near_nonneg (Int.le_refl 0) hd
  have h2 := near_le (n := 0) 0 hd (by omega)
  omega
theorem between_at (d n k r : Int) (hd : 0 < d) (hn : n = k * d + r) (h0 : 0 ≤ r) (h1 : r < d) : between d n = sineL (k * d) + near (r * (sineL (k * d + d) - sineL (k * d))) d := by
  have e : n / d = k := by
    rw [hn, Int.add_comm, Int.add_mul_ediv_right _ _ (by omega), Int.ediv_eq_zero_of_lt h0 h1]
    omega
  have e2 : n - k * d = r := by omega
  rw [between, e, e2]
theorem between_mul (d k : Int) (hd : 0 < d) : between d (k * d) = sineL (k * d) := by
  rw [between_at d (k * d) k 0 hd (by omega) (Int.le_refl _) hd, Int.zero_mul, near_zero d hd, Int.add_zero]
/-- A sine between two of a table lies between them. -/
theorem between_mid (d n k r : Int) (hd : 0 < d) (hn : n = k * d + r) (h0 : 0 ≤ r) (h1 : r < d) :
    (sineL (k * d) ≤ between d n ∧ between d n ≤ sineL (k * d + d)) ∨ (sineL (k * d + d) ≤ between d n ∧ between d n ≤ sineL (k * d)) := by
  rw [between_at d n k r hd hn h0 h1]
  generalize sineL (k * d) = a
  generalize sineL (k * d + d) = b
  by_cases h : 0 ≤ b - a
  · left
    have l1 := near_nonneg (Int.mul_nonneg h0 h) hd
    have l2 := near_le (n := r * (b - a)) (b - a) hd (by rw [Int.mul_comm r]; exact Int.mul_le_mul_of_nonneg_left (by omega) h)
    omega
  · right
    have l1 := near_ge (n := r * (b - a)) (b - a) hd (by
      have := Int.mul_le_mul_of_nonneg_left (show r ≤ d by omega) (show 0 ≤ -(b - a) by omega)
      rw [Int.neg_mul, Int.neg_mul, Int.mul_comm (b - a) r] at this
      omega)
    have l2 := near_le (n := r * (b - a)) 0 hd (by
      have := Int.mul_nonneg h0 (show 0 ≤ -(b - a) by omega)
      rw [Int.mul_neg] at this
      omega)
    omega
theorem cos_even (x : Int) (h0 : 0 ≤ x) (h1 : x ≤ 324000) : sineL (-x + 324000) = sineL (x + 324000) := by
  rw [sineL_quarter (by omega) (by omega), sineL_quarter (by omega) (by omega), ← sH_half_sym (x + 324000)]
  congr 1; omega
theorem cos_falls (x : Int) (h0 : 0 ≤ x) (h1 : x + 3600 ≤ 324000) : sineL (x + 3600 + 324000) ≤ sineL (x + 324000) ∧ 0 ≤ sineL (x + 3600 + 324000) := by
  rw [sineL_quarter (by omega) (by omega), sineL_quarter (by omega) (by omega), ← sH_half_sym (x + 324000), ← sH_half_sym (x + 3600 + 324000)]
  exact ⟨sH_mono (by omega) (by omega) (by omega), (sH_bounds _ (by omega) (by omega)).1⟩
theorem cos_zero : sineL (0 + 324000) = 1000000 := by decide +kernel
theorem near_unit (a : Int) : near (a * 1000000) 1000000 = a := by
  have h1 := near_ge (n := a * 1000000) a (show (0 : Int) < 1000000 by omega) (Int.le_refl _)
  have h2 := near_le (n := a * 1000000) a (show (0 : Int) < 1000000 by omega) (Int.le_refl _)
  omega
theorem near_less (a s t : Int) (ha : 0 ≤ a) (hs : 0 ≤ s) (h : s ≤ t) : near (a * s) 1000000 ≤ near (a * t) 1000000 ∧ 0 ≤ near (a * s) 1000000 :=
  ⟨near_mono (by omega) (by omega) (Int.mul_le_mul_of_nonneg_right (Int.mul_le_mul_of_nonneg_left h ha) (by omega)), near_nonneg (Int.mul_nonneg ha hs) (by omega)⟩

set_option maxRecDepth 100000 in
set_option maxHeartbeats 4000000 in
theorem walk (a0 : Option Addr) (l0 c0 : Nat) (z0 : List Int) (a1 : Option Addr) (l1 c1 : Nat) (z1 : List Int) (w : World) (r0 : IsRow .u8 w a0 l0 c0 z0) (r1 : IsRow .u8 w a1 l1 c1 z1) :
    Calls Try.prog 4 #[.slice a0 l0 c0, .slice a1 l1 c1] w fun e w' => e = .returned (.bool true) ∧ Below w.heap.size w w' := by
  have hl0 := row_len r0
  have hl1 := row_len r1
  by_cases hlong : 3000 < l0 ∨ 3000 < l1
  · have hd : decide (3000 < l0 ∨ 3000 < l1) = true := decide_eq_true hlong
    have R0 := Lib.hid r0
    have R1 := Lib.hid r1
    clear r0 r1
    go_enter Try.func4, Try.ntmps4
    go_wp2_with (go_at_call 9; refine (a2Long_any _ _ _ _ _ _ _ hl0 hl1).mono ?_; rintro e w' ⟨rfl, rfl⟩; rw [hd])
    go_ret
    exact ⟨rfl, Below.refl _ _⟩
  have hd : decide (3000 < l0 ∨ 3000 < l1) = false := decide_eq_false hlong
  have HW := Lib.hid (show ∀ b o v, w.cell? ⟨b, o, none⟩ = some v → b < w.heap.size from fun b o v h => World.block_lt_of_cell? _ _ h)
  have B0 := Lib.hid (bytes_of r0 (by omega) HW.out)
  have B1 := Lib.hid (bytes_of r1 (by omega) HW.out)
  clear r0 r1
  go_enter Try.func4, Try.ntmps4
  go_wp2_with (go_at_call 9; refine (a2Long_any _ _ _ _ _ _ _ hl0 hl1).mono ?_; rintro e w' ⟨rfl, rfl⟩; rw [hd])
  go_wp2_with fail
  refine (a2At_any a0 l0 c0 0 60 w _ B0.out (by omega) (by omega) (by omega)).mono ?_
  rintro e w' ⟨x0, rfl, x01, x02, rfl⟩
  have x03 := x02 (by omega)
  clear x02
  go_wp2_with fail
  refine (a2At_any a0 l0 c0 1 20 w _ B0.out (by omega) (by omega) (by omega)).mono ?_
  rintro e w' ⟨x1, rfl, x11, x12, rfl⟩
  have x13 := x12 (by omega)
  clear x12
  obtain ⟨d, hd2⟩ : ∃ d, Hid (900 * (1 + x0) = d) := ⟨_, Lib.hid rfl⟩
  have hd3 := hd2.out
  have d1 : 900 ≤ d := by omega
  have d2 : d ≤ 54000 := by omega
  obtain ⟨m, hm⟩ : ∃ m : Nat, 1 + x1 = (m : Int) := ⟨(1 + x1).toNat, by omega⟩
  have m1 : 1 ≤ m := by omega
  have m2 : m ≤ 20 := by omega
  have gd : inB d 1 324000 = true := by simp [inB]; omega
  have gm : inB (m : Int) 1 100 = true := by simp [inB]; omega
  have GD := Lib.hid gd
  have GM := Lib.hid gm
  clear gd gm
  go_wp2_with fail
  refine (implTable_yes d m w GD.out GM.out).mono ?_
  rintro e w1 ⟨v, rfl, hr, hb1⟩
  have R1 := Lib.hid hr
  have HB1 := Lib.hid hb1
  clear hr hb1
  obtain ⟨⟨aa, ca, hv⟩, _⟩ := irow_shape R1.out
  rw [tabL_len] at hv
  subst hv
  have wb := worstN_bounds d (m - 1)
  obtain ⟨wm, hwm⟩ : ∃ wm, Hid (worstN d (m - 1) = wm) := ⟨_, Lib.hid rfl⟩
  rw [hwm.out] at wb
  obtain ⟨wb1, wb2⟩ := wb
  go_wp2_with fail
  refine (implWorst_yes d m w1 GD.out GM.out).mono ?_
  rintro e w2 ⟨rfl, hb2⟩
  rw [hwm.out]
  have HA := Lib.hid (show ∀ k, k < m → ∃ ga, aa = some ⟨ga, 0, none⟩ ∧ w2.cell? ⟨ga, k, none⟩ = some (.int .i64 (sineL ((k : Int) * d))) from fun k hk => by
    have h2 : IRow w2 w.heap.size (.slice aa (tabL d m).length ca) (tabL d m) := by rw [tabL_len]; exact irow_keep R1.out hb2
    obtain ⟨ga, e, _, hc⟩ := irow_at h2 k (by rw [tabL_len]; exact hk)
    exact ⟨ga, e, by rw [hc, tabL_at d m k hk]⟩)
  have HB2 := Lib.hid (HB1.out.trans (hb2.mono HB1.out.size))
  clear hb2
  have m1' : 1 ≤ (m : Int) := by omega
  have m2' : (m : Int) ≤ 20 := by omega
  have hd0 := Lib.hid (show 0 < d by omega)
  clear hd3 hm
  go_wp2
  go_loopw [11, 12, 13, 14, 15, 16, 17, 18] (fun v i _ _ _ _ _ _ wr => ∃ k q : Nat, k ≤ m ∧ i = .int .i64 (k : Int) ∧ v = .int .i64 (worstN d (k - 1)) ∧ wr = w2.drewN q) (fun _ i _ _ _ _ _ _ _ => m - (intOf i).toNat)
  case atStart => exact ⟨0, 0, by omega, rfl, rfl, rfl⟩
  case round =>
    obtain ⟨k, q, hk, rfl, rfl, rfl⟩ := hrel
    by_cases hlt : k < m
    · obtain ⟨ga, rfl, hck⟩ := HA.out k hlt
      obtain ⟨p1, p2⟩ := step_bounds (by omega) (by omega : d ≤ 324000) hlt (by omega)
      obtain ⟨x, hx⟩ : ∃ x, Hid ((k : Int) * d = x) := ⟨_, Lib.hid rfl⟩
      have hx2 : (k : Int) * d = x := hx.out
      rw [hx2] at p1 p2 hck
      have hxw : IntKind.i64.wrap x = x := IntWalk.i64_in _ (by omega)
      have HX := Lib.hid (show angB x = true by simp [angB]; omega)
      have HBM := Lib.hid (show between d x = sineL x by rw [← hx.out]; exact between_mul d k hd0.out)
      have hk0 : 0 ≤ (k : Int) := by omega
      have hk1 : (k : Int) < (m : Int) := by omega
      have hkw : IntKind.i64.wrap (k : Int) = (k : Int) := IntWalk.i64_in _ (by omega)
      obtain ⟨s2, hs2⟩ : ∃ s, Hid (sineL x = s) := ⟨_, Lib.hid rfl⟩
      have b2 := sineL_bounds x
      rw [hs2.out] at hck b2
      obtain ⟨b21, b22⟩ := b2
      go_wp2_with fail
      refine (implSineOf_yes x _ HX.out).mono ?_
      rintro e w' ⟨rfl, rfl⟩
      rw [hs2.out]
      go_wp2_with fail
      refine (implBetweenSine_yes d x _ GD.out HX.out).mono ?_
      rintro e w' ⟨rfl, rfl⟩
      rw [HBM.out, hs2.out]
      by_cases hz : k = 0
      · have hz1 : ¬ 0 < (k : Int) := by omega
        have HZ := Lib.hid hz
        clear hz
        go_wp2
        go_roundw
        case rel => exact ⟨k + 1, q, by omega, by go_num, by rw [HZ.out], rfl⟩
        case measure => simp [intOf]; omega
      · have hz1 : 0 < (k : Int) := by omega
        obtain ⟨j, hj⟩ : ∃ j : Nat, k = j + 1 := ⟨k - 1, by omega⟩
        have hji : (k : Int) - 1 = (j : Int) := by omega
        have hjw : IntKind.i64.wrap (j : Int) = (j : Int) := IntWalk.i64_in _ (by omega)
        have hj0 : 0 ≤ (j : Int) := by omega
        have hj1 : (j : Int) < (m : Int) := by omega
        obtain ⟨ga2, e2, hcj⟩ := HA.out j (by omega)
        simp at e2
        subst e2
        obtain ⟨p3, p4⟩ := step_bounds (by omega) (by omega : d ≤ 324000) (show j < m by omega) (by omega)
        obtain ⟨y, hy⟩ : ∃ y, Hid ((j : Int) * d = y) := ⟨_, Lib.hid rfl⟩
        have hy2 : (j : Int) * d = y := hy.out
        have hxy : x = y + d := by rw [← hx2, ← hy2, hj, Int.natCast_add, Int.add_mul]; omega
        rw [hy2] at hcj p3 p4
        obtain ⟨s1, hs1⟩ : ∃ s, Hid (sineL y = s) := ⟨_, Lib.hid rfl⟩
        have b1 := sineL_bounds y
        rw [hs1.out] at hcj b1
        obtain ⟨b11, b12⟩ := b1
        have WN := Lib.hid (show worstN d (j + 1) = _ from worstN.eq_2 d j)
        have WN2 := WN.out
        have hx3 : ((j + 1 : Nat) : Int) * d = x := by rw [← hx2, hj]
        rw [hx3, hy2, hs1.out, hs2.out] at WN2
        have WN3 := Lib.hid WN2
        have b3 := worstN_bounds d j
        have hkj : k - 1 = j := by omega
        obtain ⟨wk, hwk⟩ : ∃ wk, Hid (worstN d j = wk) := ⟨_, Lib.hid rfl⟩
        rw [hwk.out] at b3 WN3
        have HWK := Lib.hid (show worstN d (k - 1) = wk by rw [hkj]; exact hwk.out)
        rw [HWK.out]
        obtain ⟨b31, b32⟩ := b3
        have HJ := Lib.hid hj
        have HXY := Lib.hid hxy
        have hks1 : IntKind.i64.wrap (s2 - s1) = s2 - s1 := IntWalk.i64_in _ (by omega)
        have hks2 : IntKind.i64.wrap (s1 - s2) = s1 - s2 := IntWalk.i64_in _ (by omega)
        clear WN WN2 hx3 hkj hj hxy
        go_wp2_with fail
        go_region
        obtain ⟨nw, hnw⟩ : ∃ nw, Hid ((if (if wk < s2 - s1 then s2 - s1 else wk) < s1 - s2 then s1 - s2 else if wk < s2 - s1 then s2 - s1 else wk) = nw) := ⟨_, Lib.hid rfl⟩
        rw [hnw.out]
        have HNW := Lib.hid (show nw = worstN d k by
          rw [HJ.out, WN3.out, ← hnw.out]
          unfold absI
          split <;> split <;> (first | omega | (split <;> (first | omega | (split <;> (first | omega | (split <;> omega)))))))
        have BB := Lib.hid (bytes_below B1.out (bdr HB2.out (q + 1)))
        go_wp2_with fail
        refine (a2At_any a1 l1 c1 (k : Int) d _ _ BB.out (by omega) (by omega) (by omega)).mono ?_
        rintro e w' ⟨r, rfl, r1, r2, rfl⟩
        have r3 := r2 (by omega)
        clear r2
        have HMID := Lib.hid (between_mid d (y + r) j r hd0.out (by rw [hy2]) r1 r3)
        have HM2 := HMID.out
        rw [hy2, ← HXY.out, hs1.out, hs2.out] at HM2
        have HAN := Lib.hid (show angB (y + r) = true by simp [angB]; omega)
        have hyr : IntKind.i64.wrap (y + r) = y + r := IntWalk.i64_in _ (by omega)
        have hyw : IntKind.i64.wrap y = y := IntWalk.i64_in _ (by omega)
        obtain ⟨bz, hbz⟩ : ∃ bz, Hid (between d (y + r) = bz) := ⟨_, Lib.hid rfl⟩
        rw [hbz.out] at HM2
        have HM3 := Lib.hid HM2
        clear HM2 HMID
        go_wp2_with fail
        refine (implBetweenSine_yes d (y + r) _ GD.out HAN.out).mono ?_
        rintro e w' ⟨rfl, rfl⟩
        rw [hbz.out]
        go_wp2_with fail
        have H3 := HM3.out
        by_cases hlt2 : s2 < s1
        · have g1 : s2 ≤ bz := by omega
          have g2 : bz ≤ s1 := by omega
          have hlt3 : ¬ s1 < s2 := by omega
          have e1 : decide (bz < s2) = false := by simp; omega
          have e2 : decide (s1 < bz) = false := by simp; omega
          have e3 : min s1 s2 = s2 := by omega
          have e4 : max s1 s2 = s1 := by omega
          clear H3
          go_region
          go_wp2
          go_roundw
          case rel => exact ⟨k + 1, _, by omega, by go_num, by rw [HNW.out]; rfl, rfl⟩
          case measure => simp [intOf]; omega
        · have g1 : s1 ≤ bz := by omega
          have g2 : bz ≤ s2 := by omega
          have e1 : decide (bz < s1) = false := by simp; omega
          have e2 : decide (s2 < bz) = false := by simp; omega
          have e3 : min s1 s2 = s1 := by omega
          have e4 : max s1 s2 = s2 := by omega
          clear H3
          go_region
          go_wp2
          go_roundw
          case rel => exact ⟨k + 1, _, by omega, by go_num, by rw [HNW.out]; rfl, rfl⟩
          case measure => simp [intOf]; omega
    · obtain rfl : k = m := by omega
      rw [hwm.out]
      have hkk : ¬ (k : Int) < (k : Int) := by omega
      have BB := Lib.hid (bytes_below B1.out (bdr HB2.out q))
      go_wp2_with fail
      refine (a2At_any a1 l1 c1 30 250 _ _ BB.out (by omega) (by omega) (by omega)).mono ?_
      rintro e w' ⟨y0, rfl, y01, y02, rfl⟩
      have y03 := y02 (by omega)
      clear y02
      go_wp2_with fail
      refine (a2At_any a1 l1 c1 31 90 _ _ BB.out (by omega) (by omega) (by omega)).mono ?_
      rintro e w' ⟨y1, rfl, y11, y12, rfl⟩
      have y13 := y12 (by omega)
      clear y12
      obtain ⟨wd, hwd⟩ : ∃ x, Hid (100 * y0 = x) := ⟨_, Lib.hid rfl⟩
      have hwd2 : 100 * y0 = wd := hwd.out
      obtain ⟨la, hla⟩ : ∃ x, Hid (3600 * y1 = x) := ⟨_, Lib.hid rfl⟩
      have hla2 : 3600 * y1 = la := hla.out
      have l1' : 0 ≤ la := by omega
      have l2' : la ≤ 320400 := by omega
      have w1' : 0 ≤ wd := by omega
      have w2' : wd ≤ 24900 := by omega
      have GW := Lib.hid (show inB wd 0 1000000 = true by simp [inB]; omega)
      have GL := Lib.hid (show inB la (-324000) 324000 = true by simp [inB]; omega)
      have GL2 := Lib.hid (show inB (-la) (-324000) 324000 = true by simp [inB]; omega)
      have GL3 := Lib.hid (show inB (la + 3600) (-324000) 324000 = true by simp [inB]; omega)
      have GL4 := Lib.hid (show inB 0 (-324000) 324000 = true by simp [inB])
      have GA := Lib.hid (show angB la = true by simp [angB]; omega)
      have GA2 := Lib.hid (show angB (la / 2) = true by simp [angB]; omega)
      have kla : IntKind.i64.wrap (-la) = -la := IntWalk.i64_in _ (by omega)
      obtain ⟨wa, hwa⟩ : ∃ x, Hid (near (wd * sineL (la + 324000)) 1000000 = x) := ⟨_, Lib.hid rfl⟩
      obtain ⟨wc, hwc⟩ : ∃ x, Hid (near (wd * sineL (la + 3600 + 324000)) 1000000 = x) := ⟨_, Lib.hid rfl⟩
      obtain ⟨f1, f2⟩ := cos_falls la l1' (by omega)
      obtain ⟨f3, f4⟩ := near_less wd _ _ w1' f2 f1
      rw [hwa.out, hwc.out] at f3
      rw [hwc.out] at f4
      clear f1 f2
      obtain ⟨sh, hsh⟩ : ∃ x, Hid (sineL (la / 2) = x) := ⟨_, Lib.hid rfl⟩
      have bsh := sineL_bounds (la / 2)
      rw [hsh.out] at bsh
      obtain ⟨bsh1, bsh2⟩ := bsh
      go_wp2_with fail
      refine (implWidthAt_yes wd la _ GW.out GL.out).mono ?_
      rintro e w' ⟨rfl, rfl⟩
      rw [hwa.out]
      go_wp2_with fail
      refine (implWidthAt_yes wd (-la) _ GW.out GL2.out).mono ?_
      rintro e w' ⟨rfl, rfl⟩
      rw [cos_even la l1' (by omega), hwa.out]
      go_wp2_with fail
      refine (implWidthAt_yes wd (la + 3600) _ GW.out GL3.out).mono ?_
      rintro e w' ⟨rfl, rfl⟩
      rw [hwc.out]
      go_wp2_with fail
      refine (implWidthAt_yes wd 0 _ GW.out GL4.out).mono ?_
      rintro e w' ⟨rfl, rfl⟩
      rw [cos_zero, near_unit]
      go_wp2_with fail
      refine (implChordOf_yes la _ GA.out).mono ?_
      rintro e w' ⟨rfl, rfl⟩
      rw [hsh.out]
      go_wp2_with fail
      refine (specSineOf_yes (la / 2) _ GA2.out).mono ?_
      rintro e w' ⟨rfl, rfl⟩
      rw [hsh.out]
      go_wp2
      go_ret
      exact ⟨rfl, bdr HB2.out q⟩

set_option maxRecDepth 100000 in
theorem lifted (os : Os) (started : os.Started) (H : Type) (enc : TypeId × Value → H) :
    ReturnsInHanded {} Try.checked os 4 .any (Rows.fnSineTablesSpec.pre6 enc Try.prog Try.f4 Rows.fnSineTablesRow.domain false) (Rows.fnSineTablesSpec.post enc Try.prog Try.f4 false true false false) := by
  refine returnsInHanded_of_change (C := Try.checked) own started (by kernel_rfl) Try.func4
    (ChangeSpec.witness6 (enc := enc) (C := Try.checked) false ⟨#[], #[.slice none 0 0, .slice none 0 0], []⟩ 8 (by kernel_rfl) (by kernel_rfl) (by kernel_rfl) (by kernel_rfl)) ?_
  intro W base args ds gs before hval0 hW hcnd _
  have hval : ∀ (j : Nat) t v, Try.f4.params[j]? = some t → args[j]? = some v → Value.okWide Try.prog W .any base t v := hval0
  have hW' := hW
  obtain ⟨p, q, hA0, hV, hpq, hfz, hnd⟩ := hW
  have hA : DataW.TrodAll enc Try.prog W 0 (fun _ => true) true Try.f4.params.toList args.toList ds p := hA0
  rw [Try.params4] at hA hval
  obtain ⟨v0, vs0, d0, ds0, p0, q0, hargs, rfl, rfl, h0, r0⟩ := trodAll_cons hA
  obtain ⟨v1, vs1, d1, ds1, p1, q1, rfl, rfl, rfl, h1, r1⟩ := trodAll_cons r0
  obtain ⟨rfl, rfl, rfl⟩ := trodAll_nil r1
  obtain rfl : args = #[v0, v1] := by cases args; simp_all
  obtain ⟨a0, len0, cap0, rfl⟩ := okWide_slice Try.underlying22 (hval 0 22 v0 rfl rfl)
  obtain ⟨z0, w0⟩ : ∃ zs, IsRow .u8 W a0 len0 cap0 zs := by
    obtain ⟨fuel, hf⟩ := h0
    rcases open_ints Try.underlying22 Try.underlying5 (by kernel_rfl) hf with ⟨hcs, _⟩ | ⟨x, l, c, zs, hcs, _, hl, hm, hz, _, hcell, hwz⟩
    · simp [Value.cells] at hcs
      obtain ⟨rfl, rfl, rfl⟩ := hcs
      exact ⟨[], .inl ⟨rfl, rfl, rfl, rfl⟩⟩
    · simp [Value.cells] at hcs
      obtain ⟨rfl, rfl, rfl⟩ := hcs
      exact ⟨zs, .inr ⟨_, rfl, hl, hm, by simpa using hz, hcell, hwz⟩⟩
  obtain ⟨a1, len1, cap1, rfl⟩ := okWide_slice Try.underlying22 (hval 1 22 v1 rfl rfl)
  obtain ⟨z1, w1⟩ : ∃ zs, IsRow .u8 W a1 len1 cap1 zs := by
    obtain ⟨fuel, hf⟩ := h1
    rcases open_ints Try.underlying22 Try.underlying5 (by kernel_rfl) hf with ⟨hcs, _⟩ | ⟨x, l, c, zs, hcs, _, hl, hm, hz, _, hcell, hwz⟩
    · simp [Value.cells] at hcs
      obtain ⟨rfl, rfl, rfl⟩ := hcs
      exact ⟨[], .inl ⟨rfl, rfl, rfl, rfl⟩⟩
    · simp [Value.cells] at hcs
      obtain ⟨rfl, rfl, rfl⟩ := hcs
      exact ⟨zs, .inr ⟨_, rfl, hl, hm, by simpa using hz, hcell, hwz⟩⟩
  refine (walk a0 len0 cap0 z0 a1 len1 cap1 z1 W w0 w1).mono fun e W' ⟨he, bel⟩ => ?_
  subst he
  exact ⟨_, rfl, post_of_law laidOut (by kernel_rfl) Try.underlying4 rfl rfl (fun ds h => by match ds, h with | [_, _], _ => rfl) hW' bel⟩

theorem holds : Rows.FnSineTablesSaid :=
  OpenClaim.holds_of_wide 4 Try.f4 rfl rfl rfl rfl rfl rfl rfl ⟨rfl, rfl, rfl, rfl, rfl⟩ rfl rfl rfl rfl rfl (by kernel_rfl) Try.func4 (by kernel_rfl)
    (of_decide_eq_true (by kernel_rfl)) (by unfold Func.isWrapper; first | (rw [if_pos (by decide +kernel)]; kernel_rfl) | (rw [if_neg (by decide +kernel)]; exact ⟨rfl, rfl⟩))
    (fun os started H enc _ => lifted os started H enc)
#print axioms holds

end Go.Proofs.Ytbnihalbepffoaa.sineTables
