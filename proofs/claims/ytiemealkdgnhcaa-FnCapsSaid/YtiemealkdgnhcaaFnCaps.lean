/- FnCaps answers true for every list of bytes. -/
import Derived.Test.YtiemealkdgnhcaaCapsH
import Derived.Test.YtiemealkdgnhcaaCapsI
import Derived.Test.YtiemealkdgnhcaaCDrawL
import Derived.Test.YtiemealkdgnhcaaF6
import Derived.Test.YtiemealkdgnhcaaF6L
namespace Go.Proofs.Ytiemealkdgnhcaa.fncaps
open Go.ChangeShapes Go.WideShapes Go.ChangeAt Go.RowKit Go.Proofs.Ytiemealkdgnhcaa.spots Go.Proofs.Ytiemealkdgnhcaa.sines Go.Proofs.Ytiemealkdgnhcaa.src Go.Proofs.Ytiemealkdgnhcaa.a2 Go.Proofs.Ytiemealkdgnhcaa.irows Go.Proofs.Ytiemealkdgnhcaa.pairs
set_option linter.unusedSimpArgs false

/-- Two numbers at the head of a block. -/
def TwoAt (W : World) (b : Nat) (x y : Int) : Prop := b < W.heap.size ∧ W.cell? ⟨b, 0, none⟩ = some (.int .i64 x) ∧ W.cell? ⟨b, 1, none⟩ = some (.int .i64 y)
theorem two_fresh (w : World) (x y : Int) (t : TypeId) : TwoAt (w.alloc (.cells #[.int .i64 x, .int .i64 y] t)) w.heap.size x y :=
  ⟨by simp, by rw [World.cell?_alloc_new]; rfl, by rw [World.cell?_alloc_new]; rfl⟩
theorem two_keep {W W' : World} {b : Nat} {x y : Int} (h : TwoAt W b x y) (hb : Below W.heap.size W W') : TwoAt W' b x y :=
  ⟨Nat.lt_of_lt_of_le h.1 hb.size, (hb.cell (p := ⟨b, 0, none⟩) h.1).trans h.2.1, (hb.cell (p := ⟨b, 1, none⟩) h.1).trans h.2.2⟩
set_option maxRecDepth 100000 in
set_option maxHeartbeats 16000000 in
theorem walk (a0 : Option Addr) (l0 c0 : Nat) (z0 : List Int) (w : World) (r0 : IsRow .u8 w a0 l0 c0 z0) :
    Calls Try.prog 3 #[.slice a0 l0 c0] w fun e w' => e = .returned (.bool true) ∧ Below w.heap.size w w' := by
  have hl0 := row_len r0
  by_cases hlong : 4096 < l0
  · have hd : decide (4096 < l0) = true := decide_eq_true hlong
    clear r0 hlong
    go_enter Try.func3, Try.ntmps3
    go_wp2_with fail
    refine (f6big_any _ _ _ _ hl0).mono ?_
    rw [hd]
    rintro e w' ⟨rfl, rfl⟩
    go_wp2
    go_ret
    exact ⟨rfl, Below.refl _ _⟩
  have hd : decide (4096 < l0) = false := decide_eq_false hlong
  have B0 := Lib.hid (bytes_of r0 (by omega) (fun b o v h => World.block_lt_of_cell? _ _ h))
  have HB := Lib.hid (Below.refl w.heap.size w)
  clear r0
  go_enter Try.func3, Try.ntmps3
  go_wp2_with fail
  refine (f6big_any _ _ _ _ hl0).mono ?_
  rw [hd]
  rintro e w' ⟨rfl, rfl⟩
  clear hl0 hlong hd
  go_wp2_with fail
  refine (DrawCapEdge_any w a0 l0 c0 (bytes_up B0.out HB.out)).mono ?_
  rintro e w1 ⟨a, r, rfl, hb⟩
  have HB2 := Lib.hid (HB.out.trans (hb.mono HB.out.size))
  clear hb
  obtain ⟨A1, HA1⟩ : ∃ v, Hid (ansK (codeR a r) (edgeC a r) = v) := ⟨_, Lib.hid rfl⟩
  obtain ⟨C1, HC1⟩ : ∃ v, Hid (codeR a r = v) := ⟨_, Lib.hid rfl⟩
  go_wp2_with fail
  refine (implCapEdge_any a r w1).mono ?_
  rw [HA1.out, HC1.out]
  rintro e w3 ⟨rfl, hb⟩
  have HB4 := Lib.hid (HB2.out.trans (hb.mono HB2.out.size))
  clear hb
  go_wp2_with fail
  refine (specCapEdge_any a r w3).mono ?_
  rw [HA1.out, HC1.out]
  rintro e w' ⟨rfl, rfl⟩
  go_wp2_with fail
  refine (DrawCapRadius_any w3 a0 l0 c0 (bytes_up B0.out HB4.out)).mono ?_
  rintro e w5 ⟨p, l, rfl, hb⟩
  have HB6 := Lib.hid (HB4.out.trans (hb.mono HB4.out.size))
  clear hb
  obtain ⟨A2, HA2⟩ : ∃ v, Hid (ansK (code6 p l) (arcC p (324000 - l)) = v) := ⟨_, Lib.hid rfl⟩
  obtain ⟨C2, HC2⟩ : ∃ v, Hid (code6 p l = v) := ⟨_, Lib.hid rfl⟩
  go_wp2_with fail
  refine (implCapRadius_any p l w5).mono ?_
  rw [HA2.out, HC2.out]
  rintro e w7 ⟨rfl, hb⟩
  have HB8 := Lib.hid (HB6.out.trans (hb.mono HB6.out.size))
  clear hb
  go_wp2_with fail
  refine (specCapRadius_any p l w7).mono ?_
  rw [HA2.out, HC2.out]
  rintro e w' ⟨rfl, rfl⟩
  go_wp2_with fail
  refine (DrawRingsOf_any w7 a0 l0 c0 (bytes_up B0.out HB8.out)).mono ?_
  rintro e w9 ⟨b, d, rfl, hb⟩
  have HB10 := Lib.hid (HB8.out.trans (hb.mono HB8.out.size))
  clear hb
  obtain ⟨zs, Hzs⟩ : ∃ v, Hid (ringsV b d = v) := ⟨_, Lib.hid rfl⟩
  obtain ⟨C3, HC3⟩ : ∃ v, Hid (codeN b d = v) := ⟨_, Lib.hid rfl⟩
  have ZL := Lib.hid (show zs.length ≤ 61 by rw [← Hzs.out]; exact ringsV_len b d)
  go_wp2_with fail
  refine (implRingsOf_any b d w9).mono ?_
  rw [HC3.out, Hzs.out]
  rintro e w11 ⟨v1, rfl, hr, hb⟩
  have HB12 := Lib.hid (HB10.out.trans (hb.mono HB10.out.size))
  have R13 := Lib.hid hr
  clear hr
  clear hb
  go_wp2_with fail
  refine (specRingsOf_any b d w11).mono ?_
  rw [HC3.out, Hzs.out]
  rintro e w14 ⟨v2, rfl, hr, hb⟩
  have HB15 := Lib.hid (HB12.out.trans (hb.mono HB12.out.size))
  have R16 := Lib.hid (irow_keep R13.out hb)
  have R17 := Lib.hid hr
  clear hr
  clear hb
  go_wp2_with fail
  refine (DrawUnderCap_any w14 a0 l0 c0 (bytes_up B0.out HB15.out)).mono ?_
  rintro e w18 ⟨c, m, u, ps, rfl, hpl, hr, hb⟩
  have HB19 := Lib.hid (HB15.out.trans (hb.mono HB15.out.size))
  have R20 := Lib.hid (irow_keep R16.out hb)
  have R21 := Lib.hid (irow_keep R17.out hb)
  have R22 := Lib.hid hr
  clear hr
  clear hb
  obtain ⟨us, Hus⟩ : ∃ v, Hid (underL c m ps = v) := ⟨_, Lib.hid rfl⟩
  obtain ⟨C5, HC5⟩ : ∃ v, Hid (codeU c m ps = v) := ⟨_, Lib.hid rfl⟩
  have UL := Lib.hid (show us.length ≤ 200 by rw [← Hus.out]; exact Nat.le_trans (underL_len c m ps) hpl)
  go_wp2_with fail
  refine (implUnderCap_any c m u ps w18 (prow_at R22.out) (by omega)).mono ?_
  rw [HC5.out, Hus.out]
  rintro e w23 ⟨v3, rfl, hr, hb⟩
  have HB24 := Lib.hid (HB19.out.trans (hb.mono HB19.out.size))
  have R25 := Lib.hid (irow_keep R20.out hb)
  have R26 := Lib.hid (irow_keep R21.out hb)
  have R27 := Lib.hid (prow_keep R22.out hb)
  have R28 := Lib.hid hr
  clear hr
  clear hb
  go_wp2_with fail
  refine (specUnderCap_any c m u ps w23 (prow_at R27.out) (by omega)).mono ?_
  rw [HC5.out, Hus.out]
  rintro e w29 ⟨v4, rfl, hr, hb⟩
  have HB30 := Lib.hid (HB24.out.trans (hb.mono HB24.out.size))
  have R31 := Lib.hid (irow_keep R25.out hb)
  have R32 := Lib.hid (irow_keep R26.out hb)
  have R33 := Lib.hid (prow_keep R27.out hb)
  have R34 := Lib.hid (irow_keep R28.out hb)
  have R35 := Lib.hid hr
  clear hr
  clear hb
  go_wp2_with fail
  refine (DrawArcLength_any w29 a0 l0 c0 (bytes_up B0.out HB30.out)).mono ?_
  rintro e w36 ⟨g, n, rfl, hb⟩
  have HB37 := Lib.hid (HB30.out.trans (hb.mono HB30.out.size))
  have R38 := Lib.hid (irow_keep R31.out hb)
  have R39 := Lib.hid (irow_keep R32.out hb)
  have R40 := Lib.hid (prow_keep R33.out hb)
  have R41 := Lib.hid (irow_keep R34.out hb)
  have R42 := Lib.hid (irow_keep R35.out hb)
  clear hb
  obtain ⟨A7, HA7⟩ : ∃ v, Hid (ansK (codeA6 g n) (arcC g n) = v) := ⟨_, Lib.hid rfl⟩
  obtain ⟨C7, HC7⟩ : ∃ v, Hid (codeA6 g n = v) := ⟨_, Lib.hid rfl⟩
  go_wp2_with fail
  refine (implArcLength_any g n w36).mono ?_
  rw [HA7.out, HC7.out]
  rintro e w43 ⟨rfl, hb⟩
  have HB44 := Lib.hid (HB37.out.trans (hb.mono HB37.out.size))
  have R45 := Lib.hid (irow_keep R38.out hb)
  have R46 := Lib.hid (irow_keep R39.out hb)
  have R47 := Lib.hid (prow_keep R40.out hb)
  have R48 := Lib.hid (irow_keep R41.out hb)
  have R49 := Lib.hid (irow_keep R42.out hb)
  clear hb
  go_wp2_with fail
  refine (specArcLength_any g n w43).mono ?_
  rw [HA7.out, HC7.out]
  rintro e w' ⟨rfl, rfl⟩
  go_wp2_with fail
  refine (DrawRingOf_any w43 a0 l0 c0 (bytes_up B0.out HB44.out)).mono ?_
  rintro e w50 ⟨x1, x2, x3, x4, x5, rfl, hb⟩
  have HB51 := Lib.hid (HB44.out.trans (hb.mono HB44.out.size))
  have R52 := Lib.hid (irow_keep R45.out hb)
  have R53 := Lib.hid (irow_keep R46.out hb)
  have R54 := Lib.hid (prow_keep R47.out hb)
  have R55 := Lib.hid (irow_keep R48.out hb)
  have R56 := Lib.hid (irow_keep R49.out hb)
  clear hb
  obtain ⟨A9, HA9⟩ : ∃ v, Hid (ansK (codeQ x1 x2 x3 x4 x5) (ringC x1 x3 x4) = v) := ⟨_, Lib.hid rfl⟩
  obtain ⟨C9, HC9⟩ : ∃ v, Hid (codeQ x1 x2 x3 x4 x5 = v) := ⟨_, Lib.hid rfl⟩
  have hb := (Below.refl w50.heap.size w50).alloc (Nat.le_refl _) (.cells #[.int .i64 x4, .int .i64 x5] 35)
  have AA := Lib.hid (two_fresh w50 x4 x5 35)
  obtain ⟨w57, hw57⟩ : ∃ x, Hid (w50.alloc (.cells #[.int .i64 x4, .int .i64 x5] 35) = x) := ⟨_, Lib.hid rfl⟩
  rw [hw57.out] at hb AA
  have HB58 := Lib.hid (HB51.out.trans (hb.mono HB51.out.size))
  have R59 := Lib.hid (irow_keep R52.out hb)
  have R60 := Lib.hid (irow_keep R53.out hb)
  have R61 := Lib.hid (prow_keep R54.out hb)
  have R62 := Lib.hid (irow_keep R55.out hb)
  have R63 := Lib.hid (irow_keep R56.out hb)
  clear hb
  go_wp2_with fail
  rw [hw57.out]
  refine (implRingOf_any x1 x2 x3 x4 x5 w57).mono ?_
  rw [HA9.out, HC9.out]
  rintro e w64 ⟨rfl, hb⟩
  have HB65 := Lib.hid (HB58.out.trans (hb.mono HB58.out.size))
  have R66 := Lib.hid (irow_keep R59.out hb)
  have R67 := Lib.hid (irow_keep R60.out hb)
  have R68 := Lib.hid (prow_keep R61.out hb)
  have R69 := Lib.hid (irow_keep R62.out hb)
  have R70 := Lib.hid (irow_keep R63.out hb)
  have AA2 := Lib.hid (two_keep AA.out hb)
  clear hb
  have k0 := AA2.out.2.1
  have k1 := AA2.out.2.2
  go_wp2_with fail
  refine (specRingOf_any x1 x2 x3 x4 x5 w64).mono ?_
  rw [HA9.out, HC9.out]
  clear k0 k1
  rintro e w71 ⟨rfl, hb⟩
  have HB72 := Lib.hid (HB65.out.trans (hb.mono HB65.out.size))
  have R73 := Lib.hid (irow_keep R66.out hb)
  have R74 := Lib.hid (irow_keep R67.out hb)
  have R75 := Lib.hid (prow_keep R68.out hb)
  have R76 := Lib.hid (irow_keep R69.out hb)
  have R77 := Lib.hid (irow_keep R70.out hb)
  clear hb
  go_wp2_with fail
  refine (f6ints_same v1 v2 _ _ zs w71 R73.out R74.out (by have := ZL.out; omega)).mono ?_
  rintro e w' ⟨rfl, q1, rfl⟩
  obtain ⟨w78, hw78⟩ : ∃ x, x = w71.drewN q1 := ⟨_, rfl⟩
  rw [← hw78]
  have hb : Below w71.heap.size w71 w78 := by rw [hw78]; exact below_drawn _ _
  clear hw78
  have HB79 := Lib.hid (HB72.out.trans (hb.mono HB72.out.size))
  have R80 := Lib.hid (irow_keep R73.out hb)
  have R81 := Lib.hid (irow_keep R74.out hb)
  have R82 := Lib.hid (prow_keep R75.out hb)
  have R83 := Lib.hid (irow_keep R76.out hb)
  have R84 := Lib.hid (irow_keep R77.out hb)
  clear hb
  go_wp2_with fail
  refine (f6ints_same v3 v4 _ _ us w78 R83.out R84.out (by have := UL.out; omega)).mono ?_
  rintro e w' ⟨rfl, q2, rfl⟩
  obtain ⟨w85, hw85⟩ : ∃ x, x = w78.drewN q2 := ⟨_, rfl⟩
  rw [← hw85]
  have hb : Below w78.heap.size w78 w85 := by rw [hw85]; exact below_drawn _ _
  clear hw85
  have HB86 := Lib.hid (HB79.out.trans (hb.mono HB79.out.size))
  have R87 := Lib.hid (irow_keep R80.out hb)
  have R88 := Lib.hid (irow_keep R81.out hb)
  have R89 := Lib.hid (prow_keep R82.out hb)
  have R90 := Lib.hid (irow_keep R83.out hb)
  have R91 := Lib.hid (irow_keep R84.out hb)
  clear hb
  by_cases h3 : C3 = 0
  · subst h3
    by_cases hb0 : 0 < b
    · skip
      obtain ⟨nn, f1, f2, f3, f4, f5, f6, f7⟩ := ring_facts HC3.out hb0 Hzs.out
      obtain ⟨va, vc, hve, hva⟩ := irow_at'' R88.out
      obtain ⟨N, HN⟩ : ∃ N, Hid (zs.length = N) := ⟨_, Lib.hid rfl⟩
      rw [HN.out] at hve
      subst hve
      have VA := Lib.hid hva
      have F1 := Lib.hid (show N = nn + 1 by rw [← HN.out]; exact f1)
      have F5 := Lib.hid f5
      have F6 := Lib.hid f6
      have F7 := Lib.hid f7
      clear f1 f5 f6 f7 hva
      go_wp2
      go_loopw [42] (fun i wr => ∃ k q : Nat, k ≤ N ∧ i = .int .i64 (k : Int) ∧ wr = w85.drewN q) (fun i _ => N - (intOf i).toNat)
      case atStart => exact ⟨0, 0, Nat.zero_le _, rfl, rfl⟩
      case round =>
        obtain ⟨k, q, hk, rfl, rfl⟩ := hrel
        by_cases hlt : k < N
        · have hN := F1.out
          have hkz : k < zs.length := by rw [HN.out]; exact hlt
          obtain ⟨g, rfl, hc⟩ := VA.out k hkz
          obtain ⟨z0', z1', z2'⟩ := F5.out k hkz
          have hN2 : N ≤ 61 := by omega
          have hkn : k + 1 < N → k < nn := fun h => by omega
          clear hN
          have hk0 : 0 ≤ (k : Int) := by omega
          have hk1 : (k : Int) < (N : Int) := by omega
          have e1 : decide (zs[k] < 1) = false := decide_eq_false (by omega)
          have e0 : IntKind.i64.wrap ((k : Int) + 1) = (k : Int) + 1 := IntWalk.i64_in _ (by omega)
          by_cases hkz0 : k = 0
          · have g1 : ¬ 0 < k := by omega
            have g2 : decide (0 < k) = false := decide_eq_false g1
            have g3 : ¬ 0 < (k : Int) := by omega
            have g4 : decide (0 < (k : Int)) = false := decide_eq_false g3
            clear hkz0
            generalize zs[k] = z at hc z0' z1' z2' e1
            by_cases hlast : k + 1 < N
            · skip
              have c1 : (k : Int) + 1 < (N : Int) := by omega
              have c4 : decide ((k : Int) + 1 < (N : Int)) = true := decide_eq_true c1
              have c6 : decide (k + 1 < N) = true := decide_eq_true hlast
              have c8 := z2' (hkn hlast)
              have c9 : IntKind.i64.wrap (d * ((k : Int) + 1)) = d * ((k : Int) + 1) := IntWalk.i64_in _ (by omega)
              have c10 : (z != d * ((k : Int) + 1)) = false := by simp [c8]
              clear c8 z2'
              clear hkn
              go_wp2
              go_quiet (fail)
              go_wp2
              go_roundw
              case rel => exact ⟨k + 1, _, by omega, by go_num, rfl⟩
              case measure => simp [intOf]; omega
            · skip
              have c1 : ¬ (k : Int) + 1 < (N : Int) := by omega
              have c4 : decide ((k : Int) + 1 < (N : Int)) = false := decide_eq_false c1
              have c6 : decide (k + 1 < N) = false := decide_eq_false hlast
              clear z2'
              clear hkn
              go_wp2
              go_quiet (fail)
              go_wp2
              go_roundw
              case rel => exact ⟨k + 1, _, by omega, by go_num, rfl⟩
              case measure => simp [intOf]; omega
          · obtain ⟨p, hpk⟩ : ∃ p, Hid (p + 1 = k) := ⟨k - 1, Lib.hid (by omega)⟩
            have hpk2 := hpk.out
            obtain ⟨g', eg, hd⟩ := VA.out p (by omega)
            simp at eg
            subst eg
            have hp : zs[p] < zs[k] := by
              have := F6.out p (by omega)
              simp only [hpk2] at this
              exact this
            have g1 : 0 < k := by omega
            have g2 : decide (0 < k) = true := decide_eq_true g1
            have g3 : 0 < (k : Int) := by omega
            have g4 : decide (0 < (k : Int)) = true := decide_eq_true g3
            have e4 : IntKind.i64.wrap ((k : Int) - 1) = (p : Int) := by rw [IntWalk.i64_in _ (by omega)]; omega
            have e5 : decide (zs[k] ≤ zs[p]) = false := decide_eq_false (by omega)
            have p0 : 0 ≤ (p : Int) := by omega
            have p1 : (p : Int) < (N : Int) := by omega
            generalize zs[k] = z at hc z0' z1' z2' e1 e5 hp
            generalize zs[p] = y at hd e5 hp
            clear hpk2 hkz0
            by_cases hlast : k + 1 < N
            · skip
              have c1 : (k : Int) + 1 < (N : Int) := by omega
              have c4 : decide ((k : Int) + 1 < (N : Int)) = true := decide_eq_true c1
              have c6 : decide (k + 1 < N) = true := decide_eq_true hlast
              have c8 := z2' (hkn hlast)
              have c9 : IntKind.i64.wrap (d * ((k : Int) + 1)) = d * ((k : Int) + 1) := IntWalk.i64_in _ (by omega)
              have c10 : (z != d * ((k : Int) + 1)) = false := by simp [c8]
              clear c8 z2'
              clear hkn
              go_wp2
              go_quiet (fail)
              go_wp2
              go_roundw
              case rel => exact ⟨k + 1, _, by omega, by go_num, rfl⟩
              case measure => simp [intOf]; omega
            · skip
              have c1 : ¬ (k : Int) + 1 < (N : Int) := by omega
              have c4 : decide ((k : Int) + 1 < (N : Int)) = false := decide_eq_false c1
              have c6 : decide (k + 1 < N) = false := decide_eq_false hlast
              clear z2'
              clear hkn
              go_wp2
              go_quiet (fail)
              go_wp2
              go_roundw
              case rel => exact ⟨k + 1, _, by omega, by go_num, rfl⟩
              case measure => simp [intOf]; omega
        · obtain rfl : k = N := by omega
          have hN := F1.out
          obtain ⟨g, rfl, hc⟩ := VA.out nn (by rw [HN.out]; omega)
          rw [F7.out (by rw [HN.out]; omega)] at hc
          have HBY := Lib.hid (bdk HB86.out q)
          have n1 : ((k : Int) == 0) = false := by rw [beq_eq_false_iff_ne]; omega
          have n2 : (k == 0) = false := by rw [beq_eq_false_iff_ne]; omega
          have n2' : ¬ k = 0 := by omega
          have n3 : (b == 0) = false := by rw [beq_eq_false_iff_ne]; omega
          have n4 : decide (0 < (k : Int)) = true := decide_eq_true (by omega)
          have n4' : 0 < k := by omega
          have n4'' : 0 < (k : Int) := by omega
          have n5 : IntKind.i64.wrap ((k : Int) - 1) = (nn : Int) := by rw [IntWalk.i64_in _ (by omega)]; omega
          have n6 : 0 ≤ (nn : Int) := by omega
          have n7 : (nn : Int) < (k : Int) := by omega
          clear hN hk
          have R92 := Lib.hid (prow_keep R89.out (below_drawn _ q))
          have R93 := Lib.hid (irow_keep R91.out (below_drawn _ q))
          have hcq : (w85.drewN q).cell? ⟨g, nn, none⟩ = some (.int .i64 b) := hc
          clear hc
          generalize w85.drewN q = WY at R92 R93 HBY hcq ⊢
          by_cases h5 : C5 = 0
          · obtain ⟨y1, y2, y3⟩ := codeU_of (HC5.out.trans h5)
            have Y1 := Lib.hid (show ansK (codeR c m) (edgeC c m) = edgeC c m by rw [y2]; rfl)
            have Y2 := Lib.hid y2
            have UE := Lib.hid (show us = underK (edgeC c m) ps ps.length by rw [← Hus.out]; unfold underL; rw [if_pos (HC5.out.trans h5)])
            obtain ⟨E, HE⟩ : ∃ v, Hid (edgeC c m = v) := ⟨_, Lib.hid rfl⟩
            have Y1 := Lib.hid (Y1.out.trans HE.out)
            rw [HE.out] at UE
            subst h5
            clear y1 y2 y3
            go_wp2_with fail
            refine (implCapEdge_any c m WY).mono ?_
            rw [Y1.out, Y2.out]
            rintro e w94 ⟨rfl, hb⟩
            have HB95 := Lib.hid (HBY.out.trans (hb.mono HBY.out.size))
            have R96 := Lib.hid (prow_keep R92.out hb)
            have R97 := Lib.hid (irow_keep R93.out hb)
            clear hb
            obtain ⟨ua, uc, hue, hua⟩ := prow_at R96.out
            subst hue
            have UA := Lib.hid hua
            obtain ⟨sa, sc, hse, hsa⟩ := irow_at'' R97.out
            obtain ⟨sn, HSN⟩ : ∃ v, Hid (us.length = v) := ⟨_, Lib.hid rfl⟩
            rw [HSN.out] at hse
            subst hse
            have SA := Lib.hid (show ∀ q : Nat, ∀ k, (hk : k < us.length) → ∃ g, sa = some ⟨g, 0, none⟩ ∧ (w94.drewN q).cell? ⟨g, k, none⟩ = some (.int .i64 us[k]) from fun _ => hsa)
            clear hua hsa
            go_wp2
            go_loopw [45] (fun i wr => ∃ k q : Nat, k ≤ ps.length ∧ i = .int .i64 (k : Int) ∧ wr = w94.drewN q) (fun i _ => ps.length - (intOf i).toNat)
            case atStart => exact ⟨0, 0, Nat.zero_le _, rfl, rfl⟩
            case round =>
              obtain ⟨k, q, hk, rfl, rfl⟩ := hrel
              by_cases hlt : k < ps.length
              · obtain ⟨gb, off, rfl, _, g1, g2⟩ := UA.out k hlt
                have hk0 : 0 ≤ (k : Int) := by omega
                have hk1 : (k : Int) < (ps.length : Int) := by omega
                have MEM := Lib.hid (show ((k : Int) ∈ us ↔ E ≤ ps[k].1) from by
                  rw [UE.out, underK_mem]
                  simp [hlt])
                generalize ps[k] = y at g1 g2 MEM
                obtain ⟨y1, y2⟩ := y
                simp only at g1 MEM
                by_cases hE : E ≤ y1
                · have NM := Lib.hid (show decide ((k : Int) ∈ us) = true from decide_eq_true (MEM.out.2 hE))
                  go_wp2
                  go_quiet ((go_at_call 35; exact (f6has_is _ _ _ us _ true _ HSN.out (SA.out _) (by have := HSN.out; have := UL.out; omega) NM.out).mono fun _ _ h => ⟨h.1, _, h.2.symm⟩))
                  go_wp2
                  go_roundw
                  case rel => exact ⟨k + 1, _, by omega, by go_num, rfl⟩
                  case measure => simp [intOf]; omega
                · have NM := Lib.hid (show decide ((k : Int) ∈ us) = false from decide_eq_false fun h => hE (MEM.out.1 h))
                  have hE' : decide (E ≤ y1) = false := decide_eq_false hE
                  go_wp2
                  go_quiet ((go_at_call 35; exact (f6has_is _ _ _ us _ false _ HSN.out (SA.out _) (by have := HSN.out; have := UL.out; omega) NM.out).mono fun _ _ h => ⟨h.1, _, h.2.symm⟩))
                  go_wp2
                  go_roundw
                  case rel => exact ⟨k + 1, _, by omega, by go_num, rfl⟩
                  case measure => simp [intOf]; omega
              · obtain rfl : k = ps.length := by omega
                have HBZ := Lib.hid (bdk HB95.out q)
                have a9 := ring_nonneg x1 x2 x3 x4 x5
                rw [HA9.out] at a9
                have a9' : decide (A9 < 0) = false := decide_eq_false (by omega)
                have a9'' : ¬ A9 < 0 := by omega
                clear a9
                by_cases h9 : C9 = 0
                · subst h9
                  by_cases h1 : C1 = 0
                  · obtain ⟨y1, y2, y3, y4, y5⟩ := codeR_of (HC1.out.trans h1)
                    obtain ⟨y6, y7⟩ := edgeC_bounds y1 y3 y5
                    have y8 : A1 = edgeC a r := by rw [← HA1.out, HC1.out, h1]; rfl
                    have y9 : 0 ≤ A1 := by rw [y8]; unfold edgeC; omega
                    have y10 : A1 ≤ 324000 := by rw [y8]; unfold edgeC; omega
                    have y11 : decide (0 ≤ A1) = true := decide_eq_true y9
                    have y12 : decide (A1 ≤ 324000) = true := decide_eq_true y10
                    clear y1 y2 y3 y4 y5 y6 y7 y8
                    subst h1
                    go_wp2
                    go_ret
                    exact ⟨rfl, HBZ.out⟩
                  · have h1' : (C1 != 0) = true := by simpa using h1
                    clear h1
                    go_wp2
                    go_ret
                    exact ⟨rfl, HBZ.out⟩
                · have h9' : (C9 == 0) = false := by simpa using h9
                  clear h9
                  by_cases h1 : C1 = 0
                  · obtain ⟨y1, y2, y3, y4, y5⟩ := codeR_of (HC1.out.trans h1)
                    obtain ⟨y6, y7⟩ := edgeC_bounds y1 y3 y5
                    have y8 : A1 = edgeC a r := by rw [← HA1.out, HC1.out, h1]; rfl
                    have y9 : 0 ≤ A1 := by rw [y8]; unfold edgeC; omega
                    have y10 : A1 ≤ 324000 := by rw [y8]; unfold edgeC; omega
                    have y11 : decide (0 ≤ A1) = true := decide_eq_true y9
                    have y12 : decide (A1 ≤ 324000) = true := decide_eq_true y10
                    clear y1 y2 y3 y4 y5 y6 y7 y8
                    subst h1
                    go_wp2
                    go_ret
                    exact ⟨rfl, HBZ.out⟩
                  · have h1' : (C1 != 0) = true := by simpa using h1
                    clear h1
                    go_wp2
                    go_ret
                    exact ⟨rfl, HBZ.out⟩
          · have h5' : (C5 == 0) = false := by simpa using h5
            clear h5
            have a9 := ring_nonneg x1 x2 x3 x4 x5
            rw [HA9.out] at a9
            have a9' : decide (A9 < 0) = false := decide_eq_false (by omega)
            have a9'' : ¬ A9 < 0 := by omega
            clear a9
            by_cases h9 : C9 = 0
            · subst h9
              by_cases h1 : C1 = 0
              · obtain ⟨y1, y2, y3, y4, y5⟩ := codeR_of (HC1.out.trans h1)
                obtain ⟨y6, y7⟩ := edgeC_bounds y1 y3 y5
                have y8 : A1 = edgeC a r := by rw [← HA1.out, HC1.out, h1]; rfl
                have y9 : 0 ≤ A1 := by rw [y8]; unfold edgeC; omega
                have y10 : A1 ≤ 324000 := by rw [y8]; unfold edgeC; omega
                have y11 : decide (0 ≤ A1) = true := decide_eq_true y9
                have y12 : decide (A1 ≤ 324000) = true := decide_eq_true y10
                clear y1 y2 y3 y4 y5 y6 y7 y8
                subst h1
                go_wp2
                go_ret
                exact ⟨rfl, HBY.out⟩
              · have h1' : (C1 != 0) = true := by simpa using h1
                clear h1
                go_wp2
                go_ret
                exact ⟨rfl, HBY.out⟩
            · have h9' : (C9 == 0) = false := by simpa using h9
              clear h9
              by_cases h1 : C1 = 0
              · obtain ⟨y1, y2, y3, y4, y5⟩ := codeR_of (HC1.out.trans h1)
                obtain ⟨y6, y7⟩ := edgeC_bounds y1 y3 y5
                have y8 : A1 = edgeC a r := by rw [← HA1.out, HC1.out, h1]; rfl
                have y9 : 0 ≤ A1 := by rw [y8]; unfold edgeC; omega
                have y10 : A1 ≤ 324000 := by rw [y8]; unfold edgeC; omega
                have y11 : decide (0 ≤ A1) = true := decide_eq_true y9
                have y12 : decide (A1 ≤ 324000) = true := decide_eq_true y10
                clear y1 y2 y3 y4 y5 y6 y7 y8
                subst h1
                go_wp2
                go_ret
                exact ⟨rfl, HBY.out⟩
              · have h1' : (C1 != 0) = true := by simpa using h1
                clear h1
                go_wp2
                go_ret
                exact ⟨rfl, HBY.out⟩
    · obtain rfl : b = 0 := by
        have := (codeN_of HC3.out).1
        omega
      have ZE := Lib.hid (show zs = [] by rw [← Hzs.out]; exact ringsV_zero HC3.out)
      obtain ⟨va, vc, hve, _⟩ := irow_at'' R88.out
      rw [ZE.out] at hve
      simp only [List.length_nil] at hve
      subst hve
      go_wp2
      go_loopw [42] (fun i wr => i = .int .i64 0 ∧ w85 = wr) (fun i _ => 0)
      case atStart => exact ⟨rfl, rfl⟩
      case round =>
        obtain ⟨rfl, rfl⟩ := hrel
        by_cases h5 : C5 = 0
        · obtain ⟨y1, y2, y3⟩ := codeU_of (HC5.out.trans h5)
          have Y1 := Lib.hid (show ansK (codeR c m) (edgeC c m) = edgeC c m by rw [y2]; rfl)
          have Y2 := Lib.hid y2
          have UE := Lib.hid (show us = underK (edgeC c m) ps ps.length by rw [← Hus.out]; unfold underL; rw [if_pos (HC5.out.trans h5)])
          obtain ⟨E, HE⟩ : ∃ v, Hid (edgeC c m = v) := ⟨_, Lib.hid rfl⟩
          have Y1 := Lib.hid (Y1.out.trans HE.out)
          rw [HE.out] at UE
          subst h5
          clear y1 y2 y3
          go_wp2_with fail
          refine (implCapEdge_any c m w85).mono ?_
          rw [Y1.out, Y2.out]
          rintro e w98 ⟨rfl, hb⟩
          have HB99 := Lib.hid (HB86.out.trans (hb.mono HB86.out.size))
          have R100 := Lib.hid (irow_keep R87.out hb)
          have R101 := Lib.hid (irow_keep R88.out hb)
          have R102 := Lib.hid (prow_keep R89.out hb)
          have R103 := Lib.hid (irow_keep R90.out hb)
          have R104 := Lib.hid (irow_keep R91.out hb)
          clear hb
          obtain ⟨ua, uc, hue, hua⟩ := prow_at R102.out
          subst hue
          have UA := Lib.hid hua
          obtain ⟨sa, sc, hse, hsa⟩ := irow_at'' R104.out
          obtain ⟨sn, HSN⟩ : ∃ v, Hid (us.length = v) := ⟨_, Lib.hid rfl⟩
          rw [HSN.out] at hse
          subst hse
          have SA := Lib.hid (show ∀ q : Nat, ∀ k, (hk : k < us.length) → ∃ g, sa = some ⟨g, 0, none⟩ ∧ (w98.drewN q).cell? ⟨g, k, none⟩ = some (.int .i64 us[k]) from fun _ => hsa)
          clear hua hsa
          go_wp2
          go_loopw [45] (fun i wr => ∃ k q : Nat, k ≤ ps.length ∧ i = .int .i64 (k : Int) ∧ wr = w98.drewN q) (fun i _ => ps.length - (intOf i).toNat)
          case atStart => exact ⟨0, 0, Nat.zero_le _, rfl, rfl⟩
          case round =>
            obtain ⟨k, q, hk, rfl, rfl⟩ := hrel
            by_cases hlt : k < ps.length
            · obtain ⟨gb, off, rfl, _, g1, g2⟩ := UA.out k hlt
              have hk0 : 0 ≤ (k : Int) := by omega
              have hk1 : (k : Int) < (ps.length : Int) := by omega
              have MEM := Lib.hid (show ((k : Int) ∈ us ↔ E ≤ ps[k].1) from by
                rw [UE.out, underK_mem]
                simp [hlt])
              generalize ps[k] = y at g1 g2 MEM
              obtain ⟨y1, y2⟩ := y
              simp only at g1 MEM
              by_cases hE : E ≤ y1
              · have NM := Lib.hid (show decide ((k : Int) ∈ us) = true from decide_eq_true (MEM.out.2 hE))
                go_wp2
                go_quiet ((go_at_call 35; exact (f6has_is _ _ _ us _ true _ HSN.out (SA.out _) (by have := HSN.out; have := UL.out; omega) NM.out).mono fun _ _ h => ⟨h.1, _, h.2.symm⟩))
                go_wp2
                go_roundw
                case rel => exact ⟨k + 1, _, by omega, by go_num, rfl⟩
                case measure => simp [intOf]; omega
              · have NM := Lib.hid (show decide ((k : Int) ∈ us) = false from decide_eq_false fun h => hE (MEM.out.1 h))
                have hE' : decide (E ≤ y1) = false := decide_eq_false hE
                go_wp2
                go_quiet ((go_at_call 35; exact (f6has_is _ _ _ us _ false _ HSN.out (SA.out _) (by have := HSN.out; have := UL.out; omega) NM.out).mono fun _ _ h => ⟨h.1, _, h.2.symm⟩))
                go_wp2
                go_roundw
                case rel => exact ⟨k + 1, _, by omega, by go_num, rfl⟩
                case measure => simp [intOf]; omega
            · obtain rfl : k = ps.length := by omega
              have HBZ := Lib.hid (bdk HB99.out q)
              have a9 := ring_nonneg x1 x2 x3 x4 x5
              rw [HA9.out] at a9
              have a9' : decide (A9 < 0) = false := decide_eq_false (by omega)
              have a9'' : ¬ A9 < 0 := by omega
              clear a9
              by_cases h9 : C9 = 0
              · subst h9
                by_cases h1 : C1 = 0
                · obtain ⟨y1, y2, y3, y4, y5⟩ := codeR_of (HC1.out.trans h1)
                  obtain ⟨y6, y7⟩ := edgeC_bounds y1 y3 y5
                  have y8 : A1 = edgeC a r := by rw [← HA1.out, HC1.out, h1]; rfl
                  have y9 : 0 ≤ A1 := by rw [y8]; unfold edgeC; omega
                  have y10 : A1 ≤ 324000 := by rw [y8]; unfold edgeC; omega
                  have y11 : decide (0 ≤ A1) = true := decide_eq_true y9
                  have y12 : decide (A1 ≤ 324000) = true := decide_eq_true y10
                  clear y1 y2 y3 y4 y5 y6 y7 y8
                  subst h1
                  go_wp2
                  go_ret
                  exact ⟨rfl, HBZ.out⟩
                · have h1' : (C1 != 0) = true := by simpa using h1
                  clear h1
                  go_wp2
                  go_ret
                  exact ⟨rfl, HBZ.out⟩
              · have h9' : (C9 == 0) = false := by simpa using h9
                clear h9
                by_cases h1 : C1 = 0
                · obtain ⟨y1, y2, y3, y4, y5⟩ := codeR_of (HC1.out.trans h1)
                  obtain ⟨y6, y7⟩ := edgeC_bounds y1 y3 y5
                  have y8 : A1 = edgeC a r := by rw [← HA1.out, HC1.out, h1]; rfl
                  have y9 : 0 ≤ A1 := by rw [y8]; unfold edgeC; omega
                  have y10 : A1 ≤ 324000 := by rw [y8]; unfold edgeC; omega
                  have y11 : decide (0 ≤ A1) = true := decide_eq_true y9
                  have y12 : decide (A1 ≤ 324000) = true := decide_eq_true y10
                  clear y1 y2 y3 y4 y5 y6 y7 y8
                  subst h1
                  go_wp2
                  go_ret
                  exact ⟨rfl, HBZ.out⟩
                · have h1' : (C1 != 0) = true := by simpa using h1
                  clear h1
                  go_wp2
                  go_ret
                  exact ⟨rfl, HBZ.out⟩
        · have h5' : (C5 == 0) = false := by simpa using h5
          clear h5
          have a9 := ring_nonneg x1 x2 x3 x4 x5
          rw [HA9.out] at a9
          have a9' : decide (A9 < 0) = false := decide_eq_false (by omega)
          have a9'' : ¬ A9 < 0 := by omega
          clear a9
          by_cases h9 : C9 = 0
          · subst h9
            by_cases h1 : C1 = 0
            · obtain ⟨y1, y2, y3, y4, y5⟩ := codeR_of (HC1.out.trans h1)
              obtain ⟨y6, y7⟩ := edgeC_bounds y1 y3 y5
              have y8 : A1 = edgeC a r := by rw [← HA1.out, HC1.out, h1]; rfl
              have y9 : 0 ≤ A1 := by rw [y8]; unfold edgeC; omega
              have y10 : A1 ≤ 324000 := by rw [y8]; unfold edgeC; omega
              have y11 : decide (0 ≤ A1) = true := decide_eq_true y9
              have y12 : decide (A1 ≤ 324000) = true := decide_eq_true y10
              clear y1 y2 y3 y4 y5 y6 y7 y8
              subst h1
              go_wp2
              go_ret
              exact ⟨rfl, HB86.out⟩
            · have h1' : (C1 != 0) = true := by simpa using h1
              clear h1
              go_wp2
              go_ret
              exact ⟨rfl, HB86.out⟩
          · have h9' : (C9 == 0) = false := by simpa using h9
            clear h9
            by_cases h1 : C1 = 0
            · obtain ⟨y1, y2, y3, y4, y5⟩ := codeR_of (HC1.out.trans h1)
              obtain ⟨y6, y7⟩ := edgeC_bounds y1 y3 y5
              have y8 : A1 = edgeC a r := by rw [← HA1.out, HC1.out, h1]; rfl
              have y9 : 0 ≤ A1 := by rw [y8]; unfold edgeC; omega
              have y10 : A1 ≤ 324000 := by rw [y8]; unfold edgeC; omega
              have y11 : decide (0 ≤ A1) = true := decide_eq_true y9
              have y12 : decide (A1 ≤ 324000) = true := decide_eq_true y10
              clear y1 y2 y3 y4 y5 y6 y7 y8
              subst h1
              go_wp2
              go_ret
              exact ⟨rfl, HB86.out⟩
            · have h1' : (C1 != 0) = true := by simpa using h1
              clear h1
              go_wp2
              go_ret
              exact ⟨rfl, HB86.out⟩
  · have h3' : (C3 == 0) = false := by simpa using h3
    clear h3
    by_cases h5 : C5 = 0
    · obtain ⟨y1, y2, y3⟩ := codeU_of (HC5.out.trans h5)
      have Y1 := Lib.hid (show ansK (codeR c m) (edgeC c m) = edgeC c m by rw [y2]; rfl)
      have Y2 := Lib.hid y2
      have UE := Lib.hid (show us = underK (edgeC c m) ps ps.length by rw [← Hus.out]; unfold underL; rw [if_pos (HC5.out.trans h5)])
      obtain ⟨E, HE⟩ : ∃ v, Hid (edgeC c m = v) := ⟨_, Lib.hid rfl⟩
      have Y1 := Lib.hid (Y1.out.trans HE.out)
      rw [HE.out] at UE
      subst h5
      clear y1 y2 y3
      go_wp2_with fail
      refine (implCapEdge_any c m w85).mono ?_
      rw [Y1.out, Y2.out]
      rintro e w105 ⟨rfl, hb⟩
      have HB106 := Lib.hid (HB86.out.trans (hb.mono HB86.out.size))
      have R107 := Lib.hid (irow_keep R87.out hb)
      have R108 := Lib.hid (irow_keep R88.out hb)
      have R109 := Lib.hid (prow_keep R89.out hb)
      have R110 := Lib.hid (irow_keep R90.out hb)
      have R111 := Lib.hid (irow_keep R91.out hb)
      clear hb
      obtain ⟨ua, uc, hue, hua⟩ := prow_at R109.out
      subst hue
      have UA := Lib.hid hua
      obtain ⟨sa, sc, hse, hsa⟩ := irow_at'' R111.out
      obtain ⟨sn, HSN⟩ : ∃ v, Hid (us.length = v) := ⟨_, Lib.hid rfl⟩
      rw [HSN.out] at hse
      subst hse
      have SA := Lib.hid (show ∀ q : Nat, ∀ k, (hk : k < us.length) → ∃ g, sa = some ⟨g, 0, none⟩ ∧ (w105.drewN q).cell? ⟨g, k, none⟩ = some (.int .i64 us[k]) from fun _ => hsa)
      clear hua hsa
      go_wp2
      go_loopw [45] (fun i wr => ∃ k q : Nat, k ≤ ps.length ∧ i = .int .i64 (k : Int) ∧ wr = w105.drewN q) (fun i _ => ps.length - (intOf i).toNat)
      case atStart => exact ⟨0, 0, Nat.zero_le _, rfl, rfl⟩
      case round =>
        obtain ⟨k, q, hk, rfl, rfl⟩ := hrel
        by_cases hlt : k < ps.length
        · obtain ⟨gb, off, rfl, _, g1, g2⟩ := UA.out k hlt
          have hk0 : 0 ≤ (k : Int) := by omega
          have hk1 : (k : Int) < (ps.length : Int) := by omega
          have MEM := Lib.hid (show ((k : Int) ∈ us ↔ E ≤ ps[k].1) from by
            rw [UE.out, underK_mem]
            simp [hlt])
          generalize ps[k] = y at g1 g2 MEM
          obtain ⟨y1, y2⟩ := y
          simp only at g1 MEM
          by_cases hE : E ≤ y1
          · have NM := Lib.hid (show decide ((k : Int) ∈ us) = true from decide_eq_true (MEM.out.2 hE))
            go_wp2
            go_quiet ((go_at_call 35; exact (f6has_is _ _ _ us _ true _ HSN.out (SA.out _) (by have := HSN.out; have := UL.out; omega) NM.out).mono fun _ _ h => ⟨h.1, _, h.2.symm⟩))
            go_wp2
            go_roundw
            case rel => exact ⟨k + 1, _, by omega, by go_num, rfl⟩
            case measure => simp [intOf]; omega
          · have NM := Lib.hid (show decide ((k : Int) ∈ us) = false from decide_eq_false fun h => hE (MEM.out.1 h))
            have hE' : decide (E ≤ y1) = false := decide_eq_false hE
            go_wp2
            go_quiet ((go_at_call 35; exact (f6has_is _ _ _ us _ false _ HSN.out (SA.out _) (by have := HSN.out; have := UL.out; omega) NM.out).mono fun _ _ h => ⟨h.1, _, h.2.symm⟩))
            go_wp2
            go_roundw
            case rel => exact ⟨k + 1, _, by omega, by go_num, rfl⟩
            case measure => simp [intOf]; omega
        · obtain rfl : k = ps.length := by omega
          have HBZ := Lib.hid (bdk HB106.out q)
          have a9 := ring_nonneg x1 x2 x3 x4 x5
          rw [HA9.out] at a9
          have a9' : decide (A9 < 0) = false := decide_eq_false (by omega)
          have a9'' : ¬ A9 < 0 := by omega
          clear a9
          by_cases h9 : C9 = 0
          · subst h9
            by_cases h1 : C1 = 0
            · obtain ⟨y1, y2, y3, y4, y5⟩ := codeR_of (HC1.out.trans h1)
              obtain ⟨y6, y7⟩ := edgeC_bounds y1 y3 y5
              have y8 : A1 = edgeC a r := by rw [← HA1.out, HC1.out, h1]; rfl
              have y9 : 0 ≤ A1 := by rw [y8]; unfold edgeC; omega
              have y10 : A1 ≤ 324000 := by rw [y8]; unfold edgeC; omega
              have y11 : decide (0 ≤ A1) = true := decide_eq_true y9
              have y12 : decide (A1 ≤ 324000) = true := decide_eq_true y10
              clear y1 y2 y3 y4 y5 y6 y7 y8
              subst h1
              go_wp2
              go_ret
              exact ⟨rfl, HBZ.out⟩
            · have h1' : (C1 != 0) = true := by simpa using h1
              clear h1
              go_wp2
              go_ret
              exact ⟨rfl, HBZ.out⟩
          · have h9' : (C9 == 0) = false := by simpa using h9
            clear h9
            by_cases h1 : C1 = 0
            · obtain ⟨y1, y2, y3, y4, y5⟩ := codeR_of (HC1.out.trans h1)
              obtain ⟨y6, y7⟩ := edgeC_bounds y1 y3 y5
              have y8 : A1 = edgeC a r := by rw [← HA1.out, HC1.out, h1]; rfl
              have y9 : 0 ≤ A1 := by rw [y8]; unfold edgeC; omega
              have y10 : A1 ≤ 324000 := by rw [y8]; unfold edgeC; omega
              have y11 : decide (0 ≤ A1) = true := decide_eq_true y9
              have y12 : decide (A1 ≤ 324000) = true := decide_eq_true y10
              clear y1 y2 y3 y4 y5 y6 y7 y8
              subst h1
              go_wp2
              go_ret
              exact ⟨rfl, HBZ.out⟩
            · have h1' : (C1 != 0) = true := by simpa using h1
              clear h1
              go_wp2
              go_ret
              exact ⟨rfl, HBZ.out⟩
    · have h5' : (C5 == 0) = false := by simpa using h5
      clear h5
      have a9 := ring_nonneg x1 x2 x3 x4 x5
      rw [HA9.out] at a9
      have a9' : decide (A9 < 0) = false := decide_eq_false (by omega)
      have a9'' : ¬ A9 < 0 := by omega
      clear a9
      by_cases h9 : C9 = 0
      · subst h9
        by_cases h1 : C1 = 0
        · obtain ⟨y1, y2, y3, y4, y5⟩ := codeR_of (HC1.out.trans h1)
          obtain ⟨y6, y7⟩ := edgeC_bounds y1 y3 y5
          have y8 : A1 = edgeC a r := by rw [← HA1.out, HC1.out, h1]; rfl
          have y9 : 0 ≤ A1 := by rw [y8]; unfold edgeC; omega
          have y10 : A1 ≤ 324000 := by rw [y8]; unfold edgeC; omega
          have y11 : decide (0 ≤ A1) = true := decide_eq_true y9
          have y12 : decide (A1 ≤ 324000) = true := decide_eq_true y10
          clear y1 y2 y3 y4 y5 y6 y7 y8
          subst h1
          go_wp2
          go_ret
          exact ⟨rfl, HB86.out⟩
        · have h1' : (C1 != 0) = true := by simpa using h1
          clear h1
          go_wp2
          go_ret
          exact ⟨rfl, HB86.out⟩
      · have h9' : (C9 == 0) = false := by simpa using h9
        clear h9
        by_cases h1 : C1 = 0
        · obtain ⟨y1, y2, y3, y4, y5⟩ := codeR_of (HC1.out.trans h1)
          obtain ⟨y6, y7⟩ := edgeC_bounds y1 y3 y5
          have y8 : A1 = edgeC a r := by rw [← HA1.out, HC1.out, h1]; rfl
          have y9 : 0 ≤ A1 := by rw [y8]; unfold edgeC; omega
          have y10 : A1 ≤ 324000 := by rw [y8]; unfold edgeC; omega
          have y11 : decide (0 ≤ A1) = true := decide_eq_true y9
          have y12 : decide (A1 ≤ 324000) = true := decide_eq_true y10
          clear y1 y2 y3 y4 y5 y6 y7 y8
          subst h1
          go_wp2
          go_ret
          exact ⟨rfl, HB86.out⟩
        · have h1' : (C1 != 0) = true := by simpa using h1
          clear h1
          go_wp2
          go_ret
          exact ⟨rfl, HB86.out⟩

set_option maxRecDepth 100000 in
theorem lifted (os : Os) (started : os.Started) (H : Type) (enc : TypeId × Value → H) :
    ReturnsInHanded {} Try.checked os 3 .any (Rows.fnCapsSpec.pre6 enc Try.prog Try.f3 Rows.fnCapsRow.domain false) (Rows.fnCapsSpec.post enc Try.prog Try.f3 false true false false) := by
  refine returnsInHanded_of_change (C := Try.checked) own started (by kernel_rfl) Try.func3
    (ChangeSpec.witness6 (enc := enc) (C := Try.checked) false ⟨#[], #[.slice none 0 0], []⟩ 8 (by kernel_rfl) (by kernel_rfl) (by kernel_rfl) (by kernel_rfl)) ?_
  intro W base args ds gs before hval0 hW hcnd _
  have hval : ∀ (j : Nat) t v, Try.f3.params[j]? = some t → args[j]? = some v → Value.okWide Try.prog W .any base t v := hval0
  have hW' := hW
  obtain ⟨p, q, hA0, hV, hpq, hfz, hnd⟩ := hW
  have hA : DataW.TrodAll enc Try.prog W 0 (fun _ => true) true Try.f3.params.toList args.toList ds p := hA0
  rw [Try.params3] at hA hval
  obtain ⟨v0, vs0, d0, ds0, p0, q0, hargs, rfl, rfl, h0, r0⟩ := trodAll_cons hA
  obtain ⟨rfl, rfl, rfl⟩ := trodAll_nil r0
  obtain rfl : args = #[v0] := by cases args; simp_all
  obtain ⟨a0, len0, cap0, rfl⟩ := okWide_slice Try.underlying22 (hval 0 22 v0 rfl rfl)
  obtain ⟨z0, w0⟩ : ∃ zs, IsRow .u8 W a0 len0 cap0 zs := by
    obtain ⟨fuel, hf⟩ := h0
    rcases open_ints Try.underlying22 Try.underlying5 (by kernel_rfl) hf with ⟨hcs, _⟩ | ⟨x, l, c, zs, hcs, _, hl, hm, hz, _, hcell, hwz⟩
    · simp [Value.cells] at hcs
      obtain ⟨rfl, rfl, rfl⟩ := hcs
      exact ⟨[], .inl ⟨rfl, rfl, rfl, rfl⟩⟩
    · simp [Value.cells] at hcs
      obtain ⟨rfl, rfl, rfl⟩ := hcs
      exact ⟨zs, .inr ⟨_, rfl, hl, hm, by simpa using hz, hcell, hwz⟩⟩
  refine (walk a0 len0 cap0 z0 W w0).mono fun e W' ⟨he, bel⟩ => ?_
  subst he
  exact ⟨_, rfl, post_of_law laidOut (by kernel_rfl) Try.underlying4 rfl rfl (fun ds h => by match ds, h with | [_], _ => rfl) hW' bel⟩

theorem holds : Rows.FnCapsSaid :=
  OpenClaim.holds_of_wide 3 Try.f3 rfl rfl rfl rfl rfl rfl rfl ⟨rfl, rfl, rfl, rfl, rfl⟩ rfl rfl rfl rfl rfl (by kernel_rfl) Try.func3 (by kernel_rfl)
    (of_decide_eq_true (by kernel_rfl)) (by unfold Func.isWrapper; first | (rw [if_pos (by decide +kernel)]; kernel_rfl) | (rw [if_neg (by decide +kernel)]; exact ⟨rfl, rfl⟩))
    (fun os started H enc _ => lifted os started H enc)
#print axioms holds

end Go.Proofs.Ytiemealkdgnhcaa.fncaps
