/- FnDistances answers true for every two lists of bytes. -/
import Derived.Test.YtbggbgfmahnjkaaDistF
import Derived.Test.YtbggbgfmahnjkaaTurns
import Derived.Test.YtbggbgfmahnjkaaA2S
namespace Go.Proofs.Ytbggbgfmahnjkaa.distances
open Go.ChangeShapes Go.WideShapes Go.ChangeAt Go.RowKit Go.Proofs.Ytbggbgfmahnjkaa.spots Go.Proofs.Ytbggbgfmahnjkaa.sines Go.Proofs.Ytbggbgfmahnjkaa.src Go.Proofs.Ytbggbgfmahnjkaa.a2 Go.Proofs.Ytbggbgfmahnjkaa.a2s

/-- Two numbers at the head of a block. -/
def TwoAt (W : World) (b : Nat) (x y : Int) : Prop := b < W.heap.size ∧ W.cell? ⟨b, 0, none⟩ = some (.int .i64 x) ∧ W.cell? ⟨b, 1, none⟩ = some (.int .i64 y)
theorem two_fresh (w : World) (x y : Int) (t : TypeId) : TwoAt (w.alloc (.cells #[.int .i64 x, .int .i64 y] t)) w.heap.size x y :=
  ⟨by simp, by rw [World.cell?_alloc_new]; rfl, by rw [World.cell?_alloc_new]; rfl⟩
theorem two_keep {W W' : World} {b : Nat} {x y : Int} (h : TwoAt W b x y) (hb : Below W.heap.size W W') : TwoAt W' b x y :=
  ⟨Nat.lt_of_lt_of_le h.1 hb.size, (hb.cell (p := ⟨b, 0, none⟩) h.1).trans h.2.1, (hb.cell (p := ⟨b, 1, none⟩) h.1).trans h.2.2⟩
theorem wrap_ok {x : Int} (n : Int) (h1 : -324000 ≤ x) (h2 : x ≤ 324000) : okB x (wrapL n) = true := by
  have h3 : -648000 ≤ wrapL n := by unfold wrapL; omega
  have h4 : wrapL n ≤ 647999 := by unfold wrapL; omega
  simp [okB, h1, h2, h3, h4]
theorem dist_code {a b c d : Int} (h : okB a b = true) (k : okB c d = true) : codeD a b c d = 0 := by simp [codeD, okTwo, h, k]
theorem dist_ans {a b c d x : Int} (h : okB a b = true) (k : okB c d = true) : ansD a b c d x = x := by simp [ansD, okTwo, h, k]
theorem draw_ok {x y : Int} (h : Drawn x y) : okB x y = true := by
  obtain ⟨d1, d2, d3, d4⟩ := h
  simp [okB, d1, d2, d3, d4]
set_option maxRecDepth 100000 in
set_option maxHeartbeats 16000000 in
theorem walk (a0 : Option Addr) (l0 c0 : Nat) (z0 : List Int) (a1 : Option Addr) (l1 c1 : Nat) (z1 : List Int) (w : World) (r0 : IsRow .u8 w a0 l0 c0 z0) (r1 : IsRow .u8 w a1 l1 c1 z1) :
    Calls Try.prog 3 #[.slice a0 l0 c0, .slice a1 l1 c1] w fun e w' => e = .returned (.bool true) ∧ Below w.heap.size w w' := by
  have hl0 := row_len r0
  have hl1 := row_len r1
  by_cases hlong : 3000 < l0 ∨ 3000 < l1
  · have hd : decide (3000 < l0 ∨ 3000 < l1) = true := decide_eq_true hlong
    clear r0 r1 hlong
    go_enter Try.func3, Try.ntmps3
    go_wp2_with fail
    refine (a2Long_any _ _ _ _ _ _ _ hl0 hl1).mono ?_
    rw [hd]
    rintro e w' ⟨rfl, rfl⟩
    go_wp2
    go_ret
    exact ⟨rfl, Below.refl _ _⟩
  have hd : decide (3000 < l0 ∨ 3000 < l1) = false := decide_eq_false hlong
  have B0 := Lib.hid (bytes_of r0 (by omega) (fun b o v h => World.block_lt_of_cell? _ _ h))
  have B1 := Lib.hid (bytes_of r1 (by omega) (fun b o v h => World.block_lt_of_cell? _ _ h))
  clear r0 r1
  go_enter Try.func3, Try.ntmps3
  go_wp2_with fail
  refine (a2Long_any _ _ _ _ _ _ _ hl0 hl1).mono ?_
  rw [hd]
  rintro e w' ⟨rfl, rfl⟩
  clear hl0 hl1 hlong hd
  go_wp2_with fail
  refine (A2Spot_any w a0 l0 c0 B0.out).mono ?_
  rintro e w1 ⟨x, y, rfl, hdr, hb⟩
  have HD1 := Lib.hid hdr
  have HW1 := Lib.hid hb
  clear hb hdr
  have BA := Lib.hid ((Below.refl w1.heap.size w1).alloc (Nat.le_refl _) (.cells #[.int .i64 x, .int .i64 y] 25))
  have AA := Lib.hid (two_fresh w1 x y 25)
  obtain ⟨WA, hWA⟩ : ∃ WA, Hid (w1.alloc (.cells #[.int .i64 x, .int .i64 y] 25) = WA) := ⟨_, Lib.hid rfl⟩
  rw [hWA.out] at BA AA
  have HWA := Lib.hid (HW1.out.trans (BA.out.mono HW1.out.size))
  obtain ⟨A, hA⟩ : ∃ A, Hid (w1.heap.size = A) := ⟨_, Lib.hid rfl⟩
  go_wp2_with fail
  rw [hWA.out]
  refine (A2Spot_any WA a1 l1 c1 (bytes_up B1.out HWA.out)).mono ?_
  rintro e w2 ⟨p, q, rfl, hdr, hb⟩
  have HD2 := Lib.hid hdr
  have HW2 := Lib.hid (HWA.out.trans (hb.mono HWA.out.size))
  have AA2 := Lib.hid (two_keep AA.out hb)
  clear hb hdr
  have BB := Lib.hid ((Below.refl w2.heap.size w2).alloc (Nat.le_refl _) (.cells #[.int .i64 p, .int .i64 q] 25))
  have HB0 := Lib.hid (two_fresh w2 p q 25)
  obtain ⟨W0, hW0⟩ : ∃ W0, Hid (w2.alloc (.cells #[.int .i64 p, .int .i64 q] 25) = W0) := ⟨_, Lib.hid rfl⟩
  rw [hW0.out] at BB HB0
  have HW0 := Lib.hid (HW2.out.trans (BB.out.mono HW2.out.size))
  have HA0 := Lib.hid (two_keep AA2.out BB.out)
  have j0 := AA2.out.2.1
  have j1 := AA2.out.2.2
  have j2 := AA2.out.1
  have OK1 := Lib.hid (draw_ok HD1.out)
  have OK2 := Lib.hid (draw_ok HD2.out)
  by_cases he : x = p ∧ y = q
  · obtain ⟨rfl, rfl⟩ := he
    have HDD := Lib.hid (distL_self x y)
    obtain ⟨D, hD0⟩ : ∃ D : Int, D = 0 := ⟨0, rfl⟩
    obtain ⟨c, HCC⟩ : ∃ c, Hid (cosD x y x y = c) := ⟨_, Lib.hid rfl⟩
    obtain ⟨cb1, cb2⟩ := cosD_bounds x y x y
    rw [HCC.out] at cb1 cb2
    rw [← hD0] at HDD
    subst hD0
    have HX1 := okB_of' OK1.out
    have HX2 := okB_of' OK2.out
    obtain ⟨x1, x2, x3, x4⟩ := HX1
    obtain ⟨p1, p2, p3, p4⟩ := HX2
    have OM1 := Lib.hid (show okB (-x) y = true by simp [okB]; omega)
    have OM2 := Lib.hid (show okB (-x) y = true by simp [okB]; omega)
    have EDD := Lib.hid (show distL x y x y = 0 from HDD.out)
    have ECC := Lib.hid (show cosD x y x y = c from HCC.out)
    have V1 := Lib.hid (show ansD x y x y (distL x y x y) = 0 by rw [dist_ans OK1.out OK2.out, EDD.out])
    have V2 := Lib.hid (show ansD x y x y (distL x y x y) = 0 by rw [dist_ans OK2.out OK1.out, distL_sym, EDD.out])
    have V3 := Lib.hid (show ansD x y x y (cosD x y x y) = c by rw [dist_ans OK1.out OK2.out, ECC.out])
    have V5 := Lib.hid (show ansD (-x) y (-x) y (distL (-x) y (-x) y) = 0 by rw [dist_ans OM1.out OM2.out, distL_mirror, EDD.out])
    have K1 := Lib.hid (dist_code OK1.out OK2.out)
    have K2 := Lib.hid (dist_code OK2.out OK1.out)
    have K5 := Lib.hid (dist_code OM1.out OM2.out)
    have TURN := Lib.hid (show ∀ n : Int, ansD x (wrapL (y + n)) x (wrapL (y + n)) (distL x (wrapL (y + n)) x (wrapL (y + n))) = 0 ∧ codeD x (wrapL (y + n)) x (wrapL (y + n)) = 0 from fun n => by
      have g1 := wrap_ok (x := x) (y + n) x1 x2
      have g2 := wrap_ok (x := x) (y + n) p1 p2
      exact ⟨by rw [dist_ans g1 g2, distL_turn _ _ _ _ n ⟨x3, x4⟩ ⟨p3, p4⟩, EDD.out], dist_code g1 g2⟩)
    have ka := HA0.out.2.1
    have kb := HA0.out.2.2
    have kc := HB0.out.2.1
    have kd := HB0.out.2.2
    go_wp2_with fail
    rw [hW0.out]
    refine (implDistanceOf_any x y x y _).mono ?_
    rw [V1.out, K1.out]
    rintro e w3 ⟨rfl, hb⟩
    have HW3 := Lib.hid (HW0.out.trans (hb.mono HW0.out.size))
    have HA3 := Lib.hid (two_keep HA0.out hb)
    have HB3 := Lib.hid (two_keep HB0.out hb)
    clear hb ka kb kc kd
    have ka := HA3.out.2.1
    have kb := HA3.out.2.2
    have kc := HB3.out.2.1
    have kd := HB3.out.2.2
    go_wp2_with fail
    refine (implDistanceOf_any x y x y _).mono ?_
    rw [V2.out, K2.out]
    rintro e w4 ⟨rfl, hb⟩
    have HW4 := Lib.hid (HW3.out.trans (hb.mono HW3.out.size))
    have HA4 := Lib.hid (two_keep HA3.out hb)
    have HB4 := Lib.hid (two_keep HB3.out hb)
    clear hb ka kb kc kd
    have ka := HA4.out.2.1
    have kb := HA4.out.2.2
    have kc := HB4.out.2.1
    have kd := HB4.out.2.2
    go_wp2_with fail
    refine (implCosDistance_any x y x y _).mono ?_
    rw [V3.out, K1.out]
    rintro e w5 ⟨rfl, hb⟩
    have HW5 := Lib.hid (HW4.out.trans (hb.mono HW4.out.size))
    have HA5 := Lib.hid (two_keep HA4.out hb)
    have HB5 := Lib.hid (two_keep HB4.out hb)
    clear hb ka kb kc kd
    have ka := HA5.out.2.1
    have kb := HA5.out.2.2
    have kc := HB5.out.2.1
    have kd := HB5.out.2.2
    go_wp2_with fail
    refine (A2Angle_any w5 a1 l1 c1 (bytes_up B1.out HW5.out)).mono ?_
    rintro e w6 ⟨n, rfl, n1, n2, hb⟩
    have HW6 := Lib.hid (HW5.out.trans (hb.mono HW5.out.size))
    have HA6 := Lib.hid (two_keep HA5.out hb)
    have HB6 := Lib.hid (two_keep HB5.out hb)
    clear hb ka kb kc kd
    have ka := HA6.out.2.1
    have kb := HA6.out.2.2
    have kc := HB6.out.2.1
    have kd := HB6.out.2.2
    have angn : angB n = true := by simp [angB]; omega
    have ANG := Lib.hid angn
    have TY := Lib.hid (TURN.out n)
    clear angn
    go_wp2_with fail
    refine (specTurn_yes x y n _ OK1.out ANG.out).mono ?_
    obtain ⟨ty, hty⟩ : ∃ t, Hid (wrapL (y + n) = t) := ⟨_, Lib.hid rfl⟩
    rw [hty.out]
    rintro e w7 ⟨rfl, hb⟩
    have HW7 := Lib.hid (HW6.out.trans (hb.mono HW6.out.size))
    have HA7 := Lib.hid (two_keep HA6.out hb)
    have HB7 := Lib.hid (two_keep HB6.out hb)
    clear hb ka kb kc kd
    have BP := Lib.hid ((Below.refl w7.heap.size w7).alloc (Nat.le_refl _) (.cells #[.int .i64 x, .int .i64 ty] 25))
    have PP := Lib.hid (two_fresh w7 x ty 25)
    obtain ⟨W8, hW8⟩ : ∃ W8, Hid (w7.alloc (.cells #[.int .i64 x, .int .i64 ty] 25) = W8) := ⟨_, Lib.hid rfl⟩
    rw [hW8.out] at BP PP
    have HW8 := Lib.hid (HW7.out.trans (BP.out.mono HW7.out.size))
    have HA8 := Lib.hid (two_keep HA7.out BP.out)
    have HB8 := Lib.hid (two_keep HB7.out BP.out)
    have kc := HB7.out.2.1
    have kd := HB7.out.2.2
    have kl := HB7.out.1
    go_wp2_with fail
    rw [hW8.out]
    refine (specTurn_yes x y n _ OK2.out ANG.out).mono ?_
    obtain ⟨tq, htq⟩ : ∃ t, Hid (wrapL (y + n) = t) := ⟨_, Lib.hid rfl⟩
    rw [htq.out]
    rintro e w9 ⟨rfl, hb⟩
    have HW9 := Lib.hid (HW8.out.trans (hb.mono HW8.out.size))
    have HA9 := Lib.hid (two_keep HA8.out hb)
    have HB9 := Lib.hid (two_keep HB8.out hb)
    have PP9 := Lib.hid (two_keep PP.out hb)
    clear hb kc kd kl
    have BQ := Lib.hid ((Below.refl w9.heap.size w9).alloc (Nat.le_refl _) (.cells #[.int .i64 x, .int .i64 tq] 25))
    have QQ := Lib.hid (two_fresh w9 x tq 25)
    obtain ⟨W10, hW10⟩ : ∃ W10, Hid (w9.alloc (.cells #[.int .i64 x, .int .i64 tq] 25) = W10) := ⟨_, Lib.hid rfl⟩
    rw [hW10.out] at BQ QQ
    have HW10 := Lib.hid (HW9.out.trans (BQ.out.mono HW9.out.size))
    have HA10 := Lib.hid (two_keep HA9.out BQ.out)
    have HB10 := Lib.hid (two_keep HB9.out BQ.out)
    have kp := PP9.out.2.1
    have kq := PP9.out.2.2
    have hlt := PP9.out.1
    have TY2 := Lib.hid (show ansD x ty x tq (distL x ty x tq) = 0 ∧ codeD x ty x tq = 0 from by rw [← hty.out, ← htq.out]; exact TY.out)
    go_wp2_with fail
    rw [hW10.out]
    refine (implDistanceOf_any x ty x tq _).mono ?_
    rw [TY2.out.1, TY2.out.2]
    rintro e w11 ⟨rfl, hb⟩
    have HW11 := Lib.hid (HW10.out.trans (hb.mono HW10.out.size))
    have HA11 := Lib.hid (two_keep HA10.out hb)
    have HB11 := Lib.hid (two_keep HB10.out hb)
    clear hb kp kq hlt
    have ka := HA11.out.2.1
    have kb := HA11.out.2.2
    have kc := HB11.out.2.1
    have kd := HB11.out.2.2
    go_wp2_with fail
    refine (implDistanceOf_any (-x) y (-x) y _).mono ?_
    rw [V5.out, K5.out]
    rintro e w12 ⟨rfl, hb⟩
    have HW12 := Lib.hid (HW11.out.trans (hb.mono HW11.out.size))
    clear hb ka kb kc kd
    go_wp2
    go_ret
    exact ⟨rfl, HW12.out⟩
  have HDP := distL_pos he
  obtain ⟨db1, db2⟩ := distL_bounds x y p q
  obtain ⟨cb1, cb2⟩ := cosD_bounds x y p q
  have HSI := distL_side he
  obtain ⟨D, HDD⟩ : ∃ D, Hid (distL x y p q = D) := ⟨_, Lib.hid rfl⟩
  obtain ⟨c, HCC⟩ : ∃ c, Hid (cosD x y p q = c) := ⟨_, Lib.hid rfl⟩
  rw [HDD.out] at HDP db1 db2 HSI
  rw [HCC.out] at cb1 cb2 HSI
  have dz : (D == 0) = false := by simp; omega
  clear db1
  by_cases hs : 0 ≤ c
  · have hs2 := HSI.1 hs
    have s1 : decide (0 ≤ c) = true := decide_eq_true hs
    have s2 : decide (D ≤ 324000) = true := decide_eq_true hs2
    clear hs hs2 HSI
    by_cases h1 : x = p
    · subst h1
      have h2 : ¬ y = q := fun k => he ⟨rfl, k⟩
      clear he
      have HX1 := okB_of' OK1.out
      have HX2 := okB_of' OK2.out
      obtain ⟨x1, x2, x3, x4⟩ := HX1
      obtain ⟨p1, p2, p3, p4⟩ := HX2
      have OM1 := Lib.hid (show okB (-x) y = true by simp [okB]; omega)
      have OM2 := Lib.hid (show okB (-x) q = true by simp [okB]; omega)
      have EDD := Lib.hid (show distL x y x q = D from HDD.out)
      have ECC := Lib.hid (show cosD x y x q = c from HCC.out)
      have V1 := Lib.hid (show ansD x y x q (distL x y x q) = D by rw [dist_ans OK1.out OK2.out, EDD.out])
      have V2 := Lib.hid (show ansD x q x y (distL x q x y) = D by rw [dist_ans OK2.out OK1.out, distL_sym, EDD.out])
      have V3 := Lib.hid (show ansD x y x q (cosD x y x q) = c by rw [dist_ans OK1.out OK2.out, ECC.out])
      have V5 := Lib.hid (show ansD (-x) y (-x) q (distL (-x) y (-x) q) = D by rw [dist_ans OM1.out OM2.out, distL_mirror, EDD.out])
      have K1 := Lib.hid (dist_code OK1.out OK2.out)
      have K2 := Lib.hid (dist_code OK2.out OK1.out)
      have K5 := Lib.hid (dist_code OM1.out OM2.out)
      have TURN := Lib.hid (show ∀ n : Int, ansD x (wrapL (y + n)) x (wrapL (q + n)) (distL x (wrapL (y + n)) x (wrapL (q + n))) = D ∧ codeD x (wrapL (y + n)) x (wrapL (q + n)) = 0 from fun n => by
        have g1 := wrap_ok (x := x) (y + n) x1 x2
        have g2 := wrap_ok (x := x) (q + n) p1 p2
        exact ⟨by rw [dist_ans g1 g2, distL_turn _ _ _ _ n ⟨x3, x4⟩ ⟨p3, p4⟩, EDD.out], dist_code g1 g2⟩)
      have ka := HA0.out.2.1
      have kb := HA0.out.2.2
      have kc := HB0.out.2.1
      have kd := HB0.out.2.2
      go_wp2_with fail
      rw [hW0.out]
      refine (implDistanceOf_any x y x q _).mono ?_
      rw [V1.out, K1.out]
      rintro e w3 ⟨rfl, hb⟩
      have HW3 := Lib.hid (HW0.out.trans (hb.mono HW0.out.size))
      have HA3 := Lib.hid (two_keep HA0.out hb)
      have HB3 := Lib.hid (two_keep HB0.out hb)
      clear hb ka kb kc kd
      have ka := HA3.out.2.1
      have kb := HA3.out.2.2
      have kc := HB3.out.2.1
      have kd := HB3.out.2.2
      go_wp2_with fail
      refine (implDistanceOf_any x q x y _).mono ?_
      rw [V2.out, K2.out]
      rintro e w4 ⟨rfl, hb⟩
      have HW4 := Lib.hid (HW3.out.trans (hb.mono HW3.out.size))
      have HA4 := Lib.hid (two_keep HA3.out hb)
      have HB4 := Lib.hid (two_keep HB3.out hb)
      clear hb ka kb kc kd
      have ka := HA4.out.2.1
      have kb := HA4.out.2.2
      have kc := HB4.out.2.1
      have kd := HB4.out.2.2
      go_wp2_with fail
      refine (implCosDistance_any x y x q _).mono ?_
      rw [V3.out, K1.out]
      rintro e w5 ⟨rfl, hb⟩
      have HW5 := Lib.hid (HW4.out.trans (hb.mono HW4.out.size))
      have HA5 := Lib.hid (two_keep HA4.out hb)
      have HB5 := Lib.hid (two_keep HB4.out hb)
      clear hb ka kb kc kd
      have ka := HA5.out.2.1
      have kb := HA5.out.2.2
      have kc := HB5.out.2.1
      have kd := HB5.out.2.2
      go_wp2_with fail
      refine (A2Angle_any w5 a1 l1 c1 (bytes_up B1.out HW5.out)).mono ?_
      rintro e w6 ⟨n, rfl, n1, n2, hb⟩
      have HW6 := Lib.hid (HW5.out.trans (hb.mono HW5.out.size))
      have HA6 := Lib.hid (two_keep HA5.out hb)
      have HB6 := Lib.hid (two_keep HB5.out hb)
      clear hb ka kb kc kd
      have ka := HA6.out.2.1
      have kb := HA6.out.2.2
      have kc := HB6.out.2.1
      have kd := HB6.out.2.2
      have angn : angB n = true := by simp [angB]; omega
      have ANG := Lib.hid angn
      have TY := Lib.hid (TURN.out n)
      clear angn
      go_wp2_with fail
      refine (specTurn_yes x y n _ OK1.out ANG.out).mono ?_
      obtain ⟨ty, hty⟩ : ∃ t, Hid (wrapL (y + n) = t) := ⟨_, Lib.hid rfl⟩
      rw [hty.out]
      rintro e w7 ⟨rfl, hb⟩
      have HW7 := Lib.hid (HW6.out.trans (hb.mono HW6.out.size))
      have HA7 := Lib.hid (two_keep HA6.out hb)
      have HB7 := Lib.hid (two_keep HB6.out hb)
      clear hb ka kb kc kd
      have BP := Lib.hid ((Below.refl w7.heap.size w7).alloc (Nat.le_refl _) (.cells #[.int .i64 x, .int .i64 ty] 25))
      have PP := Lib.hid (two_fresh w7 x ty 25)
      obtain ⟨W8, hW8⟩ : ∃ W8, Hid (w7.alloc (.cells #[.int .i64 x, .int .i64 ty] 25) = W8) := ⟨_, Lib.hid rfl⟩
      rw [hW8.out] at BP PP
      have HW8 := Lib.hid (HW7.out.trans (BP.out.mono HW7.out.size))
      have HA8 := Lib.hid (two_keep HA7.out BP.out)
      have HB8 := Lib.hid (two_keep HB7.out BP.out)
      have kc := HB7.out.2.1
      have kd := HB7.out.2.2
      have kl := HB7.out.1
      go_wp2_with fail
      rw [hW8.out]
      refine (specTurn_yes x q n _ OK2.out ANG.out).mono ?_
      obtain ⟨tq, htq⟩ : ∃ t, Hid (wrapL (q + n) = t) := ⟨_, Lib.hid rfl⟩
      rw [htq.out]
      rintro e w9 ⟨rfl, hb⟩
      have HW9 := Lib.hid (HW8.out.trans (hb.mono HW8.out.size))
      have HA9 := Lib.hid (two_keep HA8.out hb)
      have HB9 := Lib.hid (two_keep HB8.out hb)
      have PP9 := Lib.hid (two_keep PP.out hb)
      clear hb kc kd kl
      have BQ := Lib.hid ((Below.refl w9.heap.size w9).alloc (Nat.le_refl _) (.cells #[.int .i64 x, .int .i64 tq] 25))
      have QQ := Lib.hid (two_fresh w9 x tq 25)
      obtain ⟨W10, hW10⟩ : ∃ W10, Hid (w9.alloc (.cells #[.int .i64 x, .int .i64 tq] 25) = W10) := ⟨_, Lib.hid rfl⟩
      rw [hW10.out] at BQ QQ
      have HW10 := Lib.hid (HW9.out.trans (BQ.out.mono HW9.out.size))
      have HA10 := Lib.hid (two_keep HA9.out BQ.out)
      have HB10 := Lib.hid (two_keep HB9.out BQ.out)
      have kp := PP9.out.2.1
      have kq := PP9.out.2.2
      have hlt := PP9.out.1
      have TY2 := Lib.hid (show ansD x ty x tq (distL x ty x tq) = D ∧ codeD x ty x tq = 0 from by rw [← hty.out, ← htq.out]; exact TY.out)
      go_wp2_with fail
      rw [hW10.out]
      refine (implDistanceOf_any x ty x tq _).mono ?_
      rw [TY2.out.1, TY2.out.2]
      rintro e w11 ⟨rfl, hb⟩
      have HW11 := Lib.hid (HW10.out.trans (hb.mono HW10.out.size))
      have HA11 := Lib.hid (two_keep HA10.out hb)
      have HB11 := Lib.hid (two_keep HB10.out hb)
      clear hb kp kq hlt
      have ka := HA11.out.2.1
      have kb := HA11.out.2.2
      have kc := HB11.out.2.1
      have kd := HB11.out.2.2
      go_wp2_with fail
      refine (implDistanceOf_any (-x) y (-x) q _).mono ?_
      rw [V5.out, K5.out]
      rintro e w12 ⟨rfl, hb⟩
      have HW12 := Lib.hid (HW11.out.trans (hb.mono HW11.out.size))
      clear hb ka kb kc kd
      go_wp2
      go_ret
      exact ⟨rfl, HW12.out⟩
    · clear he
      have HX1 := okB_of' OK1.out
      have HX2 := okB_of' OK2.out
      obtain ⟨x1, x2, x3, x4⟩ := HX1
      obtain ⟨p1, p2, p3, p4⟩ := HX2
      have OM1 := Lib.hid (show okB (-x) y = true by simp [okB]; omega)
      have OM2 := Lib.hid (show okB (-p) q = true by simp [okB]; omega)
      have EDD := Lib.hid (show distL x y p q = D from HDD.out)
      have ECC := Lib.hid (show cosD x y p q = c from HCC.out)
      have V1 := Lib.hid (show ansD x y p q (distL x y p q) = D by rw [dist_ans OK1.out OK2.out, EDD.out])
      have V2 := Lib.hid (show ansD p q x y (distL p q x y) = D by rw [dist_ans OK2.out OK1.out, distL_sym, EDD.out])
      have V3 := Lib.hid (show ansD x y p q (cosD x y p q) = c by rw [dist_ans OK1.out OK2.out, ECC.out])
      have V5 := Lib.hid (show ansD (-x) y (-p) q (distL (-x) y (-p) q) = D by rw [dist_ans OM1.out OM2.out, distL_mirror, EDD.out])
      have K1 := Lib.hid (dist_code OK1.out OK2.out)
      have K2 := Lib.hid (dist_code OK2.out OK1.out)
      have K5 := Lib.hid (dist_code OM1.out OM2.out)
      have TURN := Lib.hid (show ∀ n : Int, ansD x (wrapL (y + n)) p (wrapL (q + n)) (distL x (wrapL (y + n)) p (wrapL (q + n))) = D ∧ codeD x (wrapL (y + n)) p (wrapL (q + n)) = 0 from fun n => by
        have g1 := wrap_ok (x := x) (y + n) x1 x2
        have g2 := wrap_ok (x := p) (q + n) p1 p2
        exact ⟨by rw [dist_ans g1 g2, distL_turn _ _ _ _ n ⟨x3, x4⟩ ⟨p3, p4⟩, EDD.out], dist_code g1 g2⟩)
      have ka := HA0.out.2.1
      have kb := HA0.out.2.2
      have kc := HB0.out.2.1
      have kd := HB0.out.2.2
      go_wp2_with fail
      rw [hW0.out]
      refine (implDistanceOf_any x y p q _).mono ?_
      rw [V1.out, K1.out]
      rintro e w3 ⟨rfl, hb⟩
      have HW3 := Lib.hid (HW0.out.trans (hb.mono HW0.out.size))
      have HA3 := Lib.hid (two_keep HA0.out hb)
      have HB3 := Lib.hid (two_keep HB0.out hb)
      clear hb ka kb kc kd
      have ka := HA3.out.2.1
      have kb := HA3.out.2.2
      have kc := HB3.out.2.1
      have kd := HB3.out.2.2
      go_wp2_with fail
      refine (implDistanceOf_any p q x y _).mono ?_
      rw [V2.out, K2.out]
      rintro e w4 ⟨rfl, hb⟩
      have HW4 := Lib.hid (HW3.out.trans (hb.mono HW3.out.size))
      have HA4 := Lib.hid (two_keep HA3.out hb)
      have HB4 := Lib.hid (two_keep HB3.out hb)
      clear hb ka kb kc kd
      have ka := HA4.out.2.1
      have kb := HA4.out.2.2
      have kc := HB4.out.2.1
      have kd := HB4.out.2.2
      go_wp2_with fail
      refine (implCosDistance_any x y p q _).mono ?_
      rw [V3.out, K1.out]
      rintro e w5 ⟨rfl, hb⟩
      have HW5 := Lib.hid (HW4.out.trans (hb.mono HW4.out.size))
      have HA5 := Lib.hid (two_keep HA4.out hb)
      have HB5 := Lib.hid (two_keep HB4.out hb)
      clear hb ka kb kc kd
      have ka := HA5.out.2.1
      have kb := HA5.out.2.2
      have kc := HB5.out.2.1
      have kd := HB5.out.2.2
      go_wp2_with fail
      refine (A2Angle_any w5 a1 l1 c1 (bytes_up B1.out HW5.out)).mono ?_
      rintro e w6 ⟨n, rfl, n1, n2, hb⟩
      have HW6 := Lib.hid (HW5.out.trans (hb.mono HW5.out.size))
      have HA6 := Lib.hid (two_keep HA5.out hb)
      have HB6 := Lib.hid (two_keep HB5.out hb)
      clear hb ka kb kc kd
      have ka := HA6.out.2.1
      have kb := HA6.out.2.2
      have kc := HB6.out.2.1
      have kd := HB6.out.2.2
      have angn : angB n = true := by simp [angB]; omega
      have ANG := Lib.hid angn
      have TY := Lib.hid (TURN.out n)
      clear angn
      go_wp2_with fail
      refine (specTurn_yes x y n _ OK1.out ANG.out).mono ?_
      obtain ⟨ty, hty⟩ : ∃ t, Hid (wrapL (y + n) = t) := ⟨_, Lib.hid rfl⟩
      rw [hty.out]
      rintro e w7 ⟨rfl, hb⟩
      have HW7 := Lib.hid (HW6.out.trans (hb.mono HW6.out.size))
      have HA7 := Lib.hid (two_keep HA6.out hb)
      have HB7 := Lib.hid (two_keep HB6.out hb)
      clear hb ka kb kc kd
      have BP := Lib.hid ((Below.refl w7.heap.size w7).alloc (Nat.le_refl _) (.cells #[.int .i64 x, .int .i64 ty] 25))
      have PP := Lib.hid (two_fresh w7 x ty 25)
      obtain ⟨W8, hW8⟩ : ∃ W8, Hid (w7.alloc (.cells #[.int .i64 x, .int .i64 ty] 25) = W8) := ⟨_, Lib.hid rfl⟩
      rw [hW8.out] at BP PP
      have HW8 := Lib.hid (HW7.out.trans (BP.out.mono HW7.out.size))
      have HA8 := Lib.hid (two_keep HA7.out BP.out)
      have HB8 := Lib.hid (two_keep HB7.out BP.out)
      have kc := HB7.out.2.1
      have kd := HB7.out.2.2
      have kl := HB7.out.1
      go_wp2_with fail
      rw [hW8.out]
      refine (specTurn_yes p q n _ OK2.out ANG.out).mono ?_
      obtain ⟨tq, htq⟩ : ∃ t, Hid (wrapL (q + n) = t) := ⟨_, Lib.hid rfl⟩
      rw [htq.out]
      rintro e w9 ⟨rfl, hb⟩
      have HW9 := Lib.hid (HW8.out.trans (hb.mono HW8.out.size))
      have HA9 := Lib.hid (two_keep HA8.out hb)
      have HB9 := Lib.hid (two_keep HB8.out hb)
      have PP9 := Lib.hid (two_keep PP.out hb)
      clear hb kc kd kl
      have BQ := Lib.hid ((Below.refl w9.heap.size w9).alloc (Nat.le_refl _) (.cells #[.int .i64 p, .int .i64 tq] 25))
      have QQ := Lib.hid (two_fresh w9 p tq 25)
      obtain ⟨W10, hW10⟩ : ∃ W10, Hid (w9.alloc (.cells #[.int .i64 p, .int .i64 tq] 25) = W10) := ⟨_, Lib.hid rfl⟩
      rw [hW10.out] at BQ QQ
      have HW10 := Lib.hid (HW9.out.trans (BQ.out.mono HW9.out.size))
      have HA10 := Lib.hid (two_keep HA9.out BQ.out)
      have HB10 := Lib.hid (two_keep HB9.out BQ.out)
      have kp := PP9.out.2.1
      have kq := PP9.out.2.2
      have hlt := PP9.out.1
      have TY2 := Lib.hid (show ansD x ty p tq (distL x ty p tq) = D ∧ codeD x ty p tq = 0 from by rw [← hty.out, ← htq.out]; exact TY.out)
      go_wp2_with fail
      rw [hW10.out]
      refine (implDistanceOf_any x ty p tq _).mono ?_
      rw [TY2.out.1, TY2.out.2]
      rintro e w11 ⟨rfl, hb⟩
      have HW11 := Lib.hid (HW10.out.trans (hb.mono HW10.out.size))
      have HA11 := Lib.hid (two_keep HA10.out hb)
      have HB11 := Lib.hid (two_keep HB10.out hb)
      clear hb kp kq hlt
      have ka := HA11.out.2.1
      have kb := HA11.out.2.2
      have kc := HB11.out.2.1
      have kd := HB11.out.2.2
      go_wp2_with fail
      refine (implDistanceOf_any (-x) y (-p) q _).mono ?_
      rw [V5.out, K5.out]
      rintro e w12 ⟨rfl, hb⟩
      have HW12 := Lib.hid (HW11.out.trans (hb.mono HW11.out.size))
      clear hb ka kb kc kd
      go_wp2
      go_ret
      exact ⟨rfl, HW12.out⟩
  · have hs2 : ¬ D ≤ 324000 := fun k => hs (HSI.2 k)
    have s1 : decide (0 ≤ c) = false := decide_eq_false hs
    have s2 : decide (D ≤ 324000) = false := decide_eq_false hs2
    clear hs hs2 HSI
    by_cases h1 : x = p
    · subst h1
      have h2 : ¬ y = q := fun k => he ⟨rfl, k⟩
      clear he
      have HX1 := okB_of' OK1.out
      have HX2 := okB_of' OK2.out
      obtain ⟨x1, x2, x3, x4⟩ := HX1
      obtain ⟨p1, p2, p3, p4⟩ := HX2
      have OM1 := Lib.hid (show okB (-x) y = true by simp [okB]; omega)
      have OM2 := Lib.hid (show okB (-x) q = true by simp [okB]; omega)
      have EDD := Lib.hid (show distL x y x q = D from HDD.out)
      have ECC := Lib.hid (show cosD x y x q = c from HCC.out)
      have V1 := Lib.hid (show ansD x y x q (distL x y x q) = D by rw [dist_ans OK1.out OK2.out, EDD.out])
      have V2 := Lib.hid (show ansD x q x y (distL x q x y) = D by rw [dist_ans OK2.out OK1.out, distL_sym, EDD.out])
      have V3 := Lib.hid (show ansD x y x q (cosD x y x q) = c by rw [dist_ans OK1.out OK2.out, ECC.out])
      have V5 := Lib.hid (show ansD (-x) y (-x) q (distL (-x) y (-x) q) = D by rw [dist_ans OM1.out OM2.out, distL_mirror, EDD.out])
      have K1 := Lib.hid (dist_code OK1.out OK2.out)
      have K2 := Lib.hid (dist_code OK2.out OK1.out)
      have K5 := Lib.hid (dist_code OM1.out OM2.out)
      have TURN := Lib.hid (show ∀ n : Int, ansD x (wrapL (y + n)) x (wrapL (q + n)) (distL x (wrapL (y + n)) x (wrapL (q + n))) = D ∧ codeD x (wrapL (y + n)) x (wrapL (q + n)) = 0 from fun n => by
        have g1 := wrap_ok (x := x) (y + n) x1 x2
        have g2 := wrap_ok (x := x) (q + n) p1 p2
        exact ⟨by rw [dist_ans g1 g2, distL_turn _ _ _ _ n ⟨x3, x4⟩ ⟨p3, p4⟩, EDD.out], dist_code g1 g2⟩)
      have ka := HA0.out.2.1
      have kb := HA0.out.2.2
      have kc := HB0.out.2.1
      have kd := HB0.out.2.2
      go_wp2_with fail
      rw [hW0.out]
      refine (implDistanceOf_any x y x q _).mono ?_
      rw [V1.out, K1.out]
      rintro e w3 ⟨rfl, hb⟩
      have HW3 := Lib.hid (HW0.out.trans (hb.mono HW0.out.size))
      have HA3 := Lib.hid (two_keep HA0.out hb)
      have HB3 := Lib.hid (two_keep HB0.out hb)
      clear hb ka kb kc kd
      have ka := HA3.out.2.1
      have kb := HA3.out.2.2
      have kc := HB3.out.2.1
      have kd := HB3.out.2.2
      go_wp2_with fail
      refine (implDistanceOf_any x q x y _).mono ?_
      rw [V2.out, K2.out]
      rintro e w4 ⟨rfl, hb⟩
      have HW4 := Lib.hid (HW3.out.trans (hb.mono HW3.out.size))
      have HA4 := Lib.hid (two_keep HA3.out hb)
      have HB4 := Lib.hid (two_keep HB3.out hb)
      clear hb ka kb kc kd
      have ka := HA4.out.2.1
      have kb := HA4.out.2.2
      have kc := HB4.out.2.1
      have kd := HB4.out.2.2
      go_wp2_with fail
      refine (implCosDistance_any x y x q _).mono ?_
      rw [V3.out, K1.out]
      rintro e w5 ⟨rfl, hb⟩
      have HW5 := Lib.hid (HW4.out.trans (hb.mono HW4.out.size))
      have HA5 := Lib.hid (two_keep HA4.out hb)
      have HB5 := Lib.hid (two_keep HB4.out hb)
      clear hb ka kb kc kd
      have ka := HA5.out.2.1
      have kb := HA5.out.2.2
      have kc := HB5.out.2.1
      have kd := HB5.out.2.2
      go_wp2_with fail
      refine (A2Angle_any w5 a1 l1 c1 (bytes_up B1.out HW5.out)).mono ?_
      rintro e w6 ⟨n, rfl, n1, n2, hb⟩
      have HW6 := Lib.hid (HW5.out.trans (hb.mono HW5.out.size))
      have HA6 := Lib.hid (two_keep HA5.out hb)
      have HB6 := Lib.hid (two_keep HB5.out hb)
      clear hb ka kb kc kd
      have ka := HA6.out.2.1
      have kb := HA6.out.2.2
      have kc := HB6.out.2.1
      have kd := HB6.out.2.2
      have angn : angB n = true := by simp [angB]; omega
      have ANG := Lib.hid angn
      have TY := Lib.hid (TURN.out n)
      clear angn
      go_wp2_with fail
      refine (specTurn_yes x y n _ OK1.out ANG.out).mono ?_
      obtain ⟨ty, hty⟩ : ∃ t, Hid (wrapL (y + n) = t) := ⟨_, Lib.hid rfl⟩
      rw [hty.out]
      rintro e w7 ⟨rfl, hb⟩
      have HW7 := Lib.hid (HW6.out.trans (hb.mono HW6.out.size))
      have HA7 := Lib.hid (two_keep HA6.out hb)
      have HB7 := Lib.hid (two_keep HB6.out hb)
      clear hb ka kb kc kd
      have BP := Lib.hid ((Below.refl w7.heap.size w7).alloc (Nat.le_refl _) (.cells #[.int .i64 x, .int .i64 ty] 25))
      have PP := Lib.hid (two_fresh w7 x ty 25)
      obtain ⟨W8, hW8⟩ : ∃ W8, Hid (w7.alloc (.cells #[.int .i64 x, .int .i64 ty] 25) = W8) := ⟨_, Lib.hid rfl⟩
      rw [hW8.out] at BP PP
      have HW8 := Lib.hid (HW7.out.trans (BP.out.mono HW7.out.size))
      have HA8 := Lib.hid (two_keep HA7.out BP.out)
      have HB8 := Lib.hid (two_keep HB7.out BP.out)
      have kc := HB7.out.2.1
      have kd := HB7.out.2.2
      have kl := HB7.out.1
      go_wp2_with fail
      rw [hW8.out]
      refine (specTurn_yes x q n _ OK2.out ANG.out).mono ?_
      obtain ⟨tq, htq⟩ : ∃ t, Hid (wrapL (q + n) = t) := ⟨_, Lib.hid rfl⟩
      rw [htq.out]
      rintro e w9 ⟨rfl, hb⟩
      have HW9 := Lib.hid (HW8.out.trans (hb.mono HW8.out.size))
      have HA9 := Lib.hid (two_keep HA8.out hb)
      have HB9 := Lib.hid (two_keep HB8.out hb)
      have PP9 := Lib.hid (two_keep PP.out hb)
      clear hb kc kd kl
      have BQ := Lib.hid ((Below.refl w9.heap.size w9).alloc (Nat.le_refl _) (.cells #[.int .i64 x, .int .i64 tq] 25))
      have QQ := Lib.hid (two_fresh w9 x tq 25)
      obtain ⟨W10, hW10⟩ : ∃ W10, Hid (w9.alloc (.cells #[.int .i64 x, .int .i64 tq] 25) = W10) := ⟨_, Lib.hid rfl⟩
      rw [hW10.out] at BQ QQ
      have HW10 := Lib.hid (HW9.out.trans (BQ.out.mono HW9.out.size))
      have HA10 := Lib.hid (two_keep HA9.out BQ.out)
      have HB10 := Lib.hid (two_keep HB9.out BQ.out)
      have kp := PP9.out.2.1
      have kq := PP9.out.2.2
      have hlt := PP9.out.1
      have TY2 := Lib.hid (show ansD x ty x tq (distL x ty x tq) = D ∧ codeD x ty x tq = 0 from by rw [← hty.out, ← htq.out]; exact TY.out)
      go_wp2_with fail
      rw [hW10.out]
      refine (implDistanceOf_any x ty x tq _).mono ?_
      rw [TY2.out.1, TY2.out.2]
      rintro e w11 ⟨rfl, hb⟩
      have HW11 := Lib.hid (HW10.out.trans (hb.mono HW10.out.size))
      have HA11 := Lib.hid (two_keep HA10.out hb)
      have HB11 := Lib.hid (two_keep HB10.out hb)
      clear hb kp kq hlt
      have ka := HA11.out.2.1
      have kb := HA11.out.2.2
      have kc := HB11.out.2.1
      have kd := HB11.out.2.2
      go_wp2_with fail
      refine (implDistanceOf_any (-x) y (-x) q _).mono ?_
      rw [V5.out, K5.out]
      rintro e w12 ⟨rfl, hb⟩
      have HW12 := Lib.hid (HW11.out.trans (hb.mono HW11.out.size))
      clear hb ka kb kc kd
      go_wp2
      go_ret
      exact ⟨rfl, HW12.out⟩
    · clear he
      have HX1 := okB_of' OK1.out
      have HX2 := okB_of' OK2.out
      obtain ⟨x1, x2, x3, x4⟩ := HX1
      obtain ⟨p1, p2, p3, p4⟩ := HX2
      have OM1 := Lib.hid (show okB (-x) y = true by simp [okB]; omega)
      have OM2 := Lib.hid (show okB (-p) q = true by simp [okB]; omega)
      have EDD := Lib.hid (show distL x y p q = D from HDD.out)
      have ECC := Lib.hid (show cosD x y p q = c from HCC.out)
      have V1 := Lib.hid (show ansD x y p q (distL x y p q) = D by rw [dist_ans OK1.out OK2.out, EDD.out])
      have V2 := Lib.hid (show ansD p q x y (distL p q x y) = D by rw [dist_ans OK2.out OK1.out, distL_sym, EDD.out])
      have V3 := Lib.hid (show ansD x y p q (cosD x y p q) = c by rw [dist_ans OK1.out OK2.out, ECC.out])
      have V5 := Lib.hid (show ansD (-x) y (-p) q (distL (-x) y (-p) q) = D by rw [dist_ans OM1.out OM2.out, distL_mirror, EDD.out])
      have K1 := Lib.hid (dist_code OK1.out OK2.out)
      have K2 := Lib.hid (dist_code OK2.out OK1.out)
      have K5 := Lib.hid (dist_code OM1.out OM2.out)
      have TURN := Lib.hid (show ∀ n : Int, ansD x (wrapL (y + n)) p (wrapL (q + n)) (distL x (wrapL (y + n)) p (wrapL (q + n))) = D ∧ codeD x (wrapL (y + n)) p (wrapL (q + n)) = 0 from fun n => by
        have g1 := wrap_ok (x := x) (y + n) x1 x2
        have g2 := wrap_ok (x := p) (q + n) p1 p2
        exact ⟨by rw [dist_ans g1 g2, distL_turn _ _ _ _ n ⟨x3, x4⟩ ⟨p3, p4⟩, EDD.out], dist_code g1 g2⟩)
      have ka := HA0.out.2.1
      have kb := HA0.out.2.2
      have kc := HB0.out.2.1
      have kd := HB0.out.2.2
      go_wp2_with fail
      rw [hW0.out]
      refine (implDistanceOf_any x y p q _).mono ?_
      rw [V1.out, K1.out]
      rintro e w3 ⟨rfl, hb⟩
      have HW3 := Lib.hid (HW0.out.trans (hb.mono HW0.out.size))
      have HA3 := Lib.hid (two_keep HA0.out hb)
      have HB3 := Lib.hid (two_keep HB0.out hb)
      clear hb ka kb kc kd
      have ka := HA3.out.2.1
      have kb := HA3.out.2.2
      have kc := HB3.out.2.1
      have kd := HB3.out.2.2
      go_wp2_with fail
      refine (implDistanceOf_any p q x y _).mono ?_
      rw [V2.out, K2.out]
      rintro e w4 ⟨rfl, hb⟩
      have HW4 := Lib.hid (HW3.out.trans (hb.mono HW3.out.size))
      have HA4 := Lib.hid (two_keep HA3.out hb)
      have HB4 := Lib.hid (two_keep HB3.out hb)
      clear hb ka kb kc kd
      have ka := HA4.out.2.1
      have kb := HA4.out.2.2
      have kc := HB4.out.2.1
      have kd := HB4.out.2.2
      go_wp2_with fail
      refine (implCosDistance_any x y p q _).mono ?_
      rw [V3.out, K1.out]
      rintro e w5 ⟨rfl, hb⟩
      have HW5 := Lib.hid (HW4.out.trans (hb.mono HW4.out.size))
      have HA5 := Lib.hid (two_keep HA4.out hb)
      have HB5 := Lib.hid (two_keep HB4.out hb)
      clear hb ka kb kc kd
      have ka := HA5.out.2.1
      have kb := HA5.out.2.2
      have kc := HB5.out.2.1
      have kd := HB5.out.2.2
      go_wp2_with fail
      refine (A2Angle_any w5 a1 l1 c1 (bytes_up B1.out HW5.out)).mono ?_
      rintro e w6 ⟨n, rfl, n1, n2, hb⟩
      have HW6 := Lib.hid (HW5.out.trans (hb.mono HW5.out.size))
      have HA6 := Lib.hid (two_keep HA5.out hb)
      have HB6 := Lib.hid (two_keep HB5.out hb)
      clear hb ka kb kc kd
      have ka := HA6.out.2.1
      have kb := HA6.out.2.2
      have kc := HB6.out.2.1
      have kd := HB6.out.2.2
      have angn : angB n = true := by simp [angB]; omega
      have ANG := Lib.hid angn
      have TY := Lib.hid (TURN.out n)
      clear angn
      go_wp2_with fail
      refine (specTurn_yes x y n _ OK1.out ANG.out).mono ?_
      obtain ⟨ty, hty⟩ : ∃ t, Hid (wrapL (y + n) = t) := ⟨_, Lib.hid rfl⟩
      rw [hty.out]
      rintro e w7 ⟨rfl, hb⟩
      have HW7 := Lib.hid (HW6.out.trans (hb.mono HW6.out.size))
      have HA7 := Lib.hid (two_keep HA6.out hb)
      have HB7 := Lib.hid (two_keep HB6.out hb)
      clear hb ka kb kc kd
      have BP := Lib.hid ((Below.refl w7.heap.size w7).alloc (Nat.le_refl _) (.cells #[.int .i64 x, .int .i64 ty] 25))
      have PP := Lib.hid (two_fresh w7 x ty 25)
      obtain ⟨W8, hW8⟩ : ∃ W8, Hid (w7.alloc (.cells #[.int .i64 x, .int .i64 ty] 25) = W8) := ⟨_, Lib.hid rfl⟩
      rw [hW8.out] at BP PP
      have HW8 := Lib.hid (HW7.out.trans (BP.out.mono HW7.out.size))
      have HA8 := Lib.hid (two_keep HA7.out BP.out)
      have HB8 := Lib.hid (two_keep HB7.out BP.out)
      have kc := HB7.out.2.1
      have kd := HB7.out.2.2
      have kl := HB7.out.1
      go_wp2_with fail
      rw [hW8.out]
      refine (specTurn_yes p q n _ OK2.out ANG.out).mono ?_
      obtain ⟨tq, htq⟩ : ∃ t, Hid (wrapL (q + n) = t) := ⟨_, Lib.hid rfl⟩
      rw [htq.out]
      rintro e w9 ⟨rfl, hb⟩
      have HW9 := Lib.hid (HW8.out.trans (hb.mono HW8.out.size))
      have HA9 := Lib.hid (two_keep HA8.out hb)
      have HB9 := Lib.hid (two_keep HB8.out hb)
      have PP9 := Lib.hid (two_keep PP.out hb)
      clear hb kc kd kl
      have BQ := Lib.hid ((Below.refl w9.heap.size w9).alloc (Nat.le_refl _) (.cells #[.int .i64 p, .int .i64 tq] 25))
      have QQ := Lib.hid (two_fresh w9 p tq 25)
      obtain ⟨W10, hW10⟩ : ∃ W10, Hid (w9.alloc (.cells #[.int .i64 p, .int .i64 tq] 25) = W10) := ⟨_, Lib.hid rfl⟩
      rw [hW10.out] at BQ QQ
      have HW10 := Lib.hid (HW9.out.trans (BQ.out.mono HW9.out.size))
      have HA10 := Lib.hid (two_keep HA9.out BQ.out)
      have HB10 := Lib.hid (two_keep HB9.out BQ.out)
      have kp := PP9.out.2.1
      have kq := PP9.out.2.2
      have hlt := PP9.out.1
      have TY2 := Lib.hid (show ansD x ty p tq (distL x ty p tq) = D ∧ codeD x ty p tq = 0 from by rw [← hty.out, ← htq.out]; exact TY.out)
      go_wp2_with fail
      rw [hW10.out]
      refine (implDistanceOf_any x ty p tq _).mono ?_
      rw [TY2.out.1, TY2.out.2]
      rintro e w11 ⟨rfl, hb⟩
      have HW11 := Lib.hid (HW10.out.trans (hb.mono HW10.out.size))
      have HA11 := Lib.hid (two_keep HA10.out hb)
      have HB11 := Lib.hid (two_keep HB10.out hb)
      clear hb kp kq hlt
      have ka := HA11.out.2.1
      have kb := HA11.out.2.2
      have kc := HB11.out.2.1
      have kd := HB11.out.2.2
      go_wp2_with fail
      refine (implDistanceOf_any (-x) y (-p) q _).mono ?_
      rw [V5.out, K5.out]
      rintro e w12 ⟨rfl, hb⟩
      have HW12 := Lib.hid (HW11.out.trans (hb.mono HW11.out.size))
      clear hb ka kb kc kd
      go_wp2
      go_ret
      exact ⟨rfl, HW12.out⟩

set_option maxRecDepth 100000 in
theorem lifted (os : Os) (started : os.Started) (H : Type) (enc : TypeId × Value → H) :
    ReturnsInHanded {} Try.checked os 3 .any (Rows.fnDistancesSpec.pre6 enc Try.prog Try.f3 Rows.fnDistancesRow.domain false) (Rows.fnDistancesSpec.post enc Try.prog Try.f3 false true false false) := by
  refine returnsInHanded_of_change (C := Try.checked) own started (by kernel_rfl) Try.func3
    (ChangeSpec.witness6 (enc := enc) (C := Try.checked) false ⟨#[], #[.slice none 0 0, .slice none 0 0], []⟩ 8 (by kernel_rfl) (by kernel_rfl) (by kernel_rfl) (by kernel_rfl)) ?_
  intro W base args ds gs before hval0 hW hcnd _
  have hval : ∀ (j : Nat) t v, Try.f3.params[j]? = some t → args[j]? = some v → Value.okWide Try.prog W .any base t v := hval0
  have hW' := hW
  obtain ⟨p, q, hA0, hV, hpq, hfz, hnd⟩ := hW
  have hA : DataW.TrodAll enc Try.prog W 0 (fun _ => true) true Try.f3.params.toList args.toList ds p := hA0
  rw [Try.params3] at hA hval
  obtain ⟨v0, vs0, d0, ds0, p0, q0, hargs, rfl, rfl, h0, r0⟩ := trodAll_cons hA
  obtain ⟨v1, vs1, d1, ds1, p1, q1, rfl, rfl, rfl, h1, r1⟩ := trodAll_cons r0
  obtain ⟨rfl, rfl, rfl⟩ := trodAll_nil r1
  obtain rfl : args = #[v0, v1] := by cases args; simp_all
  obtain ⟨a0, len0, cap0, rfl⟩ := okWide_slice Try.underlying22 (hval 0 22 v0 rfl rfl)
  obtain ⟨z0, w0⟩ : ∃ zs, IsRow .u8 W a0 len0 cap0 zs := by
    obtain ⟨fuel, hf⟩ := h0
    rcases open_ints Try.underlying22 Try.underlying5 (by kernel_rfl) hf with ⟨hcs, _⟩ | ⟨x, l, c, zs, hcs, _, hl, hm, hz, _, hcell, hwz⟩
    · simp [Value.cells] at hcs
      obtain ⟨rfl, rfl, rfl⟩ := hcs
      exact ⟨[], .inl ⟨rfl, rfl, rfl, rfl⟩⟩
    · simp [Value.cells] at hcs
      obtain ⟨rfl, rfl, rfl⟩ := hcs
      exact ⟨zs, .inr ⟨_, rfl, hl, hm, by simpa using hz, hcell, hwz⟩⟩
  obtain ⟨a1, len1, cap1, rfl⟩ := okWide_slice Try.underlying22 (hval 1 22 v1 rfl rfl)
  obtain ⟨z1, w1⟩ : ∃ zs, IsRow .u8 W a1 len1 cap1 zs := by
    obtain ⟨fuel, hf⟩ := h1
    rcases open_ints Try.underlying22 Try.underlying5 (by kernel_rfl) hf with ⟨hcs, _⟩ | ⟨x, l, c, zs, hcs, _, hl, hm, hz, _, hcell, hwz⟩
    · simp [Value.cells] at hcs
      obtain ⟨rfl, rfl, rfl⟩ := hcs
      exact ⟨[], .inl ⟨rfl, rfl, rfl, rfl⟩⟩
    · simp [Value.cells] at hcs
      obtain ⟨rfl, rfl, rfl⟩ := hcs
      exact ⟨zs, .inr ⟨_, rfl, hl, hm, by simpa using hz, hcell, hwz⟩⟩
  refine (walk a0 len0 cap0 z0 a1 len1 cap1 z1 W w0 w1).mono fun e W' ⟨he, bel⟩ => ?_
  subst he
  exact ⟨_, rfl, post_of_law laidOut (by kernel_rfl) Try.underlying4 rfl rfl (fun ds h => by match ds, h with | [_, _], _ => rfl) hW' bel⟩

theorem holds : Rows.FnDistancesSaid :=
  OpenClaim.holds_of_wide 3 Try.f3 rfl rfl rfl rfl rfl rfl rfl ⟨rfl, rfl, rfl, rfl, rfl⟩ rfl rfl rfl rfl rfl (by kernel_rfl) Try.func3 (by kernel_rfl)
    (of_decide_eq_true (by kernel_rfl)) (by unfold Func.isWrapper; first | (rw [if_pos (by decide +kernel)]; kernel_rfl) | (rw [if_neg (by decide +kernel)]; exact ⟨rfl, rfl⟩))
    (fun os started H enc _ => lifted os started H enc)
#print axioms holds

end Go.Proofs.Ytbggbgfmahnjkaa.distances
