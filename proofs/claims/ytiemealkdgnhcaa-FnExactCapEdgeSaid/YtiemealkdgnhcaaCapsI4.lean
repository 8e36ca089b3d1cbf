/- RingOf of the program: contract. -/
import Derived.Test.YtiemealkdgnhcaaCapsI2
namespace Go.Proofs.Ytiemealkdgnhcaa.sines
open Go.ChangeShapes Go.WideShapes Go.ChangeAt Go.RowKit Go.Proofs.Ytiemealkdgnhcaa.spots Go.Proofs.Ytiemealkdgnhcaa.irows Go.Proofs.Ytiemealkdgnhcaa.pairs
set_option linter.unusedSimpArgs false
set_option linter.unusedVariables false

/-- The code of a ring, once that of its disc is told. -/
theorem codeQ_D {a r d p q D : Int} (h : okB p q = true) (k : codeD a r (inB d 1 100000) = D) (hD : D ≠ 0) : codeQ a r d p q = D := by
  cases g : inB d 1 100000 with
  | false => rw [g, codeD_false] at k; rw [codeQ_2w h g]; exact k
  | true =>
    rw [g, codeD_true] at k
    rcases codeR_cases a r with j | j | j
    · omega
    · rw [codeQ_2 h j]; omega
    · rw [codeQ_in h (by omega) g, if_pos j]; omega
theorem codeQ_0 {a r d p q : Int} (h : okB p q = true) (k : codeD a r (inB d 1 100000) = 0) : codeR a r = 0 ∧ inB d 1 100000 = true ∧ codeQ a r d p q = if 60 < manyN r d then 5 else if p < edgeC a r then 3 else 0 := by
  cases g : inB d 1 100000 with
  | false => rw [g, codeD_false] at k; omega
  | true =>
    rw [g, codeD_true] at k
    exact ⟨k, rfl, by rw [codeQ_in h (by omega) g, if_neg (by omega)]⟩
set_option maxRecDepth 100000 in
set_option maxHeartbeats 1000000 in
theorem implRingOf_1 (a r d p q : Int) (w : World) (h : okB p q = false) :
    Calls Try.prog 32 #[.int .i64 a, .int .i64 r, .int .i64 d, .agg #[.int .i64 p, .int .i64 q]] w fun e w' => e = .returned (.tuple #[.int .i64 (0), .int .i64 1]) ∧ Below w.heap.size w w' := by
  go_enter Try.func32, Try.ntmps32
  go_wp2_with (first | (go_at_call 86; refine (ValidSpot_any _ _ _).mono ?_; rw [h]; rintro e w' ⟨rfl, o1, rfl⟩))
  exact bodyPost_ret (v := .tuple #[.int .i64 (0), .int .i64 1]) (by simp [results, Try.results32, go_sem]) rfl ⟨rfl, ((Below.refl _ _).alloc (Nat.le_refl _) _).alloc (by simp) _⟩
set_option maxRecDepth 100000 in
set_option maxHeartbeats 2000000 in
theorem implRingOf_ok (a r d p q : Int) (w : World) (h : okB p q = true) :
    Calls Try.prog 32 #[.int .i64 a, .int .i64 r, .int .i64 d, .agg #[.int .i64 p, .int .i64 q]] w fun e w' => e = .returned (.tuple #[.int .i64 (ansK (codeQ a r d p q) (ringC a d p)), .int .i64 (codeQ a r d p q)]) ∧ Below w.heap.size w w' := by
  obtain ⟨b, hb⟩ : ∃ b, Hid (inB d 1 100000 = b) := ⟨_, Lib.hid rfl⟩
  have NL := Lib.hid (fun w => isWidth_any d w)
  rw [hb.out] at NL
  obtain ⟨D, hD⟩ : ∃ D, Hid (codeD a r b = D) := ⟨_, Lib.hid rfl⟩
  have DC := Lib.hid (fun W w hb => discCode_rel a r b W w hb)
  rw [hD.out] at DC
  have QD : D ≠ 0 → codeQ a r d p q = D := fun k => codeQ_D h (by rw [hb.out]; exact hD.out) k
  have Q0 : D = 0 → codeR a r = 0 ∧ inB d 1 100000 = true ∧ codeQ a r d p q = if 60 < manyN r d then 5 else if p < edgeC a r then 3 else 0 := fun k => codeQ_0 h (by rw [hb.out, hD.out]; exact k)
  obtain ⟨Q, hQ⟩ : ∃ Q, Hid (codeQ a r d p q = Q) := ⟨_, Lib.hid rfl⟩
  rw [hQ.out] at QD Q0 ⊢
  obtain ⟨p1, p2, _, _⟩ := okB_ofK h
  by_cases hd : D = 0
  · subst hd
    obtain ⟨hr, hw, hq⟩ := Q0 rfl
    obtain ⟨a1, a2, r1, r2, r3⟩ := codeR_of hr
    obtain ⟨d1, d2⟩ := inB_of hw
    have hz : d ≠ 0 := by omega
    have hm : d ≠ -1 := by omega
    have MR := Lib.hid (fun w => manyRings_any r d w r1 r2 d1 d2)
    have CV := Lib.hid (fun w => covers_any a r p q w a1 a2 r1 r2 r3)
    have e0 := (edgeC_bounds a1 r1 r3).2
    have p0 : ¬ p < edgeC a r → 0 ≤ p := fun k => by unfold edgeC at k; omega
    generalize edgeC a r = E at CV hq p0
    generalize manyN r d = M at MR hq
    clear Q0 QD hr hw e0
    obtain ⟨bm, hbm⟩ : ∃ bm, Hid (decide (60 < M) = bm) := ⟨_, Lib.hid rfl⟩
    obtain ⟨bc, hbc⟩ : ∃ bc, Hid (decide (E ≤ p) = bc) := ⟨_, Lib.hid rfl⟩
    rw [hbm.out] at MR
    rw [hbc.out] at CV
    have hqq : (bm = true → Q = 5) ∧ (bm = false → bc = false → Q = 3) ∧ (bm = false → bc = true → Q = 0 ∧ 0 ≤ p) := by
      have m1 := hbm.out
      have m2 := hbc.out
      refine ⟨fun k => ?_, fun k1 k2 => ?_, fun k1 k2 => ?_⟩
      · rw [hq, if_pos (by rw [k] at m1; simpa using m1)]
      · rw [hq, if_neg (by rw [k1] at m1; simpa using m1), if_pos (by rw [k2] at m2; simpa using m2)]
      · have k3 : ¬ p < E := by rw [k2] at m2; simpa using m2
        exact ⟨by rw [hq, if_neg (by rw [k1] at m1; simpa using m1), if_neg k3], p0 k3⟩
    have HQ := Lib.hid hqq
    clear hqq hq p0
    go_enter Try.func32, Try.ntmps32
    go_wp2_with fail
    refine (ValidSpot_any _ _ _).mono ?_
    rw [h]
    rintro e w' ⟨rfl, o1, rfl⟩
    have s0 : ((w.alloc (.cells #[.int .i64 p, .int .i64 q] 35)).alloc o1).cell? ⟨w.heap.size, 0, none⟩ = some (.int .i64 p) := by rw [World.cell?_alloc_past _ _ _ (by simp)]; simp
    have s1 : ((w.alloc (.cells #[.int .i64 p, .int .i64 q] 35)).alloc o1).cell? ⟨w.heap.size, 1, none⟩ = some (.int .i64 q) := by rw [World.cell?_alloc_past _ _ _ (by simp)]; simp
    have hbl := Lib.hid (show Below w.heap.size w ((w.alloc (.cells #[.int .i64 p, .int .i64 q] 35)).alloc o1) from ((Below.refl _ _).alloc (Nat.le_refl _) _).alloc (by simp) _)
    have zW : w.heap.size < ((w.alloc (.cells #[.int .i64 p, .int .i64 q] 35)).alloc o1).heap.size := by simp; omega
    generalize ((w.alloc (.cells #[.int .i64 p, .int .i64 q] 35)).alloc o1) = W at s0 s1 hbl zW ⊢
    obtain ⟨w0, hw0⟩ : ∃ w0, Hid (W.alloc (.cells #[.int .i64 a, .int .i64 r] 61) = w0) := ⟨_, Lib.hid rfl⟩
    have B0 := Lib.hid (show Below w.heap.size w w0 by rw [← hw0.out]; exact hbl.out.alloc (by omega) _)
    have z0 : W.heap.size < w0.heap.size := by rw [← hw0.out]; simp
    have c0 : w0.cell? ⟨W.heap.size, 0, none⟩ = some (.int .i64 a) := by rw [← hw0.out]; simp
    have c1 : w0.cell? ⟨W.heap.size, 1, none⟩ = some (.int .i64 r) := by rw [← hw0.out]; simp
    have t0 : w0.cell? ⟨w.heap.size, 0, none⟩ = some (.int .i64 p) := by rw [← hw0.out, World.cell?_alloc_past _ _ _ zW]; exact s0
    have t1 : w0.cell? ⟨w.heap.size, 1, none⟩ = some (.int .i64 q) := by rw [← hw0.out, World.cell?_alloc_past _ _ _ zW]; exact s1
    clear s0 s1
    go_wp2_with fail
    rw [hw0.out]
    go_region_held3 (fun U => U.cell? ⟨W.heap.size, 0, none⟩ = some (.int .i64 a) ∧ U.cell? ⟨W.heap.size, 1, none⟩ = some (.int .i64 r)) (first | exact ⟨c0, c1⟩ | exact ⟨n0, n1⟩ | (simp [go_sem]; first | exact ⟨c0, c1⟩ | exact ⟨n0, n1⟩))
      (first | (go_at_call 70; refine (NL.out _).mono ?_; rintro e w' ⟨rfl, rfl⟩) | (go_at_call 59; refine (DC.out w0 _ (by repeat (first | assumption | exact Below.refl _ _ | refine Below.drew ?_ | refine bdq ?_ _))).mono ?_; rintro e w1 ⟨rfl, hb1⟩; have n0 := (hb1.cell (p := ⟨W.heap.size, 0, none⟩) z0).trans c0; have n1 := (hb1.cell (p := ⟨W.heap.size, 1, none⟩) z0).trans c1; have u0 := (hb1.cell (p := ⟨w.heap.size, 0, none⟩) (by simp; omega)).trans t0; have u1 := (hb1.cell (p := ⟨w.heap.size, 1, none⟩) (by simp; omega)).trans t1; have zz := hb1.size))
    all_goals
      have HB1 := Lib.hid (B0.out.trans (hb1.mono B0.out.size))
      clear hb1
      cases bm with
      | true =>
        obtain rfl := HQ.out.1 rfl
        go_wp2_with (first | (go_at_call 71; refine (MR.out _).mono ?_; rintro e w' ⟨rfl, rfl⟩))
        exact bodyPost_ret (v := .tuple #[.int .i64 0, .int .i64 5]) (by simp [results, Try.results32, go_sem]) rfl ⟨by simp [ansK], (by first | exact HB1.out | exact bdq HB1.out _ | exact bdrew HB1.out)⟩
      | false =>
        cases bc with
        | false =>
          obtain rfl := HQ.out.2.1 rfl rfl
          go_wp2_with (first | (go_at_call 71; refine (MR.out _).mono ?_; rintro e w' ⟨rfl, rfl⟩) | (go_at_call 80; refine (CV.out _).mono ?_; rintro e w2 ⟨rfl, hb2⟩))
          exact bodyPost_ret (v := .tuple #[.int .i64 0, .int .i64 3]) (by simp [results, Try.results32, go_sem]) rfl ⟨by simp [ansK], HB1.out.trans (hb2.mono HB1.out.size)⟩
        | true =>
          obtain ⟨hQ0, hp0⟩ := HQ.out.2.2 rfl rfl
          subst hQ0
          obtain ⟨y1, y2, y3, y4, y5, y6⟩ := ringC_facts a1 a2 hp0 p2 d1
          have k5 : (a * (324000 - p) / 1296000).tdiv d = ringC a d p := Int.tdiv_eq_ediv_of_nonneg y3
          have k6 : IntKind.i64.wrap (ringC a d p) = ringC a d p := IntWalk.i64_in _ (by omega)
          have FP := Lib.hid (fun w => fromPole_any a r p q w a1 a2 hp0 p2)
          obtain ⟨R, hR⟩ : ∃ R, Hid (ringC a d p = R) := ⟨_, Lib.hid rfl⟩
          rw [hR.out] at k5 k6
          generalize a * (324000 - p) / 1296000 = Y at FP k5 y3 y4
          clear y1 y2 y5 y6
          go_wp2_with (first | (go_at_call 71; refine (MR.out _).mono ?_; rintro e w' ⟨rfl, rfl⟩) | (go_at_call 80; refine (CV.out _).mono ?_; rintro e w2 ⟨rfl, hb2⟩; have m0 := (hb2.cell (p := ⟨W.heap.size, 0, none⟩) (by simp; omega)).trans n0; have m1 := (hb2.cell (p := ⟨W.heap.size, 1, none⟩) (by simp; omega)).trans n1; have v0 := (hb2.cell (p := ⟨w.heap.size, 0, none⟩) (by simp; omega)).trans u0; have v1 := (hb2.cell (p := ⟨w.heap.size, 1, none⟩) (by simp; omega)).trans u1; have HB2 := Lib.hid (HB1.out.trans (hb2.mono HB1.out.size)); clear hb2) | (go_at_call 87; refine (FP.out _).mono ?_; rintro e w3 ⟨rfl, hb3⟩; have HB3 := Lib.hid (HB2.out.trans (hb3.mono HB2.out.size)); clear hb3))
          exact bodyPost_ret (v := .tuple #[.int .i64 R, .int .i64 0]) (by simp [results, Try.results32, go_sem]) rfl ⟨by simp [ansK, hR.out], HB3.out⟩
  · obtain rfl := QD hd
    have hd1 : (Q != 0) = true := by simpa using hd
    rw [show ansK Q (ringC a d p) = 0 by simp [ansK, hd]]
    clear hd Q0
    go_enter Try.func32, Try.ntmps32
    go_wp2_with fail
    refine (ValidSpot_any _ _ _).mono ?_
    rw [h]
    rintro e w' ⟨rfl, o1, rfl⟩
    have hbl := Lib.hid (show Below w.heap.size w ((w.alloc (.cells #[.int .i64 p, .int .i64 q] 35)).alloc o1) from ((Below.refl _ _).alloc (Nat.le_refl _) _).alloc (by simp) _)
    have zW : w.heap.size < ((w.alloc (.cells #[.int .i64 p, .int .i64 q] 35)).alloc o1).heap.size := by simp; omega
    generalize ((w.alloc (.cells #[.int .i64 p, .int .i64 q] 35)).alloc o1) = W at hbl zW ⊢
    obtain ⟨w0, hw0⟩ : ∃ w0, Hid (W.alloc (.cells #[.int .i64 a, .int .i64 r] 61) = w0) := ⟨_, Lib.hid rfl⟩
    have B0 := Lib.hid (show Below w.heap.size w w0 by rw [← hw0.out]; exact hbl.out.alloc (by omega) _)
    have z0 : W.heap.size < w0.heap.size := by rw [← hw0.out]; simp
    have c0 : w0.cell? ⟨W.heap.size, 0, none⟩ = some (.int .i64 a) := by rw [← hw0.out]; simp
    have c1 : w0.cell? ⟨W.heap.size, 1, none⟩ = some (.int .i64 r) := by rw [← hw0.out]; simp
    go_wp2_with fail
    rw [hw0.out]
    go_region_held3 (fun U => U.cell? ⟨W.heap.size, 0, none⟩ = some (.int .i64 a) ∧ U.cell? ⟨W.heap.size, 1, none⟩ = some (.int .i64 r)) (first | exact ⟨c0, c1⟩ | exact ⟨n0, n1⟩ | (simp [go_sem]; first | exact ⟨c0, c1⟩ | exact ⟨n0, n1⟩))
      (first | (go_at_call 70; refine (NL.out _).mono ?_; rintro e w' ⟨rfl, rfl⟩) | (go_at_call 59; refine (DC.out w0 _ (by repeat (first | assumption | exact Below.refl _ _ | refine Below.drew ?_ | refine bdq ?_ _))).mono ?_; rintro e w1 ⟨rfl, hb1⟩; have n0 := (hb1.cell (p := ⟨W.heap.size, 0, none⟩) z0).trans c0; have n1 := (hb1.cell (p := ⟨W.heap.size, 1, none⟩) z0).trans c1))
    all_goals
      have HB1 := Lib.hid (B0.out.trans (hb1.mono B0.out.size))
      clear hb1
      go_wp2
      exact bodyPost_ret (v := .tuple #[.int .i64 0, .int .i64 Q]) (by simp [results, Try.results32, go_sem]) rfl ⟨rfl, (by first | exact HB1.out | exact bdq HB1.out _ | exact bdrew HB1.out)⟩
theorem implRingOf_any (a r d p q : Int) (w : World) :
    Calls Try.prog 32 #[.int .i64 a, .int .i64 r, .int .i64 d, .agg #[.int .i64 p, .int .i64 q]] w fun e w' => e = .returned (.tuple #[.int .i64 (ansK (codeQ a r d p q) (ringC a d p)), .int .i64 (codeQ a r d p q)]) ∧ Below w.heap.size w w' := by
  cases h : okB p q with
  | false => rw [codeQ_1 h]; exact implRingOf_1 a r d p q w h
  | true => exact implRingOf_ok a r d p q w h

end Go.Proofs.Ytiemealkdgnhcaa.sines
