/- FnExactLabelsMeet answers true for all labels and numbers. -/
import Derived.Test.YtmfjpmimkpldjaaLabI2
import Derived.Test.YtmfjpmimkpldjaaLTab2
namespace Go.Proofs.Ytmfjpmimkpldjaa.labelsMeet
open Go.ChangeShapes Go.WideShapes Go.ChangeAt Go.RowKit Go.Proofs.Ytmfjpmimkpldjaa.sines Go.Proofs.Ytmfjpmimkpldjaa.irows Go.Proofs.Ytmfjpmimkpldjaa.ltab
set_option linter.unusedSimpArgs false
set_option linter.unusedVariables false

set_option maxRecDepth 100000 in
set_option maxHeartbeats 4000000 in
theorem walk (vp : Value) (p : Lb) (vq : Value) (q : Lb) (x y : Int) (w : World) (hvp : IAt w w.heap.size vp p.2.2.1) (hcp : CapL vp) (hmp : p.2.2.1.length ≤ maxLen) (hvq : IAt w w.heap.size vq q.2.2.1) (hcq : CapL vq) (hmq : q.2.2.1.length ≤ maxLen) (_ : (Lit.int .i64 x).wf = true) (_ : (Lit.int .i64 y).wf = true) :
    Calls Try.prog 9 #[.agg #[.int .i64 p.1, .int .i64 p.2.1, vp, .int .i64 p.2.2.2], .agg #[.int .i64 q.1, .int .i64 q.2.1, vq, .int .i64 q.2.2.2], .int .i64 x, .int .i64 y] w fun e w' => e = .returned (.bool true) ∧ Below w.heap.size w w' := by
  have HVp := Lib.hid hvp
  have HVq := Lib.hid hvq
  clear hvp hvq
  obtain ⟨ap, np, kp, rfl⟩ : ∃ a n c, vp = .slice a n c := by obtain ⟨a, c, e, _⟩ := HVp.out; exact ⟨_, _, _, e⟩
  obtain ⟨aq, nq, kq, rfl⟩ : ∃ a n c, vq = .slice a n c := by obtain ⟨a, c, e, _⟩ := HVq.out; exact ⟨_, _, _, e⟩
  clear hcp hcq
  have BW : Below w.heap.size w ((w.alloc (.cells #[.int .i64 p.1, .int .i64 p.2.1, .slice ap np kp, .int .i64 p.2.2.2] 66)).alloc (.cells #[.int .i64 q.1, .int .i64 q.2.1, .slice aq nq kq, .int .i64 q.2.2.2] 66)) := ((Below.refl _ _).alloc (Nat.le_refl _) _).alloc (by simp) _
  have hWs : w.heap.size + 1 < ((w.alloc (.cells #[.int .i64 p.1, .int .i64 p.2.1, .slice ap np kp, .int .i64 p.2.2.2] 66)).alloc (.cells #[.int .i64 q.1, .int .i64 q.2.1, .slice aq nq kq, .int .i64 q.2.2.2] 66)).heap.size := by simp
  have c0 : ((w.alloc (.cells #[.int .i64 p.1, .int .i64 p.2.1, .slice ap np kp, .int .i64 p.2.2.2] 66)).alloc (.cells #[.int .i64 q.1, .int .i64 q.2.1, .slice aq nq kq, .int .i64 q.2.2.2] 66)).cell? ⟨w.heap.size, 0, none⟩ = some (.int .i64 p.1) := by simp [go_sem]
  have c1 : ((w.alloc (.cells #[.int .i64 p.1, .int .i64 p.2.1, .slice ap np kp, .int .i64 p.2.2.2] 66)).alloc (.cells #[.int .i64 q.1, .int .i64 q.2.1, .slice aq nq kq, .int .i64 q.2.2.2] 66)).cell? ⟨w.heap.size, 1, none⟩ = some (.int .i64 p.2.1) := by simp [go_sem]
  have c2 : ((w.alloc (.cells #[.int .i64 p.1, .int .i64 p.2.1, .slice ap np kp, .int .i64 p.2.2.2] 66)).alloc (.cells #[.int .i64 q.1, .int .i64 q.2.1, .slice aq nq kq, .int .i64 q.2.2.2] 66)).cell? ⟨w.heap.size, 2, none⟩ = some (.slice ap np kp) := by simp [go_sem]
  have c3 : ((w.alloc (.cells #[.int .i64 p.1, .int .i64 p.2.1, .slice ap np kp, .int .i64 p.2.2.2] 66)).alloc (.cells #[.int .i64 q.1, .int .i64 q.2.1, .slice aq nq kq, .int .i64 q.2.2.2] 66)).cell? ⟨w.heap.size, 3, none⟩ = some (.int .i64 p.2.2.2) := by simp [go_sem]
  have c4 : ((w.alloc (.cells #[.int .i64 p.1, .int .i64 p.2.1, .slice ap np kp, .int .i64 p.2.2.2] 66)).alloc (.cells #[.int .i64 q.1, .int .i64 q.2.1, .slice aq nq kq, .int .i64 q.2.2.2] 66)).cell? ⟨w.heap.size + 1, 0, none⟩ = some (.int .i64 q.1) := by simp [go_sem]
  have c5 : ((w.alloc (.cells #[.int .i64 p.1, .int .i64 p.2.1, .slice ap np kp, .int .i64 p.2.2.2] 66)).alloc (.cells #[.int .i64 q.1, .int .i64 q.2.1, .slice aq nq kq, .int .i64 q.2.2.2] 66)).cell? ⟨w.heap.size + 1, 1, none⟩ = some (.int .i64 q.2.1) := by simp [go_sem]
  have c6 : ((w.alloc (.cells #[.int .i64 p.1, .int .i64 p.2.1, .slice ap np kp, .int .i64 p.2.2.2] 66)).alloc (.cells #[.int .i64 q.1, .int .i64 q.2.1, .slice aq nq kq, .int .i64 q.2.2.2] 66)).cell? ⟨w.heap.size + 1, 2, none⟩ = some (.slice aq nq kq) := by simp [go_sem]
  have c7 : ((w.alloc (.cells #[.int .i64 p.1, .int .i64 p.2.1, .slice ap np kp, .int .i64 p.2.2.2] 66)).alloc (.cells #[.int .i64 q.1, .int .i64 q.2.1, .slice aq nq kq, .int .i64 q.2.2.2] 66)).cell? ⟨w.heap.size + 1, 3, none⟩ = some (.int .i64 q.2.2.2) := by simp [go_sem]
  obtain ⟨W, hW⟩ : ∃ W, Hid (((w.alloc (.cells #[.int .i64 p.1, .int .i64 p.2.1, .slice ap np kp, .int .i64 p.2.2.2] 66)).alloc (.cells #[.int .i64 q.1, .int .i64 q.2.1, .slice aq nq kq, .int .i64 q.2.2.2] 66)) = W) := ⟨_, Lib.hid rfl⟩
  rw [hW.out] at BW hWs c0 c1 c2 c3 c4 c5 c6 c7
  have B0 := Lib.hid BW
  have CL := Lib.hid (show ∀ U, Below W.heap.size W U → U.cell? ⟨w.heap.size, 0, none⟩ = some (.int .i64 p.1) ∧ U.cell? ⟨w.heap.size, 1, none⟩ = some (.int .i64 p.2.1) ∧ U.cell? ⟨w.heap.size, 2, none⟩ = some (.slice ap np kp) ∧ U.cell? ⟨w.heap.size, 3, none⟩ = some (.int .i64 p.2.2.2) ∧ U.cell? ⟨w.heap.size + 1, 0, none⟩ = some (.int .i64 q.1) ∧ U.cell? ⟨w.heap.size + 1, 1, none⟩ = some (.int .i64 q.2.1) ∧ U.cell? ⟨w.heap.size + 1, 2, none⟩ = some (.slice aq nq kq) ∧ U.cell? ⟨w.heap.size + 1, 3, none⟩ = some (.int .i64 q.2.2.2) from fun U h => ⟨(h.cell (p := ⟨w.heap.size, 0, none⟩) (by show w.heap.size < _; omega)).trans c0, (h.cell (p := ⟨w.heap.size, 1, none⟩) (by show w.heap.size < _; omega)).trans c1, (h.cell (p := ⟨w.heap.size, 2, none⟩) (by show w.heap.size < _; omega)).trans c2, (h.cell (p := ⟨w.heap.size, 3, none⟩) (by show w.heap.size < _; omega)).trans c3, (h.cell (p := ⟨w.heap.size + 1, 0, none⟩) (by show w.heap.size + 1 < _; omega)).trans c4, (h.cell (p := ⟨w.heap.size + 1, 1, none⟩) (by show w.heap.size + 1 < _; omega)).trans c5, (h.cell (p := ⟨w.heap.size + 1, 2, none⟩) (by show w.heap.size + 1 < _; omega)).trans c6, (h.cell (p := ⟨w.heap.size + 1, 3, none⟩) (by show w.heap.size + 1 < _; omega)).trans c7⟩)
  have HVp2 := Lib.hid (iat_up (iat_keep HVp.out BW) BW.size)
  have HVq2 := Lib.hid (iat_up (iat_keep HVq.out BW) BW.size)
  clear BW hWs
  have SZp := Lib.hid (fun U (hb : Below W.heap.size W U) => szL1_any p.1 p.2.1 _ p.2.2.1 p.2.2.2 U 0 1048576 (iat_up (iat_keep HVp2.out hb) hb.size) hmp (by omega) (by omega))
  obtain ⟨S, hS⟩ : ∃ S : Int, Hid ((if (p.2.2.1.length : Int) ≤ 1048576 then 1048576 - (p.2.2.1.length : Int) else -1) = S) := ⟨_, Lib.hid rfl⟩
  rw [hS.out] at SZp
  have Z0 := Lib.hid (Below.refl W.heap.size W)
  by_cases hp0 : S < 0
  · have d0 : decide (S < 0) = true := by simpa using hp0
    go_enter Try.func9, Try.ntmps9
    go_wp2_with fail
    rw [hW.out]
    refine (SZp.out _ Z0.out).mono ?_
    rintro e w' ⟨rfl, hb⟩
    go_wp2
    go_ret
    exact ⟨rfl, B0.out.trans (hb.mono B0.out.size)⟩
  have hlp : p.2.2.1.length ≤ 1048576 := by
    have := hS.out
    split at this <;> omega
  have S0 : 0 ≤ S := by omega
  have S1 : S ≤ 1048576 := by
    have := hS.out
    split at this <;> omega
  have dS : decide (S < 0) = false := by simpa using hp0
  have SZq := Lib.hid (fun U (hb : Below W.heap.size W U) => szL1_any q.1 q.2.1 _ q.2.2.1 q.2.2.2 U 0 S (iat_up (iat_keep HVq2.out hb) hb.size) hmq S0 S1)
  obtain ⟨T, hT⟩ : ∃ T : Int, Hid ((if (q.2.2.1.length : Int) ≤ S then S - (q.2.2.1.length : Int) else -1) = T) := ⟨_, Lib.hid rfl⟩
  rw [hT.out] at SZq
  by_cases hq0 : T < 0
  · have d0 : decide (T < 0) = true := by simpa using hq0
    clear hp0
    go_enter Try.func9, Try.ntmps9
    go_wp2_with fail
    rw [hW.out]
    refine (SZp.out _ Z0.out).mono ?_
    rintro e w1 ⟨rfl, hb⟩
    have Z1 := Lib.hid hb
    clear c0 c1 c2 c3 c4 c5 c6 c7
    obtain ⟨c0, c1, c2, c3, c4, c5, c6, c7⟩ := CL.out _ hb
    clear hb
    go_wp2_with fail
    refine (SZq.out _ Z1.out).mono ?_
    rintro e w' ⟨rfl, hb⟩
    have Z2 := Lib.hid (Z1.out.trans (hb.mono Z1.out.size))
    go_wp2
    go_ret
    exact ⟨rfl, B0.out.trans (Z2.out.mono B0.out.size)⟩
  have hlq : q.2.2.1.length ≤ 1048576 := by
    have := hT.out
    split at this <;> omega
  have dT : decide (T < 0) = false := by simpa using hq0
  have TOp := Lib.hid (fun U (hb : Below W.heap.size W U) => toL1_any p.1 p.2.1 _ p.2.2.1 p.2.2.2 U (iat_up (iat_keep HVp2.out hb) hb.size) hlp)
  have TOq := Lib.hid (fun U (hb : Below W.heap.size W U) => toL1_any q.1 q.2.1 _ q.2.2.1 q.2.2.2 U (iat_up (iat_keep HVq2.out hb) hb.size) hlq)
  have SP := Lib.hid (fun U va vb h1 h2 h3 h4 => specLabelsMeet_any p q va vb x y U h1 h2 h3 h4 hlp hlq)
  have IM := Lib.hid (fun U va vb h1 h2 h3 h4 => implLabelsMeet_any p q va vb x y U h1 h2 h3 h4 hlp hlq)
  have EQp := Lib.hid (fun U va vb h1 h2 => eqL1_same p va vb U h1 h2 hlp)
  have EQq := Lib.hid (fun U va vb h1 h2 => eqL1_same q va vb U h1 h2 hlq)
  obtain ⟨r0, HC0⟩ : ∃ c, Hid (valM2 p q x y = c) := ⟨_, Lib.hid rfl⟩
  obtain ⟨r1, HC1⟩ : ∃ c, Hid (codeM2 p q x y = c) := ⟨_, Lib.hid rfl⟩
  rw [HC0.out, HC1.out] at SP IM
  clear hp0 hq0 hlp hlq hmp hmq S0 S1
  go_enter Try.func9, Try.ntmps9
  go_wp2_with fail
  rw [hW.out]
  refine (SZp.out _ Z0.out).mono ?_
  rintro e w1 ⟨rfl, hb⟩
  have Z1 := Lib.hid hb
  clear c0 c1 c2 c3 c4 c5 c6 c7
  obtain ⟨c0, c1, c2, c3, c4, c5, c6, c7⟩ := CL.out _ hb
  clear hb
  go_wp2_with fail
  refine (SZq.out _ Z1.out).mono ?_
  rintro e w2 ⟨rfl, hb⟩
  have Z2 := Lib.hid (Z1.out.trans (hb.mono Z1.out.size))
  clear hb c0 c1 c2 c3 c4 c5 c6 c7
  obtain ⟨c0, c1, c2, c3, c4, c5, c6, c7⟩ := CL.out _ Z2.out
  have ZS := Lib.hid (fun U (h : Below w2.heap.size w2 U) => Z2.out.trans (h.mono Z2.out.size))
  go_wp2_with fail
  go_region_held3 (fun U => U.cell? ⟨w.heap.size, 0, none⟩ = some (.int .i64 p.1) ∧ U.cell? ⟨w.heap.size, 1, none⟩ = some (.int .i64 p.2.1) ∧ U.cell? ⟨w.heap.size, 2, none⟩ = some (.slice ap np kp) ∧ U.cell? ⟨w.heap.size, 3, none⟩ = some (.int .i64 p.2.2.2) ∧ U.cell? ⟨w.heap.size + 1, 0, none⟩ = some (.int .i64 q.1) ∧ U.cell? ⟨w.heap.size + 1, 1, none⟩ = some (.int .i64 q.2.1) ∧ U.cell? ⟨w.heap.size + 1, 2, none⟩ = some (.slice aq nq kq) ∧ U.cell? ⟨w.heap.size + 1, 3, none⟩ = some (.int .i64 q.2.2.2)) (first | exact ⟨c0, c1, c2, c3, c4, c5, c6, c7⟩ | exact ⟨n0, n1, n2, n3, n4, n5, n6, n7⟩ | exact ⟨m0, m1, m2, m3, m4, m5, m6, m7⟩ | exact ⟨k0, k1, k2, k3, k4, k5, k6, k7⟩ | (simp [go_sem]; first | exact ⟨c0, c1, c2, c3, c4, c5, c6, c7⟩ | exact ⟨n0, n1, n2, n3, n4, n5, n6, n7⟩ | exact ⟨m0, m1, m2, m3, m4, m5, m6, m7⟩ | exact ⟨k0, k1, k2, k3, k4, k5, k6, k7⟩)) (first | (go_at_call 53; with_reducible refine (TOp.out _ (ZS.out _ (by repeat (first | assumption | exact Below.refl _ _ | refine Below.drew ?_ | refine bdr ?_ _)))).mono ?_; rintro e w3 ⟨u0, rfl, hr0, hb3⟩; have hz3 := (show Below w2.heap.size w2 _ from (by repeat (first | assumption | exact Below.refl _ _ | refine Below.drew ?_ | refine bdr ?_ _))).trans (hb3.mono (by first | exact Nat.le_refl _ | simp)); obtain ⟨n0, n1, n2, n3, n4, n5, n6, n7⟩ := CL.out _ (ZS.out _ hz3); obtain ⟨a0, e0, g0, rfl⟩ : ∃ a n c, u0 = .slice a n c := (by obtain ⟨⟨a, c, e⟩, _⟩ := irow_shape hr0; exact ⟨_, _, _, e⟩)) | (go_at_call 53; with_reducible refine (TOq.out _ (ZS.out _ (by repeat (first | assumption | exact Below.refl _ _ | refine Below.drew ?_ | refine bdr ?_ _)))).mono ?_; rintro e w4 ⟨u1, rfl, hr1, hb4⟩; have hz4 := (show Below w2.heap.size w2 _ from (by repeat (first | assumption | exact Below.refl _ _ | refine Below.drew ?_ | refine bdr ?_ _))).trans (hb4.mono (by first | exact hz3.size | simp)); obtain ⟨m0, m1, m2, m3, m4, m5, m6, m7⟩ := CL.out _ (ZS.out _ hz4); have j0 := iatL_of_row (irow_keep hr0 ((show Below w3.heap.size w3 _ from (by repeat (first | assumption | exact Below.refl _ _ | refine Below.drew ?_ | refine bdr ?_ _))).trans (hb4.mono (by first | exact Nat.le_refl _ | simp)))); have j1 := iatL_of_row hr1; have q0 := cap_iat hr0; have q1 := cap_iat hr1; obtain ⟨a1, e1, g1, rfl⟩ : ∃ a n c, u1 = .slice a n c := (by obtain ⟨⟨a, c, e⟩, _⟩ := irow_shape hr1; exact ⟨_, _, _, e⟩)) | (go_at_call 52; refine (SP.out _ _ _ (by first | exact j0 | exact iat_keep j0 (by repeat (first | assumption | exact Below.refl _ _ | refine Below.drew ?_ | refine bdr ?_ _))) q0 (by first | exact j1 | exact iat_keep j1 (by repeat (first | assumption | exact Below.refl _ _ | refine Below.drew ?_ | refine bdr ?_ _))) q1).mono ?_; rintro e w5 ⟨rfl, hb5⟩; have hz5 := hz4.trans ((show Below w4.heap.size w4 _ from (by repeat (first | assumption | exact Below.refl _ _ | refine Below.drew ?_ | refine bdr ?_ _))).trans hb5 |>.mono hz4.size); obtain ⟨k0, k1, k2, k3, k4, k5, k6, k7⟩ := CL.out _ (ZS.out _ hz5)))
  all_goals
    have Z5 := Lib.hid (Z2.out.trans (hz5.mono Z2.out.size))
    clear hr0 hr1 hb3 hb4 hb5 hz3 hz4 hz5 j0 j1 q0 q1 c0 c1 c2 c3 c4 c5 c6 c7 n0 n1 n2 n3 n4 n5 n6 n7 m0 m1 m2 m3 m4 m5 m6 m7
    go_wp2_with fail
    refine (TOp.out _ Z5.out).mono ?_
    rintro e w6 ⟨u2, rfl, hr, hb⟩
    have Z6 := Lib.hid (Z5.out.trans (hb.mono Z5.out.size))
    have R2 := Lib.hid hr
    obtain ⟨a2, n2, g2, rfl⟩ : ∃ a n c, u2 = .slice a n c := by obtain ⟨⟨a, c, e⟩, _⟩ := irow_shape hr; exact ⟨_, _, _, e⟩
    clear hr hb k0 k1 k2 k3 k4 k5 k6 k7
    obtain ⟨c0, c1, c2, c3, c4, c5, c6, c7⟩ := CL.out _ Z6.out
    have ZA6 := Lib.hid (Z6.out.alloc Z6.out.size (.cells #[.int .i64 p.1, .int .i64 p.2.1, .slice a2 n2 g2, .int .i64 p.2.2.2] 36))
    obtain ⟨e0', e1', e2', e3', e4', e5', e6', e7'⟩ := CL.out _ ZA6.out
    go_wp2_with fail
    refine (TOq.out _ ZA6.out).mono ?_
    rintro e w7 ⟨u3, rfl, hr, hb⟩
    have Z7 := Lib.hid (ZA6.out.trans (hb.mono ZA6.out.size))
    have ha7 : Below w6.heap.size w6 w7 := ((Below.refl _ _).alloc (Nat.le_refl _) (.cells #[.int .i64 p.1, .int .i64 p.2.1, .slice a2 n2 g2, .int .i64 p.2.2.2] 36)).trans (hb.mono (by simp))
    have h67 : w6.heap.size < w7.heap.size := by have := hb.size; simp at this; omega
    have x0 : w7.cell? ⟨w6.heap.size, 0, none⟩ = some (.int .i64 p.1) := by rw [hb.cell (p := ⟨w6.heap.size, 0, none⟩) (by simp)]; simp [go_sem]
    have x1 : w7.cell? ⟨w6.heap.size, 1, none⟩ = some (.int .i64 p.2.1) := by rw [hb.cell (p := ⟨w6.heap.size, 1, none⟩) (by simp)]; simp [go_sem]
    have x2 : w7.cell? ⟨w6.heap.size, 2, none⟩ = some (.slice a2 n2 g2) := by rw [hb.cell (p := ⟨w6.heap.size, 2, none⟩) (by simp)]; simp [go_sem]
    have x3 : w7.cell? ⟨w6.heap.size, 3, none⟩ = some (.int .i64 p.2.2.2) := by rw [hb.cell (p := ⟨w6.heap.size, 3, none⟩) (by simp)]; simp [go_sem]
    have R2b := Lib.hid (irow_keep R2.out ha7)
    have R3 := Lib.hid hr
    have XL := Lib.hid (show ∀ U, Below w7.heap.size w7 U → U.cell? ⟨w6.heap.size, 0, none⟩ = some (.int .i64 p.1) ∧ U.cell? ⟨w6.heap.size, 1, none⟩ = some (.int .i64 p.2.1) ∧ U.cell? ⟨w6.heap.size, 2, none⟩ = some (.slice a2 n2 g2) ∧ U.cell? ⟨w6.heap.size, 3, none⟩ = some (.int .i64 p.2.2.2) from fun U h => ⟨(h.cell (p := ⟨w6.heap.size, 0, none⟩) h67).trans x0, (h.cell (p := ⟨w6.heap.size, 1, none⟩) h67).trans x1, (h.cell (p := ⟨w6.heap.size, 2, none⟩) h67).trans x2, (h.cell (p := ⟨w6.heap.size, 3, none⟩) h67).trans x3⟩)
    obtain ⟨a3, n3, g3, rfl⟩ : ∃ a n c, u3 = .slice a n c := by obtain ⟨⟨a, c, e⟩, _⟩ := irow_shape hr; exact ⟨_, _, _, e⟩
    clear hr hb ha7 c0 c1 c2 c3 c4 c5 c6 c7 e0' e1' e2' e3' e4' e5' e6' e7'
    obtain ⟨c0, c1, c2, c3, c4, c5, c6, c7⟩ := CL.out _ Z7.out
    have BA7 := Lib.hid ((Below.refl w7.heap.size w7).alloc (Nat.le_refl _) (.cells #[.int .i64 q.1, .int .i64 q.2.1, .slice a3 n3 g3, .int .i64 q.2.2.2] 36))
    obtain ⟨f0', f1', f2', f3'⟩ := XL.out _ BA7.out
    have I2 := Lib.hid (iat_up (iat_keep (iatL_of_row R2b.out) BA7.out) BA7.out.size)
    have I3 := Lib.hid (iat_up (iat_keep (iatL_of_row R3.out) BA7.out) BA7.out.size)
    go_wp2_with fail
    refine (IM.out _ _ _ I2.out (cap_iat R2b.out) I3.out (cap_iat R3.out)).mono ?_
    rintro e w8 ⟨rfl, hb⟩
    have B78 := Lib.hid (BA7.out.trans (hb.mono BA7.out.size))
    have Z8 := Lib.hid (Z7.out.trans (B78.out.mono Z7.out.size))
    have h78 : w7.heap.size < w8.heap.size := by have := hb.size; simp at this; omega
    have y0 : w8.cell? ⟨w7.heap.size, 0, none⟩ = some (.int .i64 q.1) := by rw [hb.cell (p := ⟨w7.heap.size, 0, none⟩) (by simp)]; simp [go_sem]
    have y1 : w8.cell? ⟨w7.heap.size, 1, none⟩ = some (.int .i64 q.2.1) := by rw [hb.cell (p := ⟨w7.heap.size, 1, none⟩) (by simp)]; simp [go_sem]
    have y2 : w8.cell? ⟨w7.heap.size, 2, none⟩ = some (.slice a3 n3 g3) := by rw [hb.cell (p := ⟨w7.heap.size, 2, none⟩) (by simp)]; simp [go_sem]
    have y3 : w8.cell? ⟨w7.heap.size, 3, none⟩ = some (.int .i64 q.2.2.2) := by rw [hb.cell (p := ⟨w7.heap.size, 3, none⟩) (by simp)]; simp [go_sem]
    have I2b := Lib.hid (iat_up (iat_keep I2.out hb) hb.size)
    have I3b := Lib.hid (iat_up (iat_keep I3.out hb) hb.size)
    have YL := Lib.hid (show ∀ U, Below w8.heap.size w8 U → U.cell? ⟨w7.heap.size, 0, none⟩ = some (.int .i64 q.1) ∧ U.cell? ⟨w7.heap.size, 1, none⟩ = some (.int .i64 q.2.1) ∧ U.cell? ⟨w7.heap.size, 2, none⟩ = some (.slice a3 n3 g3) ∧ U.cell? ⟨w7.heap.size, 3, none⟩ = some (.int .i64 q.2.2.2) from fun U h => ⟨(h.cell (p := ⟨w7.heap.size, 0, none⟩) h78).trans y0, (h.cell (p := ⟨w7.heap.size, 1, none⟩) h78).trans y1, (h.cell (p := ⟨w7.heap.size, 2, none⟩) h78).trans y2, (h.cell (p := ⟨w7.heap.size, 3, none⟩) h78).trans y3⟩)
    clear hb c0 c1 c2 c3 c4 c5 c6 c7 x0 x1 x2 x3 y0 y1 y2 y3 f0' f1' f2' f3'
    obtain ⟨c0, c1, c2, c3, c4, c5, c6, c7⟩ := CL.out _ Z8.out
    obtain ⟨x0, x1, x2, x3⟩ := XL.out _ B78.out
    have ZS8 := Lib.hid (fun U (h : Below w8.heap.size w8 U) => Z8.out.trans (h.mono Z8.out.size))
    have ZX8 := Lib.hid (fun U (h : Below w8.heap.size w8 U) => B78.out.trans (h.mono B78.out.size))
    go_wp2_with fail
    go_region_held3 (fun U => U.cell? ⟨w6.heap.size, 0, none⟩ = some (.int .i64 p.1) ∧ U.cell? ⟨w6.heap.size, 1, none⟩ = some (.int .i64 p.2.1) ∧ U.cell? ⟨w6.heap.size, 2, none⟩ = some (.slice a2 n2 g2) ∧ U.cell? ⟨w6.heap.size, 3, none⟩ = some (.int .i64 p.2.2.2) ∧ U.cell? ⟨w.heap.size, 0, none⟩ = some (.int .i64 p.1) ∧ U.cell? ⟨w.heap.size, 1, none⟩ = some (.int .i64 p.2.1) ∧ U.cell? ⟨w.heap.size, 2, none⟩ = some (.slice ap np kp) ∧ U.cell? ⟨w.heap.size, 3, none⟩ = some (.int .i64 p.2.2.2)) (first | exact ⟨x0, x1, x2, x3, c0, c1, c2, c3⟩ | exact ⟨n0, n1, n2, n3, n4, n5, n6, n7⟩ | exact ⟨m0, m1, m2, m3, m4, m5, m6, m7⟩ | (simp [go_sem]; first | exact ⟨x0, x1, x2, x3, c0, c1, c2, c3⟩ | exact ⟨n0, n1, n2, n3, n4, n5, n6, n7⟩ | exact ⟨m0, m1, m2, m3, m4, m5, m6, m7⟩)) (first | (go_at_call 53; refine (TOp.out _ (ZS8.out _ (by repeat (first | assumption | exact Below.refl _ _ | refine Below.drew ?_ | refine bdr ?_ _)))).mono ?_; rintro e w9 ⟨u4, rfl, hr, hb⟩; have hz := (show Below w8.heap.size w8 _ from (by repeat (first | assumption | exact Below.refl _ _ | refine Below.drew ?_ | refine bdr ?_ _))).trans (hb.mono (by first | exact Nat.le_refl _ | simp)); obtain ⟨n4, n5, n6, n7, _, _, _, _⟩ := CL.out _ (ZS8.out _ hz); obtain ⟨n0, n1, n2, n3⟩ := XL.out _ (ZX8.out _ hz); have j1 := iatL_of_row hr; obtain ⟨aa, ee, gg, rfl⟩ : ∃ a n c, u4 = .slice a n c := (by obtain ⟨⟨a, c, e⟩, _⟩ := irow_shape hr; exact ⟨_, _, _, e⟩)) | (go_at_call 54; refine (EQp.out _ _ _ (by first | exact iat_up (iat_keep I2b.out hz) hz.size | exact iat_up (iat_keep I2b.out (Below.drew hz)) hz.size | exact iat_up (iat_keep I2b.out (bdr hz _)) hz.size) (by first | exact j1 | exact iat_keep j1 (by repeat (first | assumption | exact Below.refl _ _ | refine Below.drew ?_ | refine bdr ?_ _)))).mono ?_; rintro e w10 ⟨rfl, hb2⟩; have hz2 := hz.trans ((show Below w9.heap.size w9 _ from (by repeat (first | assumption | exact Below.refl _ _ | refine Below.drew ?_ | refine bdr ?_ _))).trans hb2 |>.mono hz.size); obtain ⟨m4, m5, m6, m7, _, _, _, _⟩ := CL.out _ (ZS8.out _ hz2); obtain ⟨m0, m1, m2, m3⟩ := XL.out _ (ZX8.out _ hz2)))
    all_goals
      have B810 := Lib.hid hz2
      have I3c := Lib.hid (iat_up (iat_keep I3b.out hz2) hz2.size)
      clear hr hb hz j1 hb2 hz2 c0 c1 c2 c3 c4 c5 c6 c7 x0 x1 x2 x3 n0 n1 n2 n3 n4 n5 n6 n7 m0 m1 m2 m3 m4 m5 m6 m7
      obtain ⟨_, _, _, _, c4, c5, c6, c7⟩ := CL.out _ (ZS8.out _ B810.out)
      obtain ⟨y0, y1, y2, y3⟩ := YL.out _ B810.out
      go_wp2_with fail
      go_region_held3 (fun U => U.cell? ⟨w7.heap.size, 0, none⟩ = some (.int .i64 q.1) ∧ U.cell? ⟨w7.heap.size, 1, none⟩ = some (.int .i64 q.2.1) ∧ U.cell? ⟨w7.heap.size, 2, none⟩ = some (.slice a3 n3 g3) ∧ U.cell? ⟨w7.heap.size, 3, none⟩ = some (.int .i64 q.2.2.2) ∧ U.cell? ⟨w.heap.size + 1, 0, none⟩ = some (.int .i64 q.1) ∧ U.cell? ⟨w.heap.size + 1, 1, none⟩ = some (.int .i64 q.2.1) ∧ U.cell? ⟨w.heap.size + 1, 2, none⟩ = some (.slice aq nq kq) ∧ U.cell? ⟨w.heap.size + 1, 3, none⟩ = some (.int .i64 q.2.2.2)) (first | exact ⟨y0, y1, y2, y3, c4, c5, c6, c7⟩ | exact ⟨n0, n1, n2, n3, n4, n5, n6, n7⟩ | exact ⟨m0, m1, m2, m3, m4, m5, m6, m7⟩ | (simp [go_sem]; first | exact ⟨y0, y1, y2, y3, c4, c5, c6, c7⟩ | exact ⟨n0, n1, n2, n3, n4, n5, n6, n7⟩ | exact ⟨m0, m1, m2, m3, m4, m5, m6, m7⟩)) (first | (go_at_call 53; refine (TOq.out _ (ZS8.out _ (B810.out.trans ((show Below w10.heap.size w10 _ from (by repeat (first | assumption | exact Below.refl _ _ | refine Below.drew ?_ | refine bdr ?_ _))).mono B810.out.size)))).mono ?_; rintro e w11 ⟨u5, rfl, hr, hb⟩; have hz := (show Below w10.heap.size w10 _ from (by repeat (first | assumption | exact Below.refl _ _ | refine Below.drew ?_ | refine bdr ?_ _))).trans (hb.mono (by first | exact Nat.le_refl _ | simp)); obtain ⟨_, _, _, _, n4, n5, n6, n7⟩ := CL.out _ (ZS8.out _ (B810.out.trans (hz.mono B810.out.size))); obtain ⟨n0, n1, n2, n3⟩ := YL.out _ (B810.out.trans (hz.mono B810.out.size)); have j1 := iatL_of_row hr; obtain ⟨aa, ee, gg, rfl⟩ : ∃ a n c, u5 = .slice a n c := (by obtain ⟨⟨a, c, e⟩, _⟩ := irow_shape hr; exact ⟨_, _, _, e⟩)) | (go_at_call 54; refine (EQq.out _ _ _ (by first | exact iat_up (iat_keep I3c.out hz) hz.size | exact iat_up (iat_keep I3c.out (Below.drew hz)) hz.size | exact iat_up (iat_keep I3c.out (bdr hz _)) hz.size) (by first | exact j1 | exact iat_keep j1 (by repeat (first | assumption | exact Below.refl _ _ | refine Below.drew ?_ | refine bdr ?_ _)))).mono ?_; rintro e w12 ⟨rfl, hb2⟩; have hz2 := hz.trans ((show Below w11.heap.size w11 _ from (by repeat (first | assumption | exact Below.refl _ _ | refine Below.drew ?_ | refine bdr ?_ _))).trans hb2 |>.mono hz.size); obtain ⟨_, _, _, _, m4, m5, m6, m7⟩ := CL.out _ (ZS8.out _ (B810.out.trans (hz2.mono B810.out.size))); obtain ⟨m0, m1, m2, m3⟩ := YL.out _ (B810.out.trans (hz2.mono B810.out.size))))
      all_goals
        have BE := Lib.hid (B0.out.trans ((Z8.out.trans ((B810.out.trans (hz2.mono B810.out.size)).mono Z8.out.size)).mono B0.out.size))
        clear hr hb hz j1 hb2 hz2
        go_wp2
        go_ret
        exact ⟨rfl, by repeat (first | assumption | exact BE.out | refine Below.drew ?_ | refine bdr ?_ _)⟩

theorem cells_Label : Try.prog.cellsOf 66 = 4 := by kernel_rfl
set_option maxRecDepth 100000 in
theorem lifted (os : Os) (started : os.Started) (H : Type) (enc : TypeId × Value → H) :
    ReturnsInHanded {} Try.checked os 9 .any (Rows.fnExactLabelsMeetSpec.pre6 enc Try.prog Try.f9 Rows.fnExactLabelsMeetRow.domain false) (Rows.fnExactLabelsMeetSpec.post enc Try.prog Try.f9 false true false false) := by
  refine returnsInHanded_of_change (C := Try.checked) own started (by kernel_rfl) Try.func9
    (ChangeSpec.witness6 (enc := enc) (C := Try.checked) false ⟨#[], #[.agg #[.int .i64 0, .int .i64 0, .slice none 0 0, .int .i64 0], .agg #[.int .i64 0, .int .i64 0, .slice none 0 0, .int .i64 0], .int .i64 0, .int .i64 0], []⟩ 8 (by kernel_rfl) (by kernel_rfl) (by kernel_rfl) (by kernel_rfl)) ?_
  intro W base args ds gs before hval0 hW hcnd _
  have hval : ∀ (j : Nat) t v, Try.f9.params[j]? = some t → args[j]? = some v → Value.okWide Try.prog W .any base t v := hval0
  have hW' := hW
  obtain ⟨p, q, hA0, hV, hpq, hfz, hnd⟩ := hW
  have hA : DataW.TrodAll enc Try.prog W 0 (fun _ => true) true Try.f9.params.toList args.toList ds p := hA0
  rw [Try.params9] at hA hval
  obtain ⟨v0, vs0, d0, ds0, p0, q0, hargs, rfl, rfl, h0, r0⟩ := trodAll_cons hA
  obtain ⟨v1, vs1, d1, ds1, p1, q1, rfl, rfl, rfl, h1, r1⟩ := trodAll_cons r0
  obtain ⟨v2, vs2, d2, ds2, p2, q2, rfl, rfl, rfl, h2, r2⟩ := trodAll_cons r1
  obtain ⟨v3, vs3, d3, ds3, p3, q3, rfl, rfl, rfl, h3, r3⟩ := trodAll_cons r2
  obtain ⟨rfl, rfl, rfl⟩ := trodAll_nil r3
  obtain rfl : args = #[v0, v1, v2, v3] := by cases args; simp_all
  obtain ⟨c0_0, c0_1, c0_2, c0_3, y0_0, y0_1, y0_2, y0_3, m0, rfl, _, _, hy0_0, hy0_1, hy0_2, hy0_3⟩ := Go.Joins.open_agg4 Try.underlying66 (by kernel_rfl) cells_Label (hval 0 66 v0 rfl rfl) h0
  obtain ⟨p0', rfl, rfl, rfl, hp0, hc0, hl0⟩ := Go.Proofs.Ytmfjpmimkpldjaa.ltab.open_fields hy0_0 hy0_1 hy0_2 hy0_3
  obtain ⟨c1_0, c1_1, c1_2, c1_3, y1_0, y1_1, y1_2, y1_3, m1, rfl, _, _, hy1_0, hy1_1, hy1_2, hy1_3⟩ := Go.Joins.open_agg4 Try.underlying66 (by kernel_rfl) cells_Label (hval 1 66 v1 rfl rfl) h1
  obtain ⟨p1', rfl, rfl, rfl, hp1, hc1, hl1⟩ := Go.Proofs.Ytmfjpmimkpldjaa.ltab.open_fields hy1_0 hy1_1 hy1_2 hy1_3
  obtain ⟨a2, rfl, _, _, w2⟩ := open_int Try.underlying2 (hval 2 2 v2 rfl rfl) h2
  obtain ⟨a3, rfl, _, _, w3⟩ := open_int Try.underlying2 (hval 3 2 v3 rfl rfl) h3
  refine (walk c0_2 p0' c1_2 p1' a2 a3 W hp0 hc0 hl0 hp1 hc1 hl1 w2 w3).mono fun e W' ⟨he, bel⟩ => ?_
  subst he
  exact ⟨_, rfl, post_of_law laidOut (by kernel_rfl) Try.underlying4 rfl rfl (fun ds h => by match ds, h with | [_, _, _, _], _ => rfl) hW' bel⟩

theorem holds : Rows.FnExactLabelsMeetSaid :=
  OpenClaim.holds_of_wide 9 Try.f9 rfl rfl rfl rfl rfl rfl rfl ⟨rfl, rfl, rfl, rfl, rfl⟩ rfl rfl rfl rfl rfl (by kernel_rfl) Try.func9 (by kernel_rfl)
    (of_decide_eq_true (by kernel_rfl)) (by unfold Func.isWrapper; first | (rw [if_pos (by decide +kernel)]; kernel_rfl) | (rw [if_neg (by decide +kernel)]; exact ⟨rfl, rfl⟩))
    (fun os started H enc _ => lifted os started H enc)
#print axioms holds

end Go.Proofs.Ytmfjpmimkpldjaa.labelsMeet
