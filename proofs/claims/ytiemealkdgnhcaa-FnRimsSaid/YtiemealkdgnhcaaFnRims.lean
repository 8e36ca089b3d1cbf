/- FnRims answers true for every list of bytes. -/
import Derived.Test.YtiemealkdgnhcaaCapsU
import Derived.Test.YtiemealkdgnhcaaCapsI
import Derived.Test.YtiemealkdgnhcaaCDraw
import Derived.Test.YtiemealkdgnhcaaF6
namespace Go.Proofs.Ytiemealkdgnhcaa.rims
open Go.ChangeShapes Go.WideShapes Go.ChangeAt Go.RowKit Go.Proofs.Ytiemealkdgnhcaa.spots Go.Proofs.Ytiemealkdgnhcaa.sines Go.Proofs.Ytiemealkdgnhcaa.src Go.Proofs.Ytiemealkdgnhcaa.a2
set_option linter.unusedSimpArgs false

theorem code6_of_S {a l m : Int} (h : codeS6 a l m = 0) : code6 a l = 0 ∧ 1 ≤ m ∧ m ≤ 100000 := by
  rcases code6_cases a l with k | k
  · refine ⟨k, ?_⟩
    rw [codeS6_in k] at h
    cases g : inB m 1 100000 with
    | false => simp [g] at h
    | true => exact inB_of g
  · rw [codeS6_bad k] at h; omega
/-- Slits take what a rim is too long. -/
theorem slit_facts {a l m : Int} (h : codeS6 a l m = 0) : code6 a l = 0 ∧ excC a l ≤ slitC a l m * m ∧ (slitC a l m = 0 ∨ (slitC a l m - 1) * m < excC a l) ∧ 0 ≤ slitC a l m ∧ slitC a l m ≤ 6283186 ∧ 0 ≤ slitC a l m * m ∧ slitC a l m * m ≤ 7000000 ∧ -100000 ≤ (slitC a l m - 1) * m ∧ (slitC a l m - 1) * m ≤ 7000000 := by
  obtain ⟨k, m1, m2⟩ := code6_of_S h
  obtain ⟨e1, e2⟩ := excC_bounds k
  obtain ⟨s1, s2⟩ := slitC_bounds k m1
  have es : slitC a l m = (max 0 (excC a l) + m - 1) / m := rfl
  have x0 : 0 ≤ max 0 (excC a l) := by omega
  have x1 : max 0 (excC a l) ≤ 6283186 := by omega
  have x2 : excC a l ≤ max 0 (excC a l) := by omega
  have x3 : excC a l ≤ 0 → max 0 (excC a l) = 0 := fun h => by omega
  have x4 : ¬ excC a l ≤ 0 → max 0 (excC a l) = excC a l := fun h => by omega
  generalize max 0 (excC a l) = x at es x0 x1 x2 x3 x4
  generalize excC a l = e at e1 e2 x2 x3 x4 ⊢
  generalize slitC a l m = s at es s1 s2 ⊢
  have d := Int.emod_add_mul_ediv (x + m - 1) m
  have r1 := Int.emod_nonneg (x + m - 1) (show m ≠ 0 by omega)
  have r2 := Int.emod_lt_of_pos (x + m - 1) (show 0 < m by omega)
  rw [← es, Int.mul_comm] at d
  have e3 : (s - 1) * m = s * m - m := by rw [Int.sub_mul, Int.one_mul]
  rw [e3]
  have z0 : 0 ≤ s * m := Int.mul_nonneg s1 (by omega)
  refine ⟨k, by omega, ?_, s1, s2, z0, by omega, by omega, by omega⟩
  by_cases h0 : e ≤ 0
  · left
    have hx := x3 h0
    subst hx
    rw [es]
    exact Int.ediv_eq_zero_of_lt (by omega) (by omega)
  · right
    have hx := x4 h0
    omega
/-- An overlap that is told is that of the least cap. -/
theorem cap_facts {a l o : Int} (h : codeM a l o = 0) : codeV a (leastC a l o) l = 0 ∧ leastC a l o - arcC a (324000 - l) = o := by
  rcases code6_cases a l with k | k
  · rw [codeM_in k] at h
    cases g : inB o 0 100000 with
    | false => simp [g] at h
    | true =>
      rw [g] at h
      obtain ⟨o1, o2⟩ := inB_of g
      obtain ⟨a1, a2, l1, l2⟩ := code6_of k
      obtain ⟨p1, p2, _⟩ := excC_parts k
      have q1 : 0 ≤ leastC a l o := by unfold leastC; omega
      by_cases h1 : 100000 < leastC a l o
      · simp [h1] at h
      · by_cases h2 : a < 4 * leastC a l o
        · simp [h1, h2] at h
        · refine ⟨?_, by unfold leastC; omega⟩
          unfold codeV codeR
          have i1 : inB a 1 1000000 = true := by simp [inB]; omega
          have i2 : inB (leastC a l o) 0 100000 = true := by simp [inB]; omega
          rw [if_pos k, i1, i2, if_neg h2]
          rfl
  · rw [codeM_bad k] at h; omega
set_option maxRecDepth 100000 in
set_option maxHeartbeats 8000000 in
theorem walk (a0 : Option Addr) (l0 c0 : Nat) (z0 : List Int) (w : World) (r0 : IsRow .u8 w a0 l0 c0 z0) :
    Calls Try.prog 4 #[.slice a0 l0 c0] w fun e w' => e = .returned (.bool true) ∧ Below w.heap.size w w' := by
  have hl0 := row_len r0
  by_cases hlong : 4096 < l0
  · have hd : decide (4096 < l0) = true := decide_eq_true hlong
    clear r0 hlong
    go_enter Try.func4, Try.ntmps4
    go_wp2_with fail
    refine (f6big_any _ _ _ _ hl0).mono ?_
    rw [hd]
    rintro e w' ⟨rfl, rfl⟩
    go_wp2
    go_ret
    exact ⟨rfl, Below.refl _ _⟩
  have hd : decide (4096 < l0) = false := decide_eq_false hlong
  have B0 := Lib.hid (bytes_of r0 (by omega) (fun b o v h => World.block_lt_of_cell? _ _ h))
  have HB := Lib.hid (Below.refl w.heap.size w)
  clear r0
  go_enter Try.func4, Try.ntmps4
  go_wp2_with fail
  refine (f6big_any _ _ _ _ hl0).mono ?_
  rw [hd]
  rintro e w' ⟨rfl, rfl⟩
  clear hl0 hlong hd
  go_wp2_with fail
  refine (DrawSlitsFor_any w a0 l0 c0 (bytes_up B0.out HB.out)).mono ?_
  rintro e w1 ⟨a, l, m, rfl, hb⟩
  have HB1 := Lib.hid (HB.out.trans (hb.mono HB.out.size))
  clear hb
  obtain ⟨A1, HA1⟩ : ∃ v, Hid (ansK (codeS6 a l m) (slitC a l m) = v) := ⟨_, Lib.hid rfl⟩
  obtain ⟨C1, HC1⟩ : ∃ v, Hid (codeS6 a l m = v) := ⟨_, Lib.hid rfl⟩
  go_wp2_with fail
  refine (implSlitsFor_any a l m w1).mono ?_
  rw [HA1.out, HC1.out]
  rintro e w2 ⟨rfl, hb⟩
  have HB2 := Lib.hid (HB1.out.trans (hb.mono HB1.out.size))
  clear hb
  go_wp2_with fail
  refine (specSlitsFor_any a l m w2).mono ?_
  rw [HA1.out, HC1.out]
  rintro e w' ⟨rfl, rfl⟩
  go_wp2_with fail
  refine (DrawSmallestCap_any w2 a0 l0 c0 (bytes_up B0.out HB2.out)).mono ?_
  rintro e w3 ⟨p, q, o, rfl, hb⟩
  have HB3 := Lib.hid (HB2.out.trans (hb.mono HB2.out.size))
  clear hb
  obtain ⟨A2, HA2⟩ : ∃ v, Hid (ansK (codeM p q o) (leastC p q o) = v) := ⟨_, Lib.hid rfl⟩
  obtain ⟨C2, HC2⟩ : ∃ v, Hid (codeM p q o = v) := ⟨_, Lib.hid rfl⟩
  go_wp2_with fail
  refine (implSmallestCap_any p q o w3).mono ?_
  rw [HA2.out, HC2.out]
  rintro e w4 ⟨rfl, hb⟩
  have HB4 := Lib.hid (HB3.out.trans (hb.mono HB3.out.size))
  clear hb
  go_wp2_with fail
  refine (specSmallestCap_any p q o w4).mono ?_
  rw [HA2.out, HC2.out]
  rintro e w' ⟨rfl, rfl⟩
  go_wp2_with fail
  refine (DrawCapOverlap_any w4 a0 l0 c0 (bytes_up B0.out HB4.out)).mono ?_
  rintro e w5 ⟨c, d, r, rfl, hb⟩
  have HB5 := Lib.hid (HB4.out.trans (hb.mono HB4.out.size))
  clear hb
  obtain ⟨A3, HA3⟩ : ∃ v, Hid (ansK (codeV c d r) (d - arcC c (324000 - r)) = v) := ⟨_, Lib.hid rfl⟩
  obtain ⟨C3, HC3⟩ : ∃ v, Hid (codeV c d r = v) := ⟨_, Lib.hid rfl⟩
  go_wp2_with fail
  refine (implCapOverlap_any c d r w5).mono ?_
  rw [HA3.out, HC3.out]
  rintro e w6 ⟨rfl, hb⟩
  have HB6 := Lib.hid (HB5.out.trans (hb.mono HB5.out.size))
  clear hb
  go_wp2_with fail
  refine (specCapOverlap_any c d r w6).mono ?_
  rw [HA3.out, HC3.out]
  rintro e w' ⟨rfl, rfl⟩
  go_wp2_with fail
  refine (DrawRimExcess_any w6 a0 l0 c0 (bytes_up B0.out HB6.out)).mono ?_
  rintro e w7 ⟨g, k, rfl, hb⟩
  have HB7 := Lib.hid (HB6.out.trans (hb.mono HB6.out.size))
  clear hb
  obtain ⟨A4, HA4⟩ : ∃ v, Hid (ansK (code6 g k) (excC g k) = v) := ⟨_, Lib.hid rfl⟩
  obtain ⟨C4, HC4⟩ : ∃ v, Hid (code6 g k = v) := ⟨_, Lib.hid rfl⟩
  go_wp2_with fail
  refine (implRimExcess_any g k w7).mono ?_
  rw [HA4.out, HC4.out]
  rintro e w8 ⟨rfl, hb⟩
  have HB8 := Lib.hid (HB7.out.trans (hb.mono HB7.out.size))
  clear hb
  go_wp2_with fail
  refine (specRimExcess_any g k w8).mono ?_
  rw [HA4.out, HC4.out]
  rintro e w' ⟨rfl, rfl⟩
  by_cases h2 : C2 = 0
  · subst h2
    obtain ⟨k1, k2⟩ := cap_facts HC2.out
    have A2E := Lib.hid (show A2 = leastC p q o by rw [← HA2.out, HC2.out]; rfl)
    rw [← A2E.out] at k1 k2
    have V1 := Lib.hid k1
    have V0 := Lib.hid (show ansK (codeV p A2 q) (A2 - arcC p (324000 - q)) = o by rw [k1]; exact k2)
    clear k1 k2
    go_wp2_with fail
    refine (implCapOverlap_any p A2 q w8).mono ?_
    rw [V0.out, V1.out]
    rintro e w9 ⟨rfl, hb⟩
    have HB9 := Lib.hid (HB8.out.trans (hb.mono HB8.out.size))
    clear hb
    by_cases h1 : C1 = 0
    · subst h1
      obtain ⟨j1, j2, j3, j4, j5, j6, j7, j8, j9⟩ := slit_facts HC1.out
      have A1E := Lib.hid (show A1 = slitC a l m by rw [← HA1.out, HC1.out]; rfl)
      rw [← A1E.out] at j2 j3 j4 j5 j6 j7 j8 j9
      have X1 := Lib.hid j1
      obtain ⟨x1, x2⟩ := excC_bounds j1
      obtain ⟨X, HX⟩ : ∃ v, Hid (excC a l = v) := ⟨_, Lib.hid rfl⟩
      rw [HX.out] at j2 j3 x1 x2
      have X0 := Lib.hid (show ansK (code6 a l) (excC a l) = X by rw [j1, HX.out]; rfl)
      have y1 : IntKind.i64.wrap (A1 * m) = A1 * m := IntWalk.i64_in _ (by omega)
      have y2 : IntKind.i64.wrap (A1 - 1) = A1 - 1 := IntWalk.i64_in _ (by omega)
      have y3 : IntKind.i64.wrap ((A1 - 1) * m) = (A1 - 1) * m := IntWalk.i64_in _ (by omega)
      have y4 : decide (X ≤ A1 * m) = true := decide_eq_true j2
      clear j1
      go_wp2_with fail
      refine (implRimExcess_any a l w9).mono ?_
      rw [X0.out, X1.out]
      rintro e w10 ⟨rfl, hb⟩
      have HB10 := Lib.hid (HB9.out.trans (hb.mono HB9.out.size))
      clear hb
      by_cases hz : A1 = 0
      · have y5 : (A1 == 0) = true := by simp [hz]
        clear hz j3
        go_wp2
        go_ret
        exact ⟨rfl, HB10.out⟩
      · have y5 : (A1 == 0) = false := by simpa using hz
        have y6 : decide ((A1 - 1) * m < X) = true := decide_eq_true (by rcases j3 with j | j; exact absurd j hz; exact j)
        clear hz j3
        go_wp2
        go_ret
        exact ⟨rfl, HB10.out⟩
    · have h1' : (C1 != 0) = true := by simpa using h1
      clear h1
      go_wp2
      go_ret
      exact ⟨rfl, HB9.out⟩
  · have h2' : (C2 == 0) = false := by simpa using h2
    clear h2
    by_cases h1 : C1 = 0
    · subst h1
      obtain ⟨j1, j2, j3, j4, j5, j6, j7, j8, j9⟩ := slit_facts HC1.out
      have A1E := Lib.hid (show A1 = slitC a l m by rw [← HA1.out, HC1.out]; rfl)
      rw [← A1E.out] at j2 j3 j4 j5 j6 j7 j8 j9
      have X1 := Lib.hid j1
      obtain ⟨x1, x2⟩ := excC_bounds j1
      obtain ⟨X, HX⟩ : ∃ v, Hid (excC a l = v) := ⟨_, Lib.hid rfl⟩
      rw [HX.out] at j2 j3 x1 x2
      have X0 := Lib.hid (show ansK (code6 a l) (excC a l) = X by rw [j1, HX.out]; rfl)
      have y1 : IntKind.i64.wrap (A1 * m) = A1 * m := IntWalk.i64_in _ (by omega)
      have y2 : IntKind.i64.wrap (A1 - 1) = A1 - 1 := IntWalk.i64_in _ (by omega)
      have y3 : IntKind.i64.wrap ((A1 - 1) * m) = (A1 - 1) * m := IntWalk.i64_in _ (by omega)
      have y4 : decide (X ≤ A1 * m) = true := decide_eq_true j2
      clear j1
      go_wp2_with fail
      refine (implRimExcess_any a l w8).mono ?_
      rw [X0.out, X1.out]
      rintro e w9 ⟨rfl, hb⟩
      have HB9 := Lib.hid (HB8.out.trans (hb.mono HB8.out.size))
      clear hb
      by_cases hz : A1 = 0
      · have y5 : (A1 == 0) = true := by simp [hz]
        clear hz j3
        go_wp2
        go_ret
        exact ⟨rfl, HB9.out⟩
      · have y5 : (A1 == 0) = false := by simpa using hz
        have y6 : decide ((A1 - 1) * m < X) = true := decide_eq_true (by rcases j3 with j | j; exact absurd j hz; exact j)
        clear hz j3
        go_wp2
        go_ret
        exact ⟨rfl, HB9.out⟩
    · have h1' : (C1 != 0) = true := by simpa using h1
      clear h1
      go_wp2
      go_ret
      exact ⟨rfl, HB8.out⟩

set_option maxRecDepth 100000 in
theorem lifted (os : Os) (started : os.Started) (H : Type) (enc : TypeId × Value → H) :
    ReturnsInHanded {} Try.checked os 4 .any (Rows.fnRimsSpec.pre6 enc Try.prog Try.f4 Rows.fnRimsRow.domain false) (Rows.fnRimsSpec.post enc Try.prog Try.f4 false true false false) := by
  refine returnsInHanded_of_change (C := Try.checked) own started (by kernel_rfl) Try.func4
    (ChangeSpec.witness6 (enc := enc) (C := Try.checked) false ⟨#[], #[.slice none 0 0], []⟩ 8 (by kernel_rfl) (by kernel_rfl) (by kernel_rfl) (by kernel_rfl)) ?_
  intro W base args ds gs before hval0 hW hcnd _
  have hval : ∀ (j : Nat) t v, Try.f4.params[j]? = some t → args[j]? = some v → Value.okWide Try.prog W .any base t v := hval0
  have hW' := hW
  obtain ⟨p, q, hA0, hV, hpq, hfz, hnd⟩ := hW
  have hA : DataW.TrodAll enc Try.prog W 0 (fun _ => true) true Try.f4.params.toList args.toList ds p := hA0
  rw [Try.params4] at hA hval
  obtain ⟨v0, vs0, d0, ds0, p0, q0, hargs, rfl, rfl, h0, r0⟩ := trodAll_cons hA
  obtain ⟨rfl, rfl, rfl⟩ := trodAll_nil r0
  obtain rfl : args = #[v0] := by cases args; simp_all
  obtain ⟨a0, len0, cap0, rfl⟩ := okWide_slice Try.underlying22 (hval 0 22 v0 rfl rfl)
  obtain ⟨z0, w0⟩ : ∃ zs, IsRow .u8 W a0 len0 cap0 zs := by
    obtain ⟨fuel, hf⟩ := h0
    rcases open_ints Try.underlying22 Try.underlying5 (by kernel_rfl) hf with ⟨hcs, _⟩ | ⟨x, l, c, zs, hcs, _, hl, hm, hz, _, hcell, hwz⟩
    · simp [Value.cells] at hcs
      obtain ⟨rfl, rfl, rfl⟩ := hcs
      exact ⟨[], .inl ⟨rfl, rfl, rfl, rfl⟩⟩
    · simp [Value.cells] at hcs
      obtain ⟨rfl, rfl, rfl⟩ := hcs
      exact ⟨zs, .inr ⟨_, rfl, hl, hm, by simpa using hz, hcell, hwz⟩⟩
  refine (walk a0 len0 cap0 z0 W w0).mono fun e W' ⟨he, bel⟩ => ?_
  subst he
  exact ⟨_, rfl, post_of_law laidOut (by kernel_rfl) Try.underlying4 rfl rfl (fun ds h => by match ds, h with | [_], _ => rfl) hW' bel⟩

theorem holds : Rows.FnRimsSaid :=
  OpenClaim.holds_of_wide 4 Try.f4 rfl rfl rfl rfl rfl rfl rfl ⟨rfl, rfl, rfl, rfl, rfl⟩ rfl rfl rfl rfl rfl (by kernel_rfl) Try.func4 (by kernel_rfl)
    (of_decide_eq_true (by kernel_rfl)) (by unfold Func.isWrapper; first | (rw [if_pos (by decide +kernel)]; kernel_rfl) | (rw [if_neg (by decide +kernel)]; exact ⟨rfl, rfl⟩))
    (fun os started H enc _ => lifted os started H enc)
#print axioms holds

end Go.Proofs.Ytiemealkdgnhcaa.rims
