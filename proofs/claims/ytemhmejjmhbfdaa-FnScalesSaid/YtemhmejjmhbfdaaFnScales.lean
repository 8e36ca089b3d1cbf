/- FnScales answers true for every list of bytes. -/
import Derived.Test.YtemhmejjmhbfdaaPlatesI
import Derived.Test.YtemhmejjmhbfdaaMDrawL
import Derived.Test.YtemhmejjmhbfdaaF6
import Derived.Test.YtemhmejjmhbfdaaFlats
namespace Go.Proofs.Ytemhmejjmhbfdaa.scales
open Go.ChangeShapes Go.WideShapes Go.ChangeAt Go.RowKit Go.Proofs.Ytemhmejjmhbfdaa.spots Go.Proofs.Ytemhmejjmhbfdaa.sines Go.Proofs.Ytemhmejjmhbfdaa.src Go.Proofs.Ytemhmejjmhbfdaa.a2 Go.Proofs.Ytemhmejjmhbfdaa.irows Go.Proofs.Ytemhmejjmhbfdaa.pairs Go.Proofs.Ytemhmejjmhbfdaa.flats
set_option linter.unusedSimpArgs false
set_option linter.unusedVariables false

theorem absI_max (n : Int) : absI n = max n (-n) := by unfold absI; split <;> omega
theorem lossNV_bounds (a b s : Int) (wave : Bool) : -1000000000000 ≤ lossNV a b s wave ∧ lossNV a b s wave ≤ 1000000000000 ∧ -1000000000000 ≤ lossEV a b s wave ∧ lossEV a b s wave ≤ 1000000000000 := by
  unfold lossNV lossEV
  by_cases h : codeL8 a b s wave = 0
  · rw [if_pos h, if_pos h]
    have hs : codeS8 a b s = 0 := by
      unfold codeL8 at h
      split at h
      · assumption
      · assumption
    obtain ⟨k, s0, s1⟩ := codeS8_of hs
    exact loss_bounds wave k s0 s1
  · rw [if_neg h, if_neg h]; omega
theorem plain_half {a b s : Int} (h : codeL8 a b s false = 0) : 2 * absI (lossNV a b s false) ≤ s ∧ 2 * absI (lossEV a b s false) ≤ s := by
  have hs : codeS8 a b s = 0 := by
    have h2 := h
    unfold codeL8 at h2
    split at h2
    · assumption
    · assumption
  obtain ⟨k, s0, s1⟩ := codeS8_of hs
  obtain ⟨p1, p2, p3, p4⟩ := loss_half (lat := a) (lon := b) s0
  rw [absI_max, absI_max, lossNV, lossEV, if_pos h, if_pos h]
  omega
theorem best_facts {ps : List (Int × Int)} {most : Int} {wave : Bool} (h : codeBS ps most wave = 0) : 1 ≤ bestV ps most wave ∧ bestV ps most wave ≤ 1000 ∧ ∀ j, j < ps.length → codeL8 (sAt ps j).1 (sAt ps j).2 (bestV ps most wave) wave = 0 ∧ absI (lossNV (sAt ps j).1 (sAt ps j).2 (bestV ps most wave) wave) ≤ most ∧ absI (lossEV (sAt ps j).1 (sAt ps j).2 (bestV ps most wave) wave) ≤ most := by
  have hV : bestV ps most wave = (bestN ps most wave : Int) := by simp [bestV, h]
  obtain ⟨f1, f2, _⟩ := bestD_facts (f := fun t : Nat => fitsB ps (t : Int) most wave) 1000
  have f1' : bestN ps most wave ≤ 1000 := f1
  have f2' : bestN ps most wave = 0 ∨ fitsB ps (bestN ps most wave : Int) most wave = true := f2
  rw [hV]
  unfold codeBS at h
  split at h
  · rename_i g
    split at h
    · split at h
      · omega
      · rename_i g2 g3
        have hf : fitsB ps (bestN ps most wave : Int) most wave = true := by
          rcases f2' with k | k
          · exact absurd k g3
          · exact k
        refine ⟨by omega, by omega, fun j hj => ?_⟩
        have h1 := fitsB_iff.1 hf j hj
        have h2 := okL_iff.1 g j hj
        simp only [fitP, Bool.and_eq_true, decide_eq_true_eq] at h1
        obtain ⟨⟨a1, a2⟩, a3⟩ := h1
        have hc : codeL8 (sAt ps j).1 (sAt ps j).2 (bestN ps most wave : Int) wave = 0 := by
          have hi : inB (bestN ps most wave : Int) 1 100000 = true := by simp [inB]; omega
          simp [codeL8, codeS8, h2, hi, a1]
        refine ⟨hc, ?_, ?_⟩
        · rw [absI_max, lossNV, if_pos hc]; exact a2
        · rw [absI_max, lossEV, if_pos hc]; exact a3
    · omega
  · omega
set_option maxRecDepth 100000 in
set_option maxHeartbeats 16000000 in
theorem walk (a0 : Option Addr) (l0 c0 : Nat) (z0 : List Int) (w : World) (r0 : IsRow .u8 w a0 l0 c0 z0) :
    Calls Try.prog 4 #[.slice a0 l0 c0] w fun e w' => e = .returned (.bool true) ∧ Below w.heap.size w w' := by
  have hl0 := row_len r0
  by_cases hlong : 4096 < l0
  · have hd : decide (4096 < l0) = true := decide_eq_true hlong
    clear r0 hlong
    go_enter Try.func4, Try.ntmps4
    go_wp2_with fail
    refine (f6big_any _ _ _ _ hl0).mono ?_
    rw [hd]
    rintro e w' ⟨rfl, rfl⟩
    go_wp2
    go_ret
    exact ⟨rfl, Below.refl _ _⟩
  have hd : decide (4096 < l0) = false := decide_eq_false hlong
  have B0 := Lib.hid (bytes_of r0 (by omega) (fun b o v h => World.block_lt_of_cell? _ _ h))
  have HB := Lib.hid (Below.refl w.heap.size w)
  clear r0
  go_enter Try.func4, Try.ntmps4
  go_wp2_with fail
  refine (f6big_any _ _ _ _ hl0).mono ?_
  rw [hd]
  rintro e w' ⟨rfl, rfl⟩
  clear hl0 hlong hd
  go_wp2_with fail
  refine (DrawBestScale_any w a0 l0 c0 (bytes_up B0.out HB.out)).mono ?_
  rintro e w1 ⟨u, ps, most, wave, rfl, hpl, hr, hb⟩
  have HB1 := Lib.hid (HB.out.trans (hb.mono HB.out.size))
  have R1 := Lib.hid hr
  have HPL := Lib.hid hpl
  clear hb hr hpl
  obtain ⟨V1, HV1⟩ : ∃ v, Hid (bestV ps most wave = v) := ⟨_, Lib.hid rfl⟩
  obtain ⟨C1, HC1⟩ : ∃ v, Hid (codeBS ps most wave = v) := ⟨_, Lib.hid rfl⟩
  have hpl2 : ps.length ≤ 1048576 := by have := HPL.out; omega
  go_wp2_with fail
  refine (implBestScale_any u ps most wave w1 (prow_at R1.out) hpl2).mono ?_
  rw [HV1.out, HC1.out]
  rintro e w2 ⟨rfl, hb⟩
  have HB2 := Lib.hid (HB1.out.trans (hb.mono HB1.out.size))
  have R2 := Lib.hid (prow_keep R1.out hb)
  clear hb
  go_wp2_with fail
  refine (specBestScale_any u ps most wave w2 (prow_at R2.out) hpl2).mono ?_
  rw [HV1.out, HC1.out]
  rintro e w3 ⟨rfl, hb⟩
  have HB3 := Lib.hid (HB2.out.trans (hb.mono HB2.out.size))
  have R3 := Lib.hid (prow_keep R2.out hb)
  clear hb
  go_wp2_with fail
  refine (DrawLossOf_any w3 a0 l0 c0 (bytes_up B0.out HB3.out)).mono ?_
  rintro e w4 ⟨p, q, s, wv, rfl, hb⟩
  obtain ⟨d1, d2, d3, hn⟩ := newF w4 (.int .i64 p) (.int .i64 q) 25
  have hb2 := hb.trans (hn.mono hb.size)
  have HB4 := Lib.hid (HB3.out.trans (hb2.mono HB3.out.size))
  have R4 := Lib.hid (prow_keep R3.out hb2)
  clear hb hb2 hn
  obtain ⟨N2, HN2⟩ : ∃ v, Hid (lossNV p q s wv = v) := ⟨_, Lib.hid rfl⟩
  obtain ⟨E2, HE2⟩ : ∃ v, Hid (lossEV p q s wv = v) := ⟨_, Lib.hid rfl⟩
  obtain ⟨C2, HC2⟩ : ∃ v, Hid (codeL8 p q s wv = v) := ⟨_, Lib.hid rfl⟩
  go_wp2_with fail
  generalize w4.alloc (.cells #[.int .i64 p, .int .i64 q] 25) = V4 at *
  refine (implLossOf_any p q s wv V4).mono ?_
  rw [HN2.out, HE2.out, HC2.out]
  rintro e w5 ⟨rfl, hb⟩
  obtain ⟨d1, d2, d3⟩ := keepF hb d3 d1 d2
  have HB5 := Lib.hid (HB4.out.trans (hb.mono HB4.out.size))
  have R5 := Lib.hid (prow_keep R4.out hb)
  clear hb
  go_wp2_with fail
  refine (specLossOf_any p q s wv w5).mono ?_
  rw [HN2.out, HE2.out, HC2.out]
  rintro e w6 ⟨rfl, hb⟩
  have HB6 := Lib.hid (HB5.out.trans (hb.mono HB5.out.size))
  have R6 := Lib.hid (prow_keep R5.out hb)
  clear hb d1 d2 d3
  go_wp2_with fail
  refine (DrawStretchAt_any w6 a0 l0 c0 (bytes_up B0.out HB6.out)).mono ?_
  rintro e w7 ⟨lat, rfl, hb⟩
  have HB7 := Lib.hid (HB6.out.trans (hb.mono HB6.out.size))
  have R7 := Lib.hid (prow_keep R6.out hb)
  clear hb
  obtain ⟨M4, HM4⟩ : ∃ v, Hid (stretchV lat = v) := ⟨_, Lib.hid rfl⟩
  obtain ⟨C4, HC4⟩ : ∃ v, Hid (codeT8 lat = v) := ⟨_, Lib.hid rfl⟩
  go_wp2_with fail
  refine (implStretchAt_any lat w7).mono ?_
  rw [HM4.out, HC4.out]
  rintro e w8 ⟨rfl, hb⟩
  have HB8 := Lib.hid (HB7.out.trans (hb.mono HB7.out.size))
  have R8 := Lib.hid (prow_keep R7.out hb)
  clear hb
  go_wp2_with fail
  refine (specStretchAt_any lat w8).mono ?_
  rw [HM4.out, HC4.out]
  rintro e w9 ⟨rfl, hb⟩
  have HB9 := Lib.hid (HB8.out.trans (hb.mono HB8.out.size))
  have R9 := Lib.hid (prow_keep R8.out hb)
  clear hb
  have H4 := Lib.hid (show C4 = 0 → 1000 ≤ M4 from fun h => by rw [← HM4.out]; exact stretch_facts (by rw [HC4.out]; exact h))
  have H2 := Lib.hid (show C2 = 0 → wv = false → 2 * absI N2 ≤ s ∧ 2 * absI E2 ≤ s from fun h hw => by subst hw; rw [← HN2.out, ← HE2.out]; exact plain_half (by rw [HC2.out]; exact h))
  obtain ⟨n1, n2, n3, n4⟩ := lossNV_bounds p q s wv
  rw [HN2.out] at n1 n2
  rw [HE2.out] at n3 n4
  have A2 := Lib.hid (fun W => f6abs_any N2 W (by omega) (by omega))
  have A3 := Lib.hid (fun W => f6abs_any E2 W (by omega) (by omega))
  have p2 : 0 ≤ absI N2 ∧ absI N2 ≤ 1000000000000 := by rw [absI_max]; omega
  have p3 : 0 ≤ absI E2 ∧ absI E2 ≤ 1000000000000 := by rw [absI_max]; omega
  have kN : IntKind.i64.wrap (2 * absI N2) = 2 * absI N2 := IntWalk.i64_in _ (by omega)
  have kE : IntKind.i64.wrap (2 * absI E2) = 2 * absI E2 := IntWalk.i64_in _ (by omega)
  clear n1 n2 n3 n4
  generalize absI N2 = aN at A2 p2 kN H2
  generalize absI E2 = aE at A3 p3 kE H2
  have c4 : ((C4 == 0) = true ∧ decide (M4 < 1000) = false) ∨ (C4 == 0) = false := by
    by_cases h : C4 = 0
    · left
      have := H4.out h
      exact ⟨by simp [h], by simp; omega⟩
    · right; simpa using h
  have c2 : ((C2 == 0) = true ∧ wv = false ∧ decide (s < 2 * aN) = false ∧ decide (s < 2 * aE) = false) ∨ ((C2 == 0) = true ∧ wv = true) ∨ (C2 == 0) = false := by
    by_cases h : C2 = 0
    · cases wv with
      | false =>
        left
        have := H2.out h rfl
        exact ⟨by simp [h], rfl, by simp; omega, by simp; omega⟩
      | true => right; left; exact ⟨by simp [h], rfl⟩
    · right; right; simpa using h
  have BF := Lib.hid (show C1 = 0 → 1 ≤ V1 ∧ V1 ≤ 1000 ∧ ∀ j, j < ps.length → codeL8 (sAt ps j).1 (sAt ps j).2 V1 wave = 0 ∧ absI (lossNV (sAt ps j).1 (sAt ps j).2 V1 wave) ≤ most ∧ absI (lossEV (sAt ps j).1 (sAt ps j).2 V1 wave) ≤ most from fun h => by rw [← HV1.out]; exact best_facts (by rw [HC1.out]; exact h))
  obtain ⟨ur, uc, hu, hcl⟩ := prow_at R9.out
  subst hu
  have HCL := Lib.hid hcl
  clear H4 H2 p2 p3 hcl HN2 HE2 HC2 HM4 HC4 HV1 HC1
  by_cases c1 : C1 = 0
  · obtain ⟨v1, v2, v3⟩ := BF.out c1
    have VF := Lib.hid v3
    subst c1
    clear v3 BF
    rcases c4 with ⟨e1, e2⟩ | e1
    all_goals rcases c2 with ⟨g1, rfl, g2, g3⟩ | ⟨g1, rfl⟩ | g1
    all_goals
      go_wp2_with (first | (go_at_call 31; first | (refine (A2.out _).mono ?_; rintro e w' ⟨rfl, rfl⟩) | (refine (A3.out _).mono ?_; rintro e w' ⟨rfl, rfl⟩)))
      go_loopw [24] (fun i wr => ∃ k : Nat, k ≤ ps.length ∧ i = .int .i64 (k : Int) ∧ Below w9.heap.size w9 wr) (fun i _ => ps.length - (intOf i).toNat)
      case atStart => exact ⟨0, Nat.zero_le _, rfl, Below.refl _ _⟩
      case round =>
        obtain ⟨k, hk, rfl, hb⟩ := hrel
        have HW := Lib.hid hb
        have hsz := hb.size
        by_cases hlt : k < ps.length
        · obtain ⟨b, off, rfl, hbs, j1, j2⟩ := HCL.out k hlt
          rw [sAt_of hlt] at j1 j2
          have u1 := (hb.cell (p := ⟨b, off + k * 2, none⟩) hbs).trans j1
          have u2 := (hb.cell (p := ⟨b, off + k * 2 + 1, none⟩) hbs).trans j2
          have hk0 : 0 ≤ (k : Int) := by omega
          have hk1 : (k : Int) < (ps.length : Int) := by omega
          have hk2 : (ps.length : Int) ≤ 1048576 := by omega
          obtain ⟨x1, x2, x3⟩ := VF.out k hlt
          obtain ⟨n1, n2, n3, n4⟩ := lossNV_bounds (sAt ps k).1 (sAt ps k).2 V1 wave
          have LK := Lib.hid (fun W => implLossOf_any (sAt ps k).1 (sAt ps k).2 V1 wave W)
          have A4 := Lib.hid (fun W => f6abs_any (lossNV (sAt ps k).1 (sAt ps k).2 V1 wave) W (by omega) (by omega))
          have A5 := Lib.hid (fun W => f6abs_any (lossEV (sAt ps k).1 (sAt ps k).2 V1 wave) W (by omega) (by omega))
          rw [x1] at LK
          clear j1 j2 hb n1 n2 n3 n4 x1
          generalize absI (lossNV (sAt ps k).1 (sAt ps k).2 V1 wave) = m4 at x2 A4
          generalize absI (lossEV (sAt ps k).1 (sAt ps k).2 V1 wave) = m5 at x3 A5
          generalize lossNV (sAt ps k).1 (sAt ps k).2 V1 wave = M1 at LK A4
          generalize lossEV (sAt ps k).1 (sAt ps k).2 V1 wave = M2 at LK A5
          generalize (sAt ps k).1 = y1 at u1 LK
          generalize (sAt ps k).2 = y2 at u2 LK
          have x2' : decide (most < m4) = false := by simp; omega
          have x3' : decide (most < m5) = false := by simp; omega
          go_wp2_with fail
          refine (LK.out _).mono ?_
          rintro e wn ⟨rfl, hbn⟩
          have HWN := Lib.hid (HW.out.trans (hbn.mono hsz))
          clear hbn
          go_wp2_with (first | (go_at_call 31; first | (refine (A4.out _).mono ?_; rintro e w' ⟨rfl, rfl⟩) | (refine (A5.out _).mono ?_; rintro e w' ⟨rfl, rfl⟩)))
          go_roundw
          case rel => exact ⟨k + 1, by omega, by go_num, HWN.out⟩
          case measure => simp [intOf]; omega
        · obtain rfl : k = ps.length := by omega
          have v1' : decide (1 ≤ V1) = true := by simpa using v1
          have v2' : decide (V1 ≤ 1000) = true := by simpa using v2
          clear hb
          go_wp2
          go_ret
          exact ⟨by simp, HB9.out.trans (HW.out.mono HB9.out.size)⟩
  · have c1' : (C1 == 0) = false := by simpa using c1
    have c1'' : (C1 != 0) = true := by simp [c1]
    clear BF
    rcases c4 with ⟨e1, e2⟩ | e1
    all_goals rcases c2 with ⟨g1, rfl, g2, g3⟩ | ⟨g1, rfl⟩ | g1
    all_goals
      go_wp2_with (first | (go_at_call 31; first | (refine (A2.out _).mono ?_; rintro e w' ⟨rfl, rfl⟩) | (refine (A3.out _).mono ?_; rintro e w' ⟨rfl, rfl⟩)))
      go_ret
      exact ⟨rfl, HB9.out⟩

set_option maxRecDepth 100000 in
theorem lifted (os : Os) (started : os.Started) (H : Type) (enc : TypeId × Value → H) :
    ReturnsInHanded {} Try.checked os 4 .any (Rows.fnScalesSpec.pre6 enc Try.prog Try.f4 Rows.fnScalesRow.domain false) (Rows.fnScalesSpec.post enc Try.prog Try.f4 false true false false) := by
  refine returnsInHanded_of_change (C := Try.checked) own started (by kernel_rfl) Try.func4
    (ChangeSpec.witness6 (enc := enc) (C := Try.checked) false ⟨#[], #[.slice none 0 0], []⟩ 8 (by kernel_rfl) (by kernel_rfl) (by kernel_rfl) (by kernel_rfl)) ?_
  intro W base args ds gs before hval0 hW hcnd _
  have hval : ∀ (j : Nat) t v, Try.f4.params[j]? = some t → args[j]? = some v → Value.okWide Try.prog W .any base t v := hval0
  have hW' := hW
  obtain ⟨p, q, hA0, hV, hpq, hfz, hnd⟩ := hW
  have hA : DataW.TrodAll enc Try.prog W 0 (fun _ => true) true Try.f4.params.toList args.toList ds p := hA0
  rw [Try.params4] at hA hval
  obtain ⟨v0, vs0, d0, ds0, p0, q0, hargs, rfl, rfl, h0, r0⟩ := trodAll_cons hA
  obtain ⟨rfl, rfl, rfl⟩ := trodAll_nil r0
  obtain rfl : args = #[v0] := by cases args; simp_all
  obtain ⟨a0, len0, cap0, rfl⟩ := okWide_slice Try.underlying22 (hval 0 22 v0 rfl rfl)
  obtain ⟨z0, w0⟩ : ∃ zs, IsRow .u8 W a0 len0 cap0 zs := by
    obtain ⟨fuel, hf⟩ := h0
    rcases open_ints Try.underlying22 Try.underlying5 (by kernel_rfl) hf with ⟨hcs, _⟩ | ⟨x, l, c, zs, hcs, _, hl, hm, hz, _, hcell, hwz⟩
    · simp [Value.cells] at hcs
      obtain ⟨rfl, rfl, rfl⟩ := hcs
      exact ⟨[], .inl ⟨rfl, rfl, rfl, rfl⟩⟩
    · simp [Value.cells] at hcs
      obtain ⟨rfl, rfl, rfl⟩ := hcs
      exact ⟨zs, .inr ⟨_, rfl, hl, hm, by simpa using hz, hcell, hwz⟩⟩
  refine (walk a0 len0 cap0 z0 W w0).mono fun e W' ⟨he, bel⟩ => ?_
  subst he
  exact ⟨_, rfl, post_of_law laidOut (by kernel_rfl) Try.underlying4 rfl rfl (fun ds h => by match ds, h with | [_], _ => rfl) hW' bel⟩

theorem holds : Rows.FnScalesSaid :=
  OpenClaim.holds_of_wide 4 Try.f4 rfl rfl rfl rfl rfl rfl rfl ⟨rfl, rfl, rfl, rfl, rfl⟩ rfl rfl rfl rfl rfl (by kernel_rfl) Try.func4 (by kernel_rfl)
    (of_decide_eq_true (by kernel_rfl)) (by unfold Func.isWrapper; first | (rw [if_pos (by decide +kernel)]; kernel_rfl) | (rw [if_neg (by decide +kernel)]; exact ⟨rfl, rfl⟩))
    (fun os started H enc _ => lifted os started H enc)
#print axioms holds

end Go.Proofs.Ytemhmejjmhbfdaa.scales
