/- FnChainSides answers true for every list of bytes. -/
import Derived.Test.YtomnijoccnifpaaChainS6
import Derived.Test.YtomnijoccnifpaaChainI
import Derived.Test.YtomnijoccnifpaaPLDraw
namespace Go.Proofs.Ytomnijoccnifpaa.chainSides
open Go.ChangeShapes Go.WideShapes Go.ChangeAt Go.RowKit Go.Proofs.Ytomnijoccnifpaa.spots Go.Proofs.Ytomnijoccnifpaa.sines Go.Proofs.Ytomnijoccnifpaa.src Go.Proofs.Ytomnijoccnifpaa.srcP Go.Proofs.Ytomnijoccnifpaa.a2 Go.Proofs.Ytomnijoccnifpaa.irows Go.Proofs.Ytomnijoccnifpaa.pairsPlace
set_option linter.unusedSimpArgs false
set_option linter.unusedVariables false

theorem okC_rev {ps : List Pl} (h : okC ps = true) : okC ps.reverse = true := by
  unfold okC at h ⊢
  rw [List.all_reverse, List.length_reverse]
  exact h
theorem chain_sides {ps : List Pl} (hok : okC ps = true) : lowV ps.reverse = lowV ps ∧ highV ps.reverse = highV ps ∧ leftV ps.reverse = rightV ps ∧ rightV ps.reverse = leftV ps ∧ code1 ps = 0 ∧ code1 ps.reverse = 0 ∧ revV ps = ps.reverse := by
  have h2 := okC_rev hok
  obtain ⟨q1, q2, q3⟩ := okC_of hok
  have e1 := low_reverse (ps := ps) (ps.length - 1) (by omega)
  have e2 := high_reverse (ps := ps) (ps.length - 1) (by omega)
  rw [show ps.length - 1 - (ps.length - 1) = 0 by omega] at e1 e2
  obtain ⟨e3, e4⟩ := sides_reverse (ps := ps) q1
  refine ⟨?_, ?_, ?_, ?_, by simp [code1, hok], by simp [code1, h2], by simp [revV, hok]⟩
  · simp only [lowV, hok, h2, if_true, List.length_reverse]; simpa [lowN] using e1
  · simp only [highV, hok, h2, if_true, List.length_reverse]; simpa [highN] using e2
  · simp only [leftV, rightV, hok, h2, if_true]; rw [e3]
  · simp only [leftV, rightV, hok, h2, if_true]; rw [e4]
theorem chain_bounds {ps : List Pl} (hok : okC ps = true) : lowV ps ≤ highV ps ∧ highV ps - lowV ps < (ps.length : Int) ∧ 0 ≤ lowV ps ∧ lowV ps ≤ 100000 ∧ 0 ≤ leftV ps ∧ 0 ≤ rightV ps ∧ leftV ps + rightV ps ≤ (ps.length : Int) - 2 ∧ alongN ps (ps.length - 1) ≤ highV ps := by
  obtain ⟨q1, q2, q3⟩ := okC_of hok
  obtain ⟨s1, s2, s3, s4, s5, _, _⟩ := sums_facts hok (ps.length - 1) (by omega)
  have s6 := sides_few (ps := ps) q1
  simp only [lowV, highV, leftV, rightV, hok, if_true]
  refine ⟨s3, by omega, s1, by omega, by omega, by omega, by omega, s5⟩
set_option maxRecDepth 100000 in
set_option maxHeartbeats 8000000 in
theorem walk (a0 : Option Addr) (l0 c0 : Nat) (z0 : List Int) (w : World) (r0 : IsRow .u8 w a0 l0 c0 z0) :
    Calls Try.prog 3 #[.slice a0 l0 c0] w fun e w' => e = .returned (.bool true) ∧ Below w.heap.size w w' := by
  have hl0 := row_len r0
  by_cases hlong : 3000 < l0
  · have hd : decide (3000 < l0 ∨ 3000 < 0) = true := decide_eq_true (.inl hlong)
    clear r0 hlong
    go_enter Try.func3, Try.ntmps3
    go_wp2_with fail
    refine (a2Long_any _ _ _ _ _ _ _ hl0 (by decide)).mono ?_
    rw [hd]
    rintro e w' ⟨rfl, rfl⟩
    go_wp2
    go_ret
    exact ⟨rfl, Below.refl _ _⟩
  have hd : decide (3000 < l0 ∨ 3000 < 0) = false := decide_eq_false (by omega)
  have B0 := Lib.hid (bytes_of r0 (by omega) (fun b o v h => World.block_lt_of_cell? _ _ h))
  have HB := Lib.hid (Below.refl w.heap.size w)
  clear r0
  go_enter Try.func3, Try.ntmps3
  go_wp2_with fail
  refine (a2Long_any _ _ _ _ _ _ _ hl0 (by decide)).mono ?_
  rw [hd]
  rintro e w' ⟨rfl, rfl⟩
  clear hlong hd hl0
  go_wp2_with fail
  refine (A2Chain_any w a0 l0 c0 B0.out).mono ?_
  rintro e w1 ⟨u1, ps, rfl, hok, hl, hr, hb⟩
  have HB1 := Lib.hid hb
  have R1 := Lib.hid hr
  have hm : ps.length ≤ 1048576 := by omega
  obtain ⟨q1, q2, q3⟩ := okC_of hok
  obtain ⟨e1, e2, e3, e4, e5, e6, e7⟩ := chain_sides hok
  obtain ⟨b1, b2, b3, b4, b5, b6, b7, b8⟩ := chain_bounds hok
  have AL := Lib.hid (fun k (hk : k < ps.length) => sums_facts hok k hk)
  have HO := Lib.hid (fun k (hk : k < ps.length) => okP_of (q3 k hk))
  clear hb hr hok q3
  go_wp2_with fail
  refine (specReverseChain_any u1 ps w1 (prow_at R1.out) hm).mono ?_
  rw [e5, e7]
  rintro e w2 ⟨u2, rfl, hr, hb⟩
  have HB2 := Lib.hid (HB1.out.trans (hb.mono HB1.out.size))
  have R1b := Lib.hid (prow_keep R1.out hb)
  have R2 := Lib.hid hr
  clear hb hr
  go_wp2_with fail
  refine (implLengthBounds_any u1 ps w2 (prow_at R1b.out) hm).mono ?_
  rw [e5]
  rintro e w3 ⟨rfl, hb⟩
  have HB3 := Lib.hid (HB2.out.trans (hb.mono HB2.out.size))
  have R1c := Lib.hid (prow_keep R1b.out hb)
  have R2c := Lib.hid (prow_keep R2.out hb)
  clear hb
  go_wp2_with fail
  refine (implLengthBounds_any u2 ps.reverse w3 (prow_at R2c.out) (by simpa using hm)).mono ?_
  rw [e1, e2, e6]
  rintro e w4 ⟨rfl, hb⟩
  have HB4 := Lib.hid (HB3.out.trans (hb.mono HB3.out.size))
  have R1d := Lib.hid (prow_keep R1c.out hb)
  have R2d := Lib.hid (prow_keep R2c.out hb)
  clear hb
  go_wp2_with fail
  refine (implTurnsAside_any u1 ps w4 (prow_at R1d.out) hm).mono ?_
  rw [e5]
  rintro e w5 ⟨rfl, hb⟩
  have HB5 := Lib.hid (HB4.out.trans (hb.mono HB4.out.size))
  have R1e := Lib.hid (prow_keep R1d.out hb)
  have R2e := Lib.hid (prow_keep R2d.out hb)
  clear hb
  have hsl := (show ∃ a c, u1 = Value.slice a ps.length c by obtain ⟨a, c, e, _⟩ := prow_at R1e.out; exact ⟨a, c, e⟩)
  obtain ⟨sa, sc, rfl⟩ := hsl
  generalize lowV ps = lo at *
  generalize highV ps = hi at *
  generalize leftV ps = xl at *
  generalize rightV ps = xr at *
  have HB8 := Lib.hid b8
  clear b8
  have j1 : decide (hi < lo) = false := decide_eq_false (by omega)
  have j2 : IntKind.i64.wrap (hi - lo) = hi - lo := IntWalk.i64_in _ (by omega)
  have j3 : decide ((ps.length : Int) ≤ hi - lo) = false := decide_eq_false (by omega)
  have j4 : decide (xl < 0) = false := decide_eq_false (by omega)
  have j5 : decide (xr < 0) = false := decide_eq_false (by omega)
  have j6 : IntKind.i64.wrap (xl + xr) = xl + xr := IntWalk.i64_in _ (by omega)
  have j7 : IntKind.i64.wrap ((ps.length : Int) - 2) = (ps.length : Int) - 2 := IntWalk.i64_in _ (by omega)
  have j8 : decide ((ps.length : Int) - 2 < xl + xr) = false := decide_eq_false (by omega)
  clear b1 b2 b5 b6 b7
  go_wp2_with fail
  refine (implTurnsAside_any u2 ps.reverse w5 (prow_at R2e.out) (by simpa using hm)).mono ?_
  rw [e3, e4, e6]
  rintro e w6 ⟨rfl, hb⟩
  have HB6 := Lib.hid (HB5.out.trans (hb.mono HB5.out.size))
  have R6 := Lib.hid (prow_at (prow_keep R1e.out hb))
  clear hb
  go_wp2_with fail
  go_loopw [18, 19] (fun dx i wr => ∃ k : Nat, k + 1 ≤ ps.length ∧ i = .int .i64 ((k : Int) + 1) ∧ dx = .int .i64 (alongN ps k) ∧ Below w6.heap.size w6 wr) (fun _ i _ => ps.length - (intOf i).toNat)
  case atStart => exact ⟨0, by omega, rfl, rfl, Below.refl _ _⟩
  case round =>
    obtain ⟨k, hk, rfl, rfl, hb⟩ := hrel
    have RB := Lib.hid hb
    by_cases hlt : k + 1 < ps.length
    · obtain ⟨n, hn⟩ : ∃ n : Nat, Hid (k + 1 = n) := ⟨_, Lib.hid rfl⟩
      obtain ⟨sa', sc', es, hcl⟩ := pat_keep R6.out hb
      obtain ⟨b, off, e1', hbs, c1, c2⟩ := hcl k (by omega)
      obtain ⟨b', off', e2', hbs', d1, d2⟩ := hcl n (by have := hn.out; omega)
      simp only [Value.slice.injEq] at es
      obtain ⟨rfl, _, rfl⟩ := es
      subst e1'
      simp only [Option.some.injEq, Addr.mk.injEq, and_true] at e2'
      obtain ⟨rfl, rfl⟩ := e2'
      rw [pat_of (by omega)] at c1
      rw [pat_of (by have := hn.out; omega)] at d1
      clear c2 d2 hcl
      have jn : (k : Int) + 1 = (n : Int) := by have := hn.out; omega
      have jw : (n : Int) - 1 = (k : Int) := by omega
      have jw2 : IntKind.i64.wrap ((k : Int)) = (k : Int) := IntWalk.i64_in _ (by omega)
      have hk0 : 0 ≤ (k : Int) := by omega
      have hk1 : (k : Int) < (ps.length : Int) := by omega
      have hn0 : 0 ≤ (n : Int) := by omega
      have hn1 : (n : Int) < (ps.length : Int) := by omega
      have nw : IntKind.i64.wrap ((n : Int) + 1) = (n : Int) + 1 := IntWalk.i64_in _ (by omega)
      have AS := Lib.hid (show alongN ps n = alongN ps k + max ((pAt ps n).1 - (pAt ps k).1) ((pAt ps k).1 - (pAt ps n).1) by rw [← hn.out, alongN])
      obtain ⟨_, _, _, _, _, a1, a2⟩ := AL.out k (by omega)
      obtain ⟨x1, x2, _, _⟩ := HO.out k (by omega)
      obtain ⟨y1, y2, _, _⟩ := HO.out n (by have := hn.out; omega)
      generalize (pAt ps k).1 = x at c1 x1 x2 AS
      generalize (pAt ps n).1 = y at d1 y1 y2 AS
      generalize alongN ps k = g at a1 a2 AS
      have m1 : IntKind.i64.wrap (y - x) = y - x := IntWalk.i64_in _ (by omega)
      have m2 : IntKind.i64.wrap (x - y) = x - y := IntWalk.i64_in _ (by omega)
      rw [jn]
      have NJ := Lib.hid jn
      clear jn hb
      rcases Int.lt_trichotomy (y - x) (x - y) with h | h | h
      · have HX := Lib.hid (show alongN ps n = g + (x - y) by rw [AS.out, Int.max_eq_right (by omega)])
        have m3 : IntKind.i64.wrap (g + (x - y)) = g + (x - y) := IntWalk.i64_in _ (by omega)
        have m4 : max (y - x) (x - y) = x - y := Int.max_eq_right (by omega)
        clear x1 x2 y1 y2 a1 a2
        go_wp2_with fail
        go_region
        go_wp2
        go_roundw
        case rel => exact ⟨n, by omega, by go_num, by rw [HX.out], (by first | exact RB.out | exact bdP RB.out _ | exact RB.out.drew)⟩
        case measure => simp [intOf]; omega
      · obtain rfl : y = x := by omega
        have HX := Lib.hid (show alongN ps n = g + (y - y) by rw [AS.out, Int.max_self])
        have m3 : IntKind.i64.wrap g = g := IntWalk.i64_in _ (by omega)
        have m4 : IntKind.i64.wrap (0 : Int) = 0 := by decide
        clear x1 x2 y1 y2 a1 a2
        go_wp2_with fail
        go_region
        go_wp2
        go_roundw
        case rel => exact ⟨n, by omega, by go_num, by rw [HX.out]; go_num, (by first | exact RB.out | exact bdP RB.out _ | exact RB.out.drew)⟩
        case measure => simp [intOf]; omega
      · have HX := Lib.hid (show alongN ps n = g + (y - x) by rw [AS.out, Int.max_eq_left (by omega)])
        have m3 : IntKind.i64.wrap (g + (y - x)) = g + (y - x) := IntWalk.i64_in _ (by omega)
        have m4 : max (y - x) (x - y) = y - x := Int.max_eq_left (by omega)
        clear x1 x2 y1 y2 a1 a2
        go_wp2_with fail
        go_region
        go_wp2
        go_roundw
        case rel => exact ⟨n, by omega, by go_num, by rw [HX.out], (by first | exact RB.out | exact bdP RB.out _ | exact RB.out.drew)⟩
        case measure => simp [intOf]; omega
    · have hge : ¬ ((k : Int) + 1 < (ps.length : Int)) := by omega
      have ek : k = ps.length - 1 := by omega
      have hfin : alongN ps k ≤ hi := by rw [ek]; exact HB8.out
      clear ek hb
      generalize alongN ps k = g at hfin ⊢
      have kd : decide (g ≤ hi) = true := decide_eq_true hfin
      go_wp2
      go_ret
      exact ⟨rfl, HB6.out.trans (RB.out.mono HB6.out.size)⟩

set_option maxRecDepth 100000 in
theorem lifted (os : Os) (started : os.Started) (H : Type) (enc : TypeId × Value → H) :
    ReturnsInHanded {} Try.checked os 3 .any (Rows.fnChainSidesSpec.pre6 enc Try.prog Try.f3 Rows.fnChainSidesRow.domain false) (Rows.fnChainSidesSpec.post enc Try.prog Try.f3 false true false false) := by
  refine returnsInHanded_of_change (C := Try.checked) own started (by kernel_rfl) Try.func3
    (ChangeSpec.witness6 (enc := enc) (C := Try.checked) false ⟨#[], #[.slice none 0 0], []⟩ 8 (by kernel_rfl) (by kernel_rfl) (by kernel_rfl) (by kernel_rfl)) ?_
  intro W base args ds gs before hval0 hW hcnd _
  have hval : ∀ (j : Nat) t v, Try.f3.params[j]? = some t → args[j]? = some v → Value.okWide Try.prog W .any base t v := hval0
  have hW' := hW
  obtain ⟨p, q, hA0, hV, hpq, hfz, hnd⟩ := hW
  have hA : DataW.TrodAll enc Try.prog W 0 (fun _ => true) true Try.f3.params.toList args.toList ds p := hA0
  rw [Try.params3] at hA hval
  obtain ⟨v0, vs0, d0, ds0, p0, q0, hargs, rfl, rfl, h0, r0⟩ := trodAll_cons hA
  obtain ⟨rfl, rfl, rfl⟩ := trodAll_nil r0
  obtain rfl : args = #[v0] := by cases args; simp_all
  obtain ⟨a0, len0, cap0, rfl⟩ := okWide_slice Try.underlying22 (hval 0 22 v0 rfl rfl)
  obtain ⟨z0, w0⟩ : ∃ zs, IsRow .u8 W a0 len0 cap0 zs := by
    obtain ⟨fuel, hf⟩ := h0
    rcases open_ints Try.underlying22 Try.underlying5 (by kernel_rfl) hf with ⟨hcs, _⟩ | ⟨x, l, c, zs, hcs, _, hl, hm, hz, _, hcell, hwz⟩
    · simp [Value.cells] at hcs
      obtain ⟨rfl, rfl, rfl⟩ := hcs
      exact ⟨[], .inl ⟨rfl, rfl, rfl, rfl⟩⟩
    · simp [Value.cells] at hcs
      obtain ⟨rfl, rfl, rfl⟩ := hcs
      exact ⟨zs, .inr ⟨_, rfl, hl, hm, by simpa using hz, hcell, hwz⟩⟩
  refine (walk a0 len0 cap0 z0 W w0).mono fun e W' ⟨he, bel⟩ => ?_
  subst he
  exact ⟨_, rfl, post_of_law laidOut (by kernel_rfl) Try.underlying4 rfl rfl (fun ds h => by match ds, h with | [_], _ => rfl) hW' bel⟩

theorem holds : Rows.FnChainSidesSaid :=
  OpenClaim.holds_of_wide 3 Try.f3 rfl rfl rfl rfl rfl rfl rfl ⟨rfl, rfl, rfl, rfl, rfl⟩ rfl rfl rfl rfl rfl (by kernel_rfl) Try.func3 (by kernel_rfl)
    (of_decide_eq_true (by kernel_rfl)) (by unfold Func.isWrapper; first | (rw [if_pos (by decide +kernel)]; kernel_rfl) | (rw [if_neg (by decide +kernel)]; exact ⟨rfl, rfl⟩))
    (fun os started H enc _ => lifted os started H enc)
#print axioms holds

end Go.Proofs.Ytomnijoccnifpaa.chainSides
