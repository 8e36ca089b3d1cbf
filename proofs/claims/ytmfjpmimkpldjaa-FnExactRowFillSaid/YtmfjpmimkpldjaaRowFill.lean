/- FnExactRowFill answers true for all arguments. -/
import Derived.Test.YtmfjpmimkpldjaaLabI9
import Derived.Test.YtmfjpmimkpldjaaLabS5
import Derived.Test.YtmfjpmimkpldjaaLTab2
namespace Go.Proofs.Ytmfjpmimkpldjaa.rowFill
open Go.ChangeShapes Go.WideShapes Go.ChangeAt Go.RowKit Go.Proofs.Ytmfjpmimkpldjaa.sines Go.Proofs.Ytmfjpmimkpldjaa.irows Go.Proofs.Ytmfjpmimkpldjaa.ltab
set_option linter.unusedSimpArgs false
set_option linter.unusedVariables false

set_option maxRecDepth 100000 in
set_option maxHeartbeats 4000000 in
theorem walk (vps : Value) (ps : List Lb) (vzs : Value) (zs : List Int) (row : Int) (w : World) (hvps : LAt w w.heap.size vps ps) (hmps : ps.length ≤ maxLen) (hrps : ∀ i, (hi : i < ps.length) → ps[i].2.2.1.length ≤ maxLen) (hvzs : IAt w w.heap.size vzs zs) (hmzs : zs.length ≤ maxLen) (_ : (Lit.int .i64 row).wf = true) :
    Calls Try.prog 15 #[vps, vzs, .int .i64 row] w fun e w' => e = .returned (.bool true) ∧ Below w.heap.size w w' := by
  have HVps := Lib.hid hvps
  clear hvps
  have HVzs := Lib.hid hvzs
  clear hvzs
  obtain ⟨lazs, lczs, lvzs⟩ : ∃ a c, vzs = .slice a zs.length c := by obtain ⟨a, c, e, _⟩ := HVzs.out; exact ⟨a, c, e⟩
  subst lvzs
  unfold maxLen at hmzs
  by_cases hbig : (1048576 : Int) < (zs.length : Int)
  · have hbig2 : (zs.length : Int) ≤ 9223372036854775807 := by omega
    go_enter Try.func15, Try.ntmps15
    go_wp2
    go_ret
    exact ⟨rfl, Below.refl _ _⟩
  have hlzs : zs.length ≤ 1048576 := by omega
  have hbzs : decide ((1048576 : Int) < (zs.length : Int)) = false := by simpa using hbig
  clear hbig
  have hLzs : (zs.length : Int) ≤ 1048576 := by omega
  have SZps := Lib.hid (szL_any vps ps w HVps.out hmps hrps)
  obtain ⟨laps, lcps, lvps⟩ : ∃ a c, vps = .slice a ps.length c := by obtain ⟨a, c, e, _⟩ := HVps.out; exact ⟨a, c, e⟩
  subst lvps
  clear hrps hmps
  cases hfps : fitL ps with
  | false =>
    rw [hfps] at SZps
    go_enter Try.func15, Try.ntmps15
    go_wp2_with fail
    refine SZps.out.mono ?_
    rintro e w' ⟨rfl, hb⟩
    go_wp2
    go_ret
    exact ⟨rfl, hb⟩
  | true =>
    obtain ⟨hlps, hrps⟩ := fitL_of hfps
    have hf2 := hfps
    simp only [fitL, decide_eq_true_eq] at hf2
    rw [hfps, if_pos rfl] at SZps
    obtain ⟨Sps, hSps⟩ : ∃ L : Int, Hid (1048576 - (ps.length : Int) - (totL ps ps.length : Int) = L) := ⟨_, Lib.hid rfl⟩
    have hS0ps : decide (Sps < 0) = false := by have := hSps.out; simp; omega
    rw [hSps.out] at SZps
    have hLLps : (ps.length : Int) ≤ 1048576 := by omega
    have HTps := Lib.hid (show totL ps ps.length ≤ 1048576 by omega)
    have HLps := Lib.hid hlps
    have HRps := Lib.hid hrps
    clear hfps hf2 hlps hrps
    obtain ⟨c0, HC0⟩ : ∃ c, Hid (valRF ps zs row = c) := ⟨_, Lib.hid rfl⟩
    obtain ⟨c1, HC1⟩ : ∃ c, Hid (codeRF ps zs row = c) := ⟨_, Lib.hid rfl⟩
    have B0 := Lib.hid (Below.refl w.heap.size w)
    go_enter Try.func15, Try.ntmps15
    go_wp2_with fail
    refine (SZps.out).mono ?_
    rintro e w1 ⟨rfl, hb⟩
    have B1 := Lib.hid (B0.out.trans (hb.mono B0.out.size))
    clear hb
    go_wp2_with fail
    refine (toLS_any _ ps w1 (lat_up (lat_keep HVps.out B1.out) B1.out.size) HLps.out HRps.out).mono ?_
    rintro e w2 ⟨g2, cs3, rfl, hr, hb⟩
    have B4 := Lib.hid (B1.out.trans (hb.mono B1.out.size))
    have F5 := Lib.hid (lv_at hr)
    clear hb hr
    go_wp2_with fail
    refine (toI_any _ zs w2 (iat_up (iat_keep HVzs.out B4.out) B4.out.size) hlzs).mono ?_
    rintro e w3 ⟨u6, rfl, hr, hb⟩
    have B7 := Lib.hid (B4.out.trans (hb.mono B4.out.size))
    have F8 := Lib.hid (lat_up (lat_keep F5.out hb) hb.size)
    have F9 := Lib.hid (iatL_of_row hr)
    clear hb hr
    go_wp2_with fail
    refine (specRowFill_any _ _ ps zs row w3 F8.out F9.out HLps.out HRps.out hlzs ).mono ?_
    rw [HC0.out]
    rw [HC1.out]
    rintro e w4 ⟨rfl, hb⟩
    have B10 := Lib.hid (B7.out.trans (hb.mono B7.out.size))
    have F11 := Lib.hid (lat_up (lat_keep F8.out hb) hb.size)
    have F12 := Lib.hid (iat_up (iat_keep F9.out hb) hb.size)
    clear hb
    go_wp2_with fail
    refine (toLS_any _ ps w4 (lat_up (lat_keep HVps.out B10.out) B10.out.size) HLps.out HRps.out).mono ?_
    rintro e w5 ⟨g13, cs14, rfl, hr, hb⟩
    have B15 := Lib.hid (B10.out.trans (hb.mono B10.out.size))
    have F16 := Lib.hid (lv_at hr)
    clear hb hr
    go_wp2_with fail
    refine (toI_any _ zs w5 (iat_up (iat_keep HVzs.out B15.out) B15.out.size) hlzs).mono ?_
    rintro e w6 ⟨u17, rfl, hr, hb⟩
    have B18 := Lib.hid (B15.out.trans (hb.mono B15.out.size))
    have F19 := Lib.hid (lat_up (lat_keep F16.out hb) hb.size)
    have F20 := Lib.hid (iatL_of_row hr)
    clear hb hr
    go_wp2_with fail
    refine (implRowFill_any _ _ ps zs row w6 F19.out F20.out HLps.out HRps.out hlzs ).mono ?_
    rw [HC0.out]
    rw [HC1.out]
    rintro e w7 ⟨rfl, hb⟩
    have B21 := Lib.hid (B18.out.trans (hb.mono B18.out.size))
    have F22 := Lib.hid (lat_up (lat_keep F19.out hb) hb.size)
    have F23 := Lib.hid (iat_up (iat_keep F20.out hb) hb.size)
    clear hb
    go_wp2_with fail
    refine (toLS_any _ ps w7 (lat_up (lat_keep HVps.out B21.out) B21.out.size) HLps.out HRps.out).mono ?_
    rintro e w8 ⟨g24, cs25, rfl, hr, hb⟩
    have B26 := Lib.hid (B21.out.trans (hb.mono B21.out.size))
    have F27 := Lib.hid (lat_up (lat_keep F22.out hb) hb.size)
    have F28 := Lib.hid (iat_up (iat_keep F23.out hb) hb.size)
    have F29 := Lib.hid (lv_at hr)
    clear hb hr
    go_wp2_with fail
    refine (eqLS_same _ _ ps w8 F27.out F29.out HLps.out HRps.out).mono ?_
    rintro e w9 ⟨rfl, hb⟩
    have B30 := Lib.hid (B26.out.trans (hb.mono B26.out.size))
    have F31 := Lib.hid (lat_up (lat_keep F27.out hb) hb.size)
    have F32 := Lib.hid (iat_up (iat_keep F28.out hb) hb.size)
    clear hb
    go_wp2_with fail
    refine (toI_any _ zs w9 (iat_up (iat_keep HVzs.out B30.out) B30.out.size) hlzs).mono ?_
    rintro e w10 ⟨u33, rfl, hr, hb⟩
    have B34 := Lib.hid (B30.out.trans (hb.mono B30.out.size))
    have F35 := Lib.hid (lat_up (lat_keep F31.out hb) hb.size)
    have F36 := Lib.hid (iat_up (iat_keep F32.out hb) hb.size)
    have F37 := Lib.hid (iatL_of_row hr)
    clear hb hr
    go_wp2_with fail
    refine (eqIat_same _ _ zs w10 F36.out F37.out hlzs).mono ?_
    rintro e w11 ⟨rfl, q, hw⟩
    have hb : Below w10.heap.size w10 w11 := by rw [hw]; exact below_drawn _ q
    clear hw
    have B38 := Lib.hid (B34.out.trans (hb.mono B34.out.size))
    have F39 := Lib.hid (lat_up (lat_keep F35.out hb) hb.size)
    have F40 := Lib.hid (iat_up (iat_keep F36.out hb) hb.size)
    clear hb
    go_wp2
    go_ret
    exact ⟨rfl, B38.out⟩

set_option maxRecDepth 100000 in
theorem lifted (os : Os) (started : os.Started) (H : Type) (enc : TypeId × Value → H) :
    ReturnsInHanded {} Try.checked os 15 .any (Rows.fnExactRowFillSpec.pre6 enc Try.prog Try.f15 Rows.fnExactRowFillRow.domain false) (Rows.fnExactRowFillSpec.post enc Try.prog Try.f15 false true false false) := by
  refine returnsInHanded_of_change (C := Try.checked) own started (by kernel_rfl) Try.func15
    (ChangeSpec.witness6 (enc := enc) (C := Try.checked) false ⟨#[], #[.slice none 0 0, .slice none 0 0, .int .i64 0], []⟩ 8 (by kernel_rfl) (by kernel_rfl) (by kernel_rfl) (by kernel_rfl)) ?_
  intro W base args ds gs before hval0 hW hcnd _
  have hval : ∀ (j : Nat) t v, Try.f15.params[j]? = some t → args[j]? = some v → Value.okWide Try.prog W .any base t v := hval0
  have hW' := hW
  obtain ⟨p, q, hA0, hV, hpq, hfz, hnd⟩ := hW
  have hA : DataW.TrodAll enc Try.prog W 0 (fun _ => true) true Try.f15.params.toList args.toList ds p := hA0
  rw [Try.params15] at hA hval
  obtain ⟨v0, vs0, d0, ds0, p0, q0, hargs, rfl, rfl, h0, r0⟩ := trodAll_cons hA
  obtain ⟨v1, vs1, d1, ds1, p1, q1, rfl, rfl, rfl, h1, r1⟩ := trodAll_cons r0
  obtain ⟨v2, vs2, d2, ds2, p2, q2, rfl, rfl, rfl, h2, r2⟩ := trodAll_cons r1
  obtain ⟨rfl, rfl, rfl⟩ := trodAll_nil r2
  obtain rfl : args = #[v0, v1, v2] := by cases args; simp_all
  obtain ⟨a0, len0, cap0, rfl⟩ := okWide_slice Try.underlying60 (hval 0 60 v0 rfl rfl)
  obtain ⟨fuel0, hf0⟩ := h0
  obtain ⟨ps0, hp0, hl0, hr0⟩ := Go.Proofs.Ytmfjpmimkpldjaa.ltab.open_llist hf0 ⟨_, _, _, rfl⟩
  obtain ⟨a1, len1, cap1, rfl⟩ := okWide_slice Try.underlying26 (hval 1 26 v1 rfl rfl)
  obtain ⟨fuel1, hf1⟩ := h1
  obtain ⟨zs1, hp1, hl1⟩ := Go.Proofs.Ytmfjpmimkpldjaa.sines.open_ilist hf1 ⟨_, _, _, rfl⟩
  obtain ⟨a2, rfl, _, _, w2⟩ := open_int Try.underlying2 (hval 2 2 v2 rfl rfl) h2
  refine (walk (.slice a0 len0 cap0) ps0 (.slice a1 len1 cap1) zs1 a2 W hp0 hl0 hr0 hp1 hl1 w2).mono fun e W' ⟨he, bel⟩ => ?_
  subst he
  exact ⟨_, rfl, post_of_law laidOut (by kernel_rfl) Try.underlying4 rfl rfl (fun ds h => by match ds, h with | [_, _, _], _ => rfl) hW' bel⟩

theorem holds : Rows.FnExactRowFillSaid :=
  OpenClaim.holds_of_wide 15 Try.f15 rfl rfl rfl rfl rfl rfl rfl ⟨rfl, rfl, rfl, rfl, rfl⟩ rfl rfl rfl rfl rfl (by kernel_rfl) Try.func15 (by kernel_rfl)
    (of_decide_eq_true (by kernel_rfl)) (by unfold Func.isWrapper; first | (rw [if_pos (by decide +kernel)]; kernel_rfl) | (rw [if_neg (by decide +kernel)]; exact ⟨rfl, rfl⟩))
    (fun os started H enc _ => lifted os started H enc)
#print axioms holds

end Go.Proofs.Ytmfjpmimkpldjaa.rowFill
