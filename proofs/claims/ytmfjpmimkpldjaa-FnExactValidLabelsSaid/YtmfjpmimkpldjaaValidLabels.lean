/- FnExactValidLabels answers true for all arguments. -/
import Derived.Test.YtmfjpmimkpldjaaLabI1
import Derived.Test.YtmfjpmimkpldjaaLTab2
namespace Go.Proofs.Ytmfjpmimkpldjaa.validLabels
open Go.ChangeShapes Go.WideShapes Go.ChangeAt Go.RowKit Go.Proofs.Ytmfjpmimkpldjaa.sines Go.Proofs.Ytmfjpmimkpldjaa.irows Go.Proofs.Ytmfjpmimkpldjaa.ltab
set_option linter.unusedSimpArgs false
set_option linter.unusedVariables false

set_option maxRecDepth 100000 in
set_option maxHeartbeats 4000000 in
theorem walk (vps : Value) (ps : List Lb) (w : World) (hvps : LAt w w.heap.size vps ps) (hmps : ps.length ≤ maxLen) (hrps : ∀ i, (hi : i < ps.length) → ps[i].2.2.1.length ≤ maxLen) :
    Calls Try.prog 8 #[vps] w fun e w' => e = .returned (.bool true) ∧ Below w.heap.size w w' := by
  have HVps := Lib.hid hvps
  clear hvps
  have SZps := Lib.hid (szL_any vps ps w HVps.out hmps hrps)
  obtain ⟨laps, lcps, lvps⟩ : ∃ a c, vps = .slice a ps.length c := by obtain ⟨a, c, e, _⟩ := HVps.out; exact ⟨a, c, e⟩
  subst lvps
  clear hrps hmps
  cases hfps : fitL ps with
  | false =>
    rw [hfps] at SZps
    go_enter Try.func8, Try.ntmps8
    go_wp2_with fail
    refine SZps.out.mono ?_
    rintro e w' ⟨rfl, hb⟩
    go_wp2
    go_ret
    exact ⟨rfl, hb⟩
  | true =>
    obtain ⟨hlps, hrps⟩ := fitL_of hfps
    have hf2 := hfps
    simp only [fitL, decide_eq_true_eq] at hf2
    rw [hfps, if_pos rfl] at SZps
    obtain ⟨Sps, hSps⟩ : ∃ L : Int, Hid (1048576 - (ps.length : Int) - (totL ps ps.length : Int) = L) := ⟨_, Lib.hid rfl⟩
    have hS0ps : decide (Sps < 0) = false := by have := hSps.out; simp; omega
    rw [hSps.out] at SZps
    have hLLps : (ps.length : Int) ≤ 1048576 := by omega
    have HLps := Lib.hid hlps
    have HRps := Lib.hid hrps
    clear hfps hf2 hlps hrps
    obtain ⟨c0, HC0⟩ : ∃ c, Hid (okL ps = c) := ⟨_, Lib.hid rfl⟩
    have B0 := Lib.hid (Below.refl w.heap.size w)
    go_enter Try.func8, Try.ntmps8
    go_wp2_with fail
    refine (SZps.out).mono ?_
    rintro e w1 ⟨rfl, hb⟩
    have B1 := Lib.hid (B0.out.trans (hb.mono B0.out.size))
    clear hb
    go_wp2_with fail
    refine (toLS_any _ ps w1 (lat_up (lat_keep HVps.out B1.out) B1.out.size) HLps.out HRps.out).mono ?_
    rintro e w2 ⟨g2, cs3, rfl, hr, hb⟩
    have B4 := Lib.hid (B1.out.trans (hb.mono B1.out.size))
    have F5 := Lib.hid (lv_at hr)
    clear hb hr
    go_wp2_with fail
    refine (specValidLabels_b _ ps w2 F5.out HLps.out HRps.out).mono ?_
    rw [HC0.out]
    rintro e w3 ⟨rfl, hb⟩
    have B6 := Lib.hid (B4.out.trans (hb.mono B4.out.size))
    have F7 := Lib.hid (lat_up (lat_keep F5.out hb) hb.size)
    clear hb
    go_wp2_with fail
    refine (toLS_any _ ps w3 (lat_up (lat_keep HVps.out B6.out) B6.out.size) HLps.out HRps.out).mono ?_
    rintro e w4 ⟨g8, cs9, rfl, hr, hb⟩
    have B10 := Lib.hid (B6.out.trans (hb.mono B6.out.size))
    have F11 := Lib.hid (lv_at hr)
    clear hb hr
    go_wp2_with fail
    refine (implValidLabels_any _ ps w4 F11.out HLps.out HRps.out).mono ?_
    rw [HC0.out]
    rintro e w5 ⟨rfl, hb⟩
    have B12 := Lib.hid (B10.out.trans (hb.mono B10.out.size))
    have F13 := Lib.hid (lat_up (lat_keep F11.out hb) hb.size)
    clear hb
    go_wp2_with fail
    refine (toLS_any _ ps w5 (lat_up (lat_keep HVps.out B12.out) B12.out.size) HLps.out HRps.out).mono ?_
    rintro e w6 ⟨g14, cs15, rfl, hr, hb⟩
    have B16 := Lib.hid (B12.out.trans (hb.mono B12.out.size))
    have F17 := Lib.hid (lat_up (lat_keep F13.out hb) hb.size)
    have F18 := Lib.hid (lv_at hr)
    clear hb hr
    go_wp2_with fail
    refine (eqLS_same _ _ ps w6 F17.out F18.out HLps.out HRps.out).mono ?_
    rintro e w7 ⟨rfl, hb⟩
    have B19 := Lib.hid (B16.out.trans (hb.mono B16.out.size))
    have F20 := Lib.hid (lat_up (lat_keep F17.out hb) hb.size)
    clear hb
    go_wp2
    go_ret
    exact ⟨rfl, B19.out⟩

set_option maxRecDepth 100000 in
theorem lifted (os : Os) (started : os.Started) (H : Type) (enc : TypeId × Value → H) :
    ReturnsInHanded {} Try.checked os 8 .any (Rows.fnExactValidLabelsSpec.pre6 enc Try.prog Try.f8 Rows.fnExactValidLabelsRow.domain false) (Rows.fnExactValidLabelsSpec.post enc Try.prog Try.f8 false true false false) := by
  refine returnsInHanded_of_change (C := Try.checked) own started (by kernel_rfl) Try.func8
    (ChangeSpec.witness6 (enc := enc) (C := Try.checked) false ⟨#[], #[.slice none 0 0], []⟩ 8 (by kernel_rfl) (by kernel_rfl) (by kernel_rfl) (by kernel_rfl)) ?_
  intro W base args ds gs before hval0 hW hcnd _
  have hval : ∀ (j : Nat) t v, Try.f8.params[j]? = some t → args[j]? = some v → Value.okWide Try.prog W .any base t v := hval0
  have hW' := hW
  obtain ⟨p, q, hA0, hV, hpq, hfz, hnd⟩ := hW
  have hA : DataW.TrodAll enc Try.prog W 0 (fun _ => true) true Try.f8.params.toList args.toList ds p := hA0
  rw [Try.params8] at hA hval
  obtain ⟨v0, vs0, d0, ds0, p0, q0, hargs, rfl, rfl, h0, r0⟩ := trodAll_cons hA
  obtain ⟨rfl, rfl, rfl⟩ := trodAll_nil r0
  obtain rfl : args = #[v0] := by cases args; simp_all
  obtain ⟨a0, len0, cap0, rfl⟩ := okWide_slice Try.underlying60 (hval 0 60 v0 rfl rfl)
  obtain ⟨fuel0, hf0⟩ := h0
  obtain ⟨ps0, hp0, hl0, hr0⟩ := Go.Proofs.Ytmfjpmimkpldjaa.ltab.open_llist hf0 ⟨_, _, _, rfl⟩
  refine (walk (.slice a0 len0 cap0) ps0 W hp0 hl0 hr0).mono fun e W' ⟨he, bel⟩ => ?_
  subst he
  exact ⟨_, rfl, post_of_law laidOut (by kernel_rfl) Try.underlying4 rfl rfl (fun ds h => by match ds, h with | [_], _ => rfl) hW' bel⟩

theorem holds : Rows.FnExactValidLabelsSaid :=
  OpenClaim.holds_of_wide 8 Try.f8 rfl rfl rfl rfl rfl rfl rfl ⟨rfl, rfl, rfl, rfl, rfl⟩ rfl rfl rfl rfl rfl (by kernel_rfl) Try.func8 (by kernel_rfl)
    (of_decide_eq_true (by kernel_rfl)) (by unfold Func.isWrapper; first | (rw [if_pos (by decide +kernel)]; kernel_rfl) | (rw [if_neg (by decide +kernel)]; exact ⟨rfl, rfl⟩))
    (fun os started H enc _ => lifted os started H enc)
#print axioms holds

end Go.Proofs.Ytmfjpmimkpldjaa.validLabels
