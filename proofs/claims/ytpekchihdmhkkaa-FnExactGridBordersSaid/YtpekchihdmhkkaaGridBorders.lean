/- FnExactGridBorders answers true for all arguments. -/
import Derived.Test.YtpekchihdmhkkaaGridB2
import Derived.Test.YtpekchihdmhkkaaGridB4
namespace Go.Proofs.Ytpekchihdmhkkaa.gridBorders
open Go.ChangeShapes Go.WideShapes Go.ChangeAt Go.RowKit Go.Proofs.Ytpekchihdmhkkaa.split Go.Proofs.Ytpekchihdmhkkaa.stab
set_option linter.unusedSimpArgs false
set_option linter.unusedVariables false

set_option maxRecDepth 100000 in
set_option maxHeartbeats 4000000 in
theorem walk (vps : Value) (ps : List ByteArray) (w : World) (hvps : SAt w w.heap.size vps ps) (hmps : ps.length ≤ maxLen) (hrps : ∀ i, i < ps.length → (sAt ps i).size ≤ maxLen) :
    Calls Try.prog 6 #[vps] w fun e w' => e = .returned (.bool true) ∧ Below w.heap.size w w' := by
  have HV := Lib.hid hvps
  have SZ := Lib.hid (szS_any vps ps w HV.out hmps hrps)
  obtain ⟨la, lc, lv⟩ : ∃ a c, vps = .slice a ps.length c := by obtain ⟨a, c, e, _⟩ := HV.out; exact ⟨a, c, e⟩
  subst lv
  clear hrps hmps hvps
  cases hf : fitS ps with
  | false =>
    rw [hf] at SZ
    go_enter Try.func6, Try.ntmps6
    go_wp2_with fail
    refine SZ.out.mono ?_
    rintro e w' ⟨rfl, rfl⟩
    go_wp2
    go_ret
    exact ⟨rfl, Below.refl _ _⟩
  | true =>
    obtain ⟨hl, hr⟩ := fitS_of hf
    have hf2 := hf
    simp only [fitS, decide_eq_true_eq] at hf2
    rw [hf, if_pos rfl] at SZ
    obtain ⟨S, hS⟩ : ∃ L : Int, Hid (1048576 - (ps.length : Int) - (totS ps ps.length : Int) = L) := ⟨_, Lib.hid rfl⟩
    have hS0 : decide (S < 0) = false := by have := hS.out; simp; omega
    rw [hS.out] at SZ
    have HL := Lib.hid hl
    have HR := Lib.hid hr
    clear hf hf2 hl hr
    obtain ⟨zr, HZR⟩ : ∃ c, Hid (valBo ps = c) := ⟨_, Lib.hid rfl⟩
    have hn : zr.length ≤ 1048576 := by rw [← HZR.out]; exact valBo_len ps
    have hn1 : (zr.length : Int) ≤ 1048576 := by omega
    have hn0 : 0 ≤ (zr.length : Int) := by omega
    obtain ⟨c1, HC1⟩ : ∃ c, Hid (codeBo ps = c) := ⟨_, Lib.hid rfl⟩
    have B0 := Lib.hid (Below.refl w.heap.size w)
    go_enter Try.func6, Try.ntmps6
    go_wp2_with fail
    refine (SZ.out).mono ?_
    rintro e w1 ⟨rfl, hw⟩
    have hb : Below w.heap.size w w1 := by rw [← hw]; exact Below.refl _ _
    clear hw
    have B1 := Lib.hid (B0.out.trans (hb.mono B0.out.size))
    clear hb
    go_wp2_with fail
    refine (toS_any _ ps w1 (sat_up (sat_keep HV.out B1.out) B1.out.size) HL.out).mono ?_
    rintro e w2 ⟨u2, rfl, hr, hb⟩
    have B3 := Lib.hid (B1.out.trans (hb.mono B1.out.size))
    have F4 := Lib.hid hr
    clear hb hr
    go_wp2_with fail
    refine (specGridBorders_any _ ps  w2 (sat_of_row F4.out) HL.out HR.out  ).mono ?_
    rw [HC1.out]
    rintro e w3 ⟨r5, rfl, hr, hb⟩
    rw [HZR.out] at hr
    have B6 := Lib.hid (B3.out.trans (hb.mono B3.out.size))
    have F7 := Lib.hid (srow_keep F4.out hb)
    have F8 := Lib.hid hr
    clear hb hr
    have LT0X := Lib.hid (srow_lt F8.out)
    have LO1 := Lib.hid B6.out.size
    go_wp2_with fail
    refine (toS_any _ ps w3 (sat_up (sat_keep HV.out B6.out) B6.out.size) HL.out).mono ?_
    rintro e w4 ⟨u9, rfl, hr, hb⟩
    have B10 := Lib.hid (B6.out.trans (hb.mono B6.out.size))
    have F11 := Lib.hid (srow_keep F8.out hb)
    have F12 := Lib.hid hr
    clear hb hr
    have LT0 := Lib.hid (srow_lt F11.out)
    have LTX := Lib.hid (srow_lt F12.out)
    have LO2 := Lib.hid B10.out.size
    go_wp2_with fail
    refine (implGridBorders_any _ ps  w4 (sat_of_row F12.out) HL.out HR.out  ).mono ?_
    rw [HC1.out]
    rintro e w5 ⟨r13, rfl, hr, hb⟩
    rw [HZR.out] at hr
    have B14 := Lib.hid (B10.out.trans (hb.mono B10.out.size))
    have F15 := Lib.hid (srow_keep F11.out hb)
    have F16 := Lib.hid (srow_keep F12.out hb)
    have F17 := Lib.hid hr
    clear hb hr
    go_wp2_with fail
    refine (eq_same r13 r5 _ _ zr w5 F17.out F15.out (by omega)).mono ?_
    rintro e w6 ⟨rfl, q, hw⟩
    have hb : Below w5.heap.size w5 w6 := by rw [hw]; exact below_drawn _ q
    clear hw
    have B18 := Lib.hid (B14.out.trans (hb.mono B14.out.size))
    have F19 := Lib.hid (srow_keep F15.out hb)
    have F20 := Lib.hid (srow_keep F16.out hb)
    have F21 := Lib.hid (srow_keep F17.out hb)
    clear hb
    go_wp2_with fail
    refine (toS_any _ ps w6 (sat_up (sat_keep HV.out B18.out) B18.out.size) HL.out).mono ?_
    rintro e w7 ⟨u22, rfl, hr, hb⟩
    have B23 := Lib.hid (B18.out.trans (hb.mono B18.out.size))
    have F24 := Lib.hid (srow_keep F19.out hb)
    have F25 := Lib.hid (srow_keep F20.out hb)
    have F26 := Lib.hid (srow_keep F21.out hb)
    have F27 := Lib.hid hr
    clear hb hr
    go_wp2_with fail
    refine (eq_same _ _ _ _ ps w7 F25.out F27.out (by have := HL.out; omega)).mono ?_
    rintro e w8 ⟨rfl, q, hw⟩
    have hb : Below w7.heap.size w7 w8 := by rw [hw]; exact below_drawn _ q
    clear hw
    have B28 := Lib.hid (B23.out.trans (hb.mono B23.out.size))
    have F29 := Lib.hid (srow_keep F24.out hb)
    have F30 := Lib.hid (srow_keep F25.out hb)
    have F31 := Lib.hid (srow_keep F26.out hb)
    have F32 := Lib.hid (srow_keep F27.out hb)
    clear hb
    go_wp2_with fail
    refine (mark_any u9 _ ps w8 F30.out (by have := HL.out; omega)).mono ?_
    rintro e w9 ⟨rfl, hr, hg⟩
    have B33 := Lib.hid (show Below w.heap.size w w9 from B28.out.grown hg B28.out.size (fun k hk => Nat.le_trans LO1.out (World.ownsRow.lt F30.out k hk).1))
    have F34 := Lib.hid (srow_other F29.out LT0X.out F30.out hg)
    have F35 := Lib.hid (srow_other' F31.out LTX.out F30.out hg)
    have F36 := Lib.hid hr
    have SHx1 := Lib.hid (srow_shape F30.out).1
    clear hr hg
    have hk0 : decide (1 + (ps.length : Int) < 0) = false := by simp; omega
    go_wp2_with fail
    refine (eq_same r13 r5 _ _ zr w9 F35.out F34.out (by omega)).mono ?_
    rintro e w10 ⟨rfl, q, hw⟩
    have hb : Below w9.heap.size w9 w10 := by rw [hw]; exact below_drawn _ q
    clear hw
    have B37 := Lib.hid (B33.out.trans (hb.mono B33.out.size))
    have F38 := Lib.hid (srow_keep F34.out hb)
    have F39 := Lib.hid (srow_keep F35.out hb)
    clear hb
    go_wp2_with fail
    refine (mark_any r13 _ zr w10 F39.out (by omega)).mono ?_
    rintro e w11 ⟨rfl, hr, hg⟩
    have B40 := Lib.hid (show Below w.heap.size w w11 from B37.out.grown hg B37.out.size (fun k hk => Nat.le_trans LO2.out (World.ownsRow.lt F39.out k hk).1))
    have F41 := Lib.hid (srow_other F38.out LT0.out F39.out hg)
    have F42 := Lib.hid hr
    have SHrx1 := Lib.hid (srow_shape F39.out).1
    clear hr hg
    go_wp2_with fail
    refine (held_any r13 _ zr.length w11 SHrx1.out F42.out (by omega)).mono ?_
    rintro e w12 ⟨rfl, hb⟩
    have B43 := Lib.hid (B40.out.trans (hb.mono B40.out.size))
    have F44 := Lib.hid (srow_keep F41.out hb)
    have F45 := Lib.hid (srow_keep F42.out hb)
    clear hb
    go_wp2_with fail
    refine (toS_any _ ps w12 (sat_up (sat_keep HV.out B43.out) B43.out.size) HL.out).mono ?_
    rintro e w13 ⟨u46, rfl, hr, hb⟩
    have B47 := Lib.hid (B43.out.trans (hb.mono B43.out.size))
    have F48 := Lib.hid (srow_keep F44.out hb)
    have F49 := Lib.hid (srow_keep F45.out hb)
    have F50 := Lib.hid hr
    clear hb hr
    go_wp2_with fail
    refine (implGridBorders_any _ ps  w13 (sat_of_row F50.out) HL.out HR.out  ).mono ?_
    rw [HC1.out]
    rintro e w14 ⟨r51, rfl, hr, hb⟩
    rw [HZR.out] at hr
    have B52 := Lib.hid (B47.out.trans (hb.mono B47.out.size))
    have F53 := Lib.hid (srow_keep F48.out hb)
    have F54 := Lib.hid (srow_keep F49.out hb)
    have F55 := Lib.hid (srow_keep F50.out hb)
    have F56 := Lib.hid hr
    clear hb hr
    go_wp2_with fail
    refine (eq_same r51 r5 _ _ zr w14 F56.out F53.out (by omega)).mono ?_
    rintro e w15 ⟨rfl, q, hw⟩
    have hb : Below w14.heap.size w14 w15 := by rw [hw]; exact below_drawn _ q
    clear hw
    have B57 := Lib.hid (B52.out.trans (hb.mono B52.out.size))
    have F58 := Lib.hid (srow_keep F53.out hb)
    have F59 := Lib.hid (srow_keep F54.out hb)
    have F60 := Lib.hid (srow_keep F56.out hb)
    clear hb
    go_wp2_with fail
    refine (held_any r13 _ zr.length w15 SHrx1.out F59.out (by omega)).mono ?_
    rintro e w16 ⟨rfl, hb⟩
    have B61 := Lib.hid (B57.out.trans (hb.mono B57.out.size))
    have F62 := Lib.hid (srow_keep F58.out hb)
    have F63 := Lib.hid (srow_keep F59.out hb)
    clear hb
    go_wp2
    go_ret
    exact ⟨rfl, B61.out⟩

set_option maxRecDepth 100000 in
theorem lifted (os : Os) (started : os.Started) (H : Type) (enc : TypeId × Value → H) :
    ReturnsInHanded {} Try.checked os 6 .any (Rows.fnExactGridBordersSpec.pre6 enc Try.prog Try.f6 Rows.fnExactGridBordersRow.domain false) (Rows.fnExactGridBordersSpec.post enc Try.prog Try.f6 false true false false) := by
  refine returnsInHanded_of_change (C := Try.checked) own started (by kernel_rfl) Try.func6
    (ChangeSpec.witness6 (enc := enc) (C := Try.checked) false ⟨#[], #[.slice none 0 0], []⟩ 8 (by kernel_rfl) (by kernel_rfl) (by kernel_rfl) (by kernel_rfl)) ?_
  intro W base args ds gs before hval0 hW hcnd _
  have hval : ∀ (j : Nat) t v, Try.f6.params[j]? = some t → args[j]? = some v → Value.okWide Try.prog W .any base t v := hval0
  have hW' := hW
  obtain ⟨p, q, hA0, hV, hpq, hfz, hnd⟩ := hW
  have hA : DataW.TrodAll enc Try.prog W 0 (fun _ => true) true Try.f6.params.toList args.toList ds p := hA0
  rw [Try.params6] at hA hval
  obtain ⟨v0, vs0, d0, ds0, p0, q0, hargs, rfl, rfl, h0, r0⟩ := trodAll_cons hA
  obtain ⟨rfl, rfl, rfl⟩ := trodAll_nil r0
  obtain rfl : args = #[v0] := by cases args; simp_all
  obtain ⟨a0, len0, cap0, rfl⟩ := okWide_slice Try.underlying22 (hval 0 22 v0 rfl rfl)
  obtain ⟨fuel0, hf0⟩ := h0
  obtain ⟨ps0, hp0, hl0, hr0⟩ := Go.Proofs.Ytpekchihdmhkkaa.stab.open_slist hf0 ⟨_, _, _, rfl⟩
  refine (walk (.slice a0 len0 cap0) ps0 W hp0 hl0 hr0).mono fun e W' ⟨he, bel⟩ => ?_
  subst he
  exact ⟨_, rfl, post_of_law laidOut (by kernel_rfl) Try.underlying4 rfl rfl (fun ds h => by match ds, h with | [_], _ => rfl) hW' bel⟩

theorem holds : Rows.FnExactGridBordersSaid :=
  OpenClaim.holds_of_wide 6 Try.f6 rfl rfl rfl rfl rfl rfl rfl ⟨rfl, rfl, rfl, rfl, rfl⟩ rfl rfl rfl rfl rfl (by kernel_rfl) Try.func6 (by kernel_rfl)
    (of_decide_eq_true (by kernel_rfl)) (by unfold Func.isWrapper; first | (rw [if_pos (by decide +kernel)]; kernel_rfl) | (rw [if_neg (by decide +kernel)]; exact ⟨rfl, rfl⟩))
    (fun os started H enc _ => lifted os started H enc)
#print axioms holds

end Go.Proofs.Ytpekchihdmhkkaa.gridBorders
