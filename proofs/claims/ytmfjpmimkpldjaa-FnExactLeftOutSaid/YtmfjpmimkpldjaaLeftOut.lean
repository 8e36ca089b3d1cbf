/- FnExactLeftOut answers true for all arguments. -/
import Derived.Test.YtmfjpmimkpldjaaLabI3
import Derived.Test.YtmfjpmimkpldjaaLabS5
import Derived.Test.YtmfjpmimkpldjaaLTab3
namespace Go.Proofs.Ytmfjpmimkpldjaa.leftOut
open Go.ChangeShapes Go.WideShapes Go.ChangeAt Go.RowKit Go.Proofs.Ytmfjpmimkpldjaa.sines Go.Proofs.Ytmfjpmimkpldjaa.irows Go.Proofs.Ytmfjpmimkpldjaa.ltab
set_option linter.unusedSimpArgs false
set_option linter.unusedVariables false

set_option maxRecDepth 100000 in
set_option maxHeartbeats 4000000 in
theorem walk (vps : Value) (ps : List Lb) (vzs : Value) (zs : List Int) (w : World) (hvps : LAt w w.heap.size vps ps) (hmps : ps.length ≤ maxLen) (hrps : ∀ i, (hi : i < ps.length) → ps[i].2.2.1.length ≤ maxLen) (hvzs : IAt w w.heap.size vzs zs) (hmzs : zs.length ≤ maxLen) :
    Calls Try.prog 14 #[vps, vzs] w fun e w' => e = .returned (.bool true) ∧ Below w.heap.size w w' := by
  have HVps := Lib.hid hvps
  clear hvps
  have HVzs := Lib.hid hvzs
  clear hvzs
  obtain ⟨lazs, lczs, lvzs⟩ : ∃ a c, vzs = .slice a zs.length c := by obtain ⟨a, c, e, _⟩ := HVzs.out; exact ⟨a, c, e⟩
  subst lvzs
  unfold maxLen at hmzs
  by_cases hbig : (1048576 : Int) < (zs.length : Int)
  · have hbig2 : (zs.length : Int) ≤ 9223372036854775807 := by omega
    go_enter Try.func14, Try.ntmps14
    go_wp2
    go_ret
    exact ⟨rfl, Below.refl _ _⟩
  have hlzs : zs.length ≤ 1048576 := by omega
  have hbzs : decide ((1048576 : Int) < (zs.length : Int)) = false := by simpa using hbig
  clear hbig
  have hLzs : (zs.length : Int) ≤ 1048576 := by omega
  have SZps := Lib.hid (szL_any vps ps w HVps.out hmps hrps)
  obtain ⟨laps, lcps, lvps⟩ : ∃ a c, vps = .slice a ps.length c := by obtain ⟨a, c, e, _⟩ := HVps.out; exact ⟨a, c, e⟩
  subst lvps
  clear hrps hmps
  cases hfps : fitL ps with
  | false =>
    rw [hfps] at SZps
    go_enter Try.func14, Try.ntmps14
    go_wp2_with fail
    refine SZps.out.mono ?_
    rintro e w' ⟨rfl, hb⟩
    go_wp2
    go_ret
    exact ⟨rfl, hb⟩
  | true =>
    obtain ⟨hlps, hrps⟩ := fitL_of hfps
    have hf2 := hfps
    simp only [fitL, decide_eq_true_eq] at hf2
    rw [hfps, if_pos rfl] at SZps
    obtain ⟨Sps, hSps⟩ : ∃ L : Int, Hid (1048576 - (ps.length : Int) - (totL ps ps.length : Int) = L) := ⟨_, Lib.hid rfl⟩
    have hS0ps : decide (Sps < 0) = false := by have := hSps.out; simp; omega
    rw [hSps.out] at SZps
    have hLLps : (ps.length : Int) ≤ 1048576 := by omega
    have HTps := Lib.hid (show totL ps ps.length ≤ 1048576 by omega)
    have HLps := Lib.hid hlps
    have HRps := Lib.hid hrps
    clear hfps hf2 hlps hrps
    obtain ⟨zr, HZR⟩ : ∃ c, Hid (valLO ps zs = c) := ⟨_, Lib.hid rfl⟩
    have hn : zr.length ≤ 1048576 := by rw [← HZR.out]; exact Nat.le_trans (valLO_len ps zs) hlzs
    have hn1 : (zr.length : Int) ≤ 1048576 := by omega
    have hn0 : 0 ≤ (zr.length : Int) := by omega
    obtain ⟨c1, HC1⟩ : ∃ c, Hid (codeK ps zs = c) := ⟨_, Lib.hid rfl⟩
    have B0 := Lib.hid (Below.refl w.heap.size w)
    go_enter Try.func14, Try.ntmps14
    go_wp2_with fail
    refine (SZps.out).mono ?_
    rintro e w1 ⟨rfl, hb⟩
    have B1 := Lib.hid (B0.out.trans (hb.mono B0.out.size))
    clear hb
    go_wp2_with fail
    refine (toLS_any _ ps w1 (lat_up (lat_keep HVps.out B1.out) B1.out.size) HLps.out HRps.out).mono ?_
    rintro e w2 ⟨g2, cs3, rfl, hr, hb⟩
    have B4 := Lib.hid (B1.out.trans (hb.mono B1.out.size))
    have F5 := Lib.hid (lv_at hr)
    clear hb hr
    go_wp2_with fail
    refine (toI_any _ zs w2 (iat_up (iat_keep HVzs.out B4.out) B4.out.size) hlzs).mono ?_
    rintro e w3 ⟨u6, rfl, hr, hb⟩
    have B7 := Lib.hid (B4.out.trans (hb.mono B4.out.size))
    have F8 := Lib.hid (lat_up (lat_keep F5.out hb) hb.size)
    have F9 := Lib.hid (iatL_of_row hr)
    clear hb hr
    go_wp2_with fail
    refine (specLeftOut_any _ _ ps zs w3 F8.out F9.out HLps.out HRps.out hlzs).mono ?_
    rw [HC1.out]
    rintro e w4 ⟨r10, rfl, hr, hb⟩
    rw [HZR.out] at hr
    have B11 := Lib.hid (B7.out.trans (hb.mono B7.out.size))
    have F12 := Lib.hid (lat_up (lat_keep F8.out hb) hb.size)
    have F13 := Lib.hid (iat_up (iat_keep F9.out hb) hb.size)
    have F14 := Lib.hid hr
    clear hb hr
    have LTps := Lib.hid (irow_lt F14.out)
    go_wp2_with fail
    refine (toLS_any _ ps w4 (lat_up (lat_keep HVps.out B11.out) B11.out.size) HLps.out HRps.out).mono ?_
    rintro e w5 ⟨g15, cs16, rfl, hr, hb⟩
    have B17 := Lib.hid (B11.out.trans (hb.mono B11.out.size))
    have F18 := Lib.hid (irow_keep F14.out hb)
    have F19 := Lib.hid (lv_at hr)
    have LVps := Lib.hid hr
    have ZBps := Lib.hid (show w4.heap.size ≤ w5.heap.size from hb.size)
    have K20 := Lib.hid (Below.refl w5.heap.size w5)
    clear hb hr
    have LTzs := Lib.hid (irow_lt F18.out)
    go_wp2_with fail
    refine (toI_any _ zs w5 (iat_up (iat_keep HVzs.out B17.out) B17.out.size) hlzs).mono ?_
    rintro e w6 ⟨u21, rfl, hr, hb⟩
    have B22 := Lib.hid (B17.out.trans (hb.mono B17.out.size))
    have F23 := Lib.hid (irow_keep F18.out hb)
    have F24 := Lib.hid (lat_up (lat_keep F19.out hb) hb.size)
    have K25 := Lib.hid (K20.out.trans (hb.mono K20.out.size))
    have F26 := Lib.hid (iatL_of_row hr)
    have IRzs := Lib.hid hr
    have ZBzs := Lib.hid (show w5.heap.size ≤ w6.heap.size from hb.size)
    have K27 := Lib.hid (Below.refl w6.heap.size w6)
    clear hb hr
    have Z28 := Nat.le_refl w6.heap.size
    have HSps := Lib.hid (show w5.heap.size ≤ w6.heap.size from K25.out.size)
    have HSzs := Lib.hid (show w6.heap.size ≤ w6.heap.size from K27.out.size)
    have LTI := Lib.hid (irow_lt F23.out)
    go_wp2_with fail
    refine (implLeftOut_any _ _ ps zs w6 F24.out F26.out HLps.out HRps.out hlzs).mono ?_
    rw [HC1.out]
    rintro e w7 ⟨r29, rfl, hr, hb⟩
    rw [HZR.out] at hr
    have B30 := Lib.hid (B22.out.trans (hb.mono B22.out.size))
    have F31 := Lib.hid (irow_keep F23.out hb)
    have F32 := Lib.hid (lat_up (lat_keep F24.out hb) hb.size)
    have F33 := Lib.hid (iat_up (iat_keep F26.out hb) hb.size)
    have K34 := Lib.hid (K25.out.trans (hb.mono K25.out.size))
    have K35 := Lib.hid (K27.out.trans (hb.mono K27.out.size))
    have Z36 := Nat.le_trans Z28 hb.size
    have F37 := Lib.hid hr
    clear hb hr
    go_wp2_with fail
    refine (eq_same r29 r10 _ _ zr w7 F37.out F31.out (by omega)).mono ?_
    rintro e w8 ⟨rfl, q, hw⟩
    have hb : Below w7.heap.size w7 w8 := by rw [hw]; exact below_drawn _ q
    clear hw
    have B38 := Lib.hid (B30.out.trans (hb.mono B30.out.size))
    have F39 := Lib.hid (irow_keep F31.out hb)
    have F40 := Lib.hid (lat_up (lat_keep F32.out hb) hb.size)
    have F41 := Lib.hid (iat_up (iat_keep F33.out hb) hb.size)
    have F42 := Lib.hid (irow_keep F37.out hb)
    have K43 := Lib.hid (K34.out.trans (hb.mono K34.out.size))
    have K44 := Lib.hid (K35.out.trans (hb.mono K35.out.size))
    have Z45 := Nat.le_trans Z36 hb.size
    clear hb
    go_wp2_with fail
    refine (toLS_any _ ps w8 (lat_up (lat_keep HVps.out B38.out) B38.out.size) HLps.out HRps.out).mono ?_
    rintro e w9 ⟨g46, cs47, rfl, hr, hb⟩
    have B48 := Lib.hid (B38.out.trans (hb.mono B38.out.size))
    have F49 := Lib.hid (irow_keep F39.out hb)
    have F50 := Lib.hid (lat_up (lat_keep F40.out hb) hb.size)
    have F51 := Lib.hid (iat_up (iat_keep F41.out hb) hb.size)
    have F52 := Lib.hid (irow_keep F42.out hb)
    have K53 := Lib.hid (K43.out.trans (hb.mono K43.out.size))
    have K54 := Lib.hid (K44.out.trans (hb.mono K44.out.size))
    have Z55 := Nat.le_trans Z45 hb.size
    have F56 := Lib.hid (lv_at hr)
    clear hb hr
    go_wp2_with fail
    refine (eqLS_same _ _ ps w9 F50.out F56.out HLps.out HRps.out).mono ?_
    rintro e w10 ⟨rfl, hb⟩
    have B57 := Lib.hid (B48.out.trans (hb.mono B48.out.size))
    have F58 := Lib.hid (irow_keep F49.out hb)
    have F59 := Lib.hid (lat_up (lat_keep F50.out hb) hb.size)
    have F60 := Lib.hid (iat_up (iat_keep F51.out hb) hb.size)
    have F61 := Lib.hid (irow_keep F52.out hb)
    have K62 := Lib.hid (K53.out.trans (hb.mono K53.out.size))
    have K63 := Lib.hid (K54.out.trans (hb.mono K54.out.size))
    have Z64 := Nat.le_trans Z55 hb.size
    clear hb
    go_wp2_with fail
    refine (toI_any _ zs w10 (iat_up (iat_keep HVzs.out B57.out) B57.out.size) hlzs).mono ?_
    rintro e w11 ⟨u65, rfl, hr, hb⟩
    have B66 := Lib.hid (B57.out.trans (hb.mono B57.out.size))
    have F67 := Lib.hid (irow_keep F58.out hb)
    have F68 := Lib.hid (lat_up (lat_keep F59.out hb) hb.size)
    have F69 := Lib.hid (iat_up (iat_keep F60.out hb) hb.size)
    have F70 := Lib.hid (irow_keep F61.out hb)
    have K71 := Lib.hid (K62.out.trans (hb.mono K62.out.size))
    have K72 := Lib.hid (K63.out.trans (hb.mono K63.out.size))
    have Z73 := Nat.le_trans Z64 hb.size
    have F74 := Lib.hid (iatL_of_row hr)
    clear hb hr
    go_wp2_with fail
    refine (eqIat_same _ _ zs w11 F69.out F74.out hlzs).mono ?_
    rintro e w12 ⟨rfl, q, hw⟩
    have hb : Below w11.heap.size w11 w12 := by rw [hw]; exact below_drawn _ q
    clear hw
    have B75 := Lib.hid (B66.out.trans (hb.mono B66.out.size))
    have F76 := Lib.hid (irow_keep F67.out hb)
    have F77 := Lib.hid (lat_up (lat_keep F68.out hb) hb.size)
    have F78 := Lib.hid (iat_up (iat_keep F69.out hb) hb.size)
    have F79 := Lib.hid (irow_keep F70.out hb)
    have K80 := Lib.hid (K71.out.trans (hb.mono K71.out.size))
    have K81 := Lib.hid (K72.out.trans (hb.mono K72.out.size))
    have Z82 := Nat.le_trans Z73 hb.size
    clear hb
    go_wp2_with fail
    refine (markL_any g15 cs16 w4.heap.size w5.heap.size ps 1 w12 (lv_keep LVps.out K80.out) HLps.out HTps.out (by omega) (by omega)).mono ?_
    rintro e w13 ⟨⟨k0, rfl, kl0, kh0⟩, hm⟩
    have ZW := Nat.le_trans ZBps.out (Nat.le_trans HSps.out Z82)
    have hbm := mid_below hm ZW
    have B83 := Lib.hid (B75.out.trans (hbm.mono B11.out.size))
    have F84 := Lib.hid (irow_below F76.out LTps.out hbm)
    have F85 := Lib.hid (irow_mid F79.out hm HSps.out)
    have I86 := irow_mid (irow_keep IRzs.out K81.out) hm (Nat.le_refl _)
    have Z87 := Nat.le_trans Z82 hm.2.2.2.1
    clear hm hbm
    go_wp2_with fail
    refine (markI_any _ _ zs k0 w13 I86 hlzs (by omega) (by omega)).mono ?_
    rintro e w14 ⟨rfl, _, hg⟩
    have hm : Mid w5.heap.size w6.heap.size w13 w14 := mid_grown hg (fun b hb => World.ownsRow.lt IRzs.out b hb)
    clear hg
    have ZW := Nat.le_trans ZBzs.out (Nat.le_trans HSzs.out Z87)
    have hbm := mid_below hm ZW
    have B88 := Lib.hid (B83.out.trans (hbm.mono B17.out.size))
    have F89 := Lib.hid (irow_below F84.out LTzs.out hbm)
    have F90 := Lib.hid (irow_mid F85.out hm HSzs.out)
    have Z91 := Nat.le_trans Z87 hm.2.2.2.1
    clear hm hbm
    have hk0 : decide ((k0 + (zs.length : Int)) < 0) = false := by simp; omega
    go_wp2_with fail
    refine (eq_same r29 r10 _ _ zr w14 F90.out F89.out (by omega)).mono ?_
    rintro e w15 ⟨rfl, q, hw⟩
    have hb : Below w14.heap.size w14 w15 := by rw [hw]; exact below_drawn _ q
    clear hw
    have B92 := Lib.hid (B88.out.trans (hb.mono B88.out.size))
    have F93 := Lib.hid (irow_keep F89.out hb)
    have F94 := Lib.hid (irow_keep F90.out hb)
    have Z95 := Nat.le_trans Z91 hb.size
    clear hb
    have SH := Lib.hid (irow_shape F94.out).1
    go_wp2_with fail
    refine (mark_any r29 _ zr w15 F94.out (by omega)).mono ?_
    rintro e w16 ⟨rfl, hr, hg⟩
    have hm : Mid w6.heap.size w15.heap.size w15 w16 := mid_grown hg (fun b hb => World.ownsRow.lt F94.out b hb)
    have hbm := mid_below hm Z95
    have B96 := Lib.hid (B92.out.trans (hbm.mono B22.out.size))
    have F97 := Lib.hid (irow_below F93.out LTI.out hbm)
    have F98 := Lib.hid hr
    have Z99 := Nat.le_trans Z95 hm.2.2.2.1
    clear hr hg hm hbm
    go_wp2_with fail
    refine (held_any r29 _ zr.length w16 SH.out F98.out (by omega)).mono ?_
    rintro e w17 ⟨rfl, q, hw⟩
    have hb : Below w16.heap.size w16 w17 := by rw [hw]; exact below_drawn _ q
    clear hw
    have B100 := Lib.hid (B96.out.trans (hb.mono B96.out.size))
    have F101 := Lib.hid (irow_keep F97.out hb)
    have F102 := Lib.hid (irow_keep F98.out hb)
    have Z103 := Nat.le_trans Z99 hb.size
    clear hb
    go_wp2_with fail
    refine (toLS_any _ ps w17 (lat_up (lat_keep HVps.out B100.out) B100.out.size) HLps.out HRps.out).mono ?_
    rintro e w18 ⟨g104, cs105, rfl, hr, hb⟩
    have B106 := Lib.hid (B100.out.trans (hb.mono B100.out.size))
    have F107 := Lib.hid (irow_keep F101.out hb)
    have F108 := Lib.hid (irow_keep F102.out hb)
    have Z109 := Nat.le_trans Z103 hb.size
    have F110 := Lib.hid (lv_at hr)
    clear hb hr
    go_wp2_with fail
    refine (toI_any _ zs w18 (iat_up (iat_keep HVzs.out B106.out) B106.out.size) hlzs).mono ?_
    rintro e w19 ⟨u111, rfl, hr, hb⟩
    have B112 := Lib.hid (B106.out.trans (hb.mono B106.out.size))
    have F113 := Lib.hid (irow_keep F107.out hb)
    have F114 := Lib.hid (irow_keep F108.out hb)
    have F115 := Lib.hid (lat_up (lat_keep F110.out hb) hb.size)
    have Z116 := Nat.le_trans Z109 hb.size
    have F117 := Lib.hid (iatL_of_row hr)
    clear hb hr
    go_wp2_with fail
    refine (implLeftOut_any _ _ ps zs w19 F115.out F117.out HLps.out HRps.out hlzs).mono ?_
    rw [HC1.out]
    rintro e w20 ⟨r118, rfl, hr, hb⟩
    rw [HZR.out] at hr
    have B119 := Lib.hid (B112.out.trans (hb.mono B112.out.size))
    have F120 := Lib.hid (irow_keep F113.out hb)
    have F121 := Lib.hid (irow_keep F114.out hb)
    have F122 := Lib.hid (lat_up (lat_keep F115.out hb) hb.size)
    have F123 := Lib.hid (iat_up (iat_keep F117.out hb) hb.size)
    have Z124 := Nat.le_trans Z116 hb.size
    have F125 := Lib.hid hr
    clear hb hr
    go_wp2_with fail
    refine (eq_same r118 r10 _ _ zr w20 F125.out F120.out (by omega)).mono ?_
    rintro e w21 ⟨rfl, q, hw⟩
    have hb : Below w20.heap.size w20 w21 := by rw [hw]; exact below_drawn _ q
    clear hw
    have B126 := Lib.hid (B119.out.trans (hb.mono B119.out.size))
    have F127 := Lib.hid (irow_keep F120.out hb)
    have F128 := Lib.hid (irow_keep F121.out hb)
    have F129 := Lib.hid (irow_keep F125.out hb)
    have Z130 := Nat.le_trans Z124 hb.size
    clear hb
    go_wp2_with fail
    refine (held_any r29 _ zr.length w21 SH.out F128.out (by omega)).mono ?_
    rintro e w22 ⟨rfl, q, hw⟩
    have hb : Below w21.heap.size w21 w22 := by rw [hw]; exact below_drawn _ q
    clear hw
    have B131 := Lib.hid (B126.out.trans (hb.mono B126.out.size))
    have F132 := Lib.hid (irow_keep F127.out hb)
    have F133 := Lib.hid (irow_keep F128.out hb)
    have F134 := Lib.hid (irow_keep F129.out hb)
    have Z135 := Nat.le_trans Z130 hb.size
    clear hb
    go_wp2
    go_ret
    exact ⟨rfl, B131.out⟩

set_option maxRecDepth 100000 in
theorem lifted (os : Os) (started : os.Started) (H : Type) (enc : TypeId × Value → H) :
    ReturnsInHanded {} Try.checked os 14 .any (Rows.fnExactLeftOutSpec.pre6 enc Try.prog Try.f14 Rows.fnExactLeftOutRow.domain false) (Rows.fnExactLeftOutSpec.post enc Try.prog Try.f14 false true false false) := by
  refine returnsInHanded_of_change (C := Try.checked) own started (by kernel_rfl) Try.func14
    (ChangeSpec.witness6 (enc := enc) (C := Try.checked) false ⟨#[], #[.slice none 0 0, .slice none 0 0], []⟩ 8 (by kernel_rfl) (by kernel_rfl) (by kernel_rfl) (by kernel_rfl)) ?_
  intro W base args ds gs before hval0 hW hcnd _
  have hval : ∀ (j : Nat) t v, Try.f14.params[j]? = some t → args[j]? = some v → Value.okWide Try.prog W .any base t v := hval0
  have hW' := hW
  obtain ⟨p, q, hA0, hV, hpq, hfz, hnd⟩ := hW
  have hA : DataW.TrodAll enc Try.prog W 0 (fun _ => true) true Try.f14.params.toList args.toList ds p := hA0
  rw [Try.params14] at hA hval
  obtain ⟨v0, vs0, d0, ds0, p0, q0, hargs, rfl, rfl, h0, r0⟩ := trodAll_cons hA
  obtain ⟨v1, vs1, d1, ds1, p1, q1, rfl, rfl, rfl, h1, r1⟩ := trodAll_cons r0
  obtain ⟨rfl, rfl, rfl⟩ := trodAll_nil r1
  obtain rfl : args = #[v0, v1] := by cases args; simp_all
  obtain ⟨a0, len0, cap0, rfl⟩ := okWide_slice Try.underlying60 (hval 0 60 v0 rfl rfl)
  obtain ⟨fuel0, hf0⟩ := h0
  obtain ⟨ps0, hp0, hl0, hr0⟩ := Go.Proofs.Ytmfjpmimkpldjaa.ltab.open_llist hf0 ⟨_, _, _, rfl⟩
  obtain ⟨a1, len1, cap1, rfl⟩ := okWide_slice Try.underlying26 (hval 1 26 v1 rfl rfl)
  obtain ⟨fuel1, hf1⟩ := h1
  obtain ⟨zs1, hp1, hl1⟩ := Go.Proofs.Ytmfjpmimkpldjaa.sines.open_ilist hf1 ⟨_, _, _, rfl⟩
  refine (walk (.slice a0 len0 cap0) ps0 (.slice a1 len1 cap1) zs1 W hp0 hl0 hr0 hp1 hl1).mono fun e W' ⟨he, bel⟩ => ?_
  subst he
  exact ⟨_, rfl, post_of_law laidOut (by kernel_rfl) Try.underlying4 rfl rfl (fun ds h => by match ds, h with | [_, _], _ => rfl) hW' bel⟩

theorem holds : Rows.FnExactLeftOutSaid :=
  OpenClaim.holds_of_wide 14 Try.f14 rfl rfl rfl rfl rfl rfl rfl ⟨rfl, rfl, rfl, rfl, rfl⟩ rfl rfl rfl rfl rfl (by kernel_rfl) Try.func14 (by kernel_rfl)
    (of_decide_eq_true (by kernel_rfl)) (by unfold Func.isWrapper; first | (rw [if_pos (by decide +kernel)]; kernel_rfl) | (rw [if_neg (by decide +kernel)]; exact ⟨rfl, rfl⟩))
    (fun os started H enc _ => lifted os started H enc)
#print axioms holds

end Go.Proofs.Ytmfjpmimkpldjaa.leftOut
