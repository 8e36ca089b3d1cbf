/- FnExactDistanceTable answers true for every list of places. -/
import Derived.Test.YtbggbgfmahnjkaaTable
import Derived.Test.YtbggbgfmahnjkaaOwn2
namespace Go.Proofs.Ytbggbgfmahnjkaa.distanceTable
open Go.ChangeShapes Go.WideShapes Go.ChangeAt Go.RowKit Go.Proofs.Ytbggbgfmahnjkaa.spots Go.Proofs.Ytbggbgfmahnjkaa.sines Go.Proofs.Ytbggbgfmahnjkaa.irows Go.Proofs.Ytbggbgfmahnjkaa.pairs Go.Proofs.Ytbggbgfmahnjkaa.trows Go.Proofs.Ytbggbgfmahnjkaa.own2
set_option maxRecDepth 100000 in
set_option maxHeartbeats 4000000 in
theorem walk (vps : Value) (ps : List (Int × Int)) (w : World) (hv : PAt w w.heap.size vps ps) (hm : ps.length ≤ maxLen) :
    Calls Try.prog 13 #[vps] w fun e w' => e = .returned (.bool true) ∧ Below w.heap.size w w' := by
  have HV := Lib.hid hv
  clear hv
  by_cases hbig : 1048576 < ps.length
  · go_enter Try.func13, Try.ntmps13
    go_wp2_with (go_at_call 33; refine (sz_no vps ps w _ HV.out hm hbig).mono ?_; rintro e w' ⟨rfl, rfl⟩)
    go_ret
    exact ⟨rfl, Below.refl _ _⟩
  have hl : ps.length ≤ 1048576 := by omega
  clear hbig
  obtain ⟨rows, HZ⟩ : ∃ rows, Hid (tabV ps = rows) := ⟨_, Lib.hid rfl⟩
  obtain ⟨hs1, hs2⟩ := tabV_small ps
  rw [HZ.out] at hs1 hs2
  have hn1 : rows.length ≤ 1048576 := by omega
  have hn2 : ∀ zs ∈ rows, zs.length ≤ 1048576 := fun zs hz => Nat.le_trans (hs2 zs hz) (by decide)
  have hn3 : tot rows rows.length ≤ 1000000 := by have := tot_rows rows 12 hs2 rows.length; omega
  have HN2 := Lib.hid hn2
  obtain ⟨c0, HC0⟩ : ∃ c, Hid (codeL ps 0 12 = c) := ⟨_, Lib.hid rfl⟩
  obtain ⟨T, HT⟩ : ∃ T, Hid (tot rows rows.length = T) := ⟨_, Lib.hid rfl⟩
  have hT : T ≤ 1000000 := by rw [← HT.out]; exact hn3
  have hl2 : (ps.length : Int) ≤ 1048576 := by omega
  have HB0 := Lib.hid (Below.refl w.heap.size w)
  clear hs1 hs2 hn2
  go_enter Try.func13, Try.ntmps13
  go_wp2_with fail
  refine (sz_yes vps ps w _ HV.out hl).mono ?_
  rintro e w' ⟨rfl, rfl⟩
  have hsz0 : decide (1048576 - (ps.length : Int) < 0) = false := by simp; omega
  go_wp2_with fail
  refine (toS_any vps ps w (pat_up (pat_keep HV.out HB0.out) HB0.out.size) hl).mono ?_
  rintro e w1 ⟨ux0, rfl, hr, hb⟩
  have HB1 := Lib.hid (HB0.out.trans (hb.mono HB0.out.size))
  have R1 := Lib.hid hr
  have BZ2 := Lib.hid HB0.out.size
  clear hr hb
  go_wp2_with fail
  refine (specTable_any ux0 ps w1 (prow_at R1.out) hl).mono ?_
  rw [HC0.out, HZ.out]
  rintro e w2 ⟨vW, rfl, hr, hb⟩
  have HB2 := Lib.hid (HB1.out.trans (hb.mono HB1.out.size))
  have R3 := Lib.hid (prow_keep R1.out hb)
  have R4 := Lib.hid hr
  have C5 := Lib.hid (Nat.le_refl w2.heap.size)
  have BZ6 := Lib.hid HB1.out.size
  clear hr hb
  go_wp2_with fail
  refine (toS_any vps ps w2 (pat_up (pat_keep HV.out HB2.out) HB2.out.size) hl).mono ?_
  rintro e w3 ⟨ux1, rfl, hr, hb⟩
  have HB3 := Lib.hid (HB2.out.trans (hb.mono HB2.out.size))
  have R7 := Lib.hid (trow_keep R4.out (hb.mono C5.out))
  have C8 := Lib.hid (Nat.le_trans C5.out hb.size)
  have R9 := Lib.hid hr
  have BZ10 := Lib.hid HB2.out.size
  have HBX := Lib.hid hb.size
  clear hr hb
  go_wp2_with fail
  refine (implTable_any ux1 ps w3 (prow_at R9.out) hl).mono ?_
  rw [HC0.out, HZ.out]
  rintro e w4 ⟨vG, rfl, hr, hb⟩
  have HB4 := Lib.hid (HB3.out.trans (hb.mono HB3.out.size))
  have R11 := Lib.hid (trow_keep R7.out (hb.mono C8.out))
  have C12 := Lib.hid (Nat.le_trans C8.out hb.size)
  have R13 := Lib.hid (prow_keep R9.out hb)
  have R14 := Lib.hid hr
  have C15 := Lib.hid (Nat.le_refl w4.heap.size)
  have BZ16 := Lib.hid HB3.out.size
  have XW := Lib.hid (Nat.le_refl w2.heap.size)
  have XG := Lib.hid (fun (k : Nat) (hk : ux1.ownBlock = some k) => (World.ownsRow.lt R9.out k hk).2)
  have WG := Lib.hid HBX.out
  clear hr hb
  go_wp2_with fail
  refine (eqT_same vG vW _ _ _ _ rows w4 R14.out R11.out hn1 HN2.out).mono ?_
  rintro e w5 ⟨rfl, q, hw⟩
  have hb : Below w4.heap.size w4 w5 := by rw [hw]; exact below_drawn _ q
  clear hw
  have HB5 := Lib.hid (HB4.out.trans (hb.mono HB4.out.size))
  have R17 := Lib.hid (trow_keep R11.out (hb.mono C12.out))
  have C18 := Lib.hid (Nat.le_trans C12.out hb.size)
  have R19 := Lib.hid (prow_keep R13.out hb)
  have R20 := Lib.hid (trow_keep R14.out (hb.mono C15.out))
  have C21 := Lib.hid (Nat.le_trans C15.out hb.size)
  clear hb
  go_wp2_with fail
  refine (toS_any vps ps w5 (pat_up (pat_keep HV.out HB5.out) HB5.out.size) hl).mono ?_
  rintro e w6 ⟨ux2, rfl, hr, hb⟩
  have HB6 := Lib.hid (HB5.out.trans (hb.mono HB5.out.size))
  have R22 := Lib.hid (trow_keep R17.out (hb.mono C18.out))
  have C23 := Lib.hid (Nat.le_trans C18.out hb.size)
  have R24 := Lib.hid (prow_keep R19.out hb)
  have R25 := Lib.hid (trow_keep R20.out (hb.mono C21.out))
  have C26 := Lib.hid (Nat.le_trans C21.out hb.size)
  have R27 := Lib.hid hr
  have BZ28 := Lib.hid HB5.out.size
  clear hr hb
  go_wp2_with fail
  refine (eqS_same ux1 ux2 ps w6 (prow_at R24.out) (prow_at R27.out) hl).mono ?_
  rintro e w7 ⟨rfl, hb⟩
  have HB7 := Lib.hid (HB6.out.trans (hb.mono HB6.out.size))
  have R29 := Lib.hid (trow_keep R22.out (hb.mono C23.out))
  have C30 := Lib.hid (Nat.le_trans C23.out hb.size)
  have R31 := Lib.hid (prow_keep R24.out hb)
  have R32 := Lib.hid (trow_keep R25.out (hb.mono C26.out))
  have C33 := Lib.hid (Nat.le_trans C26.out hb.size)
  have R34 := Lib.hid (prow_keep R27.out hb)
  clear hb
  go_wp2_with fail
  refine (markS_any ux1 _ ps w7 R31.out hl).mono ?_
  rintro e w8 ⟨⟨rk, hrk, rfl⟩, hg⟩
  have HB8 := Lib.hid (show Below w.heap.size w w8 from HB7.out.grown hg HB7.out.size (fun k hk => Nat.le_trans BZ10.out (World.ownsRow.lt R31.out k hk).1))
  have R35 := Lib.hid (trow_other R29.out hg (fun k hk => .inr (Nat.le_trans XW.out (World.ownsRow.lt R31.out k hk).1)))
  have C36 := Lib.hid (Nat.le_trans C30.out hg.size)
  have R37 := Lib.hid (trow_other R32.out hg (fun k hk => .inl (XG.out k hk)))
  have C38 := Lib.hid (Nat.le_trans C33.out hg.size)
  have hrk2 : decide (rk < 0) = false := by simp; omega
  clear hg
  go_wp2_with fail
  refine (eqT_same vG vW _ _ _ _ rows w8 R37.out R35.out hn1 HN2.out).mono ?_
  rintro e w9 ⟨rfl, q, hw⟩
  have hb : Below w8.heap.size w8 w9 := by rw [hw]; exact below_drawn _ q
  clear hw
  have HB9 := Lib.hid (HB8.out.trans (hb.mono HB8.out.size))
  have R39 := Lib.hid (trow_keep R35.out (hb.mono C36.out))
  have C40 := Lib.hid (Nat.le_trans C36.out hb.size)
  have R41 := Lib.hid (trow_keep R37.out (hb.mono C38.out))
  have C42 := Lib.hid (Nat.le_trans C38.out hb.size)
  clear hb
  go_wp2_with fail
  refine (markT_any vG _ _ rows w9 R41.out hn1 hn3).mono ?_
  rintro e w10 ⟨rfl, hr, hb⟩
  have HB10 := Lib.hid (HB9.out.trans (hb.mono BZ16.out))
  have R43 := Lib.hid (trow_keep R39.out (hb.mono WG.out))
  have C44 := Lib.hid (Nat.le_trans C40.out hb.size)
  have R45 := Lib.hid hr
  have C46 := Lib.hid (Nat.le_trans C42.out hb.size)
  clear hr hb
  have hq0 : decide ((1 : Int) + (T : Int) < 0) = false := by simp; omega
  go_wp2_with fail
  refine (heldT_any vG _ _ rows w10 R45.out hn1 hn3).mono ?_
  rintro e w11 ⟨rfl, q, hw⟩
  have hb : Below w10.heap.size w10 w11 := by rw [hw]; exact below_drawn _ q
  clear hw
  have HB11 := Lib.hid (HB10.out.trans (hb.mono HB10.out.size))
  have R47 := Lib.hid (trow_keep R43.out (hb.mono C44.out))
  have C48 := Lib.hid (Nat.le_trans C44.out hb.size)
  have R49 := Lib.hid (trow_keep R45.out (hb.mono C46.out))
  have C50 := Lib.hid (Nat.le_trans C46.out hb.size)
  clear hb
  go_wp2_with fail
  refine (toS_any vps ps w11 (pat_up (pat_keep HV.out HB11.out) HB11.out.size) hl).mono ?_
  rintro e w12 ⟨ux3, rfl, hr, hb⟩
  have HB12 := Lib.hid (HB11.out.trans (hb.mono HB11.out.size))
  have R51 := Lib.hid (trow_keep R47.out (hb.mono C48.out))
  have C52 := Lib.hid (Nat.le_trans C48.out hb.size)
  have R53 := Lib.hid (trow_keep R49.out (hb.mono C50.out))
  have C54 := Lib.hid (Nat.le_trans C50.out hb.size)
  have R55 := Lib.hid hr
  have BZ56 := Lib.hid HB11.out.size
  clear hr hb
  go_wp2_with fail
  refine (implTable_any ux3 ps w12 (prow_at R55.out) hl).mono ?_
  rw [HC0.out, HZ.out]
  rintro e w13 ⟨vH, rfl, hr, hb⟩
  have HB13 := Lib.hid (HB12.out.trans (hb.mono HB12.out.size))
  have R57 := Lib.hid (trow_keep R51.out (hb.mono C52.out))
  have C58 := Lib.hid (Nat.le_trans C52.out hb.size)
  have R59 := Lib.hid (trow_keep R53.out (hb.mono C54.out))
  have C60 := Lib.hid (Nat.le_trans C54.out hb.size)
  have R61 := Lib.hid (prow_keep R55.out hb)
  have R62 := Lib.hid hr
  have C63 := Lib.hid (Nat.le_refl w13.heap.size)
  have BZ64 := Lib.hid HB12.out.size
  clear hr hb
  go_wp2_with fail
  refine (eqT_same vH vW _ _ _ _ rows w13 R62.out R57.out hn1 HN2.out).mono ?_
  rintro e w14 ⟨rfl, q, hw⟩
  have hb : Below w13.heap.size w13 w14 := by rw [hw]; exact below_drawn _ q
  clear hw
  have HB14 := Lib.hid (HB13.out.trans (hb.mono HB13.out.size))
  have R65 := Lib.hid (trow_keep R57.out (hb.mono C58.out))
  have C66 := Lib.hid (Nat.le_trans C58.out hb.size)
  have R67 := Lib.hid (trow_keep R59.out (hb.mono C60.out))
  have C68 := Lib.hid (Nat.le_trans C60.out hb.size)
  have R69 := Lib.hid (trow_keep R62.out (hb.mono C63.out))
  have C70 := Lib.hid (Nat.le_trans C63.out hb.size)
  clear hb
  go_wp2_with fail
  refine (heldT_any vG _ _ rows w14 R67.out hn1 hn3).mono ?_
  rintro e w15 ⟨rfl, q, hw⟩
  have hb : Below w14.heap.size w14 w15 := by rw [hw]; exact below_drawn _ q
  clear hw
  have HB15 := Lib.hid (HB14.out.trans (hb.mono HB14.out.size))
  have R71 := Lib.hid (trow_keep R65.out (hb.mono C66.out))
  have C72 := Lib.hid (Nat.le_trans C66.out hb.size)
  have R73 := Lib.hid (trow_keep R67.out (hb.mono C68.out))
  have C74 := Lib.hid (Nat.le_trans C68.out hb.size)
  have R75 := Lib.hid (trow_keep R69.out (hb.mono C70.out))
  have C76 := Lib.hid (Nat.le_trans C70.out hb.size)
  clear hb
  go_wp2
  go_ret
  exact ⟨rfl, HB15.out⟩

set_option maxRecDepth 100000 in
theorem lifted (os : Os) (started : os.Started) (H : Type) (enc : TypeId × Value → H) :
    ReturnsInHanded {} Try.checked os 13 .any (Rows.fnExactDistanceTableSpec.pre6 enc Try.prog Try.f13 Rows.fnExactDistanceTableRow.domain false) (Rows.fnExactDistanceTableSpec.post enc Try.prog Try.f13 false true false false) := by
  refine returnsInHanded_of_change (C := Try.checked) own started (by kernel_rfl) Try.func13
    (ChangeSpec.witness6 (enc := enc) (C := Try.checked) false ⟨#[], #[.slice none 0 0], []⟩ 8 (by kernel_rfl) (by kernel_rfl) (by kernel_rfl) (by kernel_rfl)) ?_
  intro W base args ds gs before hval0 hW hcnd _
  have hval : ∀ (j : Nat) t v, Try.f13.params[j]? = some t → args[j]? = some v → Value.okWide Try.prog W .any base t v := hval0
  have hW' := hW
  obtain ⟨p, q, hA0, hV, hpq, hfz, hnd⟩ := hW
  have hA : DataW.TrodAll enc Try.prog W 0 (fun _ => true) true Try.f13.params.toList args.toList ds p := hA0
  rw [Try.params13] at hA hval
  obtain ⟨v0, vs0, d0, ds0, p0, q0, hargs, rfl, rfl, h0, r0⟩ := trodAll_cons hA
  obtain ⟨rfl, rfl, rfl⟩ := trodAll_nil r0
  obtain rfl : args = #[v0] := by cases args; simp_all
  obtain ⟨a0, len0, cap0, rfl⟩ := okWide_slice Try.underlying50 (hval 0 50 v0 rfl rfl)
  obtain ⟨fuel0, hf0⟩ := h0
  obtain ⟨ps0, hp0, hl0⟩ := Go.Proofs.Ytbggbgfmahnjkaa.pairs.open_list hf0 ⟨_, _, _, rfl⟩
  refine (walk (.slice a0 len0 cap0) ps0 W hp0 hl0).mono fun e W' ⟨he, bel⟩ => ?_
  subst he
  exact ⟨_, rfl, post_of_law laidOut (by kernel_rfl) Try.underlying4 rfl rfl (fun ds h => by match ds, h with | [_], _ => rfl) hW' bel⟩

theorem holds : Rows.FnExactDistanceTableSaid :=
  OpenClaim.holds_of_wide 13 Try.f13 rfl rfl rfl rfl rfl rfl rfl ⟨rfl, rfl, rfl, rfl, rfl⟩ rfl rfl rfl rfl rfl (by kernel_rfl) Try.func13 (by kernel_rfl)
    (of_decide_eq_true (by kernel_rfl)) (by unfold Func.isWrapper; first | (rw [if_pos (by decide +kernel)]; kernel_rfl) | (rw [if_neg (by decide +kernel)]; exact ⟨rfl, rfl⟩))
    (fun os started H enc _ => lifted os started H enc)
#print axioms holds

end Go.Proofs.Ytbggbgfmahnjkaa.distanceTable
