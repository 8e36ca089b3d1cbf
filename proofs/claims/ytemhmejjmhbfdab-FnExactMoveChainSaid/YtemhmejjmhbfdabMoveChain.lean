/- FnExactMoveChain answers true for every list of places and every two numbers. -/
import Derived.Test.YtemhmejjmhbfdabJoinS4
import Derived.Test.YtemhmejjmhbfdabJoinI4
import Derived.Test.YtemhmejjmhbfdabIArgs
import Derived.Test.YtemhmejjmhbfdabOwn2P
namespace Go.Proofs.Ytemhmejjmhbfdab.moveChain
open Go.ChangeShapes Go.WideShapes Go.ChangeAt Go.RowKit Go.Proofs.Ytemhmejjmhbfdab.spots Go.Proofs.Ytemhmejjmhbfdab.sines Go.Proofs.Ytemhmejjmhbfdab.irows Go.Proofs.Ytemhmejjmhbfdab.pairsPlace Go.Proofs.Ytemhmejjmhbfdab.own2P

set_option maxRecDepth 100000 in
set_option maxHeartbeats 2000000 in
theorem walk (vps : Value) (ps : List (Int × Int)) (x : Int) (y : Int) (w : World) (hvps : PAt w w.heap.size vps ps) (hmps : ps.length ≤ maxLen) (_ : (Lit.int .i64 x).wf = true) (_ : (Lit.int .i64 y).wf = true) :
    Calls Try.prog 8 #[vps, .int .i64 x, .int .i64 y] w fun e w' => e = .returned (.bool true) ∧ Below w.heap.size w w' := by
  have HVps := Lib.hid hvps
  clear hvps
  by_cases hbig : 1048576 < ps.length
  · go_enter Try.func8, Try.ntmps8
    go_wp2_with fail
    refine (sz_no vps ps w _ HVps.out hmps hbig).mono ?_
    rintro e w' ⟨rfl, rfl⟩
    go_wp2
    go_ret
    exact ⟨rfl, Below.refl _ _⟩
  have hlps : ps.length ≤ 1048576 := by omega
  clear hbig
  have hLps : (ps.length : Int) ≤ 1048576 := by omega
  have hsz0 : decide (1048576 - (ps.length : Int) < 0) = false := by simp; omega
  obtain ⟨rs, HZ⟩ : ∃ rs, Hid (moveL ps x y = rs) := ⟨_, Lib.hid rfl⟩
  have hn : rs.length ≤ 1048576 := by rw [← HZ.out]; exact Nat.le_trans (moveL_len ps x y) (by omega)
  obtain ⟨c0, HC0⟩ : ∃ c, Hid (codeM ps x y = c) := ⟨_, Lib.hid rfl⟩
  have HB0 := Lib.hid (Below.refl w.heap.size w)
  go_enter Try.func8, Try.ntmps8
  go_wp2_with fail
  refine (sz_yes vps ps w _ HVps.out hlps).mono ?_
  rintro e w' ⟨rfl, rfl⟩
  go_wp2_with fail
  refine (toS_any vps ps w HVps.out hlps).mono ?_
  rintro e w1 ⟨ux0_0, rfl, hr, hb⟩
  have HB1 := Lib.hid (HB0.out.trans (hb.mono HB0.out.size))
  have R1 := Lib.hid hr
  clear hr
  clear hb
  have BZ2 := Lib.hid (show w.heap.size ≤ w.heap.size from Nat.le_refl _)
  go_wp2_with fail
  refine (specMoveChain_any ux0_0 ps x y w1 (prow_at R1.out) hlps).mono ?_
  rw [HC0.out]
  rintro e w2 ⟨vr3, rfl, hr, hb⟩
  rw [HZ.out] at hr
  have HB2 := Lib.hid (HB1.out.trans (hb.mono HB1.out.size))
  have R4 := Lib.hid (prow_keep R1.out hb)
  have R5 := Lib.hid hr
  have NE6 := Lib.hid (ne_of R1.out R5.out)
  have NE7 := Lib.hid (ne_of' R1.out R5.out)
  clear hr
  clear hb
  have BZ8 := Lib.hid (show w.heap.size ≤ w1.heap.size from HB1.out.size)
  go_wp2_with fail
  refine (toS_any vps ps w2 (pat_up (pat_keep HVps.out HB2.out) HB2.out.size) hlps).mono ?_
  rintro e w3 ⟨ux1_0, rfl, hr, hb⟩
  have HB3 := Lib.hid (HB2.out.trans (hb.mono HB2.out.size))
  have R9 := Lib.hid (prow_keep R5.out hb)
  have R10 := Lib.hid hr
  have NE11 := Lib.hid (ne_of R5.out R10.out)
  have NE12 := Lib.hid (ne_of' R5.out R10.out)
  clear hr
  clear hb
  have BZ13 := Lib.hid (show w.heap.size ≤ w2.heap.size from HB2.out.size)
  go_wp2_with fail
  refine (implMoveChain_any ux1_0 ps x y w3 (prow_at R10.out) hlps).mono ?_
  rw [HC0.out]
  rintro e w4 ⟨vr14, rfl, hr, hb⟩
  rw [HZ.out] at hr
  have HB4 := Lib.hid (HB3.out.trans (hb.mono HB3.out.size))
  have R15 := Lib.hid (prow_keep R9.out hb)
  have R16 := Lib.hid (prow_keep R10.out hb)
  have R17 := Lib.hid hr
  have NE18 := Lib.hid (ne_of R9.out R17.out)
  have NE19 := Lib.hid (ne_of' R9.out R17.out)
  have NE20 := Lib.hid (ne_of R10.out R17.out)
  have NE21 := Lib.hid (ne_of' R10.out R17.out)
  clear hr
  clear hb
  have BZ22 := Lib.hid (show w.heap.size ≤ w3.heap.size from HB3.out.size)
  go_wp2_with fail
  refine (eqS_same vr14 vr3 rs w4 (prow_at R17.out) (prow_at R15.out) hn).mono ?_
  rintro e w5 ⟨rfl, hb⟩
  have HB5 := Lib.hid (HB4.out.trans (hb.mono HB4.out.size))
  have R23 := Lib.hid (prow_keep R15.out hb)
  have R24 := Lib.hid (prow_keep R16.out hb)
  have R25 := Lib.hid (prow_keep R17.out hb)
  clear hb
  go_wp2_with fail
  refine (toS_any vps ps w5 (pat_up (pat_keep HVps.out HB5.out) HB5.out.size) hlps).mono ?_
  rintro e w6 ⟨ux2_0, rfl, hr, hb⟩
  have HB6 := Lib.hid (HB5.out.trans (hb.mono HB5.out.size))
  have R26 := Lib.hid (prow_keep R23.out hb)
  have R27 := Lib.hid (prow_keep R24.out hb)
  have R28 := Lib.hid (prow_keep R25.out hb)
  have R29 := Lib.hid hr
  have NE30 := Lib.hid (ne_of R23.out R29.out)
  have NE31 := Lib.hid (ne_of' R23.out R29.out)
  have NE32 := Lib.hid (ne_of R24.out R29.out)
  have NE33 := Lib.hid (ne_of' R24.out R29.out)
  have NE34 := Lib.hid (ne_of R25.out R29.out)
  have NE35 := Lib.hid (ne_of' R25.out R29.out)
  clear hr
  clear hb
  have BZ36 := Lib.hid (show w.heap.size ≤ w5.heap.size from HB5.out.size)
  go_wp2_with fail
  refine (eqS_same ux1_0 ux2_0 ps w6 (prow_at R27.out) (prow_at R29.out) hlps).mono ?_
  rintro e w7 ⟨rfl, hb⟩
  have HB7 := Lib.hid (HB6.out.trans (hb.mono HB6.out.size))
  have R37 := Lib.hid (prow_keep R26.out hb)
  have R38 := Lib.hid (prow_keep R27.out hb)
  have R39 := Lib.hid (prow_keep R28.out hb)
  have R40 := Lib.hid (prow_keep R29.out hb)
  clear hb
  go_wp2_with fail
  refine (markP_any ux1_0 _ ps w7 R38.out hlps).mono ?_
  rintro e w8 ⟨rfl, _, hg⟩
  have HB8 := Lib.hid (show Below w.heap.size w w8 from HB7.out.grown hg HB7.out.size (fun k hk => Nat.le_trans BZ13.out (World.ownsRow.lt R38.out k hk).1))
  have R41 := Lib.hid (kept_p R37.out hg NE11.out)
  have R42 := Lib.hid (kept_p R39.out hg NE21.out)
  clear hg
  have hk0 : decide (1 + 2 * (ps.length : Int) < 0) = false := by simp; omega
  go_wp2_with fail
  refine (eqS_same vr14 vr3 rs w8 (prow_at R42.out) (prow_at R41.out) hn).mono ?_
  rintro e w9 ⟨rfl, hb⟩
  have HB9 := Lib.hid (HB8.out.trans (hb.mono HB8.out.size))
  have R43 := Lib.hid (prow_keep R41.out hb)
  have R44 := Lib.hid (prow_keep R42.out hb)
  clear hb
  go_wp2_with fail
  refine (markP_any vr14 _ rs w9 R44.out hn).mono ?_
  rintro e w10 ⟨rfl, hr, hg⟩
  have HB10 := Lib.hid (show Below w.heap.size w w10 from HB9.out.grown hg HB9.out.size (fun k hk => Nat.le_trans BZ22.out (World.ownsRow.lt R44.out k hk).1))
  have R45 := Lib.hid (kept_p R43.out hg NE18.out)
  have R46 := Lib.hid hr
  clear hg hr
  have hn0 : decide (1 + 2 * (rs.length : Int) < 0) = false := by simp; omega
  go_wp2_with fail
  refine (heldP_any vr14 _ rs.length w10 R46.out hn).mono ?_
  rintro e w11 ⟨rfl, q, hw⟩
  have hb : Below w10.heap.size w10 w11 := by rw [hw]; exact below_drawn _ q
  clear hw
  have HB11 := Lib.hid (HB10.out.trans (hb.mono HB10.out.size))
  have R47 := Lib.hid (prow_keep R45.out hb)
  have R48 := Lib.hid (prow_keep R46.out hb)
  clear hb
  go_wp2_with fail
  refine (toS_any vps ps w11 (pat_up (pat_keep HVps.out HB11.out) HB11.out.size) hlps).mono ?_
  rintro e w12 ⟨ux3_0, rfl, hr, hb⟩
  have HB12 := Lib.hid (HB11.out.trans (hb.mono HB11.out.size))
  have R49 := Lib.hid (prow_keep R47.out hb)
  have R50 := Lib.hid (prow_keep R48.out hb)
  have R51 := Lib.hid hr
  have NE52 := Lib.hid (ne_of R47.out R51.out)
  have NE53 := Lib.hid (ne_of' R47.out R51.out)
  have NE54 := Lib.hid (ne_of R48.out R51.out)
  have NE55 := Lib.hid (ne_of' R48.out R51.out)
  clear hr
  clear hb
  have BZ56 := Lib.hid (show w.heap.size ≤ w11.heap.size from HB11.out.size)
  go_wp2_with fail
  refine (implMoveChain_any ux3_0 ps x y w12 (prow_at R51.out) hlps).mono ?_
  rw [HC0.out]
  rintro e w13 ⟨vr57, rfl, hr, hb⟩
  rw [HZ.out] at hr
  have HB13 := Lib.hid (HB12.out.trans (hb.mono HB12.out.size))
  have R58 := Lib.hid (prow_keep R49.out hb)
  have R59 := Lib.hid (prow_keep R50.out hb)
  have R60 := Lib.hid (prow_keep R51.out hb)
  have R61 := Lib.hid hr
  have NE62 := Lib.hid (ne_of R49.out R61.out)
  have NE63 := Lib.hid (ne_of' R49.out R61.out)
  have NE64 := Lib.hid (ne_of R50.out R61.out)
  have NE65 := Lib.hid (ne_of' R50.out R61.out)
  have NE66 := Lib.hid (ne_of R51.out R61.out)
  have NE67 := Lib.hid (ne_of' R51.out R61.out)
  clear hr
  clear hb
  have BZ68 := Lib.hid (show w.heap.size ≤ w12.heap.size from HB12.out.size)
  go_wp2_with fail
  refine (eqS_same vr57 vr3 rs w13 (prow_at R61.out) (prow_at R58.out) hn).mono ?_
  rintro e w14 ⟨rfl, hb⟩
  have HB14 := Lib.hid (HB13.out.trans (hb.mono HB13.out.size))
  have R69 := Lib.hid (prow_keep R58.out hb)
  have R70 := Lib.hid (prow_keep R59.out hb)
  have R71 := Lib.hid (prow_keep R61.out hb)
  clear hb
  go_wp2_with fail
  refine (heldP_any vr14 _ rs.length w14 R70.out hn).mono ?_
  rintro e w15 ⟨rfl, q, hw⟩
  have hb : Below w14.heap.size w14 w15 := by rw [hw]; exact below_drawn _ q
  clear hw
  have HB15 := Lib.hid (HB14.out.trans (hb.mono HB14.out.size))
  have R72 := Lib.hid (prow_keep R69.out hb)
  have R73 := Lib.hid (prow_keep R70.out hb)
  have R74 := Lib.hid (prow_keep R71.out hb)
  clear hb
  go_wp2
  go_ret
  exact ⟨rfl, HB15.out⟩

set_option maxRecDepth 100000 in
theorem lifted (os : Os) (started : os.Started) (H : Type) (enc : TypeId × Value → H) :
    ReturnsInHanded {} Try.checked os 8 .any (Rows.fnExactMoveChainSpec.pre6 enc Try.prog Try.f8 Rows.fnExactMoveChainRow.domain false) (Rows.fnExactMoveChainSpec.post enc Try.prog Try.f8 false true false false) := by
  refine returnsInHanded_of_change (C := Try.checked) own started (by kernel_rfl) Try.func8
    (ChangeSpec.witness6 (enc := enc) (C := Try.checked) false ⟨#[], #[.slice none 0 0, .int .i64 0, .int .i64 0], []⟩ 8 (by kernel_rfl) (by kernel_rfl) (by kernel_rfl) (by kernel_rfl)) ?_
  intro W base args ds gs before hval0 hW hcnd _
  have hval : ∀ (j : Nat) t v, Try.f8.params[j]? = some t → args[j]? = some v → Value.okWide Try.prog W .any base t v := hval0
  have hW' := hW
  obtain ⟨p, q, hA0, hV, hpq, hfz, hnd⟩ := hW
  have hA : DataW.TrodAll enc Try.prog W 0 (fun _ => true) true Try.f8.params.toList args.toList ds p := hA0
  rw [Try.params8] at hA hval
  obtain ⟨v0, vs0, d0, ds0, p0, q0, hargs, rfl, rfl, h0, r0⟩ := trodAll_cons hA
  obtain ⟨v1, vs1, d1, ds1, p1, q1, rfl, rfl, rfl, h1, r1⟩ := trodAll_cons r0
  obtain ⟨v2, vs2, d2, ds2, p2, q2, rfl, rfl, rfl, h2, r2⟩ := trodAll_cons r1
  obtain ⟨rfl, rfl, rfl⟩ := trodAll_nil r2
  obtain rfl : args = #[v0, v1, v2] := by cases args; simp_all
  obtain ⟨a0, len0, cap0, rfl⟩ := okWide_slice Try.underlying58 (hval 0 58 v0 rfl rfl)
  obtain ⟨fuel0, hf0⟩ := h0
  obtain ⟨ps0, hp0, hl0⟩ := Go.Proofs.Ytemhmejjmhbfdab.pairsPlace.open_list hf0 ⟨_, _, _, rfl⟩
  obtain ⟨a1, rfl, _, _, w1⟩ := open_int Try.underlying2 (hval 1 2 v1 rfl rfl) h1
  obtain ⟨a2, rfl, _, _, w2⟩ := open_int Try.underlying2 (hval 2 2 v2 rfl rfl) h2
  refine (walk (.slice a0 len0 cap0) ps0 a1 a2 W hp0 hl0 w1 w2).mono fun e W' ⟨he, bel⟩ => ?_
  subst he
  exact ⟨_, rfl, post_of_law laidOut (by kernel_rfl) Try.underlying4 rfl rfl (fun ds h => by match ds, h with | [_, _, _], _ => rfl) hW' bel⟩

theorem holds : Rows.FnExactMoveChainSaid :=
  OpenClaim.holds_of_wide 8 Try.f8 rfl rfl rfl rfl rfl rfl rfl ⟨rfl, rfl, rfl, rfl, rfl⟩ rfl rfl rfl rfl rfl (by kernel_rfl) Try.func8 (by kernel_rfl)
    (of_decide_eq_true (by kernel_rfl)) (by unfold Func.isWrapper; first | (rw [if_pos (by decide +kernel)]; kernel_rfl) | (rw [if_neg (by decide +kernel)]; exact ⟨rfl, rfl⟩))
    (fun os started H enc _ => lifted os started H enc)
#print axioms holds

end Go.Proofs.Ytemhmejjmhbfdab.moveChain
