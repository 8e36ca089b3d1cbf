/- FnExactFirstClash answers true for every number of lands, every list of borders and of colours. -/
import Derived.Test.YtemhmejjmhbfdabColsI
import Derived.Test.YtemhmejjmhbfdabOwn2B
import Derived.Test.YtemhmejjmhbfdabIArg9
namespace Go.Proofs.Ytemhmejjmhbfdab.firstClash
open Go.ChangeShapes Go.WideShapes Go.ChangeAt Go.RowKit Go.Proofs.Ytemhmejjmhbfdab.spots Go.Proofs.Ytemhmejjmhbfdab.sines Go.Proofs.Ytemhmejjmhbfdab.irows Go.Proofs.Ytemhmejjmhbfdab.pairsBorder Go.Proofs.Ytemhmejjmhbfdab.own2B

set_option maxRecDepth 100000 in
set_option maxHeartbeats 2000000 in
theorem walk (n : Int) (vps : Value) (ps : List (Int × Int)) (vcs : Value) (cs : List Int) (w : World) (_ : (Lit.int .i64 n).wf = true) (hvps : PAt w w.heap.size vps ps) (hmps : ps.length ≤ maxLen) (hvcs : IAt w w.heap.size vcs cs) (hmcs : cs.length ≤ maxLen) :
    Calls Try.prog 5 #[.int .i64 n, vps, vcs] w fun e w' => e = .returned (.bool true) ∧ Below w.heap.size w w' := by
  have HVps := Lib.hid hvps
  clear hvps
  have HVcs := Lib.hid hvcs
  clear hvcs
  obtain ⟨lacs, lccs, lvcs⟩ : ∃ a c, vcs = .slice a cs.length c := by obtain ⟨a, c, e, _⟩ := HVcs.out; exact ⟨a, c, e⟩
  subst lvcs
  unfold maxLen at hmcs
  by_cases hbig : (1048576 : Int) < (cs.length : Int)
  · have hbig2 : (cs.length : Int) ≤ 9223372036854775807 := by omega
    go_enter Try.func5, Try.ntmps5
    go_wp2
    go_ret
    exact ⟨rfl, Below.refl _ _⟩
  have hlcs : cs.length ≤ 1048576 := by omega
  have hbcs : decide ((1048576 : Int) < (cs.length : Int)) = false := by simpa using hbig
  clear hbig
  have hLcs : (cs.length : Int) ≤ 1048576 := by omega
  by_cases hbig : 1048576 < ps.length
  · go_enter Try.func5, Try.ntmps5
    go_wp2_with fail
    refine (sz_no vps ps w _ HVps.out hmps hbig).mono ?_
    rintro e w' ⟨rfl, rfl⟩
    go_wp2
    go_ret
    exact ⟨rfl, Below.refl _ _⟩
  have hlps : ps.length ≤ 1048576 := by omega
  clear hbig
  have hLps : (ps.length : Int) ≤ 1048576 := by omega
  have hsz0 : decide (1048576 - (ps.length : Int) < 0) = false := by simp; omega
  obtain ⟨c0, HC0⟩ : ∃ c, Hid (valFC n ps cs = c) := ⟨_, Lib.hid rfl⟩
  obtain ⟨c1, HC1⟩ : ∃ c, Hid (codeFC n ps cs = c) := ⟨_, Lib.hid rfl⟩
  have HB0 := Lib.hid (Below.refl w.heap.size w)
  go_enter Try.func5, Try.ntmps5
  go_wp2_with fail
  refine (sz_yes vps ps w _ HVps.out hlps).mono ?_
  rintro e w' ⟨rfl, rfl⟩
  go_wp2_with fail
  refine (toS_any vps ps w HVps.out hlps).mono ?_
  rintro e w1 ⟨ux0_0, rfl, hr, hb⟩
  have HB1 := Lib.hid (HB0.out.trans (hb.mono HB0.out.size))
  have R1 := Lib.hid hr
  clear hr
  clear hb
  have BZ2 := Lib.hid (show w.heap.size ≤ w.heap.size from Nat.le_refl _)
  go_wp2_with fail
  refine (toI_any (.slice lacs cs.length lccs) cs w1 (iat_up (iat_keep HVcs.out HB1.out) HB1.out.size) hlcs).mono ?_
  rintro e w2 ⟨ux0_1, rfl, hr, hb⟩
  have HB2 := Lib.hid (HB1.out.trans (hb.mono HB1.out.size))
  have R3 := Lib.hid (prow_keep R1.out hb)
  have R4 := Lib.hid hr
  have NE5 := Lib.hid (ne_of R1.out R4.out)
  have NE6 := Lib.hid (ne_of' R1.out R4.out)
  clear hr
  clear hb
  have BZ7 := Lib.hid (show w.heap.size ≤ w1.heap.size from HB1.out.size)
  go_wp2_with fail
  refine (specFC_any n ux0_0 ux0_1 ps cs w2 (prow_at R3.out) (iat_of_row R4.out) hlps hlcs).mono ?_
  rw [HC0.out]
  rw [HC1.out]
  rintro e w3 ⟨rfl, hb⟩
  have HB3 := Lib.hid (HB2.out.trans (hb.mono HB2.out.size))
  have R8 := Lib.hid (prow_keep R3.out hb)
  have R9 := Lib.hid (irow_keep R4.out hb)
  clear hb
  go_wp2_with fail
  refine (toS_any vps ps w3 (pat_up (pat_keep HVps.out HB3.out) HB3.out.size) hlps).mono ?_
  rintro e w4 ⟨ux1_0, rfl, hr, hb⟩
  have HB4 := Lib.hid (HB3.out.trans (hb.mono HB3.out.size))
  have R10 := Lib.hid hr
  clear hr
  clear hb
  have BZ11 := Lib.hid (show w.heap.size ≤ w3.heap.size from HB3.out.size)
  go_wp2_with fail
  refine (toI_any (.slice lacs cs.length lccs) cs w4 (iat_up (iat_keep HVcs.out HB4.out) HB4.out.size) hlcs).mono ?_
  rintro e w5 ⟨ux1_1, rfl, hr, hb⟩
  have HB5 := Lib.hid (HB4.out.trans (hb.mono HB4.out.size))
  have R12 := Lib.hid (prow_keep R10.out hb)
  have R13 := Lib.hid hr
  have NE14 := Lib.hid (ne_of R10.out R13.out)
  have NE15 := Lib.hid (ne_of' R10.out R13.out)
  clear hr
  clear hb
  have BZ16 := Lib.hid (show w.heap.size ≤ w4.heap.size from HB4.out.size)
  go_wp2_with fail
  refine (implFC_any n ux1_0 ux1_1 ps cs w5 (prow_at R12.out) (iat_of_row R13.out) hlps hlcs).mono ?_
  rw [HC0.out]
  rw [HC1.out]
  rintro e w6 ⟨rfl, hb⟩
  have HB6 := Lib.hid (HB5.out.trans (hb.mono HB5.out.size))
  have R17 := Lib.hid (prow_keep R12.out hb)
  have R18 := Lib.hid (irow_keep R13.out hb)
  clear hb
  go_wp2_with fail
  refine (toS_any vps ps w6 (pat_up (pat_keep HVps.out HB6.out) HB6.out.size) hlps).mono ?_
  rintro e w7 ⟨ux2_0, rfl, hr, hb⟩
  have HB7 := Lib.hid (HB6.out.trans (hb.mono HB6.out.size))
  have R19 := Lib.hid (prow_keep R17.out hb)
  have R20 := Lib.hid (irow_keep R18.out hb)
  have R21 := Lib.hid hr
  have NE22 := Lib.hid (ne_of R17.out R21.out)
  have NE23 := Lib.hid (ne_of' R17.out R21.out)
  have NE24 := Lib.hid (ne_of R18.out R21.out)
  have NE25 := Lib.hid (ne_of' R18.out R21.out)
  clear hr
  clear hb
  have BZ26 := Lib.hid (show w.heap.size ≤ w6.heap.size from HB6.out.size)
  go_wp2_with fail
  refine (eqS_same ux1_0 ux2_0 ps w7 (prow_at R19.out) (prow_at R21.out) hlps).mono ?_
  rintro e w8 ⟨rfl, hb⟩
  have HB8 := Lib.hid (HB7.out.trans (hb.mono HB7.out.size))
  have R27 := Lib.hid (prow_keep R19.out hb)
  have R28 := Lib.hid (irow_keep R20.out hb)
  have R29 := Lib.hid (prow_keep R21.out hb)
  clear hb
  go_wp2_with fail
  refine (toI_any (.slice lacs cs.length lccs) cs w8 (iat_up (iat_keep HVcs.out HB8.out) HB8.out.size) hlcs).mono ?_
  rintro e w9 ⟨ux2_1, rfl, hr, hb⟩
  have HB9 := Lib.hid (HB8.out.trans (hb.mono HB8.out.size))
  have R30 := Lib.hid (prow_keep R27.out hb)
  have R31 := Lib.hid (irow_keep R28.out hb)
  have R32 := Lib.hid hr
  have NE33 := Lib.hid (ne_of R27.out R32.out)
  have NE34 := Lib.hid (ne_of' R27.out R32.out)
  have NE35 := Lib.hid (ne_of R28.out R32.out)
  have NE36 := Lib.hid (ne_of' R28.out R32.out)
  clear hr
  clear hb
  have BZ37 := Lib.hid (show w.heap.size ≤ w8.heap.size from HB8.out.size)
  go_wp2_with fail
  refine (eq_same ux1_1 ux2_1 _ _ cs w9 R31.out R32.out (by omega)).mono ?_
  rintro e w10 ⟨rfl, q, hw⟩
  have hb : Below w9.heap.size w9 w10 := by rw [hw]; exact below_drawn _ q
  clear hw
  have HB10 := Lib.hid (HB9.out.trans (hb.mono HB9.out.size))
  have R38 := Lib.hid (prow_keep R30.out hb)
  have R39 := Lib.hid (irow_keep R31.out hb)
  have R40 := Lib.hid (irow_keep R32.out hb)
  clear hb
  go_wp2
  go_ret
  exact ⟨rfl, HB10.out⟩

set_option maxRecDepth 100000 in
theorem lifted (os : Os) (started : os.Started) (H : Type) (enc : TypeId × Value → H) :
    ReturnsInHanded {} Try.checked os 5 .any (Rows.fnExactFirstClashSpec.pre6 enc Try.prog Try.f5 Rows.fnExactFirstClashRow.domain false) (Rows.fnExactFirstClashSpec.post enc Try.prog Try.f5 false true false false) := by
  refine returnsInHanded_of_change (C := Try.checked) own started (by kernel_rfl) Try.func5
    (ChangeSpec.witness6 (enc := enc) (C := Try.checked) false ⟨#[], #[.int .i64 0, .slice none 0 0, .slice none 0 0], []⟩ 8 (by kernel_rfl) (by kernel_rfl) (by kernel_rfl) (by kernel_rfl)) ?_
  intro W base args ds gs before hval0 hW hcnd _
  have hval : ∀ (j : Nat) t v, Try.f5.params[j]? = some t → args[j]? = some v → Value.okWide Try.prog W .any base t v := hval0
  have hW' := hW
  obtain ⟨p, q, hA0, hV, hpq, hfz, hnd⟩ := hW
  have hA : DataW.TrodAll enc Try.prog W 0 (fun _ => true) true Try.f5.params.toList args.toList ds p := hA0
  rw [Try.params5] at hA hval
  obtain ⟨v0, vs0, d0, ds0, p0, q0, hargs, rfl, rfl, h0, r0⟩ := trodAll_cons hA
  obtain ⟨v1, vs1, d1, ds1, p1, q1, rfl, rfl, rfl, h1, r1⟩ := trodAll_cons r0
  obtain ⟨v2, vs2, d2, ds2, p2, q2, rfl, rfl, rfl, h2, r2⟩ := trodAll_cons r1
  obtain ⟨rfl, rfl, rfl⟩ := trodAll_nil r2
  obtain rfl : args = #[v0, v1, v2] := by cases args; simp_all
  obtain ⟨a0, rfl, _, _, w0⟩ := open_int Try.underlying2 (hval 0 2 v0 rfl rfl) h0
  obtain ⟨a1, len1, cap1, rfl⟩ := okWide_slice Try.underlying38 (hval 1 38 v1 rfl rfl)
  obtain ⟨fuel1, hf1⟩ := h1
  obtain ⟨ps1, hp1, hl1⟩ := Go.Proofs.Ytemhmejjmhbfdab.pairsBorder.open_list hf1 ⟨_, _, _, rfl⟩
  obtain ⟨a2, len2, cap2, rfl⟩ := okWide_slice Try.underlying39 (hval 2 39 v2 rfl rfl)
  obtain ⟨fuel2, hf2⟩ := h2
  obtain ⟨zs2, hp2, hl2⟩ := Go.Proofs.Ytemhmejjmhbfdab.sines.open_ilist hf2 ⟨_, _, _, rfl⟩
  refine (walk a0 (.slice a1 len1 cap1) ps1 (.slice a2 len2 cap2) zs2 W w0 hp1 hl1 hp2 hl2).mono fun e W' ⟨he, bel⟩ => ?_
  subst he
  exact ⟨_, rfl, post_of_law laidOut (by kernel_rfl) Try.underlying4 rfl rfl (fun ds h => by match ds, h with | [_, _, _], _ => rfl) hW' bel⟩

theorem holds : Rows.FnExactFirstClashSaid :=
  OpenClaim.holds_of_wide 5 Try.f5 rfl rfl rfl rfl rfl rfl rfl ⟨rfl, rfl, rfl, rfl, rfl⟩ rfl rfl rfl rfl rfl (by kernel_rfl) Try.func5 (by kernel_rfl)
    (of_decide_eq_true (by kernel_rfl)) (by unfold Func.isWrapper; first | (rw [if_pos (by decide +kernel)]; kernel_rfl) | (rw [if_neg (by decide +kernel)]; exact ⟨rfl, rfl⟩))
    (fun os started H enc _ => lifted os started H enc)
#print axioms holds

end Go.Proofs.Ytemhmejjmhbfdab.firstClash
