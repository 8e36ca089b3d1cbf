/- FnExactIsClosed answers true for every list of places. -/
import Derived.Test.YtjailkgogmanfaaJoinI1
import Derived.Test.YtjailkgogmanfaaOwn2P
namespace Go.Proofs.Ytjailkgogmanfaa.isClosed
open Go.ChangeShapes Go.WideShapes Go.ChangeAt Go.RowKit Go.Proofs.Ytjailkgogmanfaa.spots Go.Proofs.Ytjailkgogmanfaa.sines Go.Proofs.Ytjailkgogmanfaa.irows Go.Proofs.Ytjailkgogmanfaa.pairsPlace Go.Proofs.Ytjailkgogmanfaa.own2P

set_option maxRecDepth 100000 in
set_option maxHeartbeats 2000000 in
theorem walk (vps : Value) (ps : List (Int × Int)) (w : World) (hv : PAt w w.heap.size vps ps) (hm : ps.length ≤ maxLen) :
    Calls Try.prog 5 #[vps] w fun e w' => e = .returned (.bool true) ∧ Below w.heap.size w w' := by
  have HV := Lib.hid hv
  clear hv
  by_cases hbig : 1048576 < ps.length
  · go_enter Try.func5, Try.ntmps5
    go_wp2_with (go_at_call 43; refine (sz_no vps ps w _ HV.out hm hbig).mono ?_; rintro e w' ⟨rfl, rfl⟩)
    go_ret
    exact ⟨rfl, Below.refl _ _⟩
  have hl : ps.length ≤ 1048576 := by omega
  clear hbig
  obtain ⟨c0, HC0⟩ : ∃ c, Hid (isV ps = c) := ⟨_, Lib.hid rfl⟩
  obtain ⟨c1, HC1⟩ : ∃ c, Hid (code1 ps = c) := ⟨_, Lib.hid rfl⟩
  have hl2 : (ps.length : Int) ≤ 1048576 := by omega
  have HB0 := Lib.hid (Below.refl w.heap.size w)
  go_enter Try.func5, Try.ntmps5
  go_wp2_with fail
  refine (sz_yes vps ps w _ HV.out hl).mono ?_
  rintro e w' ⟨rfl, rfl⟩
  have hsz0 : decide (1048576 - (ps.length : Int) < 0) = false := by simp; omega
  go_wp2_with fail
  refine (toS_any vps ps w HV.out hl).mono ?_
  rintro e w1 ⟨ux0, rfl, hr, hb⟩
  have HB1 := Lib.hid (HB0.out.trans (hb.mono HB0.out.size))
  have R1 := Lib.hid hr
  clear hr
  clear hb
  have BZ2 := Lib.hid (show w.heap.size ≤ w.heap.size from Nat.le_refl _)
  go_wp2_with fail
  refine (specIsClosed_any ux0 ps w1 (prow_at R1.out) hl).mono ?_
  rw [HC0.out]
  rw [HC1.out]
  rintro e w2 ⟨rfl, hb⟩
  have HB2 := Lib.hid (HB1.out.trans (hb.mono HB1.out.size))
  have R3 := Lib.hid (prow_keep R1.out hb)
  clear hb
  go_wp2_with fail
  refine (toS_any vps ps w2 (pat_up (pat_keep HV.out HB2.out) HB2.out.size) hl).mono ?_
  rintro e w3 ⟨ux1, rfl, hr, hb⟩
  have HB3 := Lib.hid (HB2.out.trans (hb.mono HB2.out.size))
  have R4 := Lib.hid hr
  clear hr
  clear hb
  have BZ5 := Lib.hid (show w.heap.size ≤ w2.heap.size from HB2.out.size)
  go_wp2_with fail
  refine (implIsClosed_any ux1 ps w3 (prow_at R4.out) hl).mono ?_
  rw [HC0.out]
  rw [HC1.out]
  rintro e w4 ⟨rfl, hb⟩
  have HB4 := Lib.hid (HB3.out.trans (hb.mono HB3.out.size))
  have R6 := Lib.hid (prow_keep R4.out hb)
  clear hb
  go_wp2_with fail
  refine (toS_any vps ps w4 (pat_up (pat_keep HV.out HB4.out) HB4.out.size) hl).mono ?_
  rintro e w5 ⟨ux2, rfl, hr, hb⟩
  have HB5 := Lib.hid (HB4.out.trans (hb.mono HB4.out.size))
  have R7 := Lib.hid (prow_keep R6.out hb)
  have R8 := Lib.hid hr
  have NE9 := Lib.hid (ne_of R6.out R8.out)
  have NE10 := Lib.hid (ne_of' R6.out R8.out)
  clear hr
  clear hb
  have BZ11 := Lib.hid (show w.heap.size ≤ w4.heap.size from HB4.out.size)
  go_wp2_with fail
  refine (eqS_same ux1 ux2 ps w5 (prow_at R7.out) (prow_at R8.out) hl).mono ?_
  rintro e w6 ⟨rfl, hb⟩
  have HB6 := Lib.hid (HB5.out.trans (hb.mono HB5.out.size))
  have R12 := Lib.hid (prow_keep R7.out hb)
  have R13 := Lib.hid (prow_keep R8.out hb)
  clear hb
  go_wp2
  go_ret
  exact ⟨rfl, HB6.out⟩

set_option maxRecDepth 100000 in
theorem lifted (os : Os) (started : os.Started) (H : Type) (enc : TypeId × Value → H) :
    ReturnsInHanded {} Try.checked os 5 .any (Rows.fnExactIsClosedSpec.pre6 enc Try.prog Try.f5 Rows.fnExactIsClosedRow.domain false) (Rows.fnExactIsClosedSpec.post enc Try.prog Try.f5 false true false false) := by
  refine returnsInHanded_of_change (C := Try.checked) own started (by kernel_rfl) Try.func5
    (ChangeSpec.witness6 (enc := enc) (C := Try.checked) false ⟨#[], #[.slice none 0 0], []⟩ 8 (by kernel_rfl) (by kernel_rfl) (by kernel_rfl) (by kernel_rfl)) ?_
  intro W base args ds gs before hval0 hW hcnd _
  have hval : ∀ (j : Nat) t v, Try.f5.params[j]? = some t → args[j]? = some v → Value.okWide Try.prog W .any base t v := hval0
  have hW' := hW
  obtain ⟨p, q, hA0, hV, hpq, hfz, hnd⟩ := hW
  have hA : DataW.TrodAll enc Try.prog W 0 (fun _ => true) true Try.f5.params.toList args.toList ds p := hA0
  rw [Try.params5] at hA hval
  obtain ⟨v0, vs0, d0, ds0, p0, q0, hargs, rfl, rfl, h0, r0⟩ := trodAll_cons hA
  obtain ⟨rfl, rfl, rfl⟩ := trodAll_nil r0
  obtain rfl : args = #[v0] := by cases args; simp_all
  obtain ⟨a0, len0, cap0, rfl⟩ := okWide_slice Try.underlying51 (hval 0 51 v0 rfl rfl)
  obtain ⟨fuel0, hf0⟩ := h0
  obtain ⟨ps0, hp0, hl0⟩ := Go.Proofs.Ytjailkgogmanfaa.pairsPlace.open_list hf0 ⟨_, _, _, rfl⟩
  refine (walk (.slice a0 len0 cap0) ps0 W hp0 hl0).mono fun e W' ⟨he, bel⟩ => ?_
  subst he
  exact ⟨_, rfl, post_of_law laidOut (by kernel_rfl) Try.underlying4 rfl rfl (fun ds h => by match ds, h with | [_], _ => rfl) hW' bel⟩

theorem holds : Rows.FnExactIsClosedSaid :=
  OpenClaim.holds_of_wide 5 Try.f5 rfl rfl rfl rfl rfl rfl rfl ⟨rfl, rfl, rfl, rfl, rfl⟩ rfl rfl rfl rfl rfl (by kernel_rfl) Try.func5 (by kernel_rfl)
    (of_decide_eq_true (by kernel_rfl)) (by unfold Func.isWrapper; first | (rw [if_pos (by decide +kernel)]; kernel_rfl) | (rw [if_neg (by decide +kernel)]; exact ⟨rfl, rfl⟩))
    (fun os started H enc _ => lifted os started H enc)
#print axioms holds

end Go.Proofs.Ytjailkgogmanfaa.isClosed
