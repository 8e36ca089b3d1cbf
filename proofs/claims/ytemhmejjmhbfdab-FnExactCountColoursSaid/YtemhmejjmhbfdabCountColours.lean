/- FnExactCountColours answers true for every number of lands, of colours and every list of borders. -/
import Derived.Test.YtemhmejjmhbfdabColsI
import Derived.Test.YtemhmejjmhbfdabOwn2B
namespace Go.Proofs.Ytemhmejjmhbfdab.countColours
open Go.ChangeShapes Go.WideShapes Go.ChangeAt Go.RowKit Go.Proofs.Ytemhmejjmhbfdab.spots Go.Proofs.Ytemhmejjmhbfdab.sines Go.Proofs.Ytemhmejjmhbfdab.irows Go.Proofs.Ytemhmejjmhbfdab.pairsBorder Go.Proofs.Ytemhmejjmhbfdab.own2B

set_option maxRecDepth 100000 in
set_option maxHeartbeats 2000000 in
theorem walk (n : Int) (vps : Value) (ps : List (Int × Int)) (m : Int) (w : World) (_ : (Lit.int .i64 n).wf = true) (hv : PAt w w.heap.size vps ps) (hm : ps.length ≤ maxLen) (_ : (Lit.int .i64 m).wf = true) :
    Calls Try.prog 6 #[.int .i64 n, vps, .int .i64 m] w fun e w' => e = .returned (.bool true) ∧ Below w.heap.size w w' := by
  have HV := Lib.hid hv
  clear hv
  by_cases hbig : 1048576 < ps.length
  · go_enter Try.func6, Try.ntmps6
    go_wp2_with (go_at_call 18; refine (sz_no vps ps w _ HV.out hm hbig).mono ?_; rintro e w' ⟨rfl, rfl⟩)
    go_ret
    exact ⟨rfl, Below.refl _ _⟩
  have hl : ps.length ≤ 1048576 := by omega
  clear hbig
  obtain ⟨c0, HC0⟩ : ∃ c, Hid (valCo n ps m = c) := ⟨_, Lib.hid rfl⟩
  obtain ⟨c1, HC1⟩ : ∃ c, Hid (codeMc n ps m = c) := ⟨_, Lib.hid rfl⟩
  have hl2 : (ps.length : Int) ≤ 1048576 := by omega
  have HB0 := Lib.hid (Below.refl w.heap.size w)
  go_enter Try.func6, Try.ntmps6
  go_wp2_with fail
  refine (sz_yes vps ps w _ HV.out hl).mono ?_
  rintro e w' ⟨rfl, rfl⟩
  have hsz0 : decide (1048576 - (ps.length : Int) < 0) = false := by simp; omega
  go_wp2_with fail
  refine (toS_any vps ps w HV.out hl).mono ?_
  rintro e w1 ⟨ux0, rfl, hr, hb⟩
  have HB1 := Lib.hid (HB0.out.trans (hb.mono HB0.out.size))
  have R1 := Lib.hid hr
  clear hr
  clear hb
  have BZ2 := Lib.hid (show w.heap.size ≤ w.heap.size from Nat.le_refl _)
  go_wp2_with fail
  refine (specCo_any n ux0 ps m w1 (prow_at R1.out) hl).mono ?_
  rw [HC0.out]
  rw [HC1.out]
  rintro e w2 ⟨rfl, hb⟩
  have HB2 := Lib.hid (HB1.out.trans (hb.mono HB1.out.size))
  have R3 := Lib.hid (prow_keep R1.out hb)
  clear hb
  go_wp2_with fail
  refine (toS_any vps ps w2 (pat_up (pat_keep HV.out HB2.out) HB2.out.size) hl).mono ?_
  rintro e w3 ⟨ux1, rfl, hr, hb⟩
  have HB3 := Lib.hid (HB2.out.trans (hb.mono HB2.out.size))
  have R4 := Lib.hid hr
  clear hr
  clear hb
  have BZ5 := Lib.hid (show w.heap.size ≤ w2.heap.size from HB2.out.size)
  go_wp2_with fail
  refine (implCo_any n ux1 ps m w3 (prow_at R4.out) hl).mono ?_
  rw [HC0.out]
  rw [HC1.out]
  rintro e w4 ⟨rfl, hb⟩
  have HB4 := Lib.hid (HB3.out.trans (hb.mono HB3.out.size))
  have R6 := Lib.hid (prow_keep R4.out hb)
  clear hb
  go_wp2_with fail
  refine (toS_any vps ps w4 (pat_up (pat_keep HV.out HB4.out) HB4.out.size) hl).mono ?_
  rintro e w5 ⟨ux2, rfl, hr, hb⟩
  have HB5 := Lib.hid (HB4.out.trans (hb.mono HB4.out.size))
  have R7 := Lib.hid (prow_keep R6.out hb)
  have R8 := Lib.hid hr
  have NE9 := Lib.hid (ne_of R6.out R8.out)
  have NE10 := Lib.hid (ne_of' R6.out R8.out)
  clear hr
  clear hb
  have BZ11 := Lib.hid (show w.heap.size ≤ w4.heap.size from HB4.out.size)
  go_wp2_with fail
  refine (eqS_same ux1 ux2 ps w5 (prow_at R7.out) (prow_at R8.out) hl).mono ?_
  rintro e w6 ⟨rfl, hb⟩
  have HB6 := Lib.hid (HB5.out.trans (hb.mono HB5.out.size))
  have R12 := Lib.hid (prow_keep R7.out hb)
  have R13 := Lib.hid (prow_keep R8.out hb)
  clear hb
  go_wp2
  go_ret
  exact ⟨rfl, HB6.out⟩

set_option maxRecDepth 100000 in
theorem lifted (os : Os) (started : os.Started) (H : Type) (enc : TypeId × Value → H) :
    ReturnsInHanded {} Try.checked os 6 .any (Rows.fnExactCountColoursSpec.pre6 enc Try.prog Try.f6 Rows.fnExactCountColoursRow.domain false) (Rows.fnExactCountColoursSpec.post enc Try.prog Try.f6 false true false false) := by
  refine returnsInHanded_of_change (C := Try.checked) own started (by kernel_rfl) Try.func6
    (ChangeSpec.witness6 (enc := enc) (C := Try.checked) false ⟨#[], #[.int .i64 0, .slice none 0 0, .int .i64 0], []⟩ 8 (by kernel_rfl) (by kernel_rfl) (by kernel_rfl) (by kernel_rfl)) ?_
  intro W base args ds gs before hval0 hW hcnd _
  have hval : ∀ (j : Nat) t v, Try.f6.params[j]? = some t → args[j]? = some v → Value.okWide Try.prog W .any base t v := hval0
  have hW' := hW
  obtain ⟨p, q, hA0, hV, hpq, hfz, hnd⟩ := hW
  have hA : DataW.TrodAll enc Try.prog W 0 (fun _ => true) true Try.f6.params.toList args.toList ds p := hA0
  rw [Try.params6] at hA hval
  obtain ⟨v0, vs0, d0, ds0, p0, q0, hargs, rfl, rfl, h0, r0⟩ := trodAll_cons hA
  obtain ⟨v1, vs1, d1, ds1, p1, q1, rfl, rfl, rfl, h1, r1⟩ := trodAll_cons r0
  obtain ⟨v2, vs2, d2, ds2, p2, q2, rfl, rfl, rfl, h2, r2⟩ := trodAll_cons r1
  obtain ⟨rfl, rfl, rfl⟩ := trodAll_nil r2
  obtain rfl : args = #[v0, v1, v2] := by cases args; simp_all
  obtain ⟨a0, rfl, _, _, w0⟩ := open_int Try.underlying2 (hval 0 2 v0 rfl rfl) h0
  obtain ⟨a1, len1, cap1, rfl⟩ := okWide_slice Try.underlying38 (hval 1 38 v1 rfl rfl)
  obtain ⟨fuel1, hf1⟩ := h1
  obtain ⟨ps1, hp1, hl1⟩ := Go.Proofs.Ytemhmejjmhbfdab.pairsBorder.open_list hf1 ⟨_, _, _, rfl⟩
  obtain ⟨a2, rfl, _, _, w2⟩ := open_int Try.underlying2 (hval 2 2 v2 rfl rfl) h2
  refine (walk a0 (.slice a1 len1 cap1) ps1 a2 W w0 hp1 hl1 w2).mono fun e W' ⟨he, bel⟩ => ?_
  subst he
  exact ⟨_, rfl, post_of_law laidOut (by kernel_rfl) Try.underlying4 rfl rfl (fun ds h => by match ds, h with | [_, _, _], _ => rfl) hW' bel⟩

theorem holds : Rows.FnExactCountColoursSaid :=
  OpenClaim.holds_of_wide 6 Try.f6 rfl rfl rfl rfl rfl rfl rfl ⟨rfl, rfl, rfl, rfl, rfl⟩ rfl rfl rfl rfl rfl (by kernel_rfl) Try.func6 (by kernel_rfl)
    (of_decide_eq_true (by kernel_rfl)) (by unfold Func.isWrapper; first | (rw [if_pos (by decide +kernel)]; kernel_rfl) | (rw [if_neg (by decide +kernel)]; exact ⟨rfl, rfl⟩))
    (fun os started H enc _ => lifted os started H enc)
#print axioms holds

end Go.Proofs.Ytemhmejjmhbfdab.countColours
