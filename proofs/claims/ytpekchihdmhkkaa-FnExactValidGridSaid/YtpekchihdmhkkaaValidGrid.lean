/- FnExactValidGrid answers true for all arguments. -/
import Derived.Test.YtpekchihdmhkkaaGridI2
import Derived.Test.YtpekchihdmhkkaaGridS1
namespace Go.Proofs.Ytpekchihdmhkkaa.validGrid
open Go.ChangeShapes Go.WideShapes Go.ChangeAt Go.RowKit Go.Proofs.Ytpekchihdmhkkaa.split Go.Proofs.Ytpekchihdmhkkaa.stab
set_option linter.unusedSimpArgs false
set_option linter.unusedVariables false

set_option maxRecDepth 100000 in
set_option maxHeartbeats 4000000 in
theorem walk (vps : Value) (ps : List ByteArray) (w : World) (hvps : SAt w w.heap.size vps ps) (hmps : ps.length ≤ maxLen) (hrps : ∀ i, i < ps.length → (sAt ps i).size ≤ maxLen) :
    Calls Try.prog 3 #[vps] w fun e w' => e = .returned (.bool true) ∧ Below w.heap.size w w' := by
  have HV := Lib.hid hvps
  have SZ := Lib.hid (szS_any vps ps w HV.out hmps hrps)
  obtain ⟨la, lc, lv⟩ : ∃ a c, vps = .slice a ps.length c := by obtain ⟨a, c, e, _⟩ := HV.out; exact ⟨a, c, e⟩
  subst lv
  clear hrps hmps hvps
  cases hf : fitS ps with
  | false =>
    rw [hf] at SZ
    go_enter Try.func3, Try.ntmps3
    go_wp2_with fail
    refine SZ.out.mono ?_
    rintro e w' ⟨rfl, rfl⟩
    go_wp2
    go_ret
    exact ⟨rfl, Below.refl _ _⟩
  | true =>
    obtain ⟨hl, hr⟩ := fitS_of hf
    have hf2 := hf
    simp only [fitS, decide_eq_true_eq] at hf2
    rw [hf, if_pos rfl] at SZ
    obtain ⟨S, hS⟩ : ∃ L : Int, Hid (1048576 - (ps.length : Int) - (totS ps ps.length : Int) = L) := ⟨_, Lib.hid rfl⟩
    have hS0 : decide (S < 0) = false := by have := hS.out; simp; omega
    rw [hS.out] at SZ
    have HL := Lib.hid hl
    have HR := Lib.hid hr
    clear hf hf2 hl hr
    obtain ⟨c0, HC0⟩ : ∃ c, Hid (okG ps = c) := ⟨_, Lib.hid rfl⟩
    have B0 := Lib.hid (Below.refl w.heap.size w)
    go_enter Try.func3, Try.ntmps3
    go_wp2_with fail
    refine (SZ.out).mono ?_
    rintro e w1 ⟨rfl, hw⟩
    have hb : Below w.heap.size w w1 := by rw [← hw]; exact Below.refl _ _
    clear hw
    have B1 := Lib.hid (B0.out.trans (hb.mono B0.out.size))
    clear hb
    go_wp2_with fail
    refine (toS_any _ ps w1 (sat_up (sat_keep HV.out B1.out) B1.out.size) HL.out).mono ?_
    rintro e w2 ⟨u2, rfl, hr, hb⟩
    have B3 := Lib.hid (B1.out.trans (hb.mono B1.out.size))
    have F4 := Lib.hid hr
    clear hb hr
    go_wp2_with fail
    refine (specValidGrid_any _ ps  w2 (sat_of_row F4.out) HL.out HR.out ).mono ?_
    rw [HC0.out]
    rintro e w3 ⟨rfl, hb⟩
    have B5 := Lib.hid (B3.out.trans (hb.mono B3.out.size))
    have F6 := Lib.hid (srow_keep F4.out hb)
    clear hb
    go_wp2_with fail
    refine (toS_any _ ps w3 (sat_up (sat_keep HV.out B5.out) B5.out.size) HL.out).mono ?_
    rintro e w4 ⟨u7, rfl, hr, hb⟩
    have B8 := Lib.hid (B5.out.trans (hb.mono B5.out.size))
    have F9 := Lib.hid hr
    clear hb hr
    go_wp2_with fail
    refine (implValidGrid_any _ ps  w4 (sat_of_row F9.out) HL.out HR.out ).mono ?_
    rw [HC0.out]
    rintro e w5 ⟨rfl, hb⟩
    have B10 := Lib.hid (B8.out.trans (hb.mono B8.out.size))
    have F11 := Lib.hid (srow_keep F9.out hb)
    clear hb
    go_wp2_with fail
    refine (toS_any _ ps w5 (sat_up (sat_keep HV.out B10.out) B10.out.size) HL.out).mono ?_
    rintro e w6 ⟨u12, rfl, hr, hb⟩
    have B13 := Lib.hid (B10.out.trans (hb.mono B10.out.size))
    have F14 := Lib.hid (srow_keep F11.out hb)
    have F15 := Lib.hid hr
    clear hb hr
    go_wp2_with fail
    refine (eq_same _ _ _ _ ps w6 F14.out F15.out (by have := HL.out; omega)).mono ?_
    rintro e w7 ⟨rfl, q, hw⟩
    have hb : Below w6.heap.size w6 w7 := by rw [hw]; exact below_drawn _ q
    clear hw
    have B16 := Lib.hid (B13.out.trans (hb.mono B13.out.size))
    have F17 := Lib.hid (srow_keep F14.out hb)
    have F18 := Lib.hid (srow_keep F15.out hb)
    clear hb
    go_wp2
    go_ret
    exact ⟨rfl, B16.out⟩

set_option maxRecDepth 100000 in
theorem lifted (os : Os) (started : os.Started) (H : Type) (enc : TypeId × Value → H) :
    ReturnsInHanded {} Try.checked os 3 .any (Rows.fnExactValidGridSpec.pre6 enc Try.prog Try.f3 Rows.fnExactValidGridRow.domain false) (Rows.fnExactValidGridSpec.post enc Try.prog Try.f3 false true false false) := by
  refine returnsInHanded_of_change (C := Try.checked) own started (by kernel_rfl) Try.func3
    (ChangeSpec.witness6 (enc := enc) (C := Try.checked) false ⟨#[], #[.slice none 0 0], []⟩ 8 (by kernel_rfl) (by kernel_rfl) (by kernel_rfl) (by kernel_rfl)) ?_
  intro W base args ds gs before hval0 hW hcnd _
  have hval : ∀ (j : Nat) t v, Try.f3.params[j]? = some t → args[j]? = some v → Value.okWide Try.prog W .any base t v := hval0
  have hW' := hW
  obtain ⟨p, q, hA0, hV, hpq, hfz, hnd⟩ := hW
  have hA : DataW.TrodAll enc Try.prog W 0 (fun _ => true) true Try.f3.params.toList args.toList ds p := hA0
  rw [Try.params3] at hA hval
  obtain ⟨v0, vs0, d0, ds0, p0, q0, hargs, rfl, rfl, h0, r0⟩ := trodAll_cons hA
  obtain ⟨rfl, rfl, rfl⟩ := trodAll_nil r0
  obtain rfl : args = #[v0] := by cases args; simp_all
  obtain ⟨a0, len0, cap0, rfl⟩ := okWide_slice Try.underlying22 (hval 0 22 v0 rfl rfl)
  obtain ⟨fuel0, hf0⟩ := h0
  obtain ⟨ps0, hp0, hl0, hr0⟩ := Go.Proofs.Ytpekchihdmhkkaa.stab.open_slist hf0 ⟨_, _, _, rfl⟩
  refine (walk (.slice a0 len0 cap0) ps0 W hp0 hl0 hr0).mono fun e W' ⟨he, bel⟩ => ?_
  subst he
  exact ⟨_, rfl, post_of_law laidOut (by kernel_rfl) Try.underlying4 rfl rfl (fun ds h => by match ds, h with | [_], _ => rfl) hW' bel⟩

theorem holds : Rows.FnExactValidGridSaid :=
  OpenClaim.holds_of_wide 3 Try.f3 rfl rfl rfl rfl rfl rfl rfl ⟨rfl, rfl, rfl, rfl, rfl⟩ rfl rfl rfl rfl rfl (by kernel_rfl) Try.func3 (by kernel_rfl)
    (of_decide_eq_true (by kernel_rfl)) (by unfold Func.isWrapper; first | (rw [if_pos (by decide +kernel)]; kernel_rfl) | (rw [if_neg (by decide +kernel)]; exact ⟨rfl, rfl⟩))
    (fun os started H enc _ => lifted os started H enc)
#print axioms holds

end Go.Proofs.Ytpekchihdmhkkaa.validGrid
