/- FnExactGreatestOutline answers true for every list of lists of places. -/
import Derived.Test.YtemhmejjmhbfdabJoinT2
import Derived.Test.YtemhmejjmhbfdabCTab2
namespace Go.Proofs.Ytemhmejjmhbfdab.greatestOutline
open Go.ChangeShapes Go.WideShapes Go.ChangeAt Go.RowKit Go.Proofs.Ytemhmejjmhbfdab.spots Go.Proofs.Ytemhmejjmhbfdab.sines Go.Proofs.Ytemhmejjmhbfdab.irows Go.Proofs.Ytemhmejjmhbfdab.pairsPlace Go.Proofs.Ytemhmejjmhbfdab.ctab
set_option linter.unusedSimpArgs false
set_option linter.unusedVariables false

set_option maxRecDepth 100000 in
set_option maxHeartbeats 2000000 in
theorem walk (vps : Value) (ps : List (List Pl)) (w : World) (hv : CAt w w.heap.size vps ps) (hm : ps.length ≤ maxLen) (hr : ∀ i, (hi : i < ps.length) → ps[i].length ≤ maxLen) :
    Calls Try.prog 7 #[vps] w fun e w' => e = .returned (.bool true) ∧ Below w.heap.size w w' := by
  have SZ := Lib.hid (szC_any vps ps w hv hm hr)
  have HV := Lib.hid hv
  obtain ⟨av, cv, rfl, _⟩ := hv
  clear hm hr
  cases hf : fitC ps with
  | false =>
    rw [hf] at SZ
    go_enter Try.func7, Try.ntmps7
    go_wp2_with fail
    refine SZ.out.mono ?_
    rintro e w' ⟨rfl, rfl⟩
    go_wp2
    go_ret
    exact ⟨rfl, Below.refl _ _⟩
  | true =>
    obtain ⟨hl, hr⟩ := fitC_of hf
    have hf2 := hf
    simp only [fitC, decide_eq_true_eq] at hf2
    rw [hf, if_pos rfl] at SZ
    obtain ⟨L, hL⟩ : ∃ L : Int, Hid (1048576 - (ps.length : Int) - (totP ps ps.length : Int) = L) := ⟨_, Lib.hid rfl⟩
    have hL0 : decide (L < 0) = false := by have := hL.out; simp; omega
    rw [hL.out] at SZ
    have HL := Lib.hid hl
    have HR := Lib.hid hr
    have TO := Lib.hid (fun W (hb : Below w.heap.size w W) => toC_any _ ps W (cat_up (cat_keep HV.out hb) hb.size) HL.out HR.out)
    obtain ⟨c0, HC0⟩ : ∃ c, Hid (bestV ps = c) := ⟨_, Lib.hid rfl⟩
    obtain ⟨c1, HC1⟩ : ∃ c, Hid (codeB9 ps = c) := ⟨_, Lib.hid rfl⟩
    have B0 := Lib.hid (Below.refl w.heap.size w)
    clear hf hf2 hl hr
    go_enter Try.func7, Try.ntmps7
    go_wp2_with fail
    refine SZ.out.mono ?_
    rintro e w' ⟨rfl, rfl⟩
    go_wp2_with fail
    refine (TO.out _ B0.out).mono ?_
    rintro e w1 ⟨u0, rfl, hr0, hb⟩
    have B1 := Lib.hid hb
    have R0 := Lib.hid (crow_at hr0)
    clear hb hr0
    go_wp2_with fail
    refine (specGreatestOutline_any u0 ps w1 R0.out HL.out HR.out).mono ?_
    rw [HC0.out, HC1.out]
    rintro e w2 ⟨rfl, hb⟩
    have B2 := Lib.hid (B1.out.trans (hb.mono B1.out.size))
    clear hb
    go_wp2_with fail
    refine (TO.out _ B2.out).mono ?_
    rintro e w3 ⟨u1, rfl, hr1, hb⟩
    have B3 := Lib.hid (B2.out.trans (hb.mono B2.out.size))
    have R1 := Lib.hid (crow_at hr1)
    clear hb hr1
    go_wp2_with fail
    refine (implGreatestOutline_any u1 ps w3 R1.out HL.out HR.out).mono ?_
    rw [HC0.out, HC1.out]
    rintro e w4 ⟨rfl, hb⟩
    have B4 := Lib.hid (B3.out.trans (hb.mono B3.out.size))
    have R1b := Lib.hid (cat_up (cat_keep R1.out hb) hb.size)
    clear hb
    go_wp2_with fail
    refine (TO.out _ B4.out).mono ?_
    rintro e w5 ⟨u2, rfl, hr2, hb⟩
    have B5 := Lib.hid (B4.out.trans (hb.mono B4.out.size))
    have R1c := Lib.hid (cat_up (cat_keep R1b.out hb) hb.size)
    have R2 := Lib.hid (crow_at hr2)
    clear hb hr2
    go_wp2_with fail
    refine (eqC_same u1 u2 ps w5 R1c.out R2.out HL.out HR.out).mono ?_
    rintro e w6 ⟨rfl, hb⟩
    have B6 := Lib.hid (B5.out.trans (hb.mono B5.out.size))
    clear hb
    go_wp2
    go_ret
    exact ⟨rfl, B6.out⟩

set_option maxRecDepth 100000 in
theorem lifted (os : Os) (started : os.Started) (H : Type) (enc : TypeId × Value → H) :
    ReturnsInHanded {} Try.checked os 7 .any (Rows.fnExactGreatestOutlineSpec.pre6 enc Try.prog Try.f7 Rows.fnExactGreatestOutlineRow.domain false) (Rows.fnExactGreatestOutlineSpec.post enc Try.prog Try.f7 false true false false) := by
  refine returnsInHanded_of_change (C := Try.checked) own started (by kernel_rfl) Try.func7
    (ChangeSpec.witness6 (enc := enc) (C := Try.checked) false ⟨#[], #[.slice none 0 0], []⟩ 8 (by kernel_rfl) (by kernel_rfl) (by kernel_rfl) (by kernel_rfl)) ?_
  intro W base args ds gs before hval0 hW hcnd _
  have hval : ∀ (j : Nat) t v, Try.f7.params[j]? = some t → args[j]? = some v → Value.okWide Try.prog W .any base t v := hval0
  have hW' := hW
  obtain ⟨p, q, hA0, hV, hpq, hfz, hnd⟩ := hW
  have hA : DataW.TrodAll enc Try.prog W 0 (fun _ => true) true Try.f7.params.toList args.toList ds p := hA0
  rw [Try.params7] at hA hval
  obtain ⟨v0, vs0, d0, ds0, p0, q0, hargs, rfl, rfl, h0, r0⟩ := trodAll_cons hA
  obtain ⟨rfl, rfl, rfl⟩ := trodAll_nil r0
  obtain rfl : args = #[v0] := by cases args; simp_all
  obtain ⟨a0, len0, cap0, rfl⟩ := okWide_slice Try.underlying51 (hval 0 51 v0 rfl rfl)
  obtain ⟨fuel0, hf0⟩ := h0
  obtain ⟨ps0, hp0, hl0, hr0⟩ := Go.Proofs.Ytemhmejjmhbfdab.ctab.open_clist hf0 ⟨_, _, _, rfl⟩
  refine (walk (.slice a0 len0 cap0) ps0 W hp0 hl0 hr0).mono fun e W' ⟨he, bel⟩ => ?_
  subst he
  exact ⟨_, rfl, post_of_law laidOut (by kernel_rfl) Try.underlying4 rfl rfl (fun ds h => by match ds, h with | [_], _ => rfl) hW' bel⟩

theorem holds : Rows.FnExactGreatestOutlineSaid :=
  OpenClaim.holds_of_wide 7 Try.f7 rfl rfl rfl rfl rfl rfl rfl ⟨rfl, rfl, rfl, rfl, rfl⟩ rfl rfl rfl rfl rfl (by kernel_rfl) Try.func7 (by kernel_rfl)
    (of_decide_eq_true (by kernel_rfl)) (by unfold Func.isWrapper; first | (rw [if_pos (by decide +kernel)]; kernel_rfl) | (rw [if_neg (by decide +kernel)]; exact ⟨rfl, rfl⟩))
    (fun os started H enc _ => lifted os started H enc)
#print axioms holds

end Go.Proofs.Ytemhmejjmhbfdab.greatestOutline
