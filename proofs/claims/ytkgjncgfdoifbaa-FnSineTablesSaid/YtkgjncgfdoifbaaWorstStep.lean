/- FnExactWorstStep answers true for every step and number of steps. -/
import Derived.Test.YtkgjncgfdoifbaaWorst
namespace Go.Proofs.Ytkgjncgfdoifbaa.worstStep
open Go.ChangeShapes Go.WideShapes Go.ChangeAt Go.RowKit Go.Proofs.Ytkgjncgfdoifbaa.spots Go.Proofs.Ytkgjncgfdoifbaa.sines

/-- What both answer. -/
def worstV (d n : Int) : Int := if inB d 1 324000 && inB n 1 100 then worstN d (n.toNat - 1) else 0
def worstC (d n : Int) : Int := if inB d 1 324000 && inB n 1 100 then 0 else 2
theorem impl_any (d n : Int) (w : World) :
    Calls Try.prog 16 #[.int .i64 d, .int .i64 n] w fun e w' => e = .returned (.tuple #[.int .i64 (worstV d n), .int .i64 (worstC d n)]) ∧ Below w.heap.size w w' := by
  unfold worstC worstV
  cases h : inB d 1 324000 with
  | false =>
    refine (implWorst_bad d n w h).mono ?_
    rintro e w' ⟨rfl, rfl⟩
    exact ⟨rfl, Below.refl _ _⟩
  | true =>
    cases g : inB n 1 100 with
    | false =>
      refine (implWorst_badN d n w h g).mono ?_
      rintro e w' ⟨rfl, rfl⟩
      exact ⟨rfl, Below.refl _ _⟩
    | true =>
      obtain ⟨m, rfl, _, _⟩ := inB_nat g (by omega)
      exact implWorst_yes d m w h g
theorem spec_any (d n : Int) (w : World) :
    Calls Try.prog 35 #[.int .i64 d, .int .i64 n] w fun e w' => e = .returned (.tuple #[.int .i64 (worstV d n), .int .i64 (worstC d n)]) ∧ Below w.heap.size w w' := by
  unfold worstC worstV
  cases h : inB d 1 324000 with
  | false =>
    refine (specWorst_bad d n w h).mono ?_
    rintro e w' ⟨rfl, rfl⟩
    exact ⟨rfl, Below.refl _ _⟩
  | true =>
    cases g : inB n 1 100 with
    | false =>
      refine (specWorst_badN d n w h g).mono ?_
      rintro e w' ⟨rfl, rfl⟩
      exact ⟨rfl, Below.refl _ _⟩
    | true =>
      obtain ⟨m, rfl, _, _⟩ := inB_nat g (by omega)
      exact specWorst_yes d m w h g
set_option maxHeartbeats 400000 in
theorem walk (d n : Int) (w : World) (_ : (Lit.int .i64 d).wf = true) (_ : (Lit.int .i64 n).wf = true) :
    Calls Try.prog 12 #[.int .i64 d, .int .i64 n] w fun e w' => e = .returned (.bool true) ∧ Below w.heap.size w w' := by
  obtain ⟨x, hx⟩ : ∃ x, Hid (worstV d n = x) := ⟨_, Lib.hid rfl⟩
  obtain ⟨c, hc⟩ : ∃ c, Hid (worstC d n = c) := ⟨_, Lib.hid rfl⟩
  go_enter Try.func12, Try.ntmps12
  go_wp2_with fail
  refine (spec_any d n w).mono ?_
  rintro e w1 ⟨rfl, hb1⟩
  rw [hx.out, hc.out]
  go_wp2_with fail
  refine (impl_any d n w1).mono ?_
  rintro e w2 ⟨rfl, hb2⟩
  rw [hx.out, hc.out]
  go_wp2
  all_goals (go_ret; exact ⟨rfl, hb1.trans (hb2.mono hb1.size)⟩)

set_option maxRecDepth 100000 in
theorem lifted (os : Os) (started : os.Started) (H : Type) (enc : TypeId × Value → H) :
    ReturnsInHanded {} Try.checked os 12 .any (Rows.fnExactWorstStepSpec.pre6 enc Try.prog Try.f12 Rows.fnExactWorstStepRow.domain false) (Rows.fnExactWorstStepSpec.post enc Try.prog Try.f12 false true false false) := by
  refine returnsInHanded_of_change (C := Try.checked) own started (by kernel_rfl) Try.func12
    (ChangeSpec.witness6 (enc := enc) (C := Try.checked) false ⟨#[], #[.int .i64 0, .int .i64 0], []⟩ 8 (by kernel_rfl) (by kernel_rfl) (by kernel_rfl) (by kernel_rfl)) ?_
  intro W base args ds gs before hval0 hW hcnd _
  have hval : ∀ (j : Nat) t v, Try.f12.params[j]? = some t → args[j]? = some v → Value.okWide Try.prog W .any base t v := hval0
  have hW' := hW
  obtain ⟨p, q, hA0, hV, hpq, hfz, hnd⟩ := hW
  have hA : DataW.TrodAll enc Try.prog W 0 (fun _ => true) true Try.f12.params.toList args.toList ds p := hA0
  rw [Try.params12] at hA hval
  obtain ⟨v0, vs0, d0, ds0, p0, q0, hargs, rfl, rfl, h0, r0⟩ := trodAll_cons hA
  obtain ⟨v1, vs1, d1, ds1, p1, q1, rfl, rfl, rfl, h1, r1⟩ := trodAll_cons r0
  obtain ⟨rfl, rfl, rfl⟩ := trodAll_nil r1
  obtain rfl : args = #[v0, v1] := by cases args; simp_all
  obtain ⟨a0, rfl, _, _, w0⟩ := open_int Try.underlying2 (hval 0 2 v0 rfl rfl) h0
  obtain ⟨a1, rfl, _, _, w1⟩ := open_int Try.underlying2 (hval 1 2 v1 rfl rfl) h1
  refine (walk a0 a1 W w0 w1).mono fun e W' ⟨he, bel⟩ => ?_
  subst he
  exact ⟨_, rfl, post_of_law laidOut (by kernel_rfl) Try.underlying4 rfl rfl (fun ds h => by match ds, h with | [_, _], _ => rfl) hW' bel⟩

theorem holds : Rows.FnExactWorstStepSaid :=
  OpenClaim.holds_of_wide 12 Try.f12 rfl rfl rfl rfl rfl rfl rfl ⟨rfl, rfl, rfl, rfl, rfl⟩ rfl rfl rfl rfl rfl (by kernel_rfl) Try.func12 (by kernel_rfl)
    (of_decide_eq_true (by kernel_rfl)) (by unfold Func.isWrapper; first | (rw [if_pos (by decide +kernel)]; kernel_rfl) | (rw [if_neg (by decide +kernel)]; exact ⟨rfl, rfl⟩))
    (fun os started H enc _ => lifted os started H enc)
#print axioms holds

end Go.Proofs.Ytkgjncgfdoifbaa.worstStep
