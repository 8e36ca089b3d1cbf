/- FnExactWaveBack answers true for every flat place and scale. -/
import Derived.Test.YtemhmejjmhbfdaaPlatesI9
import Derived.Test.YtemhmejjmhbfdaaFlats
namespace Go.Proofs.Ytemhmejjmhbfdaa.waveBack
open Go.ChangeShapes Go.WideShapes Go.ChangeAt Go.RowKit Go.Proofs.Ytemhmejjmhbfdaa.spots Go.Proofs.Ytemhmejjmhbfdaa.flats Go.Proofs.Ytemhmejjmhbfdaa.sines

set_option maxRecDepth 100000 in
set_option maxHeartbeats 1000000 in
theorem walk (a b s : Int) (w : World) (_wa : (Lit.int .i64 a).wf = true) (_wb : (Lit.int .i64 b).wf = true) (_ws : (Lit.int .i64 s).wf = true) :
    Calls Try.prog 11 #[.agg #[.int .i64 a, .int .i64 b], .int .i64 s] w fun e w' => e = .returned (.bool true) ∧ Below w.heap.size w w' := by
  have SP := Lib.hid (fun W => specWaveBack_any a b s W)
  have IM := Lib.hid (fun W => implWaveBack_any a b s W)
  generalize (if codeW8 a b s = 0 then wbLat b s else 0) = r0 at SP IM
  generalize (if codeW8 a b s = 0 then wbLon a b s else 0) = r1 at SP IM
  generalize codeW8 a b s = c0 at SP IM
  go_enter Try.func11, Try.ntmps11
  go_wp2_with fail
  refine (toFlat_bel _ _ _).mono ?_
  rintro e w1 ⟨rfl, hb⟩
  obtain ⟨a1, a2, a3, a4⟩ := box1F hb
  clear hb
  go_wp2_with fail
  refine (SP.out _).mono ?_
  rintro e w2 ⟨rfl, hb⟩
  obtain ⟨b1, b2, b4⟩ := keepF hb a4 a1 a2
  have b3 := a3.trans (hb.mono a3.size)
  clear hb a1 a2 a3 a4
  obtain ⟨d1, d2, d4, hb⟩ := newF w2 (.int .i64 r0) (.int .i64 r1) 25
  obtain ⟨c1, c2, c4⟩ := keepF hb b4 b1 b2
  have c3 := b3.trans (hb.mono b3.size)
  clear hb b1 b2 b3 b4
  go_wp2_with fail
  generalize w2.alloc (.cells #[.int .i64 r0, .int .i64 r1] 25) = V at *
  refine (toFlat_bel _ _ _).mono ?_
  rintro e w3 ⟨rfl, hb⟩
  obtain ⟨a1, a2, a4⟩ := keepF hb c4 c1 c2
  have a3 := c3.trans (hb.mono c3.size)
  obtain ⟨d1, d2, d4⟩ := keepF hb d4 d1 d2
  clear hb c1 c2 c3 c4
  go_wp2_with fail
  refine (IM.out _).mono ?_
  rintro e w4 ⟨rfl, hb⟩
  have b3 := a3.trans (hb.mono a3.size)
  obtain ⟨d1, d2, d4⟩ := keepF hb d4 d1 d2
  clear hb a1 a2 a3 a4
  obtain ⟨e1, e2, e4, hb⟩ := newF w4 (.int .i64 r0) (.int .i64 r1) 25
  have c3 := b3.trans (hb.mono b3.size)
  obtain ⟨d1, d2, d4⟩ := keepF hb d4 d1 d2
  clear hb b3
  go_wp2_with fail
  generalize w4.alloc (.cells #[.int .i64 r0, .int .i64 r1] 25) = V4 at *
  refine (eqSpot_bel _ _ _).mono ?_
  rintro e w5 ⟨rfl, hb⟩
  have b3 := c3.trans (hb.mono c3.size)
  clear hb c3 d1 d2 d4 e1 e2 e4
  go_wp2
  go_ret
  exact ⟨rfl, b3⟩

theorem cells_Flat : Try.prog.cellsOf 85 = 2 := by kernel_rfl
theorem cells_int : Try.prog.cellsOf 2 = 1 := by kernel_rfl
set_option maxRecDepth 100000 in
theorem lifted (os : Os) (started : os.Started) (H : Type) (enc : TypeId × Value → H) :
    ReturnsInHanded {} Try.checked os 11 .any (Rows.fnExactWaveBackSpec.pre6 enc Try.prog Try.f11 Rows.fnExactWaveBackRow.domain false) (Rows.fnExactWaveBackSpec.post enc Try.prog Try.f11 false true false false) := by
  refine returnsInHanded_of_change (C := Try.checked) own started (by kernel_rfl) Try.func11
    (ChangeSpec.witness6 (enc := enc) (C := Try.checked) false ⟨#[], #[.agg #[.int .i64 0, .int .i64 0], .int .i64 0], []⟩ 8 (by kernel_rfl) (by kernel_rfl) (by kernel_rfl) (by kernel_rfl)) ?_
  intro W base args ds gs before hval0 hW hcnd _
  have hval : ∀ (j : Nat) t v, Try.f11.params[j]? = some t → args[j]? = some v → Value.okWide Try.prog W .any base t v := hval0
  have hW' := hW
  obtain ⟨p, q, hA0, hV, hpq, hfz, hnd⟩ := hW
  have hA : DataW.TrodAll enc Try.prog W 0 (fun _ => true) true Try.f11.params.toList args.toList ds p := hA0
  rw [Try.params11] at hA hval
  obtain ⟨v0, vs0, d0, ds0, p0, q0, hargs, rfl, rfl, h0, r0⟩ := trodAll_cons hA
  obtain ⟨v1, vs1, d1, ds1, p1, q1, rfl, rfl, rfl, h1, r1⟩ := trodAll_cons r0
  obtain ⟨rfl, rfl, rfl⟩ := trodAll_nil r1
  obtain rfl : args = #[v0, v1] := by cases args; simp_all
  obtain ⟨c0_0, c0_1, y0_0, y0_1, m0, rfl, _, _, hy0_0, hy0_1⟩ := Go.Joins.open_agg2 Try.underlying85 (by kernel_rfl) cells_Flat (hval 0 85 v0 rfl rfl) h0
  obtain ⟨a0_0, e0_0, _, w0_0⟩ := DataW.trod_int Try.underlying2 hy0_0
  simp at e0_0
  subst e0_0
  obtain ⟨a0_1, e0_1, _, w0_1⟩ := DataW.trod_int Try.underlying2 hy0_1
  simp at e0_1
  subst e0_1
  obtain ⟨a1, rfl, _, _, w1⟩ := open_int Try.underlying2 (hval 1 2 v1 rfl rfl) h1
  refine (walk a0_0 a0_1 a1 W w0_0 w0_1 w1).mono fun e W' ⟨he, bel⟩ => ?_
  subst he
  exact ⟨_, rfl, post_of_law laidOut (by kernel_rfl) Try.underlying4 rfl rfl (fun ds h => by match ds, h with | [_, _], _ => rfl) hW' bel⟩

theorem holds : Rows.FnExactWaveBackSaid :=
  OpenClaim.holds_of_wide 11 Try.f11 rfl rfl rfl rfl rfl rfl rfl ⟨rfl, rfl, rfl, rfl, rfl⟩ rfl rfl rfl rfl rfl (by kernel_rfl) Try.func11 (by kernel_rfl)
    (of_decide_eq_true (by kernel_rfl)) (by unfold Func.isWrapper; first | (rw [if_pos (by decide +kernel)]; kernel_rfl) | (rw [if_neg (by decide +kernel)]; exact ⟨rfl, rfl⟩))
    (fun os started H enc _ => lifted os started H enc)
#print axioms holds

end Go.Proofs.Ytemhmejjmhbfdaa.waveBack
