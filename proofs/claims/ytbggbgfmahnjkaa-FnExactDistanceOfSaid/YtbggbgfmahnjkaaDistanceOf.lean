/- FnExactDistanceOf answers true for every two places. -/
import Derived.Test.YtbggbgfmahnjkaaDistF
import Derived.Deep.RegionWith
namespace Go.Proofs.Ytbggbgfmahnjkaa.distanceOf
open Go.ChangeShapes Go.WideShapes Go.ChangeAt Go.RowKit Go.Proofs.Ytbggbgfmahnjkaa.spots Go.Proofs.Ytbggbgfmahnjkaa.sines Go.Proofs.Ytbggbgfmahnjkaa.pairs
theorem at_world {P Q : World → Prop} (W0 : World) (h0 : P W0) (h : ∀ W, P W → Q W) : Q W0 := h W0 h0
theorem to_rel (a b : Int) (W0 w : World) (h : Below W0.heap.size W0 w) :
    Calls Try.prog 32 #[.agg #[.int .i64 a, .int .i64 b]] w fun e w' => e = .returned (.agg #[.int .i64 a, .int .i64 b]) ∧ Below W0.heap.size W0 w' :=
  (to_below a b w).mono fun _ _ ⟨h1, hb⟩ => ⟨h1, h.trans (hb.mono h.size)⟩
theorem spec_rel (a b c d : Int) (W0 w : World) (h : Below W0.heap.size W0 w) :
    Calls Try.prog 23 #[.agg #[.int .i64 a, .int .i64 b], .agg #[.int .i64 c, .int .i64 d]] w fun e w' => e = .returned (.tuple #[.int .i64 (ansD a b c d (distL a b c d)), .int .i64 (codeD a b c d)]) ∧ Below W0.heap.size W0 w' :=
  (specDistanceOf_any a b c d w).mono fun _ _ ⟨h1, hb⟩ => ⟨h1, h.trans (hb.mono h.size)⟩
theorem impl_rel (a b c d : Int) (W0 w : World) (h : Below W0.heap.size W0 w) :
    Calls Try.prog 16 #[.agg #[.int .i64 a, .int .i64 b], .agg #[.int .i64 c, .int .i64 d]] w fun e w' => e = .returned (.tuple #[.int .i64 (ansD a b c d (distL a b c d)), .int .i64 (codeD a b c d)]) ∧ Below W0.heap.size W0 w' :=
  (implDistanceOf_any a b c d w).mono fun _ _ ⟨h1, hb⟩ => ⟨h1, h.trans (hb.mono h.size)⟩
set_option maxRecDepth 100000 in
set_option maxHeartbeats 2000000 in
theorem walk (a b c d : Int) (w : World) (_ : (Lit.int .i64 a).wf = true) (_ : (Lit.int .i64 b).wf = true) (_ : (Lit.int .i64 c).wf = true) (_ : (Lit.int .i64 d).wf = true) :
    Calls Try.prog 6 #[.agg #[.int .i64 a, .int .i64 b], .agg #[.int .i64 c, .int .i64 d]] w fun e w' => e = .returned (.bool true) ∧ Below w.heap.size w w' := by
  obtain ⟨W0, hW0⟩ : ∃ W0, Hid ((w.alloc (.cells #[.int .i64 a, .int .i64 b] 47)).alloc (.cells #[.int .i64 c, .int .i64 d] 47) = W0) := ⟨_, Lib.hid rfl⟩
  have B0 := Lib.hid (show Below w.heap.size w W0 by rw [← hW0.out]; exact below_two _ _ _)
  have Z0 : w.heap.size < W0.heap.size := by rw [← hW0.out]; simp; omega
  have Z1 : w.heap.size + 1 < W0.heap.size := by rw [← hW0.out]; simp
  have BX := two_boxes w a b c d 47 47
  have C0 := Lib.hid (show W0.cell? ⟨w.heap.size, 0, none⟩ = some (.int .i64 a) by rw [← hW0.out, World.cell?_alloc_past _ _ _ (by simp)]; simp)
  have C1 := Lib.hid (show W0.cell? ⟨w.heap.size, 1, none⟩ = some (.int .i64 b) by rw [← hW0.out, World.cell?_alloc_past _ _ _ (by simp)]; simp)
  have ez : (w.alloc (.cells #[.int .i64 a, .int .i64 b] 47)).heap.size = w.heap.size + 1 := by simp
  have C2 := Lib.hid (show W0.cell? ⟨w.heap.size + 1, 0, none⟩ = some (.int .i64 c) by rw [← hW0.out, ← ez]; simp)
  have C3 := Lib.hid (show W0.cell? ⟨w.heap.size + 1, 1, none⟩ = some (.int .i64 d) by rw [← hW0.out, ← ez]; simp)
  clear BX ez
  obtain ⟨V, HV⟩ : ∃ V, Hid (ansD a b c d (distL a b c d) = V) := ⟨_, Lib.hid rfl⟩
  obtain ⟨C, HC⟩ : ∃ C, Hid (codeD a b c d = C) := ⟨_, Lib.hid rfl⟩
  have k0 := C0.out
  have k1 := C1.out
  have k2 := C2.out
  have k3 := C3.out
  go_enter Try.func6, Try.ntmps6
  go_wp2_with fail
  rw [hW0.out]
  go_region_with (first | (go_at_call 32; refine (to_rel _ _ W0 _ (by repeat (first | assumption | exact Below.refl _ _ | refine Below.drew ?_ | refine bdq ?_ _))).mono ?_; rintro e w1 ⟨rfl, hb⟩; have k0 := (hb.cell (p := ⟨w.heap.size, 0, none⟩) Z0).trans C0.out; have k1 := (hb.cell (p := ⟨w.heap.size, 1, none⟩) Z0).trans C1.out; have k2 := (hb.cell (p := ⟨w.heap.size + 1, 0, none⟩) Z1).trans C2.out; have k3 := (hb.cell (p := ⟨w.heap.size + 1, 1, none⟩) Z1).trans C3.out; skip) | (go_at_call 23; refine (spec_rel _ _ _ _ W0 _ (by repeat (first | assumption | exact Below.refl _ _ | refine Below.drew ?_ | refine bdq ?_ _))).mono ?_; rw [HV.out, HC.out]; rintro e w1 ⟨rfl, hb⟩; have k0 := (hb.cell (p := ⟨w.heap.size, 0, none⟩) Z0).trans C0.out; have k1 := (hb.cell (p := ⟨w.heap.size, 1, none⟩) Z0).trans C1.out; have k2 := (hb.cell (p := ⟨w.heap.size + 1, 0, none⟩) Z1).trans C2.out; have k3 := (hb.cell (p := ⟨w.heap.size + 1, 1, none⟩) Z1).trans C3.out; skip))
  all_goals (refine at_world (P := fun W => Below W0.heap.size W0 W) (Q := fun W => Exit.then _ _ Exit.normal _ W) _ (by repeat (first | assumption | exact Below.refl _ _ | refine Below.drew ?_ | refine bdq ?_ _)) ?_; intro W1 hb; have k0 := (hb.cell (p := ⟨w.heap.size, 0, none⟩) Z0).trans C0.out; have k1 := (hb.cell (p := ⟨w.heap.size, 1, none⟩) Z0).trans C1.out; have k2 := (hb.cell (p := ⟨w.heap.size + 1, 0, none⟩) Z1).trans C2.out; have k3 := (hb.cell (p := ⟨w.heap.size + 1, 1, none⟩) Z1).trans C3.out; skip)
  all_goals go_wp2_with fail
  all_goals go_region_with (first | (go_at_call 32; refine (to_rel _ _ W0 _ (by repeat (first | assumption | exact Below.refl _ _ | refine Below.drew ?_ | refine bdq ?_ _))).mono ?_; rintro e w1 ⟨rfl, hb⟩; have k0 := (hb.cell (p := ⟨w.heap.size, 0, none⟩) Z0).trans C0.out; have k1 := (hb.cell (p := ⟨w.heap.size, 1, none⟩) Z0).trans C1.out; have k2 := (hb.cell (p := ⟨w.heap.size + 1, 0, none⟩) Z1).trans C2.out; have k3 := (hb.cell (p := ⟨w.heap.size + 1, 1, none⟩) Z1).trans C3.out; skip) | (go_at_call 16; refine (impl_rel _ _ _ _ W0 _ (by repeat (first | assumption | exact Below.refl _ _ | refine Below.drew ?_ | refine bdq ?_ _))).mono ?_; rw [HV.out, HC.out]; rintro e w1 ⟨rfl, hb⟩; have k0 := (hb.cell (p := ⟨w.heap.size, 0, none⟩) Z0).trans C0.out; have k1 := (hb.cell (p := ⟨w.heap.size, 1, none⟩) Z0).trans C1.out; have k2 := (hb.cell (p := ⟨w.heap.size + 1, 0, none⟩) Z1).trans C2.out; have k3 := (hb.cell (p := ⟨w.heap.size + 1, 1, none⟩) Z1).trans C3.out; skip))
  all_goals (refine at_world (P := fun W => Below W0.heap.size W0 W) (Q := fun W => Exit.then _ _ Exit.normal _ W) _ (by repeat (first | assumption | exact Below.refl _ _ | refine Below.drew ?_ | refine bdq ?_ _)) ?_; intro W2 hb)
  all_goals go_wp2
  all_goals go_ret
  all_goals exact ⟨rfl, B0.out.trans (hb.mono B0.out.size)⟩

theorem cells_Spot : Try.prog.cellsOf 47 = 2 := by kernel_rfl
theorem cells_int : Try.prog.cellsOf 2 = 1 := by kernel_rfl
set_option maxRecDepth 100000 in
theorem lifted (os : Os) (started : os.Started) (H : Type) (enc : TypeId × Value → H) :
    ReturnsInHanded {} Try.checked os 6 .any (Rows.fnExactDistanceOfSpec.pre6 enc Try.prog Try.f6 Rows.fnExactDistanceOfRow.domain false) (Rows.fnExactDistanceOfSpec.post enc Try.prog Try.f6 false true false false) := by
  refine returnsInHanded_of_change (C := Try.checked) own started (by kernel_rfl) Try.func6
    (ChangeSpec.witness6 (enc := enc) (C := Try.checked) false ⟨#[], #[.agg #[.int .i64 0, .int .i64 0], .agg #[.int .i64 0, .int .i64 0]], []⟩ 8 (by kernel_rfl) (by kernel_rfl) (by kernel_rfl) (by kernel_rfl)) ?_
  intro W base args ds gs before hval0 hW hcnd _
  have hval : ∀ (j : Nat) t v, Try.f6.params[j]? = some t → args[j]? = some v → Value.okWide Try.prog W .any base t v := hval0
  have hW' := hW
  obtain ⟨p, q, hA0, hV, hpq, hfz, hnd⟩ := hW
  have hA : DataW.TrodAll enc Try.prog W 0 (fun _ => true) true Try.f6.params.toList args.toList ds p := hA0
  rw [Try.params6] at hA hval
  obtain ⟨v0, vs0, d0, ds0, p0, q0, hargs, rfl, rfl, h0, r0⟩ := trodAll_cons hA
  obtain ⟨v1, vs1, d1, ds1, p1, q1, rfl, rfl, rfl, h1, r1⟩ := trodAll_cons r0
  obtain ⟨rfl, rfl, rfl⟩ := trodAll_nil r1
  obtain rfl : args = #[v0, v1] := by cases args; simp_all
  obtain ⟨c0_0, c0_1, y0_0, y0_1, m0, rfl, _, _, hy0_0, hy0_1⟩ := Go.Joins.open_agg2 Try.underlying47 (by kernel_rfl) cells_Spot (hval 0 47 v0 rfl rfl) h0
  obtain ⟨a0_0, e0_0, _, w0_0⟩ := DataW.trod_int Try.underlying2 hy0_0
  simp at e0_0
  subst e0_0
  obtain ⟨a0_1, e0_1, _, w0_1⟩ := DataW.trod_int Try.underlying2 hy0_1
  simp at e0_1
  subst e0_1
  obtain ⟨c1_0, c1_1, y1_0, y1_1, m1, rfl, _, _, hy1_0, hy1_1⟩ := Go.Joins.open_agg2 Try.underlying47 (by kernel_rfl) cells_Spot (hval 1 47 v1 rfl rfl) h1
  obtain ⟨a1_0, e1_0, _, w1_0⟩ := DataW.trod_int Try.underlying2 hy1_0
  simp at e1_0
  subst e1_0
  obtain ⟨a1_1, e1_1, _, w1_1⟩ := DataW.trod_int Try.underlying2 hy1_1
  simp at e1_1
  subst e1_1
  refine (walk a0_0 a0_1 a1_0 a1_1 W w0_0 w0_1 w1_0 w1_1).mono fun e W' ⟨he, bel⟩ => ?_
  subst he
  exact ⟨_, rfl, post_of_law laidOut (by kernel_rfl) Try.underlying4 rfl rfl (fun ds h => by match ds, h with | [_, _], _ => rfl) hW' bel⟩

theorem holds : Rows.FnExactDistanceOfSaid :=
  OpenClaim.holds_of_wide 6 Try.f6 rfl rfl rfl rfl rfl rfl rfl ⟨rfl, rfl, rfl, rfl, rfl⟩ rfl rfl rfl rfl rfl (by kernel_rfl) Try.func6 (by kernel_rfl)
    (of_decide_eq_true (by kernel_rfl)) (by unfold Func.isWrapper; first | (rw [if_pos (by decide +kernel)]; kernel_rfl) | (rw [if_neg (by decide +kernel)]; exact ⟨rfl, rfl⟩))
    (fun os started H enc _ => lifted os started H enc)
#print axioms holds

end Go.Proofs.Ytbggbgfmahnjkaa.distanceOf
