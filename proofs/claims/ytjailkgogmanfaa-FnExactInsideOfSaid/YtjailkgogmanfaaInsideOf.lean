/- FnExactInsideOf answers true for every list of places and every place. -/
import Derived.Test.YtjailkgogmanfaaJoinS4
import Derived.Test.YtjailkgogmanfaaJoinI7
import Derived.Test.YtjailkgogmanfaaOwn2P
import Derived.Deep.RegionHeld3
namespace Go.Proofs.Ytjailkgogmanfaa.insideOf
open Go.ChangeShapes Go.WideShapes Go.ChangeAt Go.RowKit Go.Proofs.Ytjailkgogmanfaa.spots Go.Proofs.Ytjailkgogmanfaa.sines Go.Proofs.Ytjailkgogmanfaa.irows Go.Proofs.Ytjailkgogmanfaa.pairsPlace Go.Proofs.Ytjailkgogmanfaa.own2P
theorem at_world {P Q : World → Prop} (W0 : World) (h0 : P W0) (h : ∀ W, P W → Q W) : Q W0 := h W0 h0
theorem prow_kept {w w' : World} {B : Nat} {v : Value} {ps : List (Int × Int)} (h : PRow w B v ps) (hb : ∀ b, b < w.heap.size → w'.heap[b]? = w.heap[b]?) : PRow w' B v ps := by
  refine ⟨h.1, ?_⟩
  rcases h.2 with hn | ⟨g, cap, cur, hv, hg1, hg2, hg3⟩
  · exact .inl hn
  · exact .inr ⟨g, cap, cur, hv, hg1, by rw [hb g (Array.getElem?_eq_some_iff.1 hg2).1]; exact hg2, hg3⟩
theorem toS_rel (v : Value) (ps : List (Int × Int)) (W w : World) (h : Below W.heap.size W w) (hv : PAt W W.heap.size v ps) (hl : ps.length ≤ 1048576) :
    Calls Try.prog 44 #[v] w fun e w' => ∃ u, e = .returned u ∧ PRow w' W.heap.size u ps ∧ Below W.heap.size W w' :=
  (toS_any v ps w (pat_up (pat_keep hv h) h.size) hl).mono fun _ _ ⟨u, h1, h2, h3⟩ => ⟨u, h1, prow_up h2 h.size, h.trans (h3.mono h.size)⟩
theorem to_rel2 (a b : Int) (W w : World) (h : Below W.heap.size W w) :
    Calls Try.prog 53 #[.agg #[.int .i64 a, .int .i64 b]] w fun e w' => e = .returned (.agg #[.int .i64 a, .int .i64 b]) ∧ Below W.heap.size W w' ∧ ∀ b, b < w.heap.size → w'.heap[b]? = w.heap[b]? :=
  (to_below a b w).mono fun _ _ ⟨h1, hb⟩ => ⟨h1, h.trans (hb.mono h.size), hb.block⟩
theorem specI_rel (v : Value) (ps : List (Int × Int)) (a b : Int) (W w : World) (h : Below W.heap.size W w) (hv : PAt w w.heap.size v ps) (hl : ps.length ≤ 1048576) :
    Calls Try.prog 36 #[v, .agg #[.int .i64 a, .int .i64 b]] w fun e w' => e = .returned (.tuple #[.bool (insideV ps (a, b)), .int .i64 (codeN ps (a, b))]) ∧ Below W.heap.size W w' :=
  (specInsideOf_any v ps a b w hv hl).mono fun _ _ ⟨h1, hb⟩ => ⟨h1, h.trans (hb.mono h.size)⟩
set_option maxRecDepth 100000 in
set_option maxHeartbeats 2000000 in
theorem walk (vps : Value) (ps : List (Int × Int)) (A0 A1 : Int) (wz : World) (hv : PAt wz wz.heap.size vps ps) (hm : ps.length ≤ maxLen) (_ : (Lit.int .i64 A0).wf = true) (_ : (Lit.int .i64 A1).wf = true) :
    Calls Try.prog 11 #[vps, .agg #[.int .i64 A0, .int .i64 A1]] wz fun e w' => e = .returned (.bool true) ∧ Below wz.heap.size wz w' := by
  obtain ⟨w, hw0⟩ : ∃ w, Hid (wz.alloc (.cells #[.int .i64 A0, .int .i64 A1] 63) = w) := ⟨_, Lib.hid rfl⟩
  have HBZ := Lib.hid (show Below wz.heap.size wz w by rw [← hw0.out]; exact (Below.refl _ _).alloc (Nat.le_refl _) _)
  have Z0 : wz.heap.size < w.heap.size := by rw [← hw0.out]; simp
  have CA0 := Lib.hid (show w.cell? ⟨wz.heap.size, 0, none⟩ = some (.int .i64 A0) by rw [← hw0.out]; simp)
  have CA1 := Lib.hid (show w.cell? ⟨wz.heap.size, 1, none⟩ = some (.int .i64 A1) by rw [← hw0.out]; simp)
  have HV := Lib.hid (pat_up (pat_keep hv HBZ.out) HBZ.out.size)
  clear hv
  by_cases hbig : 1048576 < ps.length
  · go_enter Try.func11, Try.ntmps11
    go_wp2_with fail
    rw [hw0.out]
    refine (sz_no vps ps w _ HV.out hm hbig).mono ?_
    rintro e w' ⟨rfl, rfl⟩
    go_wp2
    go_ret
    exact ⟨rfl, HBZ.out⟩
  have hl : ps.length ≤ 1048576 := by omega
  clear hbig
  obtain ⟨c0, HC0⟩ : ∃ c, Hid (insideV ps (A0, A1) = c) := ⟨_, Lib.hid rfl⟩
  obtain ⟨c1, HC1⟩ : ∃ c, Hid (codeN ps (A0, A1) = c) := ⟨_, Lib.hid rfl⟩
  have hl2 : (ps.length : Int) ≤ 1048576 := by omega
  have HB0 := Lib.hid (Below.refl w.heap.size w)
  go_enter Try.func11, Try.ntmps11
  go_wp2_with fail
  rw [hw0.out]
  refine (sz_yes vps ps w _ HV.out hl).mono ?_
  rintro e w' ⟨rfl, rfl⟩
  have hsz0 : decide (1048576 - (ps.length : Int) < 0) = false := by simp; omega
  have ka0 := (HB0.out.cell (p := ⟨wz.heap.size, 0, none⟩) Z0).trans CA0.out
  have ka1 := (HB0.out.cell (p := ⟨wz.heap.size, 1, none⟩) Z0).trans CA1.out
  have kaz : wz.heap.size < w.heap.size := Nat.lt_of_lt_of_le Z0 HB0.out.size
  go_wp2_with fail
  go_region_held3 (fun U => U.cell? ⟨wz.heap.size, 0, none⟩ = some (.int .i64 A0) ∧ U.cell? ⟨wz.heap.size, 1, none⟩ = some (.int .i64 A1)) (first | exact ⟨ka0, ka1⟩ | exact ⟨na0, na1⟩ | (simp [go_sem]; first | exact ⟨ka0, ka1⟩ | exact ⟨na0, na1⟩)) (first | (go_at_call 44; refine (toS_rel vps ps w _ (by repeat (first | assumption | exact Below.refl _ _ | refine Below.drew ?_ | refine bdq ?_ _)) (pat_up (pat_keep HV.out HB0.out) HB0.out.size) hl).mono ?_; rintro e wa ⟨ux, rfl, hrx, hbx⟩; have na0 := (hbx.cell (p := ⟨wz.heap.size, 0, none⟩) kaz).trans ka0; have na1 := (hbx.cell (p := ⟨wz.heap.size, 1, none⟩) kaz).trans ka1; skip) | (go_at_call 53; refine (to_rel2 _ _ w _ (by repeat (first | assumption | exact Below.refl _ _ | refine Below.drew ?_ | refine bdq ?_ _))).mono ?_; rintro e wb ⟨rfl, hby, hbk⟩; have hry := prow_kept hrx hbk; have na0 := (hby.cell (p := ⟨wz.heap.size, 0, none⟩) kaz).trans ka0; have na1 := (hby.cell (p := ⟨wz.heap.size, 1, none⟩) kaz).trans ka1; skip) | (go_at_call 36; refine (specI_rel ux ps A0 A1 w _ (by repeat (first | assumption | exact Below.refl _ _ | refine Below.drew ?_ | refine bdq ?_ _)) (prow_at hry) hl).mono ?_; rw [HC0.out]; rw [HC1.out]; rintro e wc ⟨rfl, hbz⟩; have na0 := (hbz.cell (p := ⟨wz.heap.size, 0, none⟩) kaz).trans ka0; have na1 := (hbz.cell (p := ⟨wz.heap.size, 1, none⟩) kaz).trans ka1; skip))
  refine at_world (P := fun U => Below w.heap.size w U) (Q := fun U => Exit.then _ _ Exit.normal _ U) _ (by repeat (first | assumption | exact Below.refl _ _ | refine Below.drew ?_ | refine bdq ?_ _)) ?_
  rintro w1 hb
  clear ka0 ka1 kaz
  have HB1 := Lib.hid (HB0.out.trans (hb.mono HB0.out.size))
  clear hb
  go_wp2_with fail
  refine (toS_any vps ps w1 (pat_up (pat_keep HV.out HB1.out) HB1.out.size) hl).mono ?_
  rintro e w2 ⟨ux1, rfl, hr, hb⟩
  have HB2 := Lib.hid (HB1.out.trans (hb.mono HB1.out.size))
  have R1 := Lib.hid hr
  clear hr
  clear hb
  have BZ2 := Lib.hid (show w.heap.size ≤ w1.heap.size from HB1.out.size)
  have ka0 := (HB2.out.cell (p := ⟨wz.heap.size, 0, none⟩) Z0).trans CA0.out
  have ka1 := (HB2.out.cell (p := ⟨wz.heap.size, 1, none⟩) Z0).trans CA1.out
  have kaz : wz.heap.size < w2.heap.size := Nat.lt_of_lt_of_le Z0 HB2.out.size
  go_wp2_with fail
  refine (to_below A0 A1 w2).mono ?_
  rintro e w3 ⟨rfl, hb⟩
  have HB3 := Lib.hid (HB2.out.trans (hb.mono HB2.out.size))
  have R3 := Lib.hid (prow_keep R1.out hb)
  clear ka0 ka1 kaz
  clear hb
  go_wp2_with fail
  refine (implInsideOf_any ux1 ps A0 A1 w3 (prow_at R3.out) hl).mono ?_
  rw [HC0.out]
  rw [HC1.out]
  rintro e w4 ⟨rfl, hb⟩
  have HB4 := Lib.hid (HB3.out.trans (hb.mono HB3.out.size))
  have R4 := Lib.hid (prow_keep R3.out hb)
  clear hb
  go_wp2_with fail
  refine (toS_any vps ps w4 (pat_up (pat_keep HV.out HB4.out) HB4.out.size) hl).mono ?_
  rintro e w5 ⟨ux2, rfl, hr, hb⟩
  have HB5 := Lib.hid (HB4.out.trans (hb.mono HB4.out.size))
  have R5 := Lib.hid (prow_keep R4.out hb)
  have R6 := Lib.hid hr
  have NE7 := Lib.hid (ne_of R4.out R6.out)
  have NE8 := Lib.hid (ne_of' R4.out R6.out)
  clear hr
  clear hb
  have BZ9 := Lib.hid (show w.heap.size ≤ w4.heap.size from HB4.out.size)
  go_wp2_with fail
  refine (eqS_same ux1 ux2 ps w5 (prow_at R5.out) (prow_at R6.out) hl).mono ?_
  rintro e w6 ⟨rfl, hb⟩
  have HB6 := Lib.hid (HB5.out.trans (hb.mono HB5.out.size))
  have R10 := Lib.hid (prow_keep R5.out hb)
  have R11 := Lib.hid (prow_keep R6.out hb)
  clear hb
  go_wp2
  go_ret
  exact ⟨rfl, HBZ.out.trans (HB6.out.mono HBZ.out.size)⟩

theorem cells_Place : Try.prog.cellsOf 63 = 2 := by kernel_rfl
theorem cells_int : Try.prog.cellsOf 2 = 1 := by kernel_rfl
set_option maxRecDepth 100000 in
theorem lifted (os : Os) (started : os.Started) (H : Type) (enc : TypeId × Value → H) :
    ReturnsInHanded {} Try.checked os 11 .any (Rows.fnExactInsideOfSpec.pre6 enc Try.prog Try.f11 Rows.fnExactInsideOfRow.domain false) (Rows.fnExactInsideOfSpec.post enc Try.prog Try.f11 false true false false) := by
  refine returnsInHanded_of_change (C := Try.checked) own started (by kernel_rfl) Try.func11
    (ChangeSpec.witness6 (enc := enc) (C := Try.checked) false ⟨#[], #[.slice none 0 0, .agg #[.int .i64 0, .int .i64 0]], []⟩ 8 (by kernel_rfl) (by kernel_rfl) (by kernel_rfl) (by kernel_rfl)) ?_
  intro W base args ds gs before hval0 hW hcnd _
  have hval : ∀ (j : Nat) t v, Try.f11.params[j]? = some t → args[j]? = some v → Value.okWide Try.prog W .any base t v := hval0
  have hW' := hW
  obtain ⟨p, q, hA0, hV, hpq, hfz, hnd⟩ := hW
  have hA : DataW.TrodAll enc Try.prog W 0 (fun _ => true) true Try.f11.params.toList args.toList ds p := hA0
  rw [Try.params11] at hA hval
  obtain ⟨v0, vs0, d0, ds0, p0, q0, hargs, rfl, rfl, h0, r0⟩ := trodAll_cons hA
  obtain ⟨v1, vs1, d1, ds1, p1, q1, rfl, rfl, rfl, h1, r1⟩ := trodAll_cons r0
  obtain ⟨rfl, rfl, rfl⟩ := trodAll_nil r1
  obtain rfl : args = #[v0, v1] := by cases args; simp_all
  obtain ⟨a0, len0, cap0, rfl⟩ := okWide_slice Try.underlying51 (hval 0 51 v0 rfl rfl)
  obtain ⟨fuel0, hf0⟩ := h0
  obtain ⟨ps0, hp0, hl0⟩ := Go.Proofs.Ytjailkgogmanfaa.pairsPlace.open_list hf0 ⟨_, _, _, rfl⟩
  obtain ⟨c1_0, c1_1, y1_0, y1_1, m1, rfl, _, _, hy1_0, hy1_1⟩ := Go.Joins.open_agg2 Try.underlying63 (by kernel_rfl) cells_Place (hval 1 63 v1 rfl rfl) h1
  obtain ⟨a1_0, e1_0, _, w1_0⟩ := DataW.trod_int Try.underlying2 hy1_0
  simp at e1_0
  subst e1_0
  obtain ⟨a1_1, e1_1, _, w1_1⟩ := DataW.trod_int Try.underlying2 hy1_1
  simp at e1_1
  subst e1_1
  refine (walk (.slice a0 len0 cap0) ps0 a1_0 a1_1 W hp0 hl0 w1_0 w1_1).mono fun e W' ⟨he, bel⟩ => ?_
  subst he
  exact ⟨_, rfl, post_of_law laidOut (by kernel_rfl) Try.underlying4 rfl rfl (fun ds h => by match ds, h with | [_, _], _ => rfl) hW' bel⟩

theorem holds : Rows.FnExactInsideOfSaid :=
  OpenClaim.holds_of_wide 11 Try.f11 rfl rfl rfl rfl rfl rfl rfl ⟨rfl, rfl, rfl, rfl, rfl⟩ rfl rfl rfl rfl rfl (by kernel_rfl) Try.func11 (by kernel_rfl)
    (of_decide_eq_true (by kernel_rfl)) (by unfold Func.isWrapper; first | (rw [if_pos (by decide +kernel)]; kernel_rfl) | (rw [if_neg (by decide +kernel)]; exact ⟨rfl, rfl⟩))
    (fun os started H enc _ => lifted os started H enc)
#print axioms holds

end Go.Proofs.Ytjailkgogmanfaa.insideOf
