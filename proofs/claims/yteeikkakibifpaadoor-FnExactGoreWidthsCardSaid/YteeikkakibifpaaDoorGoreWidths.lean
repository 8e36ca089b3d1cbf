/- FnExactGoreWidths answers true for every number of gores, circumference and step, under the condition that the program's table lies as its text lays it (the card ties it to that). -/
import Derived.Test.YteeikkakibifpaaDoorDoorF
import Derived.Test.YteeikkakibifpaaDoorIterW
namespace Go.Proofs.YteeikkakibifpaaDoor.goreWidths
open Go.ChangeShapes Go.WideShapes Go.ChangeAt Go.RowKit Go.Proofs.YteeikkakibifpaaDoor.spots Go.Proofs.YteeikkakibifpaaDoor.sines Go.Proofs.YteeikkakibifpaaDoor.irows

set_option maxRecDepth 100000 in
set_option maxHeartbeats 1000000 in
theorem walk (g a d : Int) (w : World) (_ : (Lit.int .i64 g).wf = true) (_ : (Lit.int .i64 a).wf = true) (_ : (Lit.int .i64 d).wf = true) (hL : laidMetH Tryd.prog Rows.fnExactGoreWidthsRow.laid w) :
    Calls Tryd.prog 10 #[.int .i64 g, .int .i64 a, .int .i64 d] w fun e w' => e = .returned (.bool true) ∧ Below w.heap.size w w' := by
  have hG : GV w := GV_of_laid hL
  obtain ⟨zs, HV⟩ : ∃ zs, Hid (wideV g a d = zs) := ⟨_, Lib.hid rfl⟩
  obtain ⟨c, HC⟩ : ∃ c, Hid (codeT g a d = c) := ⟨_, Lib.hid rfl⟩
  have hn : zs.length ≤ 2000000 := by rw [← HV.out]; exact wideV_len g a d
  go_enter Tryd.func10, Tryd.ntmps10
  go_wp2_with fail
  refine (specGoreWidths_any g a d w).mono ?_
  rintro e w1 ⟨vw, rfl, hr, hb⟩
  rw [HV.out] at hr
  rw [HC.out]
  have R1 := Lib.hid hr
  have B1 := Lib.hid hb
  clear hr hb
  go_wp2_with fail
  refine (implGoreWidths_any g a d w1 (GV_keep hG B1.out)).mono ?_
  rintro e w2 ⟨vg, rfl, hr, hb⟩
  rw [HV.out] at hr
  rw [HC.out]
  have R2w := Lib.hid (irow_keep R1.out hb)
  have R2g := Lib.hid hr
  have B2 := Lib.hid (B1.out.trans (hb.mono B1.out.size))
  have LW := Lib.hid (show ∀ k, vw.ownBlock = some k → k < w1.heap.size from irow_lt R1.out)
  have Z1 := Lib.hid B1.out.size
  clear hr hb
  go_wp2_with fail
  refine (eq_same vg vw _ _ zs w2 R2g.out R2w.out (by omega)).mono ?_
  rintro e w3 ⟨rfl, q, hw3⟩
  have R3w := Lib.hid (show IRow w3 _ vw zs by rw [hw3]; exact irow_keep R2w.out (below_drawn w2 q))
  have R3g := Lib.hid (show IRow w3 _ vg zs by rw [hw3]; exact irow_keep R2g.out (below_drawn w2 q))
  have B3 := Lib.hid (show Below w.heap.size w w3 by rw [hw3]; exact bdr B2.out q)
  clear hw3
  go_wp2_with fail
  refine (mark_any vg _ zs w3 R3g.out hn).mono ?_
  rintro e w4 ⟨rfl, hr4, hg4⟩
  have R4g := Lib.hid hr4
  have R4w := Lib.hid (irow_other R3w.out LW.out R3g.out hg4)
  have B4 := Lib.hid (show Below w.heap.size w w4 from B3.out.grown hg4 B3.out.size (fun k hk => Nat.le_trans Z1.out (World.ownsRow.lt R3g.out k hk).1))
  have SH := Lib.hid (irow_shape R3g.out).1
  clear hr4 hg4
  go_wp2_with fail
  refine (held_any vg _ zs.length w4 SH.out R4g.out hn).mono ?_
  rintro e w5 ⟨rfl, q5, hw5⟩
  have R5g := Lib.hid (show IRow w5 _ vg (marks 1 zs.length) by rw [hw5]; exact irow_keep R4g.out (below_drawn w4 q5))
  have R5w := Lib.hid (show IRow w5 _ vw zs by rw [hw5]; exact irow_keep R4w.out (below_drawn w4 q5))
  have B5 := Lib.hid (show Below w.heap.size w w5 by rw [hw5]; exact bdr B4.out q5)
  clear hw5
  have hn0 : 0 ≤ (zs.length : Int) := by omega
  have hn1 : (zs.length : Int) ≤ 2000000 := by omega
  go_wp2_with fail
  refine (implGoreWidths_any g a d w5 (GV_keep hG B5.out)).mono ?_
  rintro e w6 ⟨vh, rfl, hr, hb⟩
  rw [HV.out] at hr
  rw [HC.out]
  have R6g := Lib.hid (irow_keep R5g.out hb)
  have R6w := Lib.hid (irow_keep R5w.out hb)
  have R6h := Lib.hid hr
  have B6 := Lib.hid (B5.out.trans (hb.mono B5.out.size))
  clear hr hb
  go_wp2_with fail
  refine (eq_same vh vw _ _ zs w6 R6h.out R6w.out (by omega)).mono ?_
  rintro e w7 ⟨rfl, q2, hw7⟩
  have R7g := Lib.hid (show IRow w7 _ vg (marks 1 zs.length) by rw [hw7]; exact irow_keep R6g.out (below_drawn w6 q2))
  have B7 := Lib.hid (show Below w.heap.size w w7 by rw [hw7]; exact bdr B6.out q2)
  clear hw7
  go_wp2_with fail
  refine (held_any vg _ zs.length w7 SH.out R7g.out hn).mono ?_
  rintro e w8 ⟨rfl, q8, hw8⟩
  have B8 := Lib.hid (show Below w.heap.size w w8 by rw [hw8]; exact bdr B7.out q8)
  clear hw8
  go_wp2
  go_ret
  exact ⟨rfl, B8.out⟩

set_option maxRecDepth 100000 in
theorem lifted (os : Os) (started : os.Started) (H : Type) (enc : TypeId × Value → H) :
    ReturnsInHanded {} Tryd.checked os 10 .any (fun w args => (Rows.fnExactGoreWidthsSpec.pre enc Tryd.prog Tryd.f10 [] false w args ∧ laidMetH Tryd.prog Rows.fnExactGoreWidthsRow.laid w) ∧ sizedMet enc Tryd.prog Tryd.f10 (OpenSpec.ofChange Rows.fnExactGoreWidthsSpec) false w args)
      (Rows.fnExactGoreWidthsSpec.post enc Tryd.prog Tryd.f10 false true false false) := by
  refine returnsInHanded_of_change_and (C := Tryd.checked) (X := fun w _ => laidMetH Tryd.prog Rows.fnExactGoreWidthsRow.laid w) (fun _ _ _ hh h => h.of_heap hh) own started (by kernel_rfl) Tryd.func10
    (ChangeSpec.witness_shaped (enc := enc) (C := Tryd.checked) (os := os) (X := fun w _ => laidMetH Tryd.prog Rows.fnExactGoreWidthsRow.laid w) false (World.doorLaid Tryd.prog 14 os) #[.int .i64 0, .int .i64 0, .int .i64 0] 8 rfl (door_shaped os _) (by kernel_rfl) (by kernel_rfl) (by kernel_rfl) (door_met0 os _)) ?_
  intro W base args ds gs before hval0 hW hcnd _ hL _
  have hval : ∀ (j : Nat) t v, Tryd.f10.params[j]? = some t → args[j]? = some v → Value.okWide Tryd.prog W .any base t v := hval0
  have hW' := hW
  obtain ⟨p, q, hA0, hV, hpq, hfz, hnd⟩ := hW
  have hA : DataW.TrodAll enc Tryd.prog W 0 (fun _ => true) true Tryd.f10.params.toList args.toList ds p := hA0
  rw [Tryd.params10] at hA hval
  obtain ⟨v0, vs0, d0, ds0, p0, q0, hargs, rfl, rfl, h0, r0⟩ := trodAll_cons hA
  obtain ⟨v1, vs1, d1, ds1, p1, q1, rfl, rfl, rfl, h1, r1⟩ := trodAll_cons r0
  obtain ⟨v2, vs2, d2, ds2, p2, q2, rfl, rfl, rfl, h2, r2⟩ := trodAll_cons r1
  obtain ⟨rfl, rfl, rfl⟩ := trodAll_nil r2
  obtain rfl : args = #[v0, v1, v2] := by cases args; simp_all
  obtain ⟨a0, rfl, _, _, w0⟩ := open_int Tryd.underlying2 (hval 0 2 v0 rfl rfl) h0
  obtain ⟨a1, rfl, _, _, w1⟩ := open_int Tryd.underlying2 (hval 1 2 v1 rfl rfl) h1
  obtain ⟨a2, rfl, _, _, w2⟩ := open_int Tryd.underlying2 (hval 2 2 v2 rfl rfl) h2
  refine (walk a0 a1 a2 W w0 w1 w2 hL).mono fun e W' ⟨he, bel⟩ => ?_
  subst he
  exact ⟨_, rfl, post_of_law_vars laidOut (by kernel_rfl) (by kernel_rfl) Tryd.underlying4 rfl (fun ds gs h g => by match ds, gs, h, g with | [_, _, _], [_], _, _ => rfl) hW' bel⟩

theorem holds : Rows.FnExactGoreWidthsSaid :=
  OpenClaim.holds_of_wide 10 Tryd.f10 rfl rfl rfl rfl rfl rfl rfl ⟨rfl, rfl, rfl, rfl, rfl⟩ rfl rfl rfl rfl rfl (by kernel_rfl) Tryd.func10 (by kernel_rfl)
    (of_decide_eq_true (by kernel_rfl)) (by unfold Func.isWrapper; first | (rw [if_pos (by decide +kernel)]; kernel_rfl) | (rw [if_neg (by decide +kernel)]; exact ⟨rfl, rfl⟩))
    (fun os started H enc _ => lifted os started H enc)

/-- No parameter wants a stand-in; what the card asks of the program's looks. -/
theorem plain (f : FuncId) (fn : Func) (hf : Tryd.pinned.checked.prog.funcNamed "loop.example/g01055/laws.FnExactGoreWidths" = some f) (hfn : Tryd.pinned.checked.prog.funcs[f]? = some fn) :
    false = Tryd.pinned.checked.prog.looks [] ∧ ∀ (j : Nat) t, fn.params[j]? = some t → Tryd.pinned.checked.prog.wantsStandIn t = false := by
  obtain rfl : f = 10 := Option.some.inj ((show Tryd.prog.funcNamed "loop.example/g01055/laws.FnExactGoreWidths" = some 10 by kernel_rfl).symm.trans hf) |>.symm
  obtain rfl : fn = Tryd.f10 := (Option.some.inj (Tryd.func10.symm.trans hfn)).symm
  refine ⟨door_looks, fun j t ht => ?_⟩
  have hall : (Tryd.f10.params.toList.all fun u => !Tryd.prog.wantsStandIn u) = true := by kernel_rfl
  have hm : t ∈ Tryd.f10.params.toList := by simpa using Array.mem_of_getElem? ht
  exact (show Tryd.prog.wantsStandIn t = false by simpa using List.all_eq_true.1 hall t hm)

/-- THE CARD. -/
theorem card : Rows.FnExactGoreWidthsCardSaid :=
  Claim7.holds_tied_plain_at .later [] _ _ _ _ holds (fun _ h => by cases h) (by kernel_rfl) (fun _ h => by cases h) fnExactGoreWidths_row_tie rfl ⟨rfl, rfl⟩ door_main rfl plain (by kernel_rfl)
#print axioms card

end Go.Proofs.YteeikkakibifpaaDoor.goreWidths
