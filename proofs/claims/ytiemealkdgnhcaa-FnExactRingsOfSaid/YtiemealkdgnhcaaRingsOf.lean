/- FnExactRingsOf answers true for every radius and width. -/
import Derived.Test.YtiemealkdgnhcaaCapsI
import Derived.Test.YtiemealkdgnhcaaCapsU
namespace Go.Proofs.Ytiemealkdgnhcaa.ringsOf
open Go.ChangeShapes Go.WideShapes Go.ChangeAt Go.RowKit Go.Proofs.Ytiemealkdgnhcaa.spots Go.Proofs.Ytiemealkdgnhcaa.sines Go.Proofs.Ytiemealkdgnhcaa.irows

set_option maxRecDepth 100000 in
set_option maxHeartbeats 1000000 in
theorem walk (r d : Int) (w : World) (_ : (Lit.int .i64 r).wf = true) (_ : (Lit.int .i64 d).wf = true) :
    Calls Try.prog 10 #[.int .i64 r, .int .i64 d] w fun e w' => e = .returned (.bool true) ∧ Below w.heap.size w w' := by
  obtain ⟨zs, HV⟩ : ∃ zs, Hid (ringsV r d = zs) := ⟨_, Lib.hid rfl⟩
  obtain ⟨c, HC⟩ : ∃ c, Hid (codeN r d = c) := ⟨_, Lib.hid rfl⟩
  have hn : zs.length ≤ 2000000 := by rw [← HV.out]; exact Nat.le_trans (ringsV_len r d) (by decide)
  go_enter Try.func10, Try.ntmps10
  go_wp2_with fail
  refine (specRingsOf_any r d w).mono ?_
  rintro e w1 ⟨vw, rfl, hr, hb⟩
  rw [HV.out] at hr
  rw [HC.out]
  have R1 := Lib.hid hr
  have B1 := Lib.hid hb
  clear hr hb
  go_wp2_with fail
  refine (implRingsOf_any r d w1).mono ?_
  rintro e w2 ⟨vg, rfl, hr, hb⟩
  rw [HV.out] at hr
  rw [HC.out]
  have R2w := Lib.hid (irow_keep R1.out hb)
  have R2g := Lib.hid hr
  have B2 := Lib.hid (B1.out.trans (hb.mono B1.out.size))
  have LW := Lib.hid (show ∀ k, vw.ownBlock = some k → k < w1.heap.size from irow_lt R1.out)
  have Z1 := Lib.hid B1.out.size
  clear hr hb
  go_wp2_with fail
  refine (eq_same vg vw _ _ zs w2 R2g.out R2w.out (by omega)).mono ?_
  rintro e w3 ⟨rfl, q, hw3⟩
  have R3w := Lib.hid (show IRow w3 _ vw zs by rw [hw3]; exact irow_keep R2w.out (below_drawn w2 q))
  have R3g := Lib.hid (show IRow w3 _ vg zs by rw [hw3]; exact irow_keep R2g.out (below_drawn w2 q))
  have B3 := Lib.hid (show Below w.heap.size w w3 by rw [hw3]; exact bdr B2.out q)
  clear hw3
  go_wp2_with fail
  refine (mark_any vg _ zs w3 R3g.out hn).mono ?_
  rintro e w4 ⟨rfl, hr4, hg4⟩
  have R4g := Lib.hid hr4
  have R4w := Lib.hid (irow_other R3w.out LW.out R3g.out hg4)
  have B4 := Lib.hid (show Below w.heap.size w w4 from B3.out.grown hg4 B3.out.size (fun k hk => Nat.le_trans Z1.out (World.ownsRow.lt R3g.out k hk).1))
  have SH := Lib.hid (irow_shape R3g.out).1
  clear hr4 hg4
  go_wp2_with fail
  refine (held_any vg _ zs.length w4 SH.out R4g.out hn).mono ?_
  rintro e w5 ⟨rfl, q5, hw5⟩
  have R5g := Lib.hid (show IRow w5 _ vg (marks 1 zs.length) by rw [hw5]; exact irow_keep R4g.out (below_drawn w4 q5))
  have R5w := Lib.hid (show IRow w5 _ vw zs by rw [hw5]; exact irow_keep R4w.out (below_drawn w4 q5))
  have B5 := Lib.hid (show Below w.heap.size w w5 by rw [hw5]; exact bdr B4.out q5)
  clear hw5
  have hn0 : 0 ≤ (zs.length : Int) := by omega
  have hn1 : (zs.length : Int) ≤ 2000000 := by omega
  go_wp2_with fail
  refine (implRingsOf_any r d w5).mono ?_
  rintro e w6 ⟨vh, rfl, hr, hb⟩
  rw [HV.out] at hr
  rw [HC.out]
  have R6g := Lib.hid (irow_keep R5g.out hb)
  have R6w := Lib.hid (irow_keep R5w.out hb)
  have R6h := Lib.hid hr
  have B6 := Lib.hid (B5.out.trans (hb.mono B5.out.size))
  clear hr hb
  go_wp2_with fail
  refine (eq_same vh vw _ _ zs w6 R6h.out R6w.out (by omega)).mono ?_
  rintro e w7 ⟨rfl, q2, hw7⟩
  have R7g := Lib.hid (show IRow w7 _ vg (marks 1 zs.length) by rw [hw7]; exact irow_keep R6g.out (below_drawn w6 q2))
  have B7 := Lib.hid (show Below w.heap.size w w7 by rw [hw7]; exact bdr B6.out q2)
  clear hw7
  go_wp2_with fail
  refine (held_any vg _ zs.length w7 SH.out R7g.out hn).mono ?_
  rintro e w8 ⟨rfl, q8, hw8⟩
  have B8 := Lib.hid (show Below w.heap.size w w8 by rw [hw8]; exact bdr B7.out q8)
  clear hw8
  go_wp2
  go_ret
  exact ⟨rfl, B8.out⟩

set_option maxRecDepth 100000 in
theorem lifted (os : Os) (started : os.Started) (H : Type) (enc : TypeId × Value → H) :
    ReturnsInHanded {} Try.checked os 10 .any (Rows.fnExactRingsOfSpec.pre6 enc Try.prog Try.f10 Rows.fnExactRingsOfRow.domain false) (Rows.fnExactRingsOfSpec.post enc Try.prog Try.f10 false true false false) := by
  refine returnsInHanded_of_change (C := Try.checked) own started (by kernel_rfl) Try.func10
    (ChangeSpec.witness6 (enc := enc) (C := Try.checked) false ⟨#[], #[.int .i64 0, .int .i64 0], []⟩ 8 (by kernel_rfl) (by kernel_rfl) (by kernel_rfl) (by kernel_rfl)) ?_
  intro W base args ds gs before hval0 hW hcnd _
  have hval : ∀ (j : Nat) t v, Try.f10.params[j]? = some t → args[j]? = some v → Value.okWide Try.prog W .any base t v := hval0
  have hW' := hW
  obtain ⟨p, q, hA0, hV, hpq, hfz, hnd⟩ := hW
  have hA : DataW.TrodAll enc Try.prog W 0 (fun _ => true) true Try.f10.params.toList args.toList ds p := hA0
  rw [Try.params10] at hA hval
  obtain ⟨v0, vs0, d0, ds0, p0, q0, hargs, rfl, rfl, h0, r0⟩ := trodAll_cons hA
  obtain ⟨v1, vs1, d1, ds1, p1, q1, rfl, rfl, rfl, h1, r1⟩ := trodAll_cons r0
  obtain ⟨rfl, rfl, rfl⟩ := trodAll_nil r1
  obtain rfl : args = #[v0, v1] := by cases args; simp_all
  obtain ⟨a0, rfl, _, _, w0⟩ := open_int Try.underlying2 (hval 0 2 v0 rfl rfl) h0
  obtain ⟨a1, rfl, _, _, w1⟩ := open_int Try.underlying2 (hval 1 2 v1 rfl rfl) h1
  refine (walk a0 a1 W w0 w1).mono fun e W' ⟨he, bel⟩ => ?_
  subst he
  exact ⟨_, rfl, post_of_law laidOut (by kernel_rfl) Try.underlying4 rfl rfl (fun ds h => by match ds, h with | [_, _], _ => rfl) hW' bel⟩

theorem holds : Rows.FnExactRingsOfSaid :=
  OpenClaim.holds_of_wide 10 Try.f10 rfl rfl rfl rfl rfl rfl rfl ⟨rfl, rfl, rfl, rfl, rfl⟩ rfl rfl rfl rfl rfl (by kernel_rfl) Try.func10 (by kernel_rfl)
    (of_decide_eq_true (by kernel_rfl)) (by unfold Func.isWrapper; first | (rw [if_pos (by decide +kernel)]; kernel_rfl) | (rw [if_neg (by decide +kernel)]; exact ⟨rfl, rfl⟩))
    (fun os started H enc _ => lifted os started H enc)
#print axioms holds

end Go.Proofs.Ytiemealkdgnhcaa.ringsOf
