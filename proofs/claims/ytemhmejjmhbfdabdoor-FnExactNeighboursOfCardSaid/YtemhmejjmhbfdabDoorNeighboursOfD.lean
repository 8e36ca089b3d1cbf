/- FnExactNeighboursOf answers true for every number of lands, every list of borders and every land. -/
import Derived.Test.YtemhmejjmhbfdabDoorDoorF
import Derived.Test.YtemhmejjmhbfdabDoorColsP15
import Derived.Test.YtemhmejjmhbfdabDoorOwn2B
namespace Go.Proofs.YtemhmejjmhbfdabDoor.neighboursOf
open Go.ChangeShapes Go.WideShapes Go.ChangeAt Go.RowKit Go.Proofs.YtemhmejjmhbfdabDoor.spots Go.Proofs.YtemhmejjmhbfdabDoor.sines Go.Proofs.YtemhmejjmhbfdabDoor.irows Go.Proofs.YtemhmejjmhbfdabDoor.pairsBorder Go.Proofs.YtemhmejjmhbfdabDoor.own2B

set_option maxRecDepth 100000 in
set_option maxHeartbeats 2000000 in
theorem walk (n : Int) (vps : Value) (ps : List (Int × Int)) (a : Int) (w : World) (_ : (Lit.int .i64 n).wf = true) (hv : PAt w w.heap.size vps ps) (hm : ps.length ≤ maxLen) (_ : (Lit.int .i64 a).wf = true) (hL : laidMetH Tryd.prog Rows.fnExactNeighboursOfRow.laid w) :
    Calls Tryd.prog 3 #[.int .i64 n, vps, .int .i64 a] w fun e w' => e = .returned (.bool true) ∧ Below w.heap.size w w' := by
  have hTB : TBl w := TBl_of_laid hL
  have TBW := Lib.hid (fun V (hb : Below w.heap.size w V) => TBl_below hTB hb (TBl_lt hTB))
  clear hL hTB
  have HV := Lib.hid hv
  clear hv
  by_cases hbig : 1048576 < ps.length
  · go_enter Tryd.func3, Tryd.ntmps3
    go_wp2_with (go_at_call 6; refine (sz_no vps ps w _ HV.out hm hbig).mono ?_; rintro e w' ⟨rfl, rfl⟩)
    go_ret
    exact ⟨rfl, Below.refl _ _⟩
  have hl : ps.length ≤ 1048576 := by omega
  clear hbig
  obtain ⟨zs, HZ⟩ : ∃ zs, Hid (valNb n ps a = zs) := ⟨_, Lib.hid rfl⟩
  have hn : zs.length ≤ 2000000 := by rw [← HZ.out]; exact Nat.le_trans (valNb_ten n ps a) (by decide)
  obtain ⟨c0, HC0⟩ : ∃ c, Hid (codeNb n ps a = c) := ⟨_, Lib.hid rfl⟩
  have hl2 : (ps.length : Int) ≤ 1048576 := by omega
  have HB0 := Lib.hid (Below.refl w.heap.size w)
  go_enter Tryd.func3, Tryd.ntmps3
  go_wp2_with fail
  refine (sz_yes vps ps w _ HV.out hl).mono ?_
  rintro e w' ⟨rfl, rfl⟩
  have hsz0 : decide (1048576 - (ps.length : Int) < 0) = false := by simp; omega
  go_wp2_with fail
  refine (toS_any vps ps w HV.out hl).mono ?_
  rintro e w1 ⟨ux0, rfl, hr, hb⟩
  have HB1 := Lib.hid (HB0.out.trans (hb.mono HB0.out.size))
  have R1 := Lib.hid hr
  clear hr
  clear hb
  have BZ2 := Lib.hid (show w.heap.size ≤ w.heap.size from Nat.le_refl _)
  go_wp2_with fail
  refine (specNb_any n ux0 ps a w1 (prow_at R1.out) hl).mono ?_
  rw [HC0.out]
  rintro e w2 ⟨vr3, rfl, hr, hb⟩
  rw [HZ.out] at hr
  have HB2 := Lib.hid (HB1.out.trans (hb.mono HB1.out.size))
  have R4 := Lib.hid (prow_keep R1.out hb)
  have R5 := Lib.hid hr
  have NE6 := Lib.hid (ne_of R1.out R5.out)
  have NE7 := Lib.hid (ne_of' R1.out R5.out)
  clear hr
  clear hb
  have BZ8 := Lib.hid (show w.heap.size ≤ w1.heap.size from HB1.out.size)
  go_wp2_with fail
  refine (toS_any vps ps w2 (pat_up (pat_keep HV.out HB2.out) HB2.out.size) hl).mono ?_
  rintro e w3 ⟨ux1, rfl, hr, hb⟩
  have HB3 := Lib.hid (HB2.out.trans (hb.mono HB2.out.size))
  have R9 := Lib.hid (irow_keep R5.out hb)
  have R10 := Lib.hid hr
  have NE11 := Lib.hid (ne_of R5.out R10.out)
  have NE12 := Lib.hid (ne_of' R5.out R10.out)
  clear hr
  clear hb
  have BZ13 := Lib.hid (show w.heap.size ≤ w2.heap.size from HB2.out.size)
  go_wp2_with fail
  refine (implNb_any n ux1 ps a w3 (prow_at R10.out) hl (TBW.out _ HB3.out)).mono ?_
  rw [HC0.out]
  rintro e w4 ⟨vr14, rfl, hr, hb⟩
  rw [HZ.out] at hr
  have HB4 := Lib.hid (HB3.out.trans (hb.mono HB3.out.size))
  have R15 := Lib.hid (irow_keep R9.out hb)
  have R16 := Lib.hid (prow_keep R10.out hb)
  have R17 := Lib.hid hr
  have NE18 := Lib.hid (ne_of R9.out R17.out)
  have NE19 := Lib.hid (ne_of' R9.out R17.out)
  have NE20 := Lib.hid (ne_of R10.out R17.out)
  have NE21 := Lib.hid (ne_of' R10.out R17.out)
  clear hr
  clear hb
  have BZ22 := Lib.hid (show w.heap.size ≤ w3.heap.size from HB3.out.size)
  go_wp2_with fail
  refine (eq_same vr14 vr3 _ _ zs w4 R17.out R15.out (by omega)).mono ?_
  rintro e w5 ⟨rfl, q, hw⟩
  have hb : Below w4.heap.size w4 w5 := by rw [hw]; exact below_drawn _ q
  clear hw
  have HB5 := Lib.hid (HB4.out.trans (hb.mono HB4.out.size))
  have R23 := Lib.hid (irow_keep R15.out hb)
  have R24 := Lib.hid (prow_keep R16.out hb)
  have R25 := Lib.hid (irow_keep R17.out hb)
  clear hb
  go_wp2_with fail
  refine (toS_any vps ps w5 (pat_up (pat_keep HV.out HB5.out) HB5.out.size) hl).mono ?_
  rintro e w6 ⟨ux2, rfl, hr, hb⟩
  have HB6 := Lib.hid (HB5.out.trans (hb.mono HB5.out.size))
  have R26 := Lib.hid (irow_keep R23.out hb)
  have R27 := Lib.hid (prow_keep R24.out hb)
  have R28 := Lib.hid (irow_keep R25.out hb)
  have R29 := Lib.hid hr
  have NE30 := Lib.hid (ne_of R23.out R29.out)
  have NE31 := Lib.hid (ne_of' R23.out R29.out)
  have NE32 := Lib.hid (ne_of R24.out R29.out)
  have NE33 := Lib.hid (ne_of' R24.out R29.out)
  have NE34 := Lib.hid (ne_of R25.out R29.out)
  have NE35 := Lib.hid (ne_of' R25.out R29.out)
  clear hr
  clear hb
  have BZ36 := Lib.hid (show w.heap.size ≤ w5.heap.size from HB5.out.size)
  go_wp2_with fail
  refine (eqS_same ux1 ux2 ps w6 (prow_at R27.out) (prow_at R29.out) hl).mono ?_
  rintro e w7 ⟨rfl, hb⟩
  have HB7 := Lib.hid (HB6.out.trans (hb.mono HB6.out.size))
  have R37 := Lib.hid (irow_keep R26.out hb)
  have R38 := Lib.hid (prow_keep R27.out hb)
  have R39 := Lib.hid (irow_keep R28.out hb)
  have R40 := Lib.hid (prow_keep R29.out hb)
  clear hb
  go_wp2_with fail
  refine (markS_any ux1 _ ps w7 R38.out hl).mono ?_
  rintro e w8 ⟨⟨rk, hrk, rfl⟩, hg⟩
  have HB8 := Lib.hid (show Below w.heap.size w w8 from HB7.out.grown hg HB7.out.size (fun k hk => Nat.le_trans BZ13.out (World.ownsRow.lt R38.out k hk).1))
  have R41 := Lib.hid (kept_i R37.out hg NE11.out)
  have R42 := Lib.hid (kept_i R39.out hg NE21.out)
  have hrk2 : decide (rk < 0) = false := by simp; omega
  clear hg
  go_wp2_with fail
  refine (eq_same vr14 vr3 _ _ zs w8 R42.out R41.out (by omega)).mono ?_
  rintro e w9 ⟨rfl, q, hw⟩
  have hb : Below w8.heap.size w8 w9 := by rw [hw]; exact below_drawn _ q
  clear hw
  have HB9 := Lib.hid (HB8.out.trans (hb.mono HB8.out.size))
  have R43 := Lib.hid (irow_keep R41.out hb)
  have R44 := Lib.hid (irow_keep R42.out hb)
  clear hb
  have SH := Lib.hid (irow_shape R44.out).1
  go_wp2_with fail
  refine (mark_any vr14 _ zs w9 R44.out hn).mono ?_
  rintro e w10 ⟨rfl, hr, hg⟩
  have HB10 := Lib.hid (show Below w.heap.size w w10 from HB9.out.grown hg HB9.out.size (fun k hk => Nat.le_trans BZ22.out (World.ownsRow.lt R44.out k hk).1))
  have R45 := Lib.hid (kept_i R43.out hg NE18.out)
  have R46 := Lib.hid hr
  clear hg hr
  have hn0 : 0 ≤ (zs.length : Int) := by omega
  have hn1 : (zs.length : Int) ≤ 2000000 := by omega
  go_wp2_with fail
  refine (held_any vr14 _ zs.length w10 SH.out R46.out hn).mono ?_
  rintro e w11 ⟨rfl, q, hw⟩
  have hb : Below w10.heap.size w10 w11 := by rw [hw]; exact below_drawn _ q
  clear hw
  have HB11 := Lib.hid (HB10.out.trans (hb.mono HB10.out.size))
  have R47 := Lib.hid (irow_keep R45.out hb)
  have R48 := Lib.hid (irow_keep R46.out hb)
  clear hb
  go_wp2_with fail
  refine (toS_any vps ps w11 (pat_up (pat_keep HV.out HB11.out) HB11.out.size) hl).mono ?_
  rintro e w12 ⟨ux3, rfl, hr, hb⟩
  have HB12 := Lib.hid (HB11.out.trans (hb.mono HB11.out.size))
  have R49 := Lib.hid (irow_keep R47.out hb)
  have R50 := Lib.hid (irow_keep R48.out hb)
  have R51 := Lib.hid hr
  have NE52 := Lib.hid (ne_of R47.out R51.out)
  have NE53 := Lib.hid (ne_of' R47.out R51.out)
  have NE54 := Lib.hid (ne_of R48.out R51.out)
  have NE55 := Lib.hid (ne_of' R48.out R51.out)
  clear hr
  clear hb
  have BZ56 := Lib.hid (show w.heap.size ≤ w11.heap.size from HB11.out.size)
  go_wp2_with fail
  refine (implNb_any n ux3 ps a w12 (prow_at R51.out) hl (TBW.out _ HB12.out)).mono ?_
  rw [HC0.out]
  rintro e w13 ⟨vr57, rfl, hr, hb⟩
  rw [HZ.out] at hr
  have HB13 := Lib.hid (HB12.out.trans (hb.mono HB12.out.size))
  have R58 := Lib.hid (irow_keep R49.out hb)
  have R59 := Lib.hid (irow_keep R50.out hb)
  have R60 := Lib.hid (prow_keep R51.out hb)
  have R61 := Lib.hid hr
  have NE62 := Lib.hid (ne_of R49.out R61.out)
  have NE63 := Lib.hid (ne_of' R49.out R61.out)
  have NE64 := Lib.hid (ne_of R50.out R61.out)
  have NE65 := Lib.hid (ne_of' R50.out R61.out)
  have NE66 := Lib.hid (ne_of R51.out R61.out)
  have NE67 := Lib.hid (ne_of' R51.out R61.out)
  clear hr
  clear hb
  have BZ68 := Lib.hid (show w.heap.size ≤ w12.heap.size from HB12.out.size)
  go_wp2_with fail
  refine (eq_same vr57 vr3 _ _ zs w13 R61.out R58.out (by omega)).mono ?_
  rintro e w14 ⟨rfl, q, hw⟩
  have hb : Below w13.heap.size w13 w14 := by rw [hw]; exact below_drawn _ q
  clear hw
  have HB14 := Lib.hid (HB13.out.trans (hb.mono HB13.out.size))
  have R69 := Lib.hid (irow_keep R58.out hb)
  have R70 := Lib.hid (irow_keep R59.out hb)
  have R71 := Lib.hid (irow_keep R61.out hb)
  clear hb
  go_wp2_with fail
  refine (held_any vr14 _ zs.length w14 SH.out R70.out hn).mono ?_
  rintro e w15 ⟨rfl, q, hw⟩
  have hb : Below w14.heap.size w14 w15 := by rw [hw]; exact below_drawn _ q
  clear hw
  have HB15 := Lib.hid (HB14.out.trans (hb.mono HB14.out.size))
  have R72 := Lib.hid (irow_keep R69.out hb)
  have R73 := Lib.hid (irow_keep R70.out hb)
  have R74 := Lib.hid (irow_keep R71.out hb)
  clear hb
  go_wp2
  go_ret
  exact ⟨rfl, HB15.out⟩

set_option maxRecDepth 100000 in
theorem lifted (os : Os) (started : os.Started) (H : Type) (enc : TypeId × Value → H) :
    ReturnsInHanded {} Tryd.checked os 3 .any (fun w args => (Rows.fnExactNeighboursOfSpec.pre enc Tryd.prog Tryd.f3 [] false w args ∧ laidMetH Tryd.prog Rows.fnExactNeighboursOfRow.laid w) ∧ sizedMet enc Tryd.prog Tryd.f3 (OpenSpec.ofChange Rows.fnExactNeighboursOfSpec) false w args)
      (Rows.fnExactNeighboursOfSpec.post enc Tryd.prog Tryd.f3 false true false false) := by
  refine returnsInHanded_of_change_and (C := Tryd.checked) (X := fun w _ => laidMetH Tryd.prog Rows.fnExactNeighboursOfRow.laid w) (fun _ _ _ hh h => h.of_heap hh) own started (by kernel_rfl) Tryd.func3
    (ChangeSpec.witness_shaped (enc := enc) (C := Tryd.checked) (os := os) (X := fun w _ => laidMetH Tryd.prog Rows.fnExactNeighboursOfRow.laid w) false (World.doorLaid Tryd.prog 19 os) #[.int .i64 0, .slice none 0 0, .int .i64 0] 8 rfl (door_shaped os _) (by kernel_rfl) (by kernel_rfl) (by kernel_rfl) (door_met0 os _)) ?_
  intro W base args ds gs before hval0 hW hcnd _ hL _
  have hval : ∀ (j : Nat) t v, Tryd.f3.params[j]? = some t → args[j]? = some v → Value.okWide Tryd.prog W .any base t v := hval0
  have hW' := hW
  obtain ⟨p, q, hA0, hV, hpq, hfz, hnd⟩ := hW
  have hA : DataW.TrodAll enc Tryd.prog W 0 (fun _ => true) true Tryd.f3.params.toList args.toList ds p := hA0
  rw [Tryd.params3] at hA hval
  obtain ⟨v0, vs0, d0, ds0, p0, q0, hargs, rfl, rfl, h0, r0⟩ := trodAll_cons hA
  obtain ⟨v1, vs1, d1, ds1, p1, q1, rfl, rfl, rfl, h1, r1⟩ := trodAll_cons r0
  obtain ⟨v2, vs2, d2, ds2, p2, q2, rfl, rfl, rfl, h2, r2⟩ := trodAll_cons r1
  obtain ⟨rfl, rfl, rfl⟩ := trodAll_nil r2
  obtain rfl : args = #[v0, v1, v2] := by cases args; simp_all
  obtain ⟨a0, rfl, _, _, w0⟩ := open_int Tryd.underlying2 (hval 0 2 v0 rfl rfl) h0
  obtain ⟨a1, len1, cap1, rfl⟩ := okWide_slice Tryd.underlying22 (hval 1 22 v1 rfl rfl)
  obtain ⟨fuel1, hf1⟩ := h1
  obtain ⟨ps1, hp1, hl1⟩ := Go.Proofs.YtemhmejjmhbfdabDoor.pairsBorder.open_list hf1 ⟨_, _, _, rfl⟩
  obtain ⟨a2, rfl, _, _, w2⟩ := open_int Tryd.underlying2 (hval 2 2 v2 rfl rfl) h2
  refine (walk a0 (.slice a1 len1 cap1) ps1 a2 W w0 hp1 hl1 w2 hL).mono fun e W' ⟨he, bel⟩ => ?_
  subst he
  exact ⟨_, rfl, post_of_law laidOut (by kernel_rfl) Tryd.underlying4 rfl rfl (fun ds h => by match ds, h with | [_, _, _], _ => rfl) hW' bel⟩

theorem holds : Rows.FnExactNeighboursOfSaid :=
  OpenClaim.holds_of_wide 3 Tryd.f3 rfl rfl rfl rfl rfl rfl rfl ⟨rfl, rfl, rfl, rfl, rfl⟩ rfl rfl rfl rfl rfl (by kernel_rfl) Tryd.func3 (by kernel_rfl)
    (of_decide_eq_true (by kernel_rfl)) (by unfold Func.isWrapper; first | (rw [if_pos (by decide +kernel)]; kernel_rfl) | (rw [if_neg (by decide +kernel)]; exact ⟨rfl, rfl⟩))
    (fun os started H enc _ => lifted os started H enc)

/-- No parameter wants a stand-in; what the card asks of the program's looks. -/
theorem plain (f : FuncId) (fn : Func) (hf : Tryd.pinned.checked.prog.funcNamed "loop.example/g01055/laws.FnExactNeighboursOf" = some f) (hfn : Tryd.pinned.checked.prog.funcs[f]? = some fn) :
    false = Tryd.pinned.checked.prog.looks [] ∧ ∀ (j : Nat) t, fn.params[j]? = some t → Tryd.pinned.checked.prog.wantsStandIn t = false := by
  obtain rfl : f = 3 := Option.some.inj ((show Tryd.prog.funcNamed "loop.example/g01055/laws.FnExactNeighboursOf" = some 3 by kernel_rfl).symm.trans hf) |>.symm
  obtain rfl : fn = Tryd.f3 := (Option.some.inj (Tryd.func3.symm.trans hfn)).symm
  refine ⟨door_looks, fun j t ht => ?_⟩
  have hall : (Tryd.f3.params.toList.all fun u => !Tryd.prog.wantsStandIn u) = true := by kernel_rfl
  have hm : t ∈ Tryd.f3.params.toList := by simpa using Array.mem_of_getElem? ht
  exact (show Tryd.prog.wantsStandIn t = false by simpa using List.all_eq_true.1 hall t hm)

/-- THE CARD. -/
theorem card : Rows.FnExactNeighboursOfCardSaid :=
  Claim7.holds_tied_plain_at .later [] _ _ _ _ holds (fun _ h => by cases h) (by kernel_rfl) (fun _ h => by cases h) fnExactNeighboursOf_row_tie rfl ⟨rfl, rfl⟩ door_main rfl plain (by kernel_rfl)
#print axioms card

end Go.Proofs.YtemhmejjmhbfdabDoor.neighboursOf
