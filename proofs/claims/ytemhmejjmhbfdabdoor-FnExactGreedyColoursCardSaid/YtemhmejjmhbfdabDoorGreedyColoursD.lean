/- FnExactGreedyColours answers true for every number of lands, every list of borders and every order. -/
import Derived.Test.YtemhmejjmhbfdabDoorDoorF
import Derived.Test.YtemhmejjmhbfdabDoorColsP19
import Derived.Test.YtemhmejjmhbfdabDoorOwn2B
import Derived.Test.YtemhmejjmhbfdabDoorIArg9
namespace Go.Proofs.YtemhmejjmhbfdabDoor.greedyColours
open Go.ChangeShapes Go.WideShapes Go.ChangeAt Go.RowKit Go.Proofs.YtemhmejjmhbfdabDoor.spots Go.Proofs.YtemhmejjmhbfdabDoor.sines Go.Proofs.YtemhmejjmhbfdabDoor.irows Go.Proofs.YtemhmejjmhbfdabDoor.pairsBorder Go.Proofs.YtemhmejjmhbfdabDoor.own2B

set_option maxRecDepth 100000 in
set_option maxHeartbeats 2000000 in
theorem walk (n : Int) (vps : Value) (ps : List (Int × Int)) (vcs : Value) (cs : List Int) (w : World) (_ : (Lit.int .i64 n).wf = true) (hvps : PAt w w.heap.size vps ps) (hmps : ps.length ≤ maxLen) (hvcs : IAt w w.heap.size vcs cs) (hmcs : cs.length ≤ maxLen) (hL : laidMetH Tryd.prog Rows.fnExactGreedyColoursRow.laid w) :
    Calls Tryd.prog 4 #[.int .i64 n, vps, vcs] w fun e w' => e = .returned (.bool true) ∧ Below w.heap.size w w' := by
  have hTB : TBl w := TBl_of_laid hL
  have TBW := Lib.hid (fun V (hb : Below w.heap.size w V) => TBl_below hTB hb (TBl_lt hTB))
  clear hL hTB
  have HVps := Lib.hid hvps
  clear hvps
  have HVcs := Lib.hid hvcs
  clear hvcs
  obtain ⟨lacs, lccs, lvcs⟩ : ∃ a c, vcs = .slice a cs.length c := by obtain ⟨a, c, e, _⟩ := HVcs.out; exact ⟨a, c, e⟩
  subst lvcs
  unfold maxLen at hmcs
  by_cases hbig : (1048576 : Int) < (cs.length : Int)
  · have hbig2 : (cs.length : Int) ≤ 9223372036854775807 := by omega
    go_enter Tryd.func4, Tryd.ntmps4
    go_wp2
    go_ret
    exact ⟨rfl, Below.refl _ _⟩
  have hlcs : cs.length ≤ 1048576 := by omega
  have hbcs : decide ((1048576 : Int) < (cs.length : Int)) = false := by simpa using hbig
  clear hbig
  have hLcs : (cs.length : Int) ≤ 1048576 := by omega
  by_cases hbig : 1048576 < ps.length
  · go_enter Tryd.func4, Tryd.ntmps4
    go_wp2_with fail
    refine (sz_no vps ps w _ HVps.out hmps hbig).mono ?_
    rintro e w' ⟨rfl, rfl⟩
    go_wp2
    go_ret
    exact ⟨rfl, Below.refl _ _⟩
  have hlps : ps.length ≤ 1048576 := by omega
  clear hbig
  have hLps : (ps.length : Int) ≤ 1048576 := by omega
  have hsz0 : decide (1048576 - (ps.length : Int) < 0) = false := by simp; omega
  obtain ⟨zs, HZ⟩ : ∃ zs, Hid (valGr n ps cs = zs) := ⟨_, Lib.hid rfl⟩
  have hn : zs.length ≤ 2000000 := by rw [← HZ.out]; exact Nat.le_trans (valGr_len n ps cs) (by decide)
  obtain ⟨c0, HC0⟩ : ∃ c, Hid (codeGr n ps cs = c) := ⟨_, Lib.hid rfl⟩
  have HB0 := Lib.hid (Below.refl w.heap.size w)
  go_enter Tryd.func4, Tryd.ntmps4
  go_wp2_with fail
  refine (sz_yes vps ps w _ HVps.out hlps).mono ?_
  rintro e w' ⟨rfl, rfl⟩
  go_wp2_with fail
  refine (toS_any vps ps w HVps.out hlps).mono ?_
  rintro e w1 ⟨ux0_0, rfl, hr, hb⟩
  have HB1 := Lib.hid (HB0.out.trans (hb.mono HB0.out.size))
  have R1 := Lib.hid hr
  clear hr
  clear hb
  have BZ2 := Lib.hid (show w.heap.size ≤ w.heap.size from Nat.le_refl _)
  go_wp2_with fail
  refine (toI_any (.slice lacs cs.length lccs) cs w1 (iat_up (iat_keep HVcs.out HB1.out) HB1.out.size) hlcs).mono ?_
  rintro e w2 ⟨ux0_1, rfl, hr, hb⟩
  have HB2 := Lib.hid (HB1.out.trans (hb.mono HB1.out.size))
  have R3 := Lib.hid (prow_keep R1.out hb)
  have R4 := Lib.hid hr
  have NE5 := Lib.hid (ne_of R1.out R4.out)
  have NE6 := Lib.hid (ne_of' R1.out R4.out)
  clear hr
  clear hb
  have BZ7 := Lib.hid (show w.heap.size ≤ w1.heap.size from HB1.out.size)
  go_wp2_with fail
  refine (specGr_any n ux0_0 ux0_1 ps cs w2 (prow_at R3.out) (iat_of_row R4.out) (room_of R4.out) hlps hlcs).mono ?_
  rw [HC0.out]
  rintro e w3 ⟨vr8, rfl, hr, hb⟩
  rw [HZ.out] at hr
  have HB3 := Lib.hid (HB2.out.trans (hb.mono HB2.out.size))
  have R9 := Lib.hid (prow_keep R3.out hb)
  have R10 := Lib.hid (irow_keep R4.out hb)
  have R11 := Lib.hid hr
  have NE12 := Lib.hid (ne_of R3.out R11.out)
  have NE13 := Lib.hid (ne_of' R3.out R11.out)
  have NE14 := Lib.hid (ne_of R4.out R11.out)
  have NE15 := Lib.hid (ne_of' R4.out R11.out)
  clear hr
  clear hb
  have BZ16 := Lib.hid (show w.heap.size ≤ w2.heap.size from HB2.out.size)
  go_wp2_with fail
  refine (toS_any vps ps w3 (pat_up (pat_keep HVps.out HB3.out) HB3.out.size) hlps).mono ?_
  rintro e w4 ⟨ux1_0, rfl, hr, hb⟩
  have HB4 := Lib.hid (HB3.out.trans (hb.mono HB3.out.size))
  have R17 := Lib.hid (irow_keep R11.out hb)
  have R18 := Lib.hid hr
  have NE19 := Lib.hid (ne_of R11.out R18.out)
  have NE20 := Lib.hid (ne_of' R11.out R18.out)
  clear hr
  clear hb
  have BZ21 := Lib.hid (show w.heap.size ≤ w3.heap.size from HB3.out.size)
  go_wp2_with fail
  refine (toI_any (.slice lacs cs.length lccs) cs w4 (iat_up (iat_keep HVcs.out HB4.out) HB4.out.size) hlcs).mono ?_
  rintro e w5 ⟨ux1_1, rfl, hr, hb⟩
  have HB5 := Lib.hid (HB4.out.trans (hb.mono HB4.out.size))
  have R22 := Lib.hid (irow_keep R17.out hb)
  have R23 := Lib.hid (prow_keep R18.out hb)
  have R24 := Lib.hid hr
  have NE25 := Lib.hid (ne_of R17.out R24.out)
  have NE26 := Lib.hid (ne_of' R17.out R24.out)
  have NE27 := Lib.hid (ne_of R18.out R24.out)
  have NE28 := Lib.hid (ne_of' R18.out R24.out)
  clear hr
  clear hb
  have BZ29 := Lib.hid (show w.heap.size ≤ w4.heap.size from HB4.out.size)
  go_wp2_with fail
  refine (implGr_any n ux1_0 ux1_1 ps cs w5 (prow_at R23.out) (iat_of_row R24.out) (room_of R24.out) hlps hlcs (TBW.out _ HB5.out)).mono ?_
  rw [HC0.out]
  rintro e w6 ⟨vr30, rfl, hr, hb⟩
  rw [HZ.out] at hr
  have HB6 := Lib.hid (HB5.out.trans (hb.mono HB5.out.size))
  have R31 := Lib.hid (irow_keep R22.out hb)
  have R32 := Lib.hid (prow_keep R23.out hb)
  have R33 := Lib.hid (irow_keep R24.out hb)
  have R34 := Lib.hid hr
  have NE35 := Lib.hid (ne_of R22.out R34.out)
  have NE36 := Lib.hid (ne_of' R22.out R34.out)
  have NE37 := Lib.hid (ne_of R23.out R34.out)
  have NE38 := Lib.hid (ne_of' R23.out R34.out)
  have NE39 := Lib.hid (ne_of R24.out R34.out)
  have NE40 := Lib.hid (ne_of' R24.out R34.out)
  clear hr
  clear hb
  have BZ41 := Lib.hid (show w.heap.size ≤ w5.heap.size from HB5.out.size)
  go_wp2_with fail
  refine (eq_same vr30 vr8 _ _ zs w6 R34.out R31.out (by omega)).mono ?_
  rintro e w7 ⟨rfl, q, hw⟩
  have hb : Below w6.heap.size w6 w7 := by rw [hw]; exact below_drawn _ q
  clear hw
  have HB7 := Lib.hid (HB6.out.trans (hb.mono HB6.out.size))
  have R42 := Lib.hid (irow_keep R31.out hb)
  have R43 := Lib.hid (prow_keep R32.out hb)
  have R44 := Lib.hid (irow_keep R33.out hb)
  have R45 := Lib.hid (irow_keep R34.out hb)
  clear hb
  go_wp2_with fail
  refine (toS_any vps ps w7 (pat_up (pat_keep HVps.out HB7.out) HB7.out.size) hlps).mono ?_
  rintro e w8 ⟨ux2_0, rfl, hr, hb⟩
  have HB8 := Lib.hid (HB7.out.trans (hb.mono HB7.out.size))
  have R46 := Lib.hid (irow_keep R42.out hb)
  have R47 := Lib.hid (prow_keep R43.out hb)
  have R48 := Lib.hid (irow_keep R44.out hb)
  have R49 := Lib.hid (irow_keep R45.out hb)
  have R50 := Lib.hid hr
  have NE51 := Lib.hid (ne_of R42.out R50.out)
  have NE52 := Lib.hid (ne_of' R42.out R50.out)
  have NE53 := Lib.hid (ne_of R43.out R50.out)
  have NE54 := Lib.hid (ne_of' R43.out R50.out)
  have NE55 := Lib.hid (ne_of R44.out R50.out)
  have NE56 := Lib.hid (ne_of' R44.out R50.out)
  have NE57 := Lib.hid (ne_of R45.out R50.out)
  have NE58 := Lib.hid (ne_of' R45.out R50.out)
  clear hr
  clear hb
  have BZ59 := Lib.hid (show w.heap.size ≤ w7.heap.size from HB7.out.size)
  go_wp2_with fail
  refine (eqS_same ux1_0 ux2_0 ps w8 (prow_at R47.out) (prow_at R50.out) hlps).mono ?_
  rintro e w9 ⟨rfl, hb⟩
  have HB9 := Lib.hid (HB8.out.trans (hb.mono HB8.out.size))
  have R60 := Lib.hid (irow_keep R46.out hb)
  have R61 := Lib.hid (prow_keep R47.out hb)
  have R62 := Lib.hid (irow_keep R48.out hb)
  have R63 := Lib.hid (irow_keep R49.out hb)
  have R64 := Lib.hid (prow_keep R50.out hb)
  clear hb
  go_wp2_with fail
  refine (toI_any (.slice lacs cs.length lccs) cs w9 (iat_up (iat_keep HVcs.out HB9.out) HB9.out.size) hlcs).mono ?_
  rintro e w10 ⟨ux2_1, rfl, hr, hb⟩
  have HB10 := Lib.hid (HB9.out.trans (hb.mono HB9.out.size))
  have R65 := Lib.hid (irow_keep R60.out hb)
  have R66 := Lib.hid (prow_keep R61.out hb)
  have R67 := Lib.hid (irow_keep R62.out hb)
  have R68 := Lib.hid (irow_keep R63.out hb)
  have R69 := Lib.hid hr
  have NE70 := Lib.hid (ne_of R60.out R69.out)
  have NE71 := Lib.hid (ne_of' R60.out R69.out)
  have NE72 := Lib.hid (ne_of R61.out R69.out)
  have NE73 := Lib.hid (ne_of' R61.out R69.out)
  have NE74 := Lib.hid (ne_of R62.out R69.out)
  have NE75 := Lib.hid (ne_of' R62.out R69.out)
  have NE76 := Lib.hid (ne_of R63.out R69.out)
  have NE77 := Lib.hid (ne_of' R63.out R69.out)
  clear hr
  clear hb
  have BZ78 := Lib.hid (show w.heap.size ≤ w9.heap.size from HB9.out.size)
  go_wp2_with fail
  refine (eq_same ux1_1 ux2_1 _ _ cs w10 R67.out R69.out (by omega)).mono ?_
  rintro e w11 ⟨rfl, q, hw⟩
  have hb : Below w10.heap.size w10 w11 := by rw [hw]; exact below_drawn _ q
  clear hw
  have HB11 := Lib.hid (HB10.out.trans (hb.mono HB10.out.size))
  have R79 := Lib.hid (irow_keep R65.out hb)
  have R80 := Lib.hid (prow_keep R66.out hb)
  have R81 := Lib.hid (irow_keep R67.out hb)
  have R82 := Lib.hid (irow_keep R68.out hb)
  have R83 := Lib.hid (irow_keep R69.out hb)
  clear hb
  go_wp2_with fail
  refine (markP_any ux1_0 _ ps w11 R80.out hlps).mono ?_
  rintro e w12 ⟨rfl, _, hg⟩
  have HB12 := Lib.hid (show Below w.heap.size w w12 from HB11.out.grown hg HB11.out.size (fun k hk => Nat.le_trans BZ21.out (World.ownsRow.lt R80.out k hk).1))
  have R84 := Lib.hid (kept_i R79.out hg NE19.out)
  have R85 := Lib.hid (kept_i R81.out hg NE28.out)
  have R86 := Lib.hid (kept_i R82.out hg NE38.out)
  clear hg
  have hk0 : decide (1 + 2 * (ps.length : Int) < 0) = false := by simp; omega
  go_wp2_with fail
  refine (markFrom_any ux1_1 _ cs (1 + 2 * (ps.length : Int)) w12 R85.out (by omega) (by omega) (by omega)).mono ?_
  rintro e w13 ⟨⟨rk, hrk, rfl⟩, hg⟩
  have HB13 := Lib.hid (show Below w.heap.size w w13 from HB12.out.grown hg HB12.out.size (fun k hk => Nat.le_trans BZ29.out (World.ownsRow.lt R85.out k hk).1))
  have R87 := Lib.hid (kept_i R84.out hg NE25.out)
  have R88 := Lib.hid (kept_i R86.out hg NE40.out)
  have hrk2 : decide (rk < 0) = false := by simp; omega
  clear hg
  go_wp2_with fail
  refine (eq_same vr30 vr8 _ _ zs w13 R88.out R87.out (by omega)).mono ?_
  rintro e w14 ⟨rfl, q, hw⟩
  have hb : Below w13.heap.size w13 w14 := by rw [hw]; exact below_drawn _ q
  clear hw
  have HB14 := Lib.hid (HB13.out.trans (hb.mono HB13.out.size))
  have R89 := Lib.hid (irow_keep R87.out hb)
  have R90 := Lib.hid (irow_keep R88.out hb)
  clear hb
  have SH := Lib.hid (irow_shape R90.out).1
  go_wp2_with fail
  refine (mark_any vr30 _ zs w14 R90.out hn).mono ?_
  rintro e w15 ⟨rfl, hr, hg⟩
  have HB15 := Lib.hid (show Below w.heap.size w w15 from HB14.out.grown hg HB14.out.size (fun k hk => Nat.le_trans BZ41.out (World.ownsRow.lt R90.out k hk).1))
  have R91 := Lib.hid (kept_i R89.out hg NE35.out)
  have R92 := Lib.hid hr
  clear hg hr
  have hn0 : 0 ≤ (zs.length : Int) := by omega
  have hn1 : (zs.length : Int) ≤ 2000000 := by omega
  go_wp2_with fail
  refine (held_any vr30 _ zs.length w15 SH.out R92.out hn).mono ?_
  rintro e w16 ⟨rfl, q, hw⟩
  have hb : Below w15.heap.size w15 w16 := by rw [hw]; exact below_drawn _ q
  clear hw
  have HB16 := Lib.hid (HB15.out.trans (hb.mono HB15.out.size))
  have R93 := Lib.hid (irow_keep R91.out hb)
  have R94 := Lib.hid (irow_keep R92.out hb)
  clear hb
  go_wp2_with fail
  refine (toS_any vps ps w16 (pat_up (pat_keep HVps.out HB16.out) HB16.out.size) hlps).mono ?_
  rintro e w17 ⟨ux3_0, rfl, hr, hb⟩
  have HB17 := Lib.hid (HB16.out.trans (hb.mono HB16.out.size))
  have R95 := Lib.hid (irow_keep R93.out hb)
  have R96 := Lib.hid (irow_keep R94.out hb)
  have R97 := Lib.hid hr
  have NE98 := Lib.hid (ne_of R93.out R97.out)
  have NE99 := Lib.hid (ne_of' R93.out R97.out)
  have NE100 := Lib.hid (ne_of R94.out R97.out)
  have NE101 := Lib.hid (ne_of' R94.out R97.out)
  clear hr
  clear hb
  have BZ102 := Lib.hid (show w.heap.size ≤ w16.heap.size from HB16.out.size)
  go_wp2_with fail
  refine (toI_any (.slice lacs cs.length lccs) cs w17 (iat_up (iat_keep HVcs.out HB17.out) HB17.out.size) hlcs).mono ?_
  rintro e w18 ⟨ux3_1, rfl, hr, hb⟩
  have HB18 := Lib.hid (HB17.out.trans (hb.mono HB17.out.size))
  have R103 := Lib.hid (irow_keep R95.out hb)
  have R104 := Lib.hid (irow_keep R96.out hb)
  have R105 := Lib.hid (prow_keep R97.out hb)
  have R106 := Lib.hid hr
  have NE107 := Lib.hid (ne_of R95.out R106.out)
  have NE108 := Lib.hid (ne_of' R95.out R106.out)
  have NE109 := Lib.hid (ne_of R96.out R106.out)
  have NE110 := Lib.hid (ne_of' R96.out R106.out)
  have NE111 := Lib.hid (ne_of R97.out R106.out)
  have NE112 := Lib.hid (ne_of' R97.out R106.out)
  clear hr
  clear hb
  have BZ113 := Lib.hid (show w.heap.size ≤ w17.heap.size from HB17.out.size)
  go_wp2_with fail
  refine (implGr_any n ux3_0 ux3_1 ps cs w18 (prow_at R105.out) (iat_of_row R106.out) (room_of R106.out) hlps hlcs (TBW.out _ HB18.out)).mono ?_
  rw [HC0.out]
  rintro e w19 ⟨vr114, rfl, hr, hb⟩
  rw [HZ.out] at hr
  have HB19 := Lib.hid (HB18.out.trans (hb.mono HB18.out.size))
  have R115 := Lib.hid (irow_keep R103.out hb)
  have R116 := Lib.hid (irow_keep R104.out hb)
  have R117 := Lib.hid (prow_keep R105.out hb)
  have R118 := Lib.hid (irow_keep R106.out hb)
  have R119 := Lib.hid hr
  have NE120 := Lib.hid (ne_of R103.out R119.out)
  have NE121 := Lib.hid (ne_of' R103.out R119.out)
  have NE122 := Lib.hid (ne_of R104.out R119.out)
  have NE123 := Lib.hid (ne_of' R104.out R119.out)
  have NE124 := Lib.hid (ne_of R105.out R119.out)
  have NE125 := Lib.hid (ne_of' R105.out R119.out)
  have NE126 := Lib.hid (ne_of R106.out R119.out)
  have NE127 := Lib.hid (ne_of' R106.out R119.out)
  clear hr
  clear hb
  have BZ128 := Lib.hid (show w.heap.size ≤ w18.heap.size from HB18.out.size)
  go_wp2_with fail
  refine (eq_same vr114 vr8 _ _ zs w19 R119.out R115.out (by omega)).mono ?_
  rintro e w20 ⟨rfl, q, hw⟩
  have hb : Below w19.heap.size w19 w20 := by rw [hw]; exact below_drawn _ q
  clear hw
  have HB20 := Lib.hid (HB19.out.trans (hb.mono HB19.out.size))
  have R129 := Lib.hid (irow_keep R115.out hb)
  have R130 := Lib.hid (irow_keep R116.out hb)
  have R131 := Lib.hid (irow_keep R119.out hb)
  clear hb
  go_wp2_with fail
  refine (held_any vr30 _ zs.length w20 SH.out R130.out hn).mono ?_
  rintro e w21 ⟨rfl, q, hw⟩
  have hb : Below w20.heap.size w20 w21 := by rw [hw]; exact below_drawn _ q
  clear hw
  have HB21 := Lib.hid (HB20.out.trans (hb.mono HB20.out.size))
  have R132 := Lib.hid (irow_keep R129.out hb)
  have R133 := Lib.hid (irow_keep R130.out hb)
  have R134 := Lib.hid (irow_keep R131.out hb)
  clear hb
  go_wp2
  go_ret
  exact ⟨rfl, HB21.out⟩

set_option maxRecDepth 100000 in
theorem lifted (os : Os) (started : os.Started) (H : Type) (enc : TypeId × Value → H) :
    ReturnsInHanded {} Tryd.checked os 4 .any (fun w args => (Rows.fnExactGreedyColoursSpec.pre enc Tryd.prog Tryd.f4 [] false w args ∧ laidMetH Tryd.prog Rows.fnExactGreedyColoursRow.laid w) ∧ sizedMet enc Tryd.prog Tryd.f4 (OpenSpec.ofChange Rows.fnExactGreedyColoursSpec) false w args)
      (Rows.fnExactGreedyColoursSpec.post enc Tryd.prog Tryd.f4 false true false false) := by
  refine returnsInHanded_of_change_and (C := Tryd.checked) (X := fun w _ => laidMetH Tryd.prog Rows.fnExactGreedyColoursRow.laid w) (fun _ _ _ hh h => h.of_heap hh) own started (by kernel_rfl) Tryd.func4
    (ChangeSpec.witness_shaped (enc := enc) (C := Tryd.checked) (os := os) (X := fun w _ => laidMetH Tryd.prog Rows.fnExactGreedyColoursRow.laid w) false (World.doorLaid Tryd.prog 19 os) #[.int .i64 0, .slice none 0 0, .slice none 0 0] 8 rfl (door_shaped os _) (by kernel_rfl) (by kernel_rfl) (by kernel_rfl) (door_met0 os _)) ?_
  intro W base args ds gs before hval0 hW hcnd _ hL _
  have hval : ∀ (j : Nat) t v, Tryd.f4.params[j]? = some t → args[j]? = some v → Value.okWide Tryd.prog W .any base t v := hval0
  have hW' := hW
  obtain ⟨p, q, hA0, hV, hpq, hfz, hnd⟩ := hW
  have hA : DataW.TrodAll enc Tryd.prog W 0 (fun _ => true) true Tryd.f4.params.toList args.toList ds p := hA0
  rw [Tryd.params4] at hA hval
  obtain ⟨v0, vs0, d0, ds0, p0, q0, hargs, rfl, rfl, h0, r0⟩ := trodAll_cons hA
  obtain ⟨v1, vs1, d1, ds1, p1, q1, rfl, rfl, rfl, h1, r1⟩ := trodAll_cons r0
  obtain ⟨v2, vs2, d2, ds2, p2, q2, rfl, rfl, rfl, h2, r2⟩ := trodAll_cons r1
  obtain ⟨rfl, rfl, rfl⟩ := trodAll_nil r2
  obtain rfl : args = #[v0, v1, v2] := by cases args; simp_all
  obtain ⟨a0, rfl, _, _, w0⟩ := open_int Tryd.underlying2 (hval 0 2 v0 rfl rfl) h0
  obtain ⟨a1, len1, cap1, rfl⟩ := okWide_slice Tryd.underlying22 (hval 1 22 v1 rfl rfl)
  obtain ⟨fuel1, hf1⟩ := h1
  obtain ⟨ps1, hp1, hl1⟩ := Go.Proofs.YtemhmejjmhbfdabDoor.pairsBorder.open_list hf1 ⟨_, _, _, rfl⟩
  obtain ⟨a2, len2, cap2, rfl⟩ := okWide_slice Tryd.underlying24 (hval 2 24 v2 rfl rfl)
  obtain ⟨fuel2, hf2⟩ := h2
  obtain ⟨zs2, hp2, hl2⟩ := Go.Proofs.YtemhmejjmhbfdabDoor.sines.open_ilist hf2 ⟨_, _, _, rfl⟩
  refine (walk a0 (.slice a1 len1 cap1) ps1 (.slice a2 len2 cap2) zs2 W w0 hp1 hl1 hp2 hl2 hL).mono fun e W' ⟨he, bel⟩ => ?_
  subst he
  exact ⟨_, rfl, post_of_law laidOut (by kernel_rfl) Tryd.underlying4 rfl rfl (fun ds h => by match ds, h with | [_, _, _], _ => rfl) hW' bel⟩

theorem holds : Rows.FnExactGreedyColoursSaid :=
  OpenClaim.holds_of_wide 4 Tryd.f4 rfl rfl rfl rfl rfl rfl rfl ⟨rfl, rfl, rfl, rfl, rfl⟩ rfl rfl rfl rfl rfl (by kernel_rfl) Tryd.func4 (by kernel_rfl)
    (of_decide_eq_true (by kernel_rfl)) (by unfold Func.isWrapper; first | (rw [if_pos (by decide +kernel)]; kernel_rfl) | (rw [if_neg (by decide +kernel)]; exact ⟨rfl, rfl⟩))
    (fun os started H enc _ => lifted os started H enc)

/-- No parameter wants a stand-in; what the card asks of the program's looks. -/
theorem plain (f : FuncId) (fn : Func) (hf : Tryd.pinned.checked.prog.funcNamed "loop.example/g01055/laws.FnExactGreedyColours" = some f) (hfn : Tryd.pinned.checked.prog.funcs[f]? = some fn) :
    false = Tryd.pinned.checked.prog.looks [] ∧ ∀ (j : Nat) t, fn.params[j]? = some t → Tryd.pinned.checked.prog.wantsStandIn t = false := by
  obtain rfl : f = 4 := Option.some.inj ((show Tryd.prog.funcNamed "loop.example/g01055/laws.FnExactGreedyColours" = some 4 by kernel_rfl).symm.trans hf) |>.symm
  obtain rfl : fn = Tryd.f4 := (Option.some.inj (Tryd.func4.symm.trans hfn)).symm
  refine ⟨door_looks, fun j t ht => ?_⟩
  have hall : (Tryd.f4.params.toList.all fun u => !Tryd.prog.wantsStandIn u) = true := by kernel_rfl
  have hm : t ∈ Tryd.f4.params.toList := by simpa using Array.mem_of_getElem? ht
  exact (show Tryd.prog.wantsStandIn t = false by simpa using List.all_eq_true.1 hall t hm)

/-- THE CARD. -/
theorem card : Rows.FnExactGreedyColoursCardSaid :=
  Claim7.holds_tied_plain_at .later [] _ _ _ _ holds (fun _ h => by cases h) (by kernel_rfl) (fun _ h => by cases h) fnExactGreedyColours_row_tie rfl ⟨rfl, rfl⟩ door_main rfl plain (by kernel_rfl)
#print axioms card

end Go.Proofs.YtemhmejjmhbfdabDoor.greedyColours
