/- FnGores answers true for every list of bytes, under the condition that the program's table lies as its text lays it (the card ties it to that). -/
import Derived.Test.YtbnihalbepffoaaDoorDoorF
import Derived.Test.YtbnihalbepffoaaDoorIterW
import Derived.Test.YtbnihalbepffoaaDoorTouchM
import Derived.Test.YtbnihalbepffoaaDoorPDraw
import Derived.Test.YtbnihalbepffoaaDoorF6L
import Derived.Test.YtbnihalbepffoaaDoorOwn2
import Derived.BigRegion
namespace Go.Proofs.YtbnihalbepffoaaDoor.fngores
open Go.ChangeShapes Go.WideShapes Go.ChangeAt Go.RowKit Go.Proofs.YtbnihalbepffoaaDoor.spots Go.Proofs.YtbnihalbepffoaaDoor.sines Go.Proofs.YtbnihalbepffoaaDoor.src Go.Proofs.YtbnihalbepffoaaDoor.a2 Go.Proofs.YtbnihalbepffoaaDoor.irows Go.Proofs.YtbnihalbepffoaaDoor.pairs Go.Proofs.YtbnihalbepffoaaDoor.own2

theorem specValidGores_any (n : Int) (w : World)  :
    Calls Tryd.prog 34 #[.int .i64 n] w fun e w' => e = .returned (.bool (goreB n)) ∧ w = w' := by
  go_enter Tryd.func34, Tryd.ntmps34
  go_wp2_with (go_at_call 67; refine (l04Ok_any _ _).mono ?_; rintro e w' ⟨rfl, rfl⟩)
  go_ret
  exact ⟨rfl, rfl⟩
theorem wide_fall (g a d : Int) (i j : Nat) (hj : j + 1 = i) (hi : i < (wideV g a d).length) : (wideV g a d)[i] ≤ (wideV g a d)[j] ∧ 0 ≤ (wideV g a d)[i] := by
  by_cases h : codeT g a d = 0
  · obtain ⟨hg, a1, a2, d1, d2⟩ := codeT_yes h
    obtain ⟨g1, g2, _⟩ := goreB_facts hg
    have e : wideV g a d = widthsL g a d (stepsN d) := by simp [wideV, h]
    have hl : i < stepsN d := by rw [e, widthsL_len] at hi; exact hi
    have hle := (stepsN_iff (d := d) (by omega)).2 hl
    have h0 : 0 ≤ (j : Int) * d := Int.mul_nonneg (by omega) (by omega)
    have h1 : (j : Int) * d ≤ (i : Int) * d := Int.mul_le_mul_of_nonneg_right (by omega) (by omega)
    have hlj : j < stepsN d := by omega
    simp only [e, widthsL_at g a d _ i hl, widthsL_at g a d _ j hlj]
    exact ⟨gpart_mono (p := g) (by omega) a1 h0 h1 hle, (gpart_bounds (p := g) (by omega) a1 a2 (by omega) hle).1⟩
  · have e : wideV g a d = [] := by simp [wideV, h]
    rw [e] at hi
    simp at hi
theorem mid_near (g x y : Int) (h : codeO g x y = 0) : codeG g true = 0 ∧ codeG g (inM g (goreAtL g y)) = 0 ∧ spanG g * g = 1296000 ∧ -648000 ≤ y ∧ y ≤ 647999 ∧ -648000 ≤ midL g (goreAtL g y) ∧ midL g (goreAtL g y) ≤ 647999 ∧
    min (absI (midL g (goreAtL g y) - y)) (1296000 - absI (midL g (goreAtL g y) - y)) ≤ spanG g / 2 + 1 ∧ 27000 ≤ spanG g ∧ spanG g ≤ 216000 := by
  have hh : goreB g = true ∧ okB x y = true := by
    cases h1 : goreB g <;> cases h2 : okB x y <;> simp [codeO, h1, h2] at h ⊢
  obtain ⟨hg, hk⟩ := hh
  obtain ⟨y1, y2⟩ := (okB_of hk).2.2
  obtain ⟨g1, g2, g3, g4, g5, _⟩ := spanG_facts hg
  obtain ⟨_, _, _, _, _, g6⟩ := goreB_facts hg
  obtain ⟨k1, k2⟩ := goreAtL_bounds hg y1 y2
  obtain ⟨e1, e2⟩ := eastL_bounds y1 y2
  have hs : (0 : Int) < spanG g := by omega
  have q1 : goreAtL g y * spanG g ≤ eastL y := Int.ediv_mul_le _ (by unfold spanG at hs; omega)
  have q2 : eastL y < goreAtL g y * spanG g + spanG g := by
    have := Int.lt_ediv_add_one_mul_self (eastL y) hs
    rw [Int.add_mul] at this
    simpa [goreAtL, spanG] using this
  have q3 : spanG g % 2 = 0 := g6
  have e3 : eastL y = y ∨ eastL y = y + 1296000 := by simp only [eastL]; split <;> omega
  have inm : inM g (goreAtL g y) = true := by simp [inM, k1, k2]
  refine ⟨by simp [codeG, hg], by simp [codeG, hg, inm], by rw [Int.mul_comm]; exact g3, y1, y2, ?_⟩
  unfold midL wrapL absI
  generalize goreAtL g y * spanG g = ks at *
  generalize spanG g = s at *
  generalize eastL y = e at *
  refine ⟨by omega, by omega, ?_, g4, g5⟩
  split <;> omega
theorem touch_has (g : Int) (ps : List (Int × Int)) (h : codeTo g ps = 0) (i : Nat) (hi : i < ps.length) : codeO g ps[i].1 ps[i].2 = 0 ∧ goreAtL g ps[i].2 ∈ valTo g ps ∧ (valTo g ps).length ≤ ps.length := by
  have hh : goreB g = true ∧ okL ps = true := by
    cases h1 : goreB g <;> cases h2 : okL ps <;> simp [codeTo, h1, h2] at h ⊢
  obtain ⟨hg, hk⟩ := hh
  have e : valTo g ps = touchL g ps := by simp [valTo, h]
  obtain ⟨_, t2, t3⟩ := touchL_facts g ps
  rw [e]
  exact ⟨by simp [codeO, hg, okL_at hk i hi], (t2 _).2 ⟨ps[i], List.getElem_mem _, rfl⟩, t3⟩
theorem valTo_le (g : Int) (ps : List (Int × Int)) : (valTo g ps).length ≤ ps.length := by
  simp only [valTo]; split
  · exact (touchL_facts g ps).2.2
  · simp
theorem absI_nonneg' (n : Int) : 0 ≤ absI n := by simp only [absI]; split <;> omega
theorem box_keep {w w' : World} {pb : Nat} {o : Obj} (h : w.heap[pb]? = some o) (hb : Below w.heap.size w w') : w'.heap[pb]? = some o := by
  rw [hb.block pb (Array.getElem?_eq_some_iff.1 h).1]; exact h

set_option maxRecDepth 100000 in
set_option maxHeartbeats 8000000 in
theorem walk (a0 : Option Addr) (l0 c0 : Nat) (z0 : List Int) (w : World) (r0 : Go.Proofs.YtbnihalbepffoaaDoor.src.IsRow .u8 w a0 l0 c0 z0) (hL : laidMetH Tryd.prog Rows.fnGoresRow.laid w) :
    Calls Tryd.prog 4 #[.slice a0 l0 c0] w fun e w' => e = .returned (.bool true) ∧ Below w.heap.size w w' := by
  have hG : GV w := GV_of_laid hL
  have hl0 := row_len r0
  clear hL
  by_cases hlong : 4096 < l0
  · have hd : decide (4096 < l0) = true := decide_eq_true hlong
    have R0 := Lib.hid r0
    clear r0
    go_enter Tryd.func4, Tryd.ntmps4
    go_wp2_with (go_at_call 17; refine (f6big_any _ _ _ _ hl0).mono ?_; rintro e w' ⟨rfl, rfl⟩; rw [hd])
    go_ret
    exact ⟨rfl, Below.refl _ _⟩
  have hd : decide (4096 < l0) = false := decide_eq_false hlong
  have B0 := Lib.hid (bytes_of r0 (by omega) (fun b o v h => World.block_lt_of_cell? _ _ h))
  have HG := Lib.hid hG
  have HB0 := Lib.hid (Below.refl w.heap.size w)
  clear r0 hG
  go_enter Tryd.func4, Tryd.ntmps4
  go_wp2_with (go_at_call 17; refine (f6big_any _ _ _ _ hl0).mono ?_; rintro e w' ⟨rfl, rfl⟩; rw [hd])
  go_wp2_with fail
  refine (DrawGoreOf_any w a0 l0 c0 B0.out).mono ?_
  rintro e w1 ⟨g, x, y, rfl, hb⟩
  have HB1 := Lib.hid (HB0.out.trans (hb.mono HB0.out.size))
  clear hb
  obtain ⟨C, HC⟩ : ∃ xx, Hid (codeO g x y = xx) := ⟨_, Lib.hid rfl⟩
  obtain ⟨V, HV⟩ : ∃ xx, Hid (ansG C (goreAtL g y) = xx) := ⟨_, Lib.hid rfl⟩
  have F1 := Lib.hid (mid_near g x y)
  have BY := Lib.hid (heap_alloc_new w1 (.cells #[.int .i64 x, .int .i64 y] 25))
  go_wp2_with fail
  refine (implGoreOf_any g x y _ (GV_keep (GV_keep HG.out HB1.out) ((Below.refl _ _).alloc (Nat.le_refl _) _))).mono ?_
  rw [HC.out, HV.out]
  rintro e w2 ⟨rfl, hb⟩
  have HB2 := Lib.hid ((HB1.out.alloc HB1.out.size (.cells #[.int .i64 x, .int .i64 y] 25)).trans (hb.mono (by have := HB1.out.size; simp; omega)))
  have BX2 := Lib.hid (box_keep BY.out hb)
  clear hb
  obtain ⟨z2, p0, p1, _, _⟩ := two_cells BX2.out
  go_wp2_with fail
  refine (specGoreOf_any g x y w2).mono ?_
  rw [HC.out, HV.out]
  rintro e w3 ⟨rfl, hb⟩
  have HB3 := Lib.hid (HB2.out.trans (hb.mono HB2.out.size))
  have BX3 := Lib.hid (box_keep BX2.out hb)
  clear hb
  clear p0 p1 z2
  obtain ⟨C2, HC2⟩ : ∃ xx, Hid (codeG g true = xx) := ⟨_, Lib.hid rfl⟩
  obtain ⟨S2, HS2⟩ : ∃ xx, Hid (ansG C2 (spanG g) = xx) := ⟨_, Lib.hid rfl⟩
  go_wp2_with fail
  refine (implGoreSpan_any g w3 (GV_keep HG.out HB3.out)).mono ?_
  rw [HC2.out, HS2.out]
  rintro e w' ⟨rfl, rfl⟩
  go_wp2_with fail
  refine (specGoreSpan_any g w3).mono ?_
  rw [HC2.out, HS2.out]
  rintro e w' ⟨rfl, rfl⟩
  go_wp2_with fail
  refine (DrawGoreWidths_any w3 a0 l0 c0 (bytes_up B0.out HB3.out)).mono ?_
  rintro e w4 ⟨g3, a3, d3, rfl, hb⟩
  have HB4 := Lib.hid (HB3.out.trans (hb.mono HB3.out.size))
  have BX4 := Lib.hid (box_keep BX3.out hb)
  clear hb
  obtain ⟨C3, HC3⟩ : ∃ xx, Hid (codeT g3 a3 d3 = xx) := ⟨_, Lib.hid rfl⟩
  obtain ⟨zs, Hzs⟩ : ∃ xx, Hid (wideV g3 a3 d3 = xx) := ⟨_, Lib.hid rfl⟩
  have hn : zs.length ≤ 2000000 := by rw [← Hzs.out]; exact wideV_len g3 a3 d3
  have FALL := Lib.hid (show ∀ (i j : Nat) (hj : j + 1 = i) (hi : i < zs.length), zs[i] ≤ zs[j] ∧ 0 ≤ zs[i] from by have := Hzs.out; subst this; exact wide_fall g3 a3 d3)
  go_wp2_with fail
  refine (implGoreWidths_any g3 a3 d3 w4 (GV_keep HG.out HB4.out)).mono ?_
  rw [HC3.out]
  rintro e w5 ⟨vLI, rfl, hr, hb⟩
  rw [Hzs.out] at hr
  have HB5 := Lib.hid (HB4.out.trans (hb.mono HB4.out.size))
  have R1 := Lib.hid hr
  clear hr
  have BX5 := Lib.hid (box_keep BX4.out hb)
  clear hb
  go_wp2_with fail
  refine (specGoreWidths_any g3 a3 d3 w5).mono ?_
  rw [HC3.out]
  rintro e w6 ⟨vLW, rfl, hr, hb⟩
  rw [Hzs.out] at hr
  have HB6 := Lib.hid (HB5.out.trans (hb.mono HB5.out.size))
  have R2 := Lib.hid (irow_keep R1.out hb)
  have R3 := Lib.hid hr
  have NE4 := Lib.hid (ne_of R1.out R3.out)
  have NE5 := Lib.hid (ne_of' R1.out R3.out)
  clear hr
  have BX6 := Lib.hid (box_keep BX5.out hb)
  clear hb
  go_wp2_with fail
  refine (DrawGoresTouched_any w6 a0 l0 c0 (bytes_up B0.out HB6.out)).mono ?_
  rintro e w7 ⟨g4, vps, ps, rfl, hpl, hr, hb⟩
  have HB7 := Lib.hid (HB6.out.trans (hb.mono HB6.out.size))
  have R6 := Lib.hid (irow_keep R2.out hb)
  have R7 := Lib.hid (irow_keep R3.out hb)
  have R8 := Lib.hid hr
  have NE9 := Lib.hid (ne_of R2.out R8.out)
  have NE10 := Lib.hid (ne_of' R2.out R8.out)
  have NE11 := Lib.hid (ne_of R3.out R8.out)
  have NE12 := Lib.hid (ne_of' R3.out R8.out)
  clear hr
  have BX7 := Lib.hid (box_keep BX6.out hb)
  clear hb
  have hpl2 : ps.length ≤ 1048576 := by omega
  obtain ⟨C4, HC4⟩ : ∃ xx, Hid (codeTo g4 ps = xx) := ⟨_, Lib.hid rfl⟩
  obtain ⟨ts, Hts⟩ : ∃ xx, Hid (valTo g4 ps = xx) := ⟨_, Lib.hid rfl⟩
  have ht : ts.length ≤ 2000000 := by rw [← Hts.out]; exact valTo_len g4 ps hpl2
  have htl : ts.length ≤ ps.length := by rw [← Hts.out]; exact valTo_le g4 ps
  have HAS := Lib.hid (show C4 = 0 → ∀ (i : Nat) (hi : i < ps.length), codeO g4 ps[i].1 ps[i].2 = 0 ∧ goreAtL g4 ps[i].2 ∈ ts from fun h i hi => by have := Hts.out; subst this; rw [← HC4.out] at h; exact ⟨(touch_has g4 ps h i hi).1, (touch_has g4 ps h i hi).2.1⟩)
  go_wp2_with fail
  refine (implGoresTouched_any g4 vps ps w7 (GV_keep HG.out HB7.out) (prow_at R8.out) hpl2).mono ?_
  rw [HC4.out]
  rintro e w8 ⟨vTI, rfl, hr, hb⟩
  rw [Hts.out] at hr
  have HB8 := Lib.hid (HB7.out.trans (hb.mono HB7.out.size))
  have R13 := Lib.hid (irow_keep R6.out hb)
  have R14 := Lib.hid (irow_keep R7.out hb)
  have R15 := Lib.hid (prow_keep R8.out hb)
  have R16 := Lib.hid hr
  have NE17 := Lib.hid (ne_of R6.out R16.out)
  have NE18 := Lib.hid (ne_of' R6.out R16.out)
  have NE19 := Lib.hid (ne_of R7.out R16.out)
  have NE20 := Lib.hid (ne_of' R7.out R16.out)
  have NE21 := Lib.hid (ne_of R8.out R16.out)
  have NE22 := Lib.hid (ne_of' R8.out R16.out)
  clear hr
  have BX8 := Lib.hid (box_keep BX7.out hb)
  clear hb
  go_wp2_with fail
  refine (specGoresTouched_any g4 vps ps w8 (prow_at R15.out) hpl2).mono ?_
  rw [HC4.out]
  rintro e w9 ⟨vTS, rfl, hr, hb⟩
  rw [Hts.out] at hr
  have HB9 := Lib.hid (HB8.out.trans (hb.mono HB8.out.size))
  have R23 := Lib.hid (irow_keep R13.out hb)
  have R24 := Lib.hid (irow_keep R14.out hb)
  have R25 := Lib.hid (prow_keep R15.out hb)
  have R26 := Lib.hid (irow_keep R16.out hb)
  have R27 := Lib.hid hr
  have NE28 := Lib.hid (ne_of R13.out R27.out)
  have NE29 := Lib.hid (ne_of' R13.out R27.out)
  have NE30 := Lib.hid (ne_of R14.out R27.out)
  have NE31 := Lib.hid (ne_of' R14.out R27.out)
  have NE32 := Lib.hid (ne_of R15.out R27.out)
  have NE33 := Lib.hid (ne_of' R15.out R27.out)
  have NE34 := Lib.hid (ne_of R16.out R27.out)
  have NE35 := Lib.hid (ne_of' R16.out R27.out)
  clear hr
  have BX9 := Lib.hid (box_keep BX8.out hb)
  clear hb
  go_wp2_with fail
  refine (DrawGoreMiddle_any w9 a0 l0 c0 (bytes_up B0.out HB9.out)).mono ?_
  rintro e w10 ⟨g5, k5, rfl, hb⟩
  have HB10 := Lib.hid (HB9.out.trans (hb.mono HB9.out.size))
  have R36 := Lib.hid (irow_keep R23.out hb)
  have R37 := Lib.hid (irow_keep R24.out hb)
  have R38 := Lib.hid (prow_keep R25.out hb)
  have R39 := Lib.hid (irow_keep R26.out hb)
  have R40 := Lib.hid (irow_keep R27.out hb)
  have BX10 := Lib.hid (box_keep BX9.out hb)
  clear hb
  obtain ⟨C5, HC5⟩ : ∃ xx, Hid (codeG g5 (inM g5 k5) = xx) := ⟨_, Lib.hid rfl⟩
  obtain ⟨M5, HM5⟩ : ∃ xx, Hid (ansG C5 (midL g5 k5) = xx) := ⟨_, Lib.hid rfl⟩
  go_wp2_with fail
  refine (implGoreMiddle_any g5 k5 w10 (GV_keep HG.out HB10.out)).mono ?_
  rw [HC5.out, HM5.out]
  rintro e w' ⟨rfl, rfl⟩
  go_wp2_with fail
  refine (specGoreMiddle_any g5 k5 w10).mono ?_
  rw [HC5.out, HM5.out]
  rintro e w' ⟨rfl, rfl⟩
  go_wp2_with fail
  refine (f6ints_same vLI vLW _ _ zs w10 R36.out R37.out (by omega)).mono ?_
  rintro e w11 ⟨rfl, q, hw⟩
  have hb : Below w10.heap.size w10 w11 := by rw [hw]; exact below_drawn _ q
  clear hw
  have HB11 := Lib.hid (HB10.out.trans (hb.mono HB10.out.size))
  have R41 := Lib.hid (irow_keep R36.out hb)
  have R42 := Lib.hid (irow_keep R37.out hb)
  have R43 := Lib.hid (prow_keep R38.out hb)
  have R44 := Lib.hid (irow_keep R39.out hb)
  have R45 := Lib.hid (irow_keep R40.out hb)
  have BX11 := Lib.hid (box_keep BX10.out hb)
  clear hb
  go_wp2_with fail
  refine (f6ints_same vTI vTS _ _ ts w11 R44.out R45.out (by omega)).mono ?_
  rintro e w12 ⟨rfl, q, hw⟩
  have hb : Below w11.heap.size w11 w12 := by rw [hw]; exact below_drawn _ q
  clear hw
  have HB12 := Lib.hid (HB11.out.trans (hb.mono HB11.out.size))
  have R46 := Lib.hid (irow_keep R41.out hb)
  have R47 := Lib.hid (irow_keep R42.out hb)
  have R48 := Lib.hid (prow_keep R43.out hb)
  have R49 := Lib.hid (irow_keep R44.out hb)
  have R50 := Lib.hid (irow_keep R45.out hb)
  have BX12 := Lib.hid (box_keep BX11.out hb)
  clear hb
  obtain ⟨GB, HGB⟩ : ∃ xx, Hid (goreB g = xx) := ⟨_, Lib.hid rfl⟩
  go_wp2_with fail
  refine (ValidGores_any g w12 (GV_keep HG.out HB12.out)).mono ?_
  rw [HGB.out]
  rintro e w' ⟨rfl, rfl⟩
  go_wp2_with fail
  refine (specValidGores_any g w12).mono ?_
  rw [HGB.out]
  rintro e w' ⟨rfl, rfl⟩
  have GB2 : (GB != GB) = false := by simp
  obtain ⟨⟨aw, cw, hvw⟩, _⟩ := irow_shape R47.out
  subst hvw
  obtain ⟨asp, csp, hvs, hcs⟩ := prow_at R48.out
  subst hvs
  have HCS := Lib.hid hcs
  clear hcs
  obtain ⟨⟨ats, cts, hvt⟩, _⟩ := irow_shape R50.out
  subst hvt
  have hn0 : (zs.length : Int) ≤ 2000000 := by omega
  go_wp2
  go_loopw [32] (fun i wr => ∃ k q : Nat, 1 ≤ k ∧ k ≤ zs.length + 1 ∧ i = .int .i64 (k : Int) ∧ wr = w12.drewN q) (fun i _ => zs.length + 1 - (intOf i).toNat)
  case atStart => exact ⟨1, 0, Nat.le_refl _, by omega, rfl, rfl⟩
  case round =>
    obtain ⟨k, q, hk1, hk2, rfl, rfl⟩ := hrel
    by_cases hlt : k < zs.length
    · obtain ⟨j, hj⟩ : ∃ j : Nat, j + 1 = k := ⟨k - 1, by omega⟩
      obtain ⟨ga, rfl, _, ca⟩ := irow_at R47.out k hlt
      obtain ⟨gb, e2, _, cb⟩ := irow_at R47.out j (by omega)
      simp at e2
      subst e2
      obtain ⟨f1, f2⟩ := FALL.out k j hj hlt
      have hji : (k : Int) - 1 = (j : Int) := by omega
      have hjw : IntKind.i64.wrap (j : Int) = (j : Int) := IntWalk.i64_in _ (by omega)
      have hj0 : 0 ≤ (j : Int) := by omega
      have hj1 : (j : Int) < (zs.length : Int) := by omega
      have hk0 : 0 ≤ (k : Int) := by omega
      have hk3 : (k : Int) < (zs.length : Int) := by omega
      have hjl : j < zs.length := by omega
      generalize zs[k] = p at ca f1 f2
      generalize zs[j]'hjl = r at cb f1
      have d1 : decide (r < p) = false := by simp; omega
      have d2 : decide (p < 0) = false := by simp; omega
      clear hj
      go_wp2_with fail
      go_region
      go_wp2
      go_roundw
      case rel => exact ⟨k + 1, _, by omega, by omega, by go_num, rfl⟩
      case measure => simp [intOf]; omega
    · have hkk : ¬ (k : Int) < (zs.length : Int) := by omega
      have WD := Lib.hid (below_drawn w12 q)
      by_cases h4 : C4 = 0
      · have u1 : (C4 == 0) = true := by simp [h4]
        have HASZ := Lib.hid (HAS.out h4)
        clear h4
        go_wp2
        go_loopw [33] (fun i wr => ∃ k : Nat, k ≤ ps.length ∧ i = .int .i64 (k : Int) ∧ Below w12.heap.size w12 wr) (fun i _ => ps.length - (intOf i).toNat)
        case atStart => exact ⟨0, Nat.zero_le _, rfl, WD.out⟩
        case round =>
          obtain ⟨i, hi, rfl, hbr⟩ := hrel
          have HBR := Lib.hid hbr
          clear hbr
          by_cases hlt2 : i < ps.length
          · obtain ⟨b, off, rfl, hbs, s1, s2⟩ := HCS.out i hlt2
            have s1' : wr.cell? ⟨b, off + i * 2, none⟩ = some (.int .i64 ps[i].1) := by rw [HBR.out.cell (p := ⟨b, off + i * 2, none⟩) hbs]; exact s1
            have s2' : wr.cell? ⟨b, off + i * 2 + 1, none⟩ = some (.int .i64 ps[i].2) := by rw [HBR.out.cell (p := ⟨b, off + i * 2 + 1, none⟩) hbs]; exact s2
            have OWN := Lib.hid (HASZ.out i hlt2)
            have i0 : 0 ≤ (i : Int) := by omega
            have i1 : (i : Int) < (ps.length : Int) := by omega
            clear s1 s2
            generalize ps[i] = pp at s1' s2' OWN
            obtain ⟨x1, x2⟩ := pp
            go_wp2_with fail
            refine (implGoreOf_any g4 x1 x2 wr (GV_keep HG.out (HB12.out.trans (HBR.out.mono HB12.out.size)))).mono ?_
            rw [OWN.out.1, ansG_ok]
            rintro e wy ⟨rfl, hby⟩
            have HBY := Lib.hid (HBR.out.trans (hby.mono HBR.out.size))
            clear hby
            go_wp2_with fail
            refine (f6has_yes _ _ ts (goreAtL g4 x2) wy (irow_keep R50.out HBY.out) (by omega) OWN.out.2).mono ?_
            rintro e w' ⟨rfl, rfl⟩
            go_wp2
            go_roundw
            case rel => exact ⟨i + 1, by omega, by go_num, HBY.out⟩
            case measure => simp [intOf]; omega
          · obtain rfl : i = ps.length := by omega
            have htl2 : (ts.length : Int) ≤ (ps.length : Int) := by omega
            by_cases hC : C = 0
            · have x1 : (C != 0) = false := by simp [hC]
              have x2 : (C == 0) = true := by simp [hC]
              obtain ⟨m0, m1, m2, m3, m4, m5, m6, m7, m8, m9⟩ := F1.out (by rw [HC.out]; exact hC)
              have hV : goreAtL g y = V := by have := HV.out; rw [hC, ansG_ok] at this; exact this
              have hS : spanG g = S2 := by have := HS2.out; rw [← HC2.out, m0, ansG_ok] at this; exact this
              rw [hV] at m1 m5 m6 m7
              rw [hS] at m2 m7 m8 m9
              obtain ⟨at_, hat⟩ : ∃ xx, Hid (midL g V = xx) := ⟨_, Lib.hid rfl⟩
              rw [hat.out] at m5 m6 m7
              obtain ⟨fa, hfa⟩ : ∃ xx, Hid (absI (at_ - y) = xx) := ⟨_, Lib.hid rfl⟩
              have fa0 : 0 ≤ fa := by rw [← hfa.out]; exact absI_nonneg' _
              have fa1 : fa ≤ 1296000 := by rw [← hfa.out]; simp only [absI]; split <;> omega
              rw [hfa.out] at m7
              obtain ⟨mn, hmn⟩ : ∃ xx, Hid (min fa (1296000 - fa) = xx) := ⟨_, Lib.hid rfl⟩
              rw [hmn.out] at m7
              have hmn2 : min fa (1296000 - fa) = mn := hmn.out
              have M1 := Lib.hid m1
              have k2 : IntKind.i64.wrap (S2 * g) = 1296000 := by rw [m2]; exact IntWalk.i64_in _ (by omega)
              have k3 : IntKind.i64.wrap (at_ - y) = at_ - y := IntWalk.i64_in _ (by omega)
              have k4 : decide (mn ≤ S2 / 2 + 1) = true := by simpa using m7
              have BXT := Lib.hid (box_keep BX12.out HBR.out)
              obtain ⟨zt, p0, p1, _, _⟩ := two_cells BXT.out
              have HBT := Lib.hid (HB12.out.trans (HBR.out.mono HB12.out.size))
              clear hC m0 m1 hV hS
              go_wp2_with fail
              refine (implGoreMiddle_any g V wr (GV_keep HG.out HBT.out)).mono ?_
              rw [M1.out, ansG_ok, hat.out]
              rintro e w' ⟨rfl, rfl⟩
              go_wp2_with fail
              refine (f6abs_any (at_ - y) _ (by omega) (by omega)).mono ?_
              rw [hfa.out]
              rintro e w' ⟨rfl, rfl⟩
              go_wp2
              all_goals (go_ret; exact ⟨rfl, HBT.out⟩)
            · have x1 : (C != 0) = true := by simpa using hC
              have HBT := Lib.hid (HB12.out.trans (HBR.out.mono HB12.out.size))
              clear hC
              go_wp2
              go_ret
              exact ⟨rfl, HBT.out⟩
      · have u1 : (C4 == 0) = false := by simpa using h4
        clear h4
        by_cases hC : C = 0
        · have x1 : (C != 0) = false := by simp [hC]
          have x2 : (C == 0) = true := by simp [hC]
          obtain ⟨m0, m1, m2, m3, m4, m5, m6, m7, m8, m9⟩ := F1.out (by rw [HC.out]; exact hC)
          have hV : goreAtL g y = V := by have := HV.out; rw [hC, ansG_ok] at this; exact this
          have hS : spanG g = S2 := by have := HS2.out; rw [← HC2.out, m0, ansG_ok] at this; exact this
          rw [hV] at m1 m5 m6 m7
          rw [hS] at m2 m7 m8 m9
          obtain ⟨at_, hat⟩ : ∃ xx, Hid (midL g V = xx) := ⟨_, Lib.hid rfl⟩
          rw [hat.out] at m5 m6 m7
          obtain ⟨fa, hfa⟩ : ∃ xx, Hid (absI (at_ - y) = xx) := ⟨_, Lib.hid rfl⟩
          have fa0 : 0 ≤ fa := by rw [← hfa.out]; exact absI_nonneg' _
          have fa1 : fa ≤ 1296000 := by rw [← hfa.out]; simp only [absI]; split <;> omega
          rw [hfa.out] at m7
          obtain ⟨mn, hmn⟩ : ∃ xx, Hid (min fa (1296000 - fa) = xx) := ⟨_, Lib.hid rfl⟩
          rw [hmn.out] at m7
          have hmn2 : min fa (1296000 - fa) = mn := hmn.out
          have M1 := Lib.hid m1
          have k2 : IntKind.i64.wrap (S2 * g) = 1296000 := by rw [m2]; exact IntWalk.i64_in _ (by omega)
          have k3 : IntKind.i64.wrap (at_ - y) = at_ - y := IntWalk.i64_in _ (by omega)
          have k4 : decide (mn ≤ S2 / 2 + 1) = true := by simpa using m7
          have BXT := Lib.hid (box_keep BX12.out WD.out)
          obtain ⟨zt, p0, p1, _, _⟩ := two_cells BXT.out
          have HBT := Lib.hid (HB12.out.trans (WD.out.mono HB12.out.size))
          clear hC m0 m1 hV hS
          go_wp2_with fail
          refine (implGoreMiddle_any g V (w12.drewN q) (GV_keep HG.out HBT.out)).mono ?_
          rw [M1.out, ansG_ok, hat.out]
          rintro e w' ⟨rfl, rfl⟩
          go_wp2_with fail
          refine (f6abs_any (at_ - y) _ (by omega) (by omega)).mono ?_
          rw [hfa.out]
          rintro e w' ⟨rfl, rfl⟩
          go_wp2
          all_goals (go_ret; exact ⟨rfl, HBT.out⟩)
        · have x1 : (C != 0) = true := by simpa using hC
          have HBT := Lib.hid (HB12.out.trans (WD.out.mono HB12.out.size))
          clear hC
          go_wp2
          go_ret
          exact ⟨rfl, HBT.out⟩

set_option maxRecDepth 100000 in
theorem lifted (os : Os) (started : os.Started) (H : Type) (enc : TypeId × Value → H) :
    ReturnsInHanded {} Tryd.checked os 4 .any (fun w args => (Rows.fnGoresSpec.pre enc Tryd.prog Tryd.f4 [] false w args ∧ laidMetH Tryd.prog Rows.fnGoresRow.laid w) ∧ sizedMet enc Tryd.prog Tryd.f4 (OpenSpec.ofChange Rows.fnGoresSpec) false w args)
      (Rows.fnGoresSpec.post enc Tryd.prog Tryd.f4 false true false false) := by
  refine returnsInHanded_of_change_and (C := Tryd.checked) (X := fun w _ => laidMetH Tryd.prog Rows.fnGoresRow.laid w) (fun _ _ _ hh h => h.of_heap hh) own started (by kernel_rfl) Tryd.func4
    (ChangeSpec.witness_shaped (enc := enc) (C := Tryd.checked) (os := os) (X := fun w _ => laidMetH Tryd.prog Rows.fnGoresRow.laid w) false (World.doorLaid Tryd.prog 67 os) #[.slice none 0 0] 8 rfl (door_shaped os _) (by kernel_rfl) (by kernel_rfl) (by kernel_rfl) (door_met0 os _)) ?_
  intro W base args ds gs before hval0 hW hcnd _ hL _
  have hval : ∀ (j : Nat) t v, Tryd.f4.params[j]? = some t → args[j]? = some v → Value.okWide Tryd.prog W .any base t v := hval0
  have hW' := hW
  obtain ⟨p, q, hA0, hV, hpq, hfz, hnd⟩ := hW
  have hA : DataW.TrodAll enc Tryd.prog W 0 (fun _ => true) true Tryd.f4.params.toList args.toList ds p := hA0
  rw [Tryd.params4] at hA hval
  obtain ⟨v0, vs0, d0, ds0, p0, q0, hargs, rfl, rfl, h0, r0⟩ := trodAll_cons hA
  obtain ⟨rfl, rfl, rfl⟩ := trodAll_nil r0
  obtain rfl : args = #[v0] := by cases args; simp_all
  obtain ⟨a0, len0, cap0, rfl⟩ := okWide_slice Tryd.underlying22 (hval 0 22 v0 rfl rfl)
  obtain ⟨z0, w0⟩ : ∃ zs, IsRow .u8 W a0 len0 cap0 zs := by
    obtain ⟨fuel, hf⟩ := h0
    rcases open_ints Tryd.underlying22 Tryd.underlying5 (by kernel_rfl) hf with ⟨hcs, _⟩ | ⟨x, l, c, zs, hcs, _, hl, hm, hz, _, hcell, hwz⟩
    · simp [Value.cells] at hcs
      obtain ⟨rfl, rfl, rfl⟩ := hcs
      exact ⟨[], .inl ⟨rfl, rfl, rfl, rfl⟩⟩
    · simp [Value.cells] at hcs
      obtain ⟨rfl, rfl, rfl⟩ := hcs
      exact ⟨zs, .inr ⟨_, rfl, hl, hm, by simpa using hz, hcell, hwz⟩⟩
  refine (walk a0 len0 cap0 z0 W w0 hL).mono fun e W' ⟨he, bel⟩ => ?_
  subst he
  exact ⟨_, rfl, post_of_law_vars laidOut (by kernel_rfl) (by kernel_rfl) Tryd.underlying4 rfl (fun ds gs h g => by match ds, gs, h, g with | [_], [_], _, _ => rfl) hW' bel⟩

theorem holds : Rows.FnGoresSaid :=
  OpenClaim.holds_of_wide 4 Tryd.f4 rfl rfl rfl rfl rfl rfl rfl ⟨rfl, rfl, rfl, rfl, rfl⟩ rfl rfl rfl rfl rfl (by kernel_rfl) Tryd.func4 (by kernel_rfl)
    (of_decide_eq_true (by kernel_rfl)) (by unfold Func.isWrapper; first | (rw [if_pos (by decide +kernel)]; kernel_rfl) | (rw [if_neg (by decide +kernel)]; exact ⟨rfl, rfl⟩))
    (fun os started H enc _ => lifted os started H enc)

/-- No parameter wants a stand-in; what the card asks of the program's looks. -/
theorem plain (f : FuncId) (fn : Func) (hf : Tryd.pinned.checked.prog.funcNamed "loop.example/g01055/laws.FnGores" = some f) (hfn : Tryd.pinned.checked.prog.funcs[f]? = some fn) :
    true = Tryd.pinned.checked.prog.looks [] ∧ ∀ (j : Nat) t, fn.params[j]? = some t → Tryd.pinned.checked.prog.wantsStandIn t = false := by
  obtain rfl : f = 4 := Option.some.inj ((show Tryd.prog.funcNamed "loop.example/g01055/laws.FnGores" = some 4 by kernel_rfl).symm.trans hf) |>.symm
  obtain rfl : fn = Tryd.f4 := (Option.some.inj (Tryd.func4.symm.trans hfn)).symm
  refine ⟨door_looks, fun j t ht => ?_⟩
  have hall : (Tryd.f4.params.toList.all fun u => !Tryd.prog.wantsStandIn u) = true := by kernel_rfl
  have hm : t ∈ Tryd.f4.params.toList := by simpa using Array.mem_of_getElem? ht
  exact (show Tryd.prog.wantsStandIn t = false by simpa using List.all_eq_true.1 hall t hm)

/-- THE CARD. -/
theorem card : Rows.FnGoresCardSaid :=
  Claim7.holds_tied_plain_at .later [] _ _ _ _ holds (fun _ h => by cases h) (by kernel_rfl) (fun _ h => by cases h) fnGores_row_tie rfl ⟨rfl, rfl⟩ door_main rfl plain (by kernel_rfl)
#print axioms card

end Go.Proofs.YtbnihalbepffoaaDoor.fngores
