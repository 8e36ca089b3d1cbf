/- FnExactSpotsWithin answers true for every list of places, every place and every distance. -/
import Derived.Test.YtbggbgfmahnjkaaWithin
import Derived.Test.YtbggbgfmahnjkaaOwn2
import Derived.Deep.RegionHeld3
namespace Go.Proofs.Ytbggbgfmahnjkaa.spotsWithin
open Go.ChangeShapes Go.WideShapes Go.ChangeAt Go.RowKit Go.Proofs.Ytbggbgfmahnjkaa.spots Go.Proofs.Ytbggbgfmahnjkaa.sines Go.Proofs.Ytbggbgfmahnjkaa.irows Go.Proofs.Ytbggbgfmahnjkaa.pairs Go.Proofs.Ytbggbgfmahnjkaa.own2
theorem at_world {P Q : World → Prop} (W0 : World) (h0 : P W0) (h : ∀ W, P W → Q W) : Q W0 := h W0 h0
theorem prow_kept {w w' : World} {B : Nat} {v : Value} {ps : List (Int × Int)} (h : PRow w B v ps) (hb : ∀ b, b < w.heap.size → w'.heap[b]? = w.heap[b]?) : PRow w' B v ps := by
  refine ⟨h.1, ?_⟩
  rcases h.2 with hn | ⟨g, cap, cur, hv, hg1, hg2, hg3⟩
  · exact .inl hn
  · exact .inr ⟨g, cap, cur, hv, hg1, by rw [hb g (Array.getElem?_eq_some_iff.1 hg2).1]; exact hg2, hg3⟩
theorem toS_rel (v : Value) (ps : List (Int × Int)) (W w : World) (h : Below W.heap.size W w) (hv : PAt W W.heap.size v ps) (hl : ps.length ≤ 1048576) :
    Calls Try.prog 35 #[v] w fun e w' => ∃ u, e = .returned u ∧ PRow w' W.heap.size u ps ∧ Below W.heap.size W w' :=
  (toS_any v ps w (pat_up (pat_keep hv h) h.size) hl).mono fun _ _ ⟨u, h1, h2, h3⟩ => ⟨u, h1, prow_up h2 h.size, h.trans (h3.mono h.size)⟩
theorem to_rel2 (a b : Int) (W w : World) (h : Below W.heap.size W w) :
    Calls Try.prog 32 #[.agg #[.int .i64 a, .int .i64 b]] w fun e w' => e = .returned (.agg #[.int .i64 a, .int .i64 b]) ∧ Below W.heap.size W w' ∧ ∀ b, b < w.heap.size → w'.heap[b]? = w.heap[b]? :=
  (to_below a b w).mono fun _ _ ⟨h1, hb⟩ => ⟨h1, h.trans (hb.mono h.size), hb.block⟩
theorem specW_rel (v : Value) (ps : List (Int × Int)) (a b m : Int) (W w : World) (h : Below W.heap.size W w) (hv : PAt w w.heap.size v ps) (hl : ps.length ≤ 1048576) :
    Calls Try.prog 37 #[v, .agg #[.int .i64 a, .int .i64 b], .int .i64 m] w fun e w' => ∃ u, e = .returned (.tuple #[u, .int .i64 (codeS ps a b m)]) ∧ IRow w' W.heap.size u (withinV ps a b m) ∧ Below W.heap.size W w' :=
  (specWithin_any v ps a b m w hv hl).mono fun _ _ ⟨u, h1, h2, hb⟩ => ⟨u, h1, irow_up h2 h.size, h.trans (hb.mono h.size)⟩
theorem implW_rel (v : Value) (ps : List (Int × Int)) (a b m : Int) (W w : World) (h : Below W.heap.size W w) (hv : PAt w w.heap.size v ps) (hl : ps.length ≤ 1048576) :
    Calls Try.prog 28 #[v, .agg #[.int .i64 a, .int .i64 b], .int .i64 m] w fun e w' => ∃ u, e = .returned (.tuple #[u, .int .i64 (codeS ps a b m)]) ∧ IRow w' W.heap.size u (withinV ps a b m) ∧ Below W.heap.size W w' :=
  (implWithin_any v ps a b m w hv hl).mono fun _ _ ⟨u, h1, h2, hb⟩ => ⟨u, h1, irow_up h2 h.size, h.trans (hb.mono h.size)⟩

set_option maxRecDepth 100000 in
set_option maxHeartbeats 2000000 in
theorem walk (vps : Value) (ps : List (Int × Int)) (A0 A1 : Int) (m : Int) (wz : World) (hv : PAt wz wz.heap.size vps ps) (hm : ps.length ≤ maxLen) (_ : (Lit.int .i64 A0).wf = true) (_ : (Lit.int .i64 A1).wf = true) (_ : (Lit.int .i64 m).wf = true) :
    Calls Try.prog 8 #[vps, .agg #[.int .i64 A0, .int .i64 A1], .int .i64 m] wz fun e w' => e = .returned (.bool true) ∧ Below wz.heap.size wz w' := by
  obtain ⟨w, hw0⟩ : ∃ w, Hid (wz.alloc (.cells #[.int .i64 A0, .int .i64 A1] 47) = w) := ⟨_, Lib.hid rfl⟩
  have HBZ := Lib.hid (show Below wz.heap.size wz w by rw [← hw0.out]; exact (Below.refl _ _).alloc (Nat.le_refl _) _)
  have Z0 : wz.heap.size < w.heap.size := by rw [← hw0.out]; simp
  have CA0 := Lib.hid (show w.cell? ⟨wz.heap.size, 0, none⟩ = some (.int .i64 A0) by rw [← hw0.out]; simp)
  have CA1 := Lib.hid (show w.cell? ⟨wz.heap.size, 1, none⟩ = some (.int .i64 A1) by rw [← hw0.out]; simp)
  have HV := Lib.hid (pat_up (pat_keep hv HBZ.out) HBZ.out.size)
  clear hv
  by_cases hbig : 1048576 < ps.length
  · go_enter Try.func8, Try.ntmps8
    go_wp2_with fail
    rw [hw0.out]
    refine (sz_no vps ps w _ HV.out hm hbig).mono ?_
    rintro e w' ⟨rfl, rfl⟩
    go_wp2
    go_ret
    exact ⟨rfl, HBZ.out⟩
  have hl : ps.length ≤ 1048576 := by omega
  clear hbig
  obtain ⟨zs, HZ⟩ : ∃ zs, Hid (withinV ps A0 A1 m = zs) := ⟨_, Lib.hid rfl⟩
  have hn : zs.length ≤ 2000000 := by rw [← HZ.out]; exact Nat.le_trans (withinV_len ps A0 A1 m) (by omega)
  obtain ⟨c0, HC0⟩ : ∃ c, Hid (codeS ps A0 A1 m = c) := ⟨_, Lib.hid rfl⟩
  have hl2 : (ps.length : Int) ≤ 1048576 := by omega
  have HB0 := Lib.hid (Below.refl w.heap.size w)
  go_enter Try.func8, Try.ntmps8
  go_wp2_with fail
  rw [hw0.out]
  refine (sz_yes vps ps w _ HV.out hl).mono ?_
  rintro e w' ⟨rfl, rfl⟩
  have hsz0 : decide (1048576 - (ps.length : Int) < 0) = false := by simp; omega
  have ka0 := (HB0.out.cell (p := ⟨wz.heap.size, 0, none⟩) Z0).trans CA0.out
  have ka1 := (HB0.out.cell (p := ⟨wz.heap.size, 1, none⟩) Z0).trans CA1.out
  have kaz : wz.heap.size < w.heap.size := Nat.lt_of_lt_of_le Z0 HB0.out.size
  go_wp2_with fail
  go_region_held3 (fun U => U.cell? ⟨wz.heap.size, 0, none⟩ = some (.int .i64 A0) ∧ U.cell? ⟨wz.heap.size, 1, none⟩ = some (.int .i64 A1)) (first | exact ⟨ka0, ka1⟩ | exact ⟨na0, na1⟩ | (simp [go_sem]; first | exact ⟨ka0, ka1⟩ | exact ⟨na0, na1⟩)) (first | (go_at_call 35; refine (toS_rel vps ps w _ (by repeat (first | assumption | exact Below.refl _ _ | refine Below.drew ?_ | refine bdq ?_ _)) (pat_up (pat_keep HV.out HB0.out) HB0.out.size) hl).mono ?_; rintro e wa ⟨ux, rfl, hrx, hbx⟩; have na0 := (hbx.cell (p := ⟨wz.heap.size, 0, none⟩) kaz).trans ka0; have na1 := (hbx.cell (p := ⟨wz.heap.size, 1, none⟩) kaz).trans ka1; skip) | (go_at_call 32; refine (to_rel2 _ _ w _ (by repeat (first | assumption | exact Below.refl _ _ | refine Below.drew ?_ | refine bdq ?_ _))).mono ?_; rintro e wb ⟨rfl, hby, hbk⟩; have hry := prow_kept hrx hbk; have na0 := (hby.cell (p := ⟨wz.heap.size, 0, none⟩) kaz).trans ka0; have na1 := (hby.cell (p := ⟨wz.heap.size, 1, none⟩) kaz).trans ka1; skip) | (go_at_call 37; refine (specW_rel ux ps A0 A1 m w _ (by repeat (first | assumption | exact Below.refl _ _ | refine Below.drew ?_ | refine bdq ?_ _)) (prow_at hry) hl).mono ?_; rw [HC0.out]; rw [HZ.out]; rintro e wc ⟨vx, rfl, hrz, hbz⟩; have na0 := (hbz.cell (p := ⟨wz.heap.size, 0, none⟩) kaz).trans ka0; have na1 := (hbz.cell (p := ⟨wz.heap.size, 1, none⟩) kaz).trans ka1; skip))
  obtain ⟨vr1, hvx⟩ : ∃ v, v = vx := ⟨_, rfl⟩
  subst hvx
  refine at_world (P := fun U => Below w.heap.size w U ∧ IRow U w.heap.size vr1 zs) (Q := fun U => Exit.then _ _ Exit.normal _ U) _ ⟨(by repeat (first | assumption | exact Below.refl _ _ | refine Below.drew ?_ | refine bdq ?_ _)), hrz⟩ ?_
  rintro w1 ⟨hb, hr⟩
  clear ka0 ka1 kaz
  have HB1 := Lib.hid (HB0.out.trans (hb.mono HB0.out.size))
  have R2 := Lib.hid hr
  clear hr
  clear hb
  have BZ3 := Lib.hid (show w.heap.size ≤ w.heap.size from Nat.le_refl _)
  go_wp2_with fail
  refine (toS_any vps ps w1 (pat_up (pat_keep HV.out HB1.out) HB1.out.size) hl).mono ?_
  rintro e w2 ⟨ux1, rfl, hr, hb⟩
  have HB2 := Lib.hid (HB1.out.trans (hb.mono HB1.out.size))
  have R4 := Lib.hid (irow_keep R2.out hb)
  have R5 := Lib.hid hr
  have NE6 := Lib.hid (ne_of R2.out R5.out)
  have NE7 := Lib.hid (ne_of' R2.out R5.out)
  clear hr
  clear hb
  have BZ8 := Lib.hid (show w.heap.size ≤ w1.heap.size from HB1.out.size)
  have ka0 := (HB2.out.cell (p := ⟨wz.heap.size, 0, none⟩) Z0).trans CA0.out
  have ka1 := (HB2.out.cell (p := ⟨wz.heap.size, 1, none⟩) Z0).trans CA1.out
  have kaz : wz.heap.size < w2.heap.size := Nat.lt_of_lt_of_le Z0 HB2.out.size
  go_wp2_with fail
  refine (to_below A0 A1 w2).mono ?_
  rintro e w3 ⟨rfl, hb⟩
  have HB3 := Lib.hid (HB2.out.trans (hb.mono HB2.out.size))
  have R9 := Lib.hid (irow_keep R4.out hb)
  have R10 := Lib.hid (prow_keep R5.out hb)
  clear ka0 ka1 kaz
  clear hb
  go_wp2_with fail
  refine (implW_rel ux1 ps A0 A1 m w3 _ (by repeat (first | assumption | exact Below.refl _ _ | refine Below.drew ?_ | refine bdq ?_ _)) (prow_at R10.out) hl).mono ?_
  rw [HC0.out]
  rintro e w4 ⟨vr11, rfl, hr, hb⟩
  rw [HZ.out] at hr
  have HB4 := Lib.hid (HB3.out.trans (hb.mono HB3.out.size))
  have R12 := Lib.hid (irow_keep R9.out hb)
  have R13 := Lib.hid (prow_keep R10.out hb)
  have R14 := Lib.hid hr
  have NE15 := Lib.hid (ne_of R9.out R14.out)
  have NE16 := Lib.hid (ne_of' R9.out R14.out)
  have NE17 := Lib.hid (ne_of R10.out R14.out)
  have NE18 := Lib.hid (ne_of' R10.out R14.out)
  clear hr
  clear hb
  have BZ19 := Lib.hid (show w.heap.size ≤ w3.heap.size from HB3.out.size)
  go_wp2_with fail
  refine (eq_same vr11 vr1 _ _ zs w4 R14.out R12.out (by omega)).mono ?_
  rintro e w5 ⟨rfl, q, hw⟩
  have hb : Below w4.heap.size w4 w5 := by rw [hw]; exact below_drawn _ q
  clear hw
  have HB5 := Lib.hid (HB4.out.trans (hb.mono HB4.out.size))
  have R20 := Lib.hid (irow_keep R12.out hb)
  have R21 := Lib.hid (prow_keep R13.out hb)
  have R22 := Lib.hid (irow_keep R14.out hb)
  clear hb
  go_wp2_with fail
  refine (toS_any vps ps w5 (pat_up (pat_keep HV.out HB5.out) HB5.out.size) hl).mono ?_
  rintro e w6 ⟨ux2, rfl, hr, hb⟩
  have HB6 := Lib.hid (HB5.out.trans (hb.mono HB5.out.size))
  have R23 := Lib.hid (irow_keep R20.out hb)
  have R24 := Lib.hid (prow_keep R21.out hb)
  have R25 := Lib.hid (irow_keep R22.out hb)
  have R26 := Lib.hid hr
  have NE27 := Lib.hid (ne_of R20.out R26.out)
  have NE28 := Lib.hid (ne_of' R20.out R26.out)
  have NE29 := Lib.hid (ne_of R21.out R26.out)
  have NE30 := Lib.hid (ne_of' R21.out R26.out)
  have NE31 := Lib.hid (ne_of R22.out R26.out)
  have NE32 := Lib.hid (ne_of' R22.out R26.out)
  clear hr
  clear hb
  have BZ33 := Lib.hid (show w.heap.size ≤ w5.heap.size from HB5.out.size)
  go_wp2_with fail
  refine (eqS_same ux1 ux2 ps w6 (prow_at R24.out) (prow_at R26.out) hl).mono ?_
  rintro e w7 ⟨rfl, hb⟩
  have HB7 := Lib.hid (HB6.out.trans (hb.mono HB6.out.size))
  have R34 := Lib.hid (irow_keep R23.out hb)
  have R35 := Lib.hid (prow_keep R24.out hb)
  have R36 := Lib.hid (irow_keep R25.out hb)
  have R37 := Lib.hid (prow_keep R26.out hb)
  clear hb
  go_wp2_with fail
  refine (markS_any ux1 _ ps w7 R35.out hl).mono ?_
  rintro e w8 ⟨⟨rk, hrk, rfl⟩, hg⟩
  have HB8 := Lib.hid (show Below w.heap.size w w8 from HB7.out.grown hg HB7.out.size (fun k hk => Nat.le_trans BZ8.out (World.ownsRow.lt R35.out k hk).1))
  have R38 := Lib.hid (kept_i R34.out hg NE6.out)
  have R39 := Lib.hid (kept_i R36.out hg NE18.out)
  have hrk2 : decide (rk < 0) = false := by simp; omega
  clear hg
  go_wp2_with fail
  refine (eq_same vr11 vr1 _ _ zs w8 R39.out R38.out (by omega)).mono ?_
  rintro e w9 ⟨rfl, q, hw⟩
  have hb : Below w8.heap.size w8 w9 := by rw [hw]; exact below_drawn _ q
  clear hw
  have HB9 := Lib.hid (HB8.out.trans (hb.mono HB8.out.size))
  have R40 := Lib.hid (irow_keep R38.out hb)
  have R41 := Lib.hid (irow_keep R39.out hb)
  clear hb
  have SH := Lib.hid (irow_shape R41.out).1
  go_wp2_with fail
  refine (mark_any vr11 _ zs w9 R41.out hn).mono ?_
  rintro e w10 ⟨rfl, hr, hg⟩
  have HB10 := Lib.hid (show Below w.heap.size w w10 from HB9.out.grown hg HB9.out.size (fun k hk => Nat.le_trans BZ19.out (World.ownsRow.lt R41.out k hk).1))
  have R42 := Lib.hid (kept_i R40.out hg NE15.out)
  have R43 := Lib.hid hr
  clear hg hr
  have hn0 : 0 ≤ (zs.length : Int) := by omega
  have hn1 : (zs.length : Int) ≤ 2000000 := by omega
  go_wp2_with fail
  refine (held_any vr11 _ zs.length w10 SH.out R43.out hn).mono ?_
  rintro e w11 ⟨rfl, q, hw⟩
  have hb : Below w10.heap.size w10 w11 := by rw [hw]; exact below_drawn _ q
  clear hw
  have HB11 := Lib.hid (HB10.out.trans (hb.mono HB10.out.size))
  have R44 := Lib.hid (irow_keep R42.out hb)
  have R45 := Lib.hid (irow_keep R43.out hb)
  clear hb
  have ka0 := (HB11.out.cell (p := ⟨wz.heap.size, 0, none⟩) Z0).trans CA0.out
  have ka1 := (HB11.out.cell (p := ⟨wz.heap.size, 1, none⟩) Z0).trans CA1.out
  have kaz : wz.heap.size < w11.heap.size := Nat.lt_of_lt_of_le Z0 HB11.out.size
  go_wp2_with fail
  go_region_held3 (fun U => U.cell? ⟨wz.heap.size, 0, none⟩ = some (.int .i64 A0) ∧ U.cell? ⟨wz.heap.size, 1, none⟩ = some (.int .i64 A1)) (first | exact ⟨ka0, ka1⟩ | exact ⟨na0, na1⟩ | (simp [go_sem]; first | exact ⟨ka0, ka1⟩ | exact ⟨na0, na1⟩)) (first | (go_at_call 35; refine (toS_rel vps ps w11 _ (by repeat (first | assumption | exact Below.refl _ _ | refine Below.drew ?_ | refine bdq ?_ _)) (pat_up (pat_keep HV.out HB11.out) HB11.out.size) hl).mono ?_; rintro e wa ⟨ux, rfl, hrx, hbx⟩; have na0 := (hbx.cell (p := ⟨wz.heap.size, 0, none⟩) kaz).trans ka0; have na1 := (hbx.cell (p := ⟨wz.heap.size, 1, none⟩) kaz).trans ka1; skip) | (go_at_call 32; refine (to_rel2 _ _ w11 _ (by repeat (first | assumption | exact Below.refl _ _ | refine Below.drew ?_ | refine bdq ?_ _))).mono ?_; rintro e wb ⟨rfl, hby, hbk⟩; have hry := prow_kept hrx hbk; have na0 := (hby.cell (p := ⟨wz.heap.size, 0, none⟩) kaz).trans ka0; have na1 := (hby.cell (p := ⟨wz.heap.size, 1, none⟩) kaz).trans ka1; skip) | (go_at_call 28; refine (implW_rel ux ps A0 A1 m w11 _ (by repeat (first | assumption | exact Below.refl _ _ | refine Below.drew ?_ | refine bdq ?_ _)) (prow_at hry) hl).mono ?_; rw [HC0.out]; rw [HZ.out]; rintro e wc ⟨vx, rfl, hrz, hbz⟩; have na0 := (hbz.cell (p := ⟨wz.heap.size, 0, none⟩) kaz).trans ka0; have na1 := (hbz.cell (p := ⟨wz.heap.size, 1, none⟩) kaz).trans ka1; skip))
  obtain ⟨vr46, hvx⟩ : ∃ v, v = vx := ⟨_, rfl⟩
  subst hvx
  refine at_world (P := fun U => Below w11.heap.size w11 U ∧ IRow U w11.heap.size vr46 zs) (Q := fun U => Exit.then _ _ Exit.normal _ U) _ ⟨(by repeat (first | assumption | exact Below.refl _ _ | refine Below.drew ?_ | refine bdq ?_ _)), hrz⟩ ?_
  rintro w12 ⟨hb, hr⟩
  clear ka0 ka1 kaz
  have HB12 := Lib.hid (HB11.out.trans (hb.mono HB11.out.size))
  have R47 := Lib.hid (irow_keep R44.out hb)
  have R48 := Lib.hid (irow_keep R45.out hb)
  have R49 := Lib.hid hr
  have NE50 := Lib.hid (ne_of R44.out R49.out)
  have NE51 := Lib.hid (ne_of' R44.out R49.out)
  have NE52 := Lib.hid (ne_of R45.out R49.out)
  have NE53 := Lib.hid (ne_of' R45.out R49.out)
  clear hr
  clear hb
  have BZ54 := Lib.hid (show w.heap.size ≤ w11.heap.size from HB11.out.size)
  go_wp2_with fail
  refine (eq_same vr46 vr1 _ _ zs w12 R49.out R47.out (by omega)).mono ?_
  rintro e w13 ⟨rfl, q, hw⟩
  have hb : Below w12.heap.size w12 w13 := by rw [hw]; exact below_drawn _ q
  clear hw
  have HB13 := Lib.hid (HB12.out.trans (hb.mono HB12.out.size))
  have R55 := Lib.hid (irow_keep R47.out hb)
  have R56 := Lib.hid (irow_keep R48.out hb)
  have R57 := Lib.hid (irow_keep R49.out hb)
  clear hb
  go_wp2_with fail
  refine (held_any vr11 _ zs.length w13 SH.out R56.out hn).mono ?_
  rintro e w14 ⟨rfl, q, hw⟩
  have hb : Below w13.heap.size w13 w14 := by rw [hw]; exact below_drawn _ q
  clear hw
  have HB14 := Lib.hid (HB13.out.trans (hb.mono HB13.out.size))
  have R58 := Lib.hid (irow_keep R55.out hb)
  have R59 := Lib.hid (irow_keep R56.out hb)
  have R60 := Lib.hid (irow_keep R57.out hb)
  clear hb
  go_wp2
  go_ret
  exact ⟨rfl, HBZ.out.trans (HB14.out.mono HBZ.out.size)⟩

theorem cells_Spot : Try.prog.cellsOf 47 = 2 := by kernel_rfl
theorem cells_int : Try.prog.cellsOf 2 = 1 := by kernel_rfl
set_option maxRecDepth 100000 in
theorem lifted (os : Os) (started : os.Started) (H : Type) (enc : TypeId × Value → H) :
    ReturnsInHanded {} Try.checked os 8 .any (Rows.fnExactSpotsWithinSpec.pre6 enc Try.prog Try.f8 Rows.fnExactSpotsWithinRow.domain false) (Rows.fnExactSpotsWithinSpec.post enc Try.prog Try.f8 false true false false) := by
  refine returnsInHanded_of_change (C := Try.checked) own started (by kernel_rfl) Try.func8
    (ChangeSpec.witness6 (enc := enc) (C := Try.checked) false ⟨#[], #[.slice none 0 0, .agg #[.int .i64 0, .int .i64 0], .int .i64 0], []⟩ 8 (by kernel_rfl) (by kernel_rfl) (by kernel_rfl) (by kernel_rfl)) ?_
  intro W base args ds gs before hval0 hW hcnd _
  have hval : ∀ (j : Nat) t v, Try.f8.params[j]? = some t → args[j]? = some v → Value.okWide Try.prog W .any base t v := hval0
  have hW' := hW
  obtain ⟨p, q, hA0, hV, hpq, hfz, hnd⟩ := hW
  have hA : DataW.TrodAll enc Try.prog W 0 (fun _ => true) true Try.f8.params.toList args.toList ds p := hA0
  rw [Try.params8] at hA hval
  obtain ⟨v0, vs0, d0, ds0, p0, q0, hargs, rfl, rfl, h0, r0⟩ := trodAll_cons hA
  obtain ⟨v1, vs1, d1, ds1, p1, q1, rfl, rfl, rfl, h1, r1⟩ := trodAll_cons r0
  obtain ⟨v2, vs2, d2, ds2, p2, q2, rfl, rfl, rfl, h2, r2⟩ := trodAll_cons r1
  obtain ⟨rfl, rfl, rfl⟩ := trodAll_nil r2
  obtain rfl : args = #[v0, v1, v2] := by cases args; simp_all
  obtain ⟨a0, len0, cap0, rfl⟩ := okWide_slice Try.underlying50 (hval 0 50 v0 rfl rfl)
  obtain ⟨fuel0, hf0⟩ := h0
  obtain ⟨ps0, hp0, hl0⟩ := Go.Proofs.Ytbggbgfmahnjkaa.pairs.open_list hf0 ⟨_, _, _, rfl⟩
  obtain ⟨c1_0, c1_1, y1_0, y1_1, m1, rfl, _, _, hy1_0, hy1_1⟩ := Go.Joins.open_agg2 Try.underlying47 (by kernel_rfl) cells_Spot (hval 1 47 v1 rfl rfl) h1
  obtain ⟨a1_0, e1_0, _, w1_0⟩ := DataW.trod_int Try.underlying2 hy1_0
  simp at e1_0
  subst e1_0
  obtain ⟨a1_1, e1_1, _, w1_1⟩ := DataW.trod_int Try.underlying2 hy1_1
  simp at e1_1
  subst e1_1
  obtain ⟨a2, rfl, _, _, w2⟩ := open_int Try.underlying2 (hval 2 2 v2 rfl rfl) h2
  refine (walk (.slice a0 len0 cap0) ps0 a1_0 a1_1 a2 W hp0 hl0 w1_0 w1_1 w2).mono fun e W' ⟨he, bel⟩ => ?_
  subst he
  exact ⟨_, rfl, post_of_law laidOut (by kernel_rfl) Try.underlying4 rfl rfl (fun ds h => by match ds, h with | [_, _, _], _ => rfl) hW' bel⟩

theorem holds : Rows.FnExactSpotsWithinSaid :=
  OpenClaim.holds_of_wide 8 Try.f8 rfl rfl rfl rfl rfl rfl rfl ⟨rfl, rfl, rfl, rfl, rfl⟩ rfl rfl rfl rfl rfl (by kernel_rfl) Try.func8 (by kernel_rfl)
    (of_decide_eq_true (by kernel_rfl)) (by unfold Func.isWrapper; first | (rw [if_pos (by decide +kernel)]; kernel_rfl) | (rw [if_neg (by decide +kernel)]; exact ⟨rfl, rfl⟩))
    (fun os started H enc _ => lifted os started H enc)
#print axioms holds

end Go.Proofs.Ytbggbgfmahnjkaa.spotsWithin
