/- NearestSpot and SpotsWithin, of the program and of the model. -/
import Derived.Test.YtbggbgfmahnjkaaRow
import Derived.Maps.AppendAt
namespace Go.Proofs.Ytbggbgfmahnjkaa.sines
open Go.ChangeShapes Go.WideShapes Go.ChangeAt Go.RowKit Go.Proofs.Ytbggbgfmahnjkaa.spots Go.Proofs.Ytbggbgfmahnjkaa.irows Go.Proofs.Ytbggbgfmahnjkaa.pairs

def nearA (ps : List (Int × Int)) (a b : Int) : Int := if codeW ps a b 1 = 0 then (fminL (rowD ps a b) : Int) else 0
theorem codeW_bad {ps : List (Int × Int)} {a b least : Int} (h : okB a b = false) : codeW ps a b least = 1 := by simp [codeW, h]
theorem codeW_yes {ps : List (Int × Int)} {a b least : Int} (h : okB a b = true) : codeW ps a b least = codeL ps least 12 := by simp [codeW, h]

theorem l05Distance_rev (a b c d : Int) (W0 w : World) (h : Below W0.heap.size W0 w) (ha : okB a b = true) (hc : okB c d = true) :
    Calls Try.prog 64 #[.agg #[.int .i64 a, .int .i64 b], .agg #[.int .i64 c, .int .i64 d]] w fun e w' => e = .returned (.int .i64 (distL c d a b)) ∧ Below W0.heap.size W0 w' := by
  rw [distL_sym c d a b]
  exact l05Distance_rel a b c d W0 w h ha hc

set_option maxRecDepth 100000 in
set_option maxHeartbeats 2000000 in
theorem implNearest_any (v : Value) (ps : List (Int × Int)) (a b : Int) (w : World) (hv : PAt w w.heap.size v ps) (hl : ps.length ≤ 1048576) :
    Calls Try.prog 24 #[v, .agg #[.int .i64 a, .int .i64 b]] w fun e w' => e = .returned (.tuple #[.int .i64 (nearA ps a b), .int .i64 (codeW ps a b 1)]) ∧ Below w.heap.size w w' := by
  have HV := Lib.hid hv
  clear hv
  cases h : okB a b with
  | false =>
    rw [show nearA ps a b = 0 by simp [nearA, codeW_bad h], codeW_bad h]
    go_enter Try.func24, Try.ntmps24
    go_wp2_with fail
    refine (ValidSpot_any a b _).mono ?_
    rw [h]
    rintro e w1 ⟨rfl, o1, rfl⟩
    go_wp2
    exact bodyPost_ret (v := .tuple #[.int .i64 0, .int .i64 1]) (by simp [results, Try.results24, go_sem]) rfl ⟨rfl, below_two _ _ _⟩
  | true =>
    have HO := Lib.hid h
    rw [codeW_yes h]
    by_cases hc : codeL ps 1 12 = 0
    · obtain ⟨k1, k2, k3⟩ := codeL_ok hc
      rw [show nearA ps a b = (fminL (rowD ps a b) : Int) by simp [nearA, codeW_yes h, hc], hc]
      have HC := Lib.hid hc
      obtain ⟨zs, hzs⟩ : ∃ zs, Hid (rowD ps a b = zs) := ⟨_, Lib.hid rfl⟩
      have zl : zs.length = ps.length := by rw [← hzs.out, rowD_len]
      have z1 : 0 < zs.length := by omega
      have z2 : zs.length ≤ 1048576 := by omega
      rw [hzs.out]
      obtain ⟨m, hm⟩ : ∃ m, Hid (fminL zs = m) := ⟨_, Lib.hid rfl⟩
      rw [hm.out]
      have K1 := Lib.hid k1
      clear hc zl k1
      go_enter Try.func24, Try.ntmps24
      go_wp2_with fail
      refine (ValidSpot_any a b _).mono ?_
      rw [h]
      rintro e w1 ⟨rfl, o1, rfl⟩
      go_wp2_with fail
      refine (spotsCode_any v ps 1 12 _ (pat_up (pat_keep HV.out (below_two w _ _)) (by simp <;> omega)) hl).mono ?_
      rw [HC.out]
      rintro e w2 ⟨rfl, hb⟩
      have HB := Lib.hid (below_alloc2 hb)
      have q0 : w2.cell? ⟨w.heap.size, 0, none⟩ = some (.int .i64 a) := (hb.cell (p := ⟨w.heap.size, 0, none⟩) (by simp <;> omega)).trans (by rw [World.cell?_alloc_past _ _ _ (by simp)]; simp)
      have q1 : w2.cell? ⟨w.heap.size, 1, none⟩ = some (.int .i64 b) := (hb.cell (p := ⟨w.heap.size, 1, none⟩) (by simp <;> omega)).trans (by rw [World.cell?_alloc_past _ _ _ (by simp)]; simp)
      clear hb
      go_wp2_with fail
      refine (distancesFrom_any v ps a b _ (pat_up (pat_keep HV.out HB.out) HB.out.size) hl K1.out HO.out).mono ?_
      rw [hzs.out]
      rintro e w3 ⟨u, rfl, hr, hb⟩
      have HB2 := Lib.hid (HB.out.trans (hb.mono HB.out.size))
      have HR := Lib.hid hr
      clear hb hr
      go_wp2_with fail
      refine (firstLeast_any u _ zs _ HR.out z1 z2).mono ?_
      rw [hm.out]
      rintro e w4 ⟨rfl, q, rfl⟩
      go_wp2
      exact bodyPost_ret (v := .tuple #[.int .i64 (m : Nat), .int .i64 0]) (by simp [results, Try.results24, go_sem]) rfl ⟨rfl, bdq HB2.out _⟩
    · rw [show nearA ps a b = 0 by simp [nearA, codeW_yes h, hc]]
      obtain ⟨C, HC⟩ : ∃ C, Hid (codeL ps 1 12 = C) := ⟨_, Lib.hid rfl⟩
      rw [HC.out] at hc ⊢
      have hc1 : (C != 0) = true := by simpa using hc
      clear hc
      go_enter Try.func24, Try.ntmps24
      go_wp2_with fail
      refine (ValidSpot_any a b _).mono ?_
      rw [h]
      rintro e w1 ⟨rfl, o1, rfl⟩
      go_wp2_with fail
      refine (spotsCode_any v ps 1 12 _ (pat_up (pat_keep HV.out (below_two w _ _)) (by simp <;> omega)) hl).mono ?_
      rw [HC.out]
      rintro e w2 ⟨rfl, hb⟩
      have HB := Lib.hid (below_alloc2 hb)
      clear hb
      go_wp2
      exact bodyPost_ret (v := .tuple #[.int .i64 0, .int .i64 C]) (by simp [results, Try.results24, go_sem]) rfl ⟨rfl, HB.out⟩

set_option maxRecDepth 100000 in
set_option maxHeartbeats 4000000 in
theorem specNearest_any (v : Value) (ps : List (Int × Int)) (a b : Int) (w : World) (hv : PAt w w.heap.size v ps) (hl : ps.length ≤ 1048576) :
    Calls Try.prog 34 #[v, .agg #[.int .i64 a, .int .i64 b]] w fun e w' => e = .returned (.tuple #[.int .i64 (nearA ps a b), .int .i64 (codeW ps a b 1)]) ∧ Below w.heap.size w w' := by
  have HV := Lib.hid hv
  by_cases hc : codeW ps a b 1 = 0
  · obtain ⟨h, hc2⟩ := codeW_ok hc
    obtain ⟨k1, k2, k3⟩ := codeL_ok hc2
    rw [show nearA ps a b = (fminL (rowD ps a b) : Int) by simp [nearA, hc], hc]
    obtain ⟨ar, c, rfl, hcl⟩ := hv
    have HCL := Lib.hid hcl
    have HC := Lib.hid hc
    have HO := h
    have K1 := Lib.hid k1
    obtain ⟨zs, hzs⟩ : ∃ zs, Hid (rowD ps a b = zs) := ⟨_, Lib.hid rfl⟩
    have ZA := Lib.hid (show ∀ k, (h : k < ps.length) → distL a b ps[k].1 ps[k].2 = at0 zs k from fun k h => by have := hzs.out; subst this; rw [at0_of (by rw [rowD_len]; exact h), rowD_at ps a b k h])
    have ZL := Lib.hid (show zs.length = ps.length by rw [← hzs.out, rowD_len])
    rw [hzs.out]
    have hl2 : (ps.length : Int) ≤ 12 := by omega
    have hl3 : 1 ≤ (ps.length : Int) := by omega
    clear hcl hc hc2 k1 k2 k3
    go_enter Try.func34, Try.ntmps34
    go_wp2_with fail
    refine (l05With_any _ ps a b 1 _ (pat_up (pat_keep HV.out ((Below.refl _ _).alloc (Nat.le_refl _) _)) (by simp)) hl).mono ?_
    rw [HC.out]
    rintro e w2 ⟨rfl, hb⟩
    have HB := Lib.hid (show Below w.heap.size w w2 from ((Below.refl w.heap.size w).alloc (Nat.le_refl _) _).trans (hb.mono (by simp)))
    have Q0 := Lib.hid (show w2.cell? ⟨w.heap.size, 0, none⟩ = some (.int .i64 a) from (hb.cell (p := ⟨w.heap.size, 0, none⟩) (by simp)).trans (by simp))
    have Q1 := Lib.hid (show w2.cell? ⟨w.heap.size, 1, none⟩ = some (.int .i64 b) from (hb.cell (p := ⟨w.heap.size, 1, none⟩) (by simp)).trans (by simp))
    clear hb
    go_wp2
    go_loopw [7, 8] (fun m i wr => ∃ k : Nat, 1 ≤ k ∧ k ≤ ps.length ∧ i = .int .i64 (k : Int) ∧ m = .int .i64 (fmin (at0 zs) k : Nat) ∧ Below w.heap.size w wr ∧ wr.cell? ⟨w.heap.size, 0, none⟩ = some (.int .i64 a) ∧ wr.cell? ⟨w.heap.size, 1, none⟩ = some (.int .i64 b)) (fun _ i _ => ps.length - (intOf i).toNat)
    case atStart => exact ⟨1, Nat.le_refl _, by omega, rfl, by rw [fmin_one]; rfl, HB.out, Q0.out, Q1.out⟩
    case round =>
      obtain ⟨k, hk0, hk, rfl, rfl, hb, q0, q1⟩ := hrel
      have hsz := hb.size
      have HB2 := Lib.hid hb
      have hws : w.heap.size < wr.heap.size := World.block_lt_of_cell? _ _ q0
      by_cases hlt : k < ps.length
      · have hml := fmin_lt (at0 zs) k hk0
        have SY := Lib.hid (show at0 zs k < at0 zs (fmin (at0 zs) k) → fmin (at0 zs) (k + 1) = k from fun h => by rw [fmin, if_pos h])
        have SN := Lib.hid (show ¬ at0 zs k < at0 zs (fmin (at0 zs) k) → fmin (at0 zs) (k + 1) = fmin (at0 zs) k from fun h => by rw [fmin, if_neg h])
        generalize fmin (at0 zs) k = m at hml SY SN
        have hlm : m < ps.length := by omega
        obtain ⟨bb, off, rfl, hbs, c1, c2⟩ := HCL.out k hlt
        obtain ⟨bb2, off2, e2, _, c3, c4⟩ := HCL.out m hlm
        simp at e2
        obtain ⟨rfl, rfl⟩ := e2
        have hbw : bb < wr.heap.size := by omega
        have k1 := (hb.cell (p := ⟨bb, off + k * 2, none⟩) hbs).trans c1
        have k2 := (hb.cell (p := ⟨bb, off + k * 2 + 1, none⟩) hbs).trans c2
        have k3 := (hb.cell (p := ⟨bb, off + m * 2, none⟩) hbs).trans c3
        have k4 := (hb.cell (p := ⟨bb, off + m * 2 + 1, none⟩) hbs).trans c4
        have hk0' : 0 ≤ (k : Int) := by omega
        have hk1 : (k : Int) < (ps.length : Int) := by omega
        have hm0' : 0 ≤ (m : Int) := by omega
        have hm1 : (m : Int) < (ps.length : Int) := by omega
        have OK := okL_at K1.out k hlt
        have OM := okL_at K1.out m hlm
        have DK := Lib.hid (ZA.out k hlt)
        have DM := Lib.hid (ZA.out m hlm)
        clear c1 c2 c3 c4 hb
        generalize ps[k] = x at k1 k2 OK DK
        generalize ps[m] = y at k3 k4 OM DM
        obtain ⟨x1, x2⟩ := x
        obtain ⟨y1, y2⟩ := y
        obtain ⟨dk, hdk⟩ : ∃ d, Hid (distL a b x1 x2 = d) := ⟨_, Lib.hid rfl⟩
        obtain ⟨dm, hdm⟩ : ∃ d, Hid (distL a b y1 y2 = d) := ⟨_, Lib.hid rfl⟩
        have SY2 := Lib.hid (show dk < dm → fmin (at0 zs) (k + 1) = k by rw [← hdk.out, ← hdm.out, DK.out, DM.out]; exact SY.out)
        have SN2 := Lib.hid (show ¬ dk < dm → fmin (at0 zs) (k + 1) = m by rw [← hdk.out, ← hdm.out, DK.out, DM.out]; exact SN.out)
        clear SY SN
        go_wp2_with fail
        go_region_held3 (fun W => W.cell? ⟨bb, off + k * 2, none⟩ = some (.int .i64 x1) ∧ W.cell? ⟨bb, off + k * 2 + 1, none⟩ = some (.int .i64 x2) ∧ W.cell? ⟨bb, off + m * 2, none⟩ = some (.int .i64 y1) ∧ W.cell? ⟨bb, off + m * 2 + 1, none⟩ = some (.int .i64 y2) ∧ W.cell? ⟨w.heap.size, 0, none⟩ = some (.int .i64 a) ∧ W.cell? ⟨w.heap.size, 1, none⟩ = some (.int .i64 b)) (first | exact ⟨k1, k2, k3, k4, q0, q1⟩ | exact ⟨n1, n2, n3, n4, n5, n6⟩ | (simp [go_sem]; first | exact ⟨k1, k2, k3, k4, q0, q1⟩ | exact ⟨n1, n2, n3, n4, n5, n6⟩)) (first | (go_at_call 64; refine (l05Distance_rev _ _ _ _ wr _ (by repeat (first | assumption | exact Below.refl _ _ | refine Below.drew ?_ | refine bdq ?_ _ | refine Below.alloc ?_ (by first | exact Nat.le_refl _ | omega | (simp; done) | (simp; omega)) _ | refine Below.setCell ?_ (by first | exact Nat.le_refl _ | omega | (simp; done) | (simp; omega)) _)) (by assumption) (by assumption)).mono ?_; (first | rw [hdk.out] | rw [hdm.out]); rintro e w1 ⟨rfl, hb1⟩; have n1 := (hb1.cell (p := ⟨bb, off + k * 2, none⟩) hbw).trans k1; have n2 := (hb1.cell (p := ⟨bb, off + k * 2 + 1, none⟩) hbw).trans k2; have n3 := (hb1.cell (p := ⟨bb, off + m * 2, none⟩) hbw).trans k3; have n4 := (hb1.cell (p := ⟨bb, off + m * 2 + 1, none⟩) hbw).trans k4; have n5 := (hb1.cell (p := ⟨w.heap.size, 0, none⟩) hws).trans q0; have n6 := (hb1.cell (p := ⟨w.heap.size, 1, none⟩) hws).trans q1))
        all_goals
          have HBB := Lib.hid (HB2.out.trans (hb1.mono hsz))
          have N5 := Lib.hid n5
          have N6 := Lib.hid n6
          by_cases hd : dk < dm
          · have SM := Lib.hid (SY2.out hd)
            go_wp2
            go_roundw
            case rel => exact ⟨k + 1, by omega, by omega, by go_num, by rw [SM.out], (by first | exact HBB.out | exact bdq HBB.out _ | exact bdrew HBB.out), N5.out, N6.out⟩
            case measure => simp [intOf]; omega
          · have SM := Lib.hid (SN2.out (by omega))
            go_wp2
            go_roundw
            case rel => exact ⟨k + 1, by omega, by omega, by go_num, by rw [SM.out], (by first | exact HBB.out | exact bdq HBB.out _ | exact bdrew HBB.out), N5.out, N6.out⟩
            case measure => simp [intOf]; omega
      · obtain rfl : k = ps.length := by omega
        have FE := Lib.hid (show fmin (at0 zs) ps.length = fminL zs by rw [fminL, ZL.out])
        rw [FE.out]
        obtain ⟨m, hm⟩ : ∃ m, Hid (fminL zs = m) := ⟨_, Lib.hid rfl⟩
        rw [hm.out]
        clear hb
        go_wp2
        exact bodyPost_ret (v := .tuple #[.int .i64 (m : Nat), .int .i64 0]) (by simp [results, Try.results34, go_sem]) rfl ⟨by rw [hm.out], HB2.out⟩
  · rw [show nearA ps a b = 0 by simp [nearA, hc]]
    obtain ⟨C, HC⟩ : ∃ C, Hid (codeW ps a b 1 = C) := ⟨_, Lib.hid rfl⟩
    rw [HC.out] at hc ⊢
    have hc1 : (C != 0) = true := by simpa using hc
    clear hc hv
    go_enter Try.func34, Try.ntmps34
    go_wp2_with fail
    refine (l05With_any _ ps a b 1 _ (pat_up (pat_keep HV.out ((Below.refl _ _).alloc (Nat.le_refl _) _)) (by simp)) hl).mono ?_
    rw [HC.out]
    rintro e w2 ⟨rfl, hb⟩
    have HB := Lib.hid (show Below w.heap.size w w2 from ((Below.refl w.heap.size w).alloc (Nat.le_refl _) _).trans (hb.mono (by simp)))
    clear hb
    go_wp2
    exact bodyPost_ret (v := .tuple #[.int .i64 0, .int .i64 C]) (by simp [results, Try.results34, go_sem]) rfl ⟨rfl, HB.out⟩

end Go.Proofs.Ytbggbgfmahnjkaa.sines
