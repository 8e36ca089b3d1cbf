/- The parts of a size are read: the contract of the program's function. -/
import Derived.Test.YtbnihalbepffoaaDoorSizeP
namespace Go.Proofs.YtbnihalbepffoaaDoor.dec
open Go.ChangeShapes Go.WideShapes Go.ChangeAt Go.RowKit Go.Proofs.YtbnihalbepffoaaDoor.num Go.Proofs.YtbnihalbepffoaaDoor.bld

theorem bchain {B : Nat} {a w w' : World} (h : Below B a w) (g : Below w.heap.size w w') (hB : B ≤ a.heap.size := by first | exact Nat.le_refl _ | omega) : Below B a w' := h.trans (g.mono (Nat.le_trans hB h.size))
theorem frozen_new (w : World) (c : Array Value) (t : TypeId) (i : Nat) : (w.alloc (.cells c t)).frozen? ⟨w.heap.size, i, none⟩ = false := by
  have h : (w.alloc (.cells c t)).heap[w.heap.size]? = some (.cells c t) := Array.getElem?_push_size
  unfold World.frozen?
  rw [h]
  simp
theorem three_cells {w : World} {b : Nat} {u0 u1 u2 v0 v1 v2 : Value} (h0 : w.cell? ⟨b, 0, none⟩ = some u0) (h1 : w.cell? ⟨b, 1, none⟩ = some u1) (h2 : w.cell? ⟨b, 2, none⟩ = some u2) :
    (((w.setCell ⟨b, 0, none⟩ v0).setCell ⟨b, 1, none⟩ v1).setCell ⟨b, 2, none⟩ v2).cell? ⟨b, 0, none⟩ = some v0 ∧ (((w.setCell ⟨b, 0, none⟩ v0).setCell ⟨b, 1, none⟩ v1).setCell ⟨b, 2, none⟩ v2).cell? ⟨b, 1, none⟩ = some v1 ∧ (((w.setCell ⟨b, 0, none⟩ v0).setCell ⟨b, 1, none⟩ v1).setCell ⟨b, 2, none⟩ v2).cell? ⟨b, 2, none⟩ = some v2 := by
  have n (i j : Nat) (h : i ≠ j) (w : World) (v : Value) : (w.setCell ⟨b, i, none⟩ v).cell? ⟨b, j, none⟩ = w.cell? ⟨b, j, none⟩ := World.cell?_setCell_other w _ _ v (by intro e; injection e; contradiction)
  have a0 := World.cell?_setCell_same w ⟨b, 0, none⟩ v0 h0
  have a1 := World.cell?_setCell_same _ ⟨b, 1, none⟩ v1 ((n 0 1 (by decide) w v0).trans h1)
  have a2 := World.cell?_setCell_same _ ⟨b, 2, none⟩ v2 ((n 1 2 (by decide) (w.setCell ⟨b, 0, none⟩ v0) v1).trans ((n 0 2 (by decide) w v0).trans h2))
  exact ⟨(n 2 0 (by decide) _ _).trans ((n 1 0 (by decide) _ _).trans a0), (n 2 1 (by decide) _ _).trans a1, a2⟩
theorem two_of {m : Nat} {l : List UInt8} (h : twoB m l = true) : Two m l := by simpa [twoB] using h
theorem two_val {m : Nat} {l : List UInt8} (h : twoB m l = true) : twoV m l = (numA 0 l : Int) := by rw [twoV, if_pos (two_of h)]
theorem at_world {P Q : World → Prop} (W0 : World) (h0 : P W0) (h : ∀ W, P W → Q W) : Q W0 := h W0 h0
set_option maxRecDepth 100000 in
set_option maxHeartbeats 4000000 in
theorem readParts_any (s : ByteArray) (w : World) (hs : s.size ≤ 1048576) (hl : Lists w) :
    Calls Tryd.prog 98 #[.string s] w fun e w' => e = .returned (.tuple #[.agg #[.int .i64 (sizeV s.data.toList / 3600), .int .i64 (sizeV s.data.toList / 60 % 60), .int .i64 (sizeV s.data.toList % 60)], .bool (sizeB s.data.toList)]) ∧ Below w.heap.size w w' := by
  have HL := Lib.hid hl
  have HM := Lib.hid (show s.size ≤ maxLen by unfold maxLen; omega)
  have HM2 := Lib.hid (show (cut2 46 s.data.toList).size ≤ maxLen by have := cut2_size 46 s; unfold maxLen; omega)
  have HM3 := Lib.hid (show (cut1 46 s.data.toList).size ≤ 281474976710656 by have := cut1_size 46 s; omega)
  have HY := Lib.hid (fun a (h : IsSize s.data.toList a) => size_reads h)
  have HO := Lib.hid (@size_of s.data.toList)
  rw [← c1, ← c2, ← c1, ← c2] at HO
  clear hl hs
  obtain ⟨A1, G1⟩ : ∃ A1, Hid (cut1 46 s.data.toList = A1) := ⟨_, Lib.hid rfl⟩
  obtain ⟨R1, G2⟩ : ∃ R1, Hid (cut2 46 s.data.toList = R1) := ⟨_, Lib.hid rfl⟩
  obtain ⟨F1, G3⟩ : ∃ F1, Hid (cut3 46 s.data.toList = F1) := ⟨_, Lib.hid rfl⟩
  rw [G1.out] at HM3
  rw [G2.out] at HM2
  rw [G1.out, G2.out] at HY HO
  obtain ⟨A2, G4⟩ : ∃ A2, Hid (cut1 46 R1.data.toList = A2) := ⟨_, Lib.hid rfl⟩
  obtain ⟨R2, G5⟩ : ∃ R2, Hid (cut2 46 R1.data.toList = R2) := ⟨_, Lib.hid rfl⟩
  obtain ⟨F2, G6⟩ : ∃ F2, Hid (cut3 46 R1.data.toList = F2) := ⟨_, Lib.hid rfl⟩
  rw [G4.out, G5.out] at HY HO
  obtain ⟨hq0, hq1⟩ := two_rng 57 (by decide) A2.data.toList
  obtain ⟨hr0, hr1⟩ := two_rng 57 (by decide) R2.data.toList
  obtain ⟨P, HP⟩ : ∃ P, Hid (readV A1.data.toList = P) := ⟨_, Lib.hid rfl⟩
  obtain ⟨Q, HQ⟩ : ∃ Q, Hid (twoV 57 A2.data.toList = Q) := ⟨_, Lib.hid rfl⟩
  obtain ⟨R, HR⟩ : ∃ R, Hid (twoV 57 R2.data.toList = R) := ⟨_, Lib.hid rfl⟩
  obtain ⟨b1, HA⟩ : ∃ b1, Hid (readB A1.data.toList = b1) := ⟨_, Lib.hid rfl⟩
  obtain ⟨b2, HBB⟩ : ∃ b2, Hid (twoB 57 A2.data.toList = b2) := ⟨_, Lib.hid rfl⟩
  obtain ⟨b3, HC⟩ : ∃ b3, Hid (twoB 57 R2.data.toList = b3) := ⟨_, Lib.hid rfl⟩
  rw [HQ.out] at hq0 hq1
  rw [HR.out] at hr0 hr1
  rw [HA.out, HP.out, HBB.out, HQ.out, HC.out, HR.out] at HY
  go_enter Tryd.func98, Tryd.ntmps98
  go_wp2_with fail
  refine (Cut_any s 46 _ HM.out).mono ?_
  rw [G1.out, G2.out, G3.out]
  rintro e w1 ⟨rfl, hb1⟩
  have HB1 := Lib.hid (show Below w1.heap.size w1 w1 from Below.refl _ _)
  have HB := Lib.hid hb1
  clear hb1
  go_wp2_with fail
  refine (Cut_any R1 46 _ HM2.out).mono ?_
  rw [G4.out, G5.out, G6.out]
  rintro e w2 ⟨rfl, hb2⟩
  have HB2 := Lib.hid (bchain HB.out hb2)
  clear hb2
  go_wp2_with fail
  refine (ReadDecimal_any A1 _ HM3.out (lists_below (lists_below HL.out ((Below.refl _ _).alloc (Nat.le_refl _) _)) HB2.out)).mono ?_
  rw [HA.out, HP.out]
  rintro e w3 ⟨rfl, hb3⟩
  have HB3 := Lib.hid (bchain HB2.out hb3)
  clear hb3
  go_wp2_with fail
  refine (readTwo_any A2 _).mono ?_
  rw [HBB.out, HQ.out]
  rintro e w4 ⟨rfl, hb4⟩
  have HB4 := Lib.hid (bchain HB3.out hb4)
  clear hb4
  go_wp2_with fail
  refine (readTwo_any R2 _).mono ?_
  rw [HC.out, HR.out]
  rintro e w5 ⟨rfl, hb5⟩
  have HB5 := Lib.hid (bchain HB4.out hb5)
  clear hb5 HB HB1 HB2 HB3 HB4
  have hz5 : w.heap.size < w5.heap.size := by have := HB5.out.size; simp at this; omega
  have k0 : w5.cell? ⟨w.heap.size, 0, none⟩ = some (.int .i64 0) := (HB5.out.cell (p := ⟨w.heap.size, 0, none⟩) (by simp)).trans (by rw [World.cell?_alloc_new]; rfl)
  have k1 : w5.cell? ⟨w.heap.size, 1, none⟩ = some (.int .i64 0) := (HB5.out.cell (p := ⟨w.heap.size, 1, none⟩) (by simp)).trans (by rw [World.cell?_alloc_new]; rfl)
  have k2 : w5.cell? ⟨w.heap.size, 2, none⟩ = some (.int .i64 0) := (HB5.out.cell (p := ⟨w.heap.size, 2, none⟩) (by simp)).trans (by rw [World.cell?_alloc_new]; rfl)
  have f0 : w5.frozen? ⟨w.heap.size, 0, none⟩ = false := (HB5.out.frozen (p := ⟨w.heap.size, 0, none⟩) (by simp)).trans (frozen_new _ _ _ _)
  have f1 : w5.frozen? ⟨w.heap.size, 1, none⟩ = false := (HB5.out.frozen (p := ⟨w.heap.size, 1, none⟩) (by simp)).trans (frozen_new _ _ _ _)
  have f2 : w5.frozen? ⟨w.heap.size, 2, none⟩ = false := (HB5.out.frozen (p := ⟨w.heap.size, 2, none⟩) (by simp)).trans (frozen_new _ _ _ _)
  cases b1 with
  | false =>
    go_wp2_with (go_at_call 56; refine (within_any _ _ _ _).mono ?_; rintro e w' ⟨rfl, rfl⟩)
    exact bodyPost_ret (v := .tuple #[.agg #[.int .i64 0, .int .i64 0, .int .i64 0], .bool false]) (by have tc := three_cells (v0 := .int .i64 (0)) (v1 := .int .i64 (0)) (v2 := .int .i64 (0)) k0 k1 k2; simp [results, Tryd.results98, go_sem, tc.1, tc.2.1, tc.2.2]) rfl ⟨ret_parts (parts_no fun a h => by have := (HY.out a h).1; cases this), bchain ((Below.refl _ _).alloc (Nat.le_refl _) _) HB5.out |>.trans (by repeat (first | exact Below.refl _ _ | refine Below.drew ?_ | refine below_drewN ?_ _ | refine Below.alloc ?_ (by first | omega | (simp; done) | (simp; omega)) _ | refine Below.setCell ?_ (by simp) _))⟩
  | true =>
    cases b2 with
    | false =>
      go_wp2_with (go_at_call 56; refine (within_any _ _ _ _).mono ?_; rintro e w' ⟨rfl, rfl⟩)
      exact bodyPost_ret (v := .tuple #[.agg #[.int .i64 0, .int .i64 0, .int .i64 0], .bool false]) (by have tc := three_cells (v0 := .int .i64 (0)) (v1 := .int .i64 (0)) (v2 := .int .i64 (0)) k0 k1 k2; simp [results, Tryd.results98, go_sem, tc.1, tc.2.1, tc.2.2]) rfl ⟨ret_parts (parts_no fun a h => by have := (HY.out a h).2.2.1; cases this), bchain ((Below.refl _ _).alloc (Nat.le_refl _) _) HB5.out |>.trans (by repeat (first | exact Below.refl _ _ | refine Below.drew ?_ | refine below_drewN ?_ _ | refine Below.alloc ?_ (by first | omega | (simp; done) | (simp; omega)) _ | refine Below.setCell ?_ (by simp) _))⟩
    | true =>
      cases b3 with
      | false =>
        go_wp2_with (go_at_call 56; refine (within_any _ _ _ _).mono ?_; rintro e w' ⟨rfl, rfl⟩)
        exact bodyPost_ret (v := .tuple #[.agg #[.int .i64 0, .int .i64 0, .int .i64 0], .bool false]) (by have tc := three_cells (v0 := .int .i64 (0)) (v1 := .int .i64 (0)) (v2 := .int .i64 (0)) k0 k1 k2; simp [results, Tryd.results98, go_sem, tc.1, tc.2.1, tc.2.2]) rfl ⟨ret_parts (parts_no fun a h => by have := (HY.out a h).2.2.2.2.1; cases this), bchain ((Below.refl _ _).alloc (Nat.le_refl _) _) HB5.out |>.trans (by repeat (first | exact Below.refl _ _ | refine Below.drew ?_ | refine below_drewN ?_ _ | refine Below.alloc ?_ (by first | omega | (simp; done) | (simp; omega)) _ | refine Below.setCell ?_ (by simp) _))⟩
      | true =>
        cases hi : inB P 0 360 with
        | false =>
          have HI := Lib.hid hi
          go_wp2_with (go_at_call 56; refine (within_any _ _ _ _).mono ?_; rintro e w' ⟨rfl, rfl⟩)
          exact bodyPost_ret (v := .tuple #[.agg #[.int .i64 0, .int .i64 0, .int .i64 0], .bool false]) (by have tc := three_cells (v0 := .int .i64 (0)) (v1 := .int .i64 (0)) (v2 := .int .i64 (0)) k0 k1 k2; simp [results, Tryd.results98, go_sem, tc.1, tc.2.1, tc.2.2]) rfl ⟨ret_parts (parts_no fun a h => by have h1 := HY.out a h; have h2 := HI.out; simp [inB] at h2; omega), bchain ((Below.refl _ _).alloc (Nat.le_refl _) _) HB5.out |>.trans (by repeat (first | exact Below.refl _ _ | refine Below.drew ?_ | refine below_drewN ?_ _ | refine Below.alloc ?_ (by first | omega | (simp; done) | (simp; omega)) _ | refine Below.setCell ?_ (by simp) _))⟩
        | true =>
          have hp0 := (inB_of hi).1
          have hp1 := (inB_of hi).2
          go_wp2_with (go_at_call 56; refine (within_any _ _ _ _).mono ?_; rintro e w' ⟨rfl, rfl⟩)
          by_cases hq : Q ≤ 59 ∧ R ≤ 59
          · have E1 := Lib.hid (show (P * 3600 + Q * 60 + R) / 3600 = P by omega)
            have E2 := Lib.hid (show (P * 3600 + Q * 60 + R) / 60 % 60 = Q by omega)
            have E3 := Lib.hid (show (P * 3600 + Q * 60 + R) % 60 = R by omega)
            have HQ2 := Lib.hid hq
            clear hq
            go_region_with (first | (go_at_call 99; refine (size_any _ _ _ _ hp0 (by omega) hq0 (by omega) hr0 (by omega)).mono ?_; rintro e w' ⟨rfl, o1, rfl⟩) | (go_at_call 90; refine (partsOf_far _ _ (by omega) (by omega)).mono ?_; rw [E1.out, E2.out, E3.out]; rintro e w' ⟨rfl, o2, rfl⟩))
            all_goals (first | refine at_world (P := fun W => Below w5.heap.size w5 W ∧ W.cell? ⟨w5.heap.size, 0, none⟩ = some (.int .i64 P) ∧ W.cell? ⟨w5.heap.size, 1, none⟩ = some (.int .i64 Q) ∧ W.cell? ⟨w5.heap.size, 2, none⟩ = some (.int .i64 R)) (Q := fun W => Exit.then _ _ Exit.normal _ W) _ ⟨by repeat (first | exact Below.refl _ _ | refine Below.drew ?_ | refine below_drewN ?_ _ | refine Below.alloc ?_ (by first | omega | (simp; done) | (simp; omega)) _ | refine Below.setCell ?_ (by simp) _), by simp [go_sem], by simp [go_sem], by simp [go_sem]⟩ (fun W hW => ?_) | refine at_world (P := fun W => Below w5.heap.size w5 W ∧ W.cell? ⟨w5.heap.size, 0, none⟩ = some (.int .i64 P) ∧ W.cell? ⟨w5.heap.size, 1, none⟩ = some (.int .i64 Q) ∧ W.cell? ⟨w5.heap.size, 2, none⟩ = some (.int .i64 R)) (Q := fun W => Code.wp _ _ _ _ W) _ ⟨by repeat (first | exact Below.refl _ _ | refine Below.drew ?_ | refine below_drewN ?_ _ | refine Below.alloc ?_ (by first | omega | (simp; done) | (simp; omega)) _ | refine Below.setCell ?_ (by simp) _), by simp [go_sem], by simp [go_sem], by simp [go_sem]⟩ (fun W hW => ?_))
            all_goals (
              obtain ⟨hbW, m0, m1, m2⟩ := hW
              have HBW := Lib.hid hbW
              have l0 := (hbW.cell (p := ⟨w.heap.size, 0, none⟩) hz5).trans k0
              have l1 := (hbW.cell (p := ⟨w.heap.size, 1, none⟩) hz5).trans k1
              have l2 := (hbW.cell (p := ⟨w.heap.size, 2, none⟩) hz5).trans k2
              have g0 := (hbW.frozen (p := ⟨w.heap.size, 0, none⟩) hz5).trans f0
              have g1 := (hbW.frozen (p := ⟨w.heap.size, 1, none⟩) hz5).trans f1
              have g2 := (hbW.frozen (p := ⟨w.heap.size, 2, none⟩) hz5).trans f2
              clear hbW
              go_wp2)
            all_goals exact bodyPost_ret (v := .tuple #[.agg #[.int .i64 P, .int .i64 Q, .int .i64 R], .bool true]) (by have tc := three_cells (v0 := .int .i64 P) (v1 := .int .i64 Q) (v2 := .int .i64 R) l0 l1 l2; simp [results, Tryd.results98, go_sem, tc.1, tc.2.1, tc.2.2]) rfl ⟨ret_parts (by
              have hz := HO.out (by rw [HA.out]) (two_of HBB.out) (two_of HC.out) (by rw [HP.out]; exact hp0) (by rw [HP.out]; exact hp1) (by rw [← two_val HBB.out, HQ.out]; exact HQ2.out.1) (by rw [← two_val HC.out, HR.out]; exact HQ2.out.2)
              rw [HP.out, ← two_val HBB.out, ← two_val HC.out, HQ.out, HR.out] at hz
              have hy := size_yes hz
              rw [hy.2]
              exact ⟨hy.1, E1.out, E2.out, E3.out⟩), (bchain (bchain ((Below.refl _ _).alloc (Nat.le_refl _) _) HB5.out) HBW.out).trans (by repeat (first | exact Below.refl _ _ | refine Below.drew ?_ | refine below_drewN ?_ _ | refine Below.alloc ?_ (by first | omega | (simp; done) | (simp; omega)) _ | refine Below.setCell ?_ (by simp) _))⟩
          · have HQ2 := Lib.hid hq
            obtain ⟨X1, E1⟩ : ∃ X, Hid ((P * 3600 + Q * 60 + R) / 3600 = X) := ⟨_, Lib.hid rfl⟩
            obtain ⟨X2, E2⟩ : ∃ X, Hid ((P * 3600 + Q * 60 + R) / 60 % 60 = X) := ⟨_, Lib.hid rfl⟩
            obtain ⟨X3, E3⟩ : ∃ X, Hid ((P * 3600 + Q * 60 + R) % 60 = X) := ⟨_, Lib.hid rfl⟩
            have HNO := Lib.hid (show ∀ a, ¬ IsSize s.data.toList a from fun a h => by have h1 := HY.out a h; exact hq ⟨by omega, by omega⟩)
            by_cases hx : X3 = R
            · have hx2 : ¬ X2 = Q := by have e2 := E2.out; have e3 := E3.out; omega
              have hx2b : (X2 == Q) = false := by simpa using hx2
              have hx3b : (X3 == R) = true := by simpa using hx
              clear hx hx2 hq
              go_region_with (first | (go_at_call 99; refine (size_any _ _ _ _ hp0 (by omega) hq0 (by omega) hr0 (by omega)).mono ?_; rintro e w' ⟨rfl, o1, rfl⟩) | (go_at_call 90; refine (partsOf_far _ _ (by omega) (by omega)).mono ?_; rw [E1.out, E2.out, E3.out]; rintro e w' ⟨rfl, o2, rfl⟩))
              all_goals (first | refine at_world (P := fun W => Below w5.heap.size w5 W ∧ W.cell? ⟨w5.heap.size, 0, none⟩ = some (.int .i64 P) ∧ W.cell? ⟨w5.heap.size, 1, none⟩ = some (.int .i64 Q) ∧ W.cell? ⟨w5.heap.size, 2, none⟩ = some (.int .i64 R)) (Q := fun W => Exit.then _ _ Exit.normal _ W) _ ⟨by repeat (first | exact Below.refl _ _ | refine Below.drew ?_ | refine below_drewN ?_ _ | refine Below.alloc ?_ (by first | omega | (simp; done) | (simp; omega)) _ | refine Below.setCell ?_ (by simp) _), by simp [go_sem], by simp [go_sem], by simp [go_sem]⟩ (fun W hW => ?_) | refine at_world (P := fun W => Below w5.heap.size w5 W ∧ W.cell? ⟨w5.heap.size, 0, none⟩ = some (.int .i64 P) ∧ W.cell? ⟨w5.heap.size, 1, none⟩ = some (.int .i64 Q) ∧ W.cell? ⟨w5.heap.size, 2, none⟩ = some (.int .i64 R)) (Q := fun W => Code.wp _ _ _ _ W) _ ⟨by repeat (first | exact Below.refl _ _ | refine Below.drew ?_ | refine below_drewN ?_ _ | refine Below.alloc ?_ (by first | omega | (simp; done) | (simp; omega)) _ | refine Below.setCell ?_ (by simp) _), by simp [go_sem], by simp [go_sem], by simp [go_sem]⟩ (fun W hW => ?_))
              all_goals (
                obtain ⟨hbW, m0, m1, m2⟩ := hW
                have HBW := Lib.hid hbW
                have l0 := (hbW.cell (p := ⟨w.heap.size, 0, none⟩) hz5).trans k0
                have l1 := (hbW.cell (p := ⟨w.heap.size, 1, none⟩) hz5).trans k1
                have l2 := (hbW.cell (p := ⟨w.heap.size, 2, none⟩) hz5).trans k2
                have g0 := (hbW.frozen (p := ⟨w.heap.size, 0, none⟩) hz5).trans f0
                have g1 := (hbW.frozen (p := ⟨w.heap.size, 1, none⟩) hz5).trans f1
                have g2 := (hbW.frozen (p := ⟨w.heap.size, 2, none⟩) hz5).trans f2
                clear hbW
                go_wp2)
              all_goals exact bodyPost_ret (v := .tuple #[.agg #[.int .i64 0, .int .i64 0, .int .i64 0], .bool false]) (by have tc := three_cells (v0 := .int .i64 0) (v1 := .int .i64 0) (v2 := .int .i64 0) l0 l1 l2; simp [results, Tryd.results98, go_sem, tc.1, tc.2.1, tc.2.2]) rfl ⟨ret_parts (parts_no HNO.out), (bchain (bchain ((Below.refl _ _).alloc (Nat.le_refl _) _) HB5.out) HBW.out).trans (by repeat (first | exact Below.refl _ _ | refine Below.drew ?_ | refine below_drewN ?_ _ | refine Below.alloc ?_ (by first | omega | (simp; done) | (simp; omega)) _ | refine Below.setCell ?_ (by simp) _))⟩
            · have hx3b : (X3 == R) = false := by simpa using hx
              clear hx hq
              go_region_with (first | (go_at_call 99; refine (size_any _ _ _ _ hp0 (by omega) hq0 (by omega) hr0 (by omega)).mono ?_; rintro e w' ⟨rfl, o1, rfl⟩) | (go_at_call 90; refine (partsOf_far _ _ (by omega) (by omega)).mono ?_; rw [E1.out, E2.out, E3.out]; rintro e w' ⟨rfl, o2, rfl⟩))
              all_goals (first | refine at_world (P := fun W => Below w5.heap.size w5 W ∧ W.cell? ⟨w5.heap.size, 0, none⟩ = some (.int .i64 P) ∧ W.cell? ⟨w5.heap.size, 1, none⟩ = some (.int .i64 Q) ∧ W.cell? ⟨w5.heap.size, 2, none⟩ = some (.int .i64 R)) (Q := fun W => Exit.then _ _ Exit.normal _ W) _ ⟨by repeat (first | exact Below.refl _ _ | refine Below.drew ?_ | refine below_drewN ?_ _ | refine Below.alloc ?_ (by first | omega | (simp; done) | (simp; omega)) _ | refine Below.setCell ?_ (by simp) _), by simp [go_sem], by simp [go_sem], by simp [go_sem]⟩ (fun W hW => ?_) | refine at_world (P := fun W => Below w5.heap.size w5 W ∧ W.cell? ⟨w5.heap.size, 0, none⟩ = some (.int .i64 P) ∧ W.cell? ⟨w5.heap.size, 1, none⟩ = some (.int .i64 Q) ∧ W.cell? ⟨w5.heap.size, 2, none⟩ = some (.int .i64 R)) (Q := fun W => Code.wp _ _ _ _ W) _ ⟨by repeat (first | exact Below.refl _ _ | refine Below.drew ?_ | refine below_drewN ?_ _ | refine Below.alloc ?_ (by first | omega | (simp; done) | (simp; omega)) _ | refine Below.setCell ?_ (by simp) _), by simp [go_sem], by simp [go_sem], by simp [go_sem]⟩ (fun W hW => ?_))
              all_goals (
                obtain ⟨hbW, m0, m1, m2⟩ := hW
                have HBW := Lib.hid hbW
                have l0 := (hbW.cell (p := ⟨w.heap.size, 0, none⟩) hz5).trans k0
                have l1 := (hbW.cell (p := ⟨w.heap.size, 1, none⟩) hz5).trans k1
                have l2 := (hbW.cell (p := ⟨w.heap.size, 2, none⟩) hz5).trans k2
                have g0 := (hbW.frozen (p := ⟨w.heap.size, 0, none⟩) hz5).trans f0
                have g1 := (hbW.frozen (p := ⟨w.heap.size, 1, none⟩) hz5).trans f1
                have g2 := (hbW.frozen (p := ⟨w.heap.size, 2, none⟩) hz5).trans f2
                clear hbW
                go_wp2)
              all_goals exact bodyPost_ret (v := .tuple #[.agg #[.int .i64 0, .int .i64 0, .int .i64 0], .bool false]) (by have tc := three_cells (v0 := .int .i64 0) (v1 := .int .i64 0) (v2 := .int .i64 0) l0 l1 l2; simp [results, Tryd.results98, go_sem, tc.1, tc.2.1, tc.2.2]) rfl ⟨ret_parts (parts_no HNO.out), (bchain (bchain ((Below.refl _ _).alloc (Nat.le_refl _) _) HB5.out) HBW.out).trans (by repeat (first | exact Below.refl _ _ | refine Below.drew ?_ | refine below_drewN ?_ _ | refine Below.alloc ?_ (by first | omega | (simp; done) | (simp; omega)) _ | refine Below.setCell ?_ (by simp) _))⟩
end Go.Proofs.YtbnihalbepffoaaDoor.dec
