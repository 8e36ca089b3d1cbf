/- The program's functions of one place: contracts. -/
import Derived.Test.YtemhmejjmhbfdaaPlatesI8
namespace Go.Proofs.Ytemhmejjmhbfdaa.sines
open Go.ChangeShapes Go.WideShapes Go.ChangeAt Go.RowKit Go.Proofs.Ytemhmejjmhbfdaa.spots Go.Proofs.Ytemhmejjmhbfdaa.pairs
set_option linter.unusedSimpArgs false
set_option linter.unusedVariables false


set_option maxRecDepth 100000 in
set_option maxHeartbeats 1000000 in
theorem implPlateOf_any (lat lon s : Int) (w : World) :
    Calls Try.prog 16 #[.agg #[.int .i64 lat, .int .i64 lon], .int .i64 s] w fun e w' => e = .returned (.tuple #[.agg #[.int .i64 (if codeS8 lat lon s = 0 then near lon s else 0), .int .i64 (if codeS8 lat lon s = 0 then near lat s else 0)], .int .i64 (codeS8 lat lon s)]) ∧ Below w.heap.size w w' := by
  have MP := Lib.hid (fun W => mapOf_any s false W)
  have PO := Lib.hid (fun W => placeOf_any lat lon s false W)
  rw [show drX lat lon s false = near lon s from rfl] at PO
  generalize projT false = T at MP PO
  generalize (if codeS8 lat lon s = 0 then near lon s else 0) = x at PO ⊢
  generalize (if codeS8 lat lon s = 0 then near lat s else 0) = y at PO ⊢
  generalize codeS8 lat lon s = c at PO ⊢
  have B0 := Lib.hid (((Below.refl w.heap.size w).alloc (Nat.le_refl _) (.cells #[.int .i64 lat, .int .i64 lon] 25)).alloc (by simp) (.cells #[.int .i64 0, .int .i64 0] 29))
  obtain ⟨z1, u1, u2, u3, u4, u5⟩ := cells22 w (.int .i64 lat) (.int .i64 lon) (.int .i64 0) (.int .i64 0) 25 29
  have Z1 := Lib.hid z1
  clear z1
  go_enter Try.func16, Try.ntmps16
  go_wp2_with fail
  generalize ((w.alloc (.cells #[.int .i64 lat, .int .i64 lon] 25)).alloc (.cells #[.int .i64 0, .int .i64 0] 29)) = V0 at *
  have UP := Lib.hid (fun W (hW : Below V0.heap.size V0 W) => kept2 Z1.out u1 u2 u3 u4 u5 hW)
  have MP2 := Lib.hid (fun W (hW : Below V0.heap.size V0 W) => (MP.out W).mono fun e w' h => (⟨h.1, hW.trans (h.2.mono hW.size)⟩ : e = .returned (.agg #[.iface T (.agg #[]), .int .i64 s]) ∧ Below V0.heap.size V0 w'))
  have PO2 := Lib.hid (fun W (hW : Below V0.heap.size V0 W) => (PO.out W).mono fun e w' h => (⟨h.1, hW.trans (h.2.mono hW.size)⟩ : e = .returned (.tuple #[.agg #[.int .i64 x, .int .i64 y], .int .i64 c]) ∧ Below V0.heap.size V0 w'))
  clear MP PO
  go_region_held3 (fun W => W.cell? ⟨w.heap.size, 0, none⟩ = some (.int .i64 lat) ∧ W.cell? ⟨w.heap.size, 1, none⟩ = some (.int .i64 lon)) (first | exact ⟨u1, u2⟩ | exact ⟨n1, n2⟩ | exact ⟨o1, o2⟩ | (refine ⟨?_, ?_⟩ <;> repeat (first | assumption | exact u1 | exact u2 | refine sc_cell (Nat.ne_of_lt (Nat.lt_succ_self _)) ?_))) (first | (go_at_call 78; refine (MP2.out _ (by repeat (first | assumption | exact Below.refl _ _ | refine Below.drew ?_ | refine bdQ ?_ _ | refine Below.alloc ?_ (by first | exact Nat.le_refl _ | exact hv1.size | (simp; done) | (simp; omega)) _))).mono ?_; rintro e w1 ⟨rfl, hv1⟩; obtain ⟨n1, n2, n3, n4, n5⟩ := UP.out _ hv1) | (go_at_call 79; refine (PO2.out _ (by repeat (first | assumption | exact Below.refl _ _ | refine Below.drew ?_ | refine bdQ ?_ _ | refine Below.alloc ?_ (by first | exact Nat.le_refl _ | exact hv1.size | (simp; done) | (simp; omega)) _))).mono ?_; rintro e w2 ⟨rfl, hv2⟩; obtain ⟨o1, o2, o3, o4, o5⟩ := UP.out _ hv2; obtain ⟨f1, f2, f3, f4⟩ := cel2_cells o5))
  all_goals
    obtain ⟨q0, q1, q2⟩ := stored2 o5 (.int .i64 x) (.int .i64 y)
    have HB := B0.out.trans (hv2.mono B0.out.size)
    clear hv1 hv2 n1 n2 n3 n4 n5 u1 u2 u3 u4 u5
    go_wp2
    exact bodyPost_ret (v := .tuple #[.agg #[.int .i64 x, .int .i64 y], .int .i64 c]) (by simp [results, Try.results16, go_sem, q0, q1, q2]) rfl ⟨rfl, by repeat (first | assumption | exact Below.refl _ _ | refine Below.drew ?_ | refine bdQ ?_ _ | refine Below.setCell ?_ (by first | exact Nat.le_refl _ | omega | (simp; done) | (simp; omega)) _ | refine Below.alloc ?_ (by first | exact Nat.le_refl _ | omega | (simp; done) | (simp; omega)) _)⟩

set_option maxRecDepth 100000 in
set_option maxHeartbeats 1000000 in
theorem implWaveOf_any (lat lon s : Int) (w : World) :
    Calls Try.prog 18 #[.agg #[.int .i64 lat, .int .i64 lon], .int .i64 s] w fun e w' => e = .returned (.tuple #[.agg #[.int .i64 (if codeS8 lat lon s = 0 then waX lat lon s else 0), .int .i64 (if codeS8 lat lon s = 0 then near lat s else 0)], .int .i64 (codeS8 lat lon s)]) ∧ Below w.heap.size w w' := by
  have MP := Lib.hid (fun W => mapOf_any s true W)
  have PO := Lib.hid (fun W => placeOf_any lat lon s true W)
  rw [show drX lat lon s true = waX lat lon s from rfl] at PO
  generalize projT true = T at MP PO
  generalize (if codeS8 lat lon s = 0 then waX lat lon s else 0) = x at PO ⊢
  generalize (if codeS8 lat lon s = 0 then near lat s else 0) = y at PO ⊢
  generalize codeS8 lat lon s = c at PO ⊢
  have B0 := Lib.hid (((Below.refl w.heap.size w).alloc (Nat.le_refl _) (.cells #[.int .i64 lat, .int .i64 lon] 25)).alloc (by simp) (.cells #[.int .i64 0, .int .i64 0] 29))
  obtain ⟨z1, u1, u2, u3, u4, u5⟩ := cells22 w (.int .i64 lat) (.int .i64 lon) (.int .i64 0) (.int .i64 0) 25 29
  have Z1 := Lib.hid z1
  clear z1
  go_enter Try.func18, Try.ntmps18
  go_wp2_with fail
  generalize ((w.alloc (.cells #[.int .i64 lat, .int .i64 lon] 25)).alloc (.cells #[.int .i64 0, .int .i64 0] 29)) = V0 at *
  have UP := Lib.hid (fun W (hW : Below V0.heap.size V0 W) => kept2 Z1.out u1 u2 u3 u4 u5 hW)
  have MP2 := Lib.hid (fun W (hW : Below V0.heap.size V0 W) => (MP.out W).mono fun e w' h => (⟨h.1, hW.trans (h.2.mono hW.size)⟩ : e = .returned (.agg #[.iface T (.agg #[]), .int .i64 s]) ∧ Below V0.heap.size V0 w'))
  have PO2 := Lib.hid (fun W (hW : Below V0.heap.size V0 W) => (PO.out W).mono fun e w' h => (⟨h.1, hW.trans (h.2.mono hW.size)⟩ : e = .returned (.tuple #[.agg #[.int .i64 x, .int .i64 y], .int .i64 c]) ∧ Below V0.heap.size V0 w'))
  clear MP PO
  go_region_held3 (fun W => W.cell? ⟨w.heap.size, 0, none⟩ = some (.int .i64 lat) ∧ W.cell? ⟨w.heap.size, 1, none⟩ = some (.int .i64 lon)) (first | exact ⟨u1, u2⟩ | exact ⟨n1, n2⟩ | exact ⟨o1, o2⟩ | (refine ⟨?_, ?_⟩ <;> repeat (first | assumption | exact u1 | exact u2 | refine sc_cell (Nat.ne_of_lt (Nat.lt_succ_self _)) ?_))) (first | (go_at_call 78; refine (MP2.out _ (by repeat (first | assumption | exact Below.refl _ _ | refine Below.drew ?_ | refine bdQ ?_ _ | refine Below.alloc ?_ (by first | exact Nat.le_refl _ | exact hv1.size | (simp; done) | (simp; omega)) _))).mono ?_; rintro e w1 ⟨rfl, hv1⟩; obtain ⟨n1, n2, n3, n4, n5⟩ := UP.out _ hv1) | (go_at_call 79; refine (PO2.out _ (by repeat (first | assumption | exact Below.refl _ _ | refine Below.drew ?_ | refine bdQ ?_ _ | refine Below.alloc ?_ (by first | exact Nat.le_refl _ | exact hv1.size | (simp; done) | (simp; omega)) _))).mono ?_; rintro e w2 ⟨rfl, hv2⟩; obtain ⟨o1, o2, o3, o4, o5⟩ := UP.out _ hv2; obtain ⟨f1, f2, f3, f4⟩ := cel2_cells o5))
  all_goals
    obtain ⟨q0, q1, q2⟩ := stored2 o5 (.int .i64 x) (.int .i64 y)
    have HB := B0.out.trans (hv2.mono B0.out.size)
    clear hv1 hv2 n1 n2 n3 n4 n5 u1 u2 u3 u4 u5
    go_wp2
    exact bodyPost_ret (v := .tuple #[.agg #[.int .i64 x, .int .i64 y], .int .i64 c]) (by simp [results, Try.results18, go_sem, q0, q1, q2]) rfl ⟨rfl, by repeat (first | assumption | exact Below.refl _ _ | refine Below.drew ?_ | refine bdQ ?_ _ | refine Below.setCell ?_ (by first | exact Nat.le_refl _ | omega | (simp; done) | (simp; omega)) _ | refine Below.alloc ?_ (by first | exact Nat.le_refl _ | omega | (simp; done) | (simp; omega)) _)⟩

theorem readB_eq (x y s : Int) : (if codeR x y s false = 0 then rdLat x y s false else 0) = (if codeB8 x y s = 0 then y * s else 0) ∧ (if codeR x y s false = 0 then rdLon x y s false else 0) = (if codeB8 x y s = 0 then x * s else 0) := by
  rw [codeR_plate]
  by_cases hc : codeB8 x y s = 0
  · rw [if_pos hc, if_pos hc, if_pos hc, if_pos hc]
    have hk : rdOk x y s false = true := by
      rw [← codeR_plate] at hc
      unfold codeR at hc
      split at hc
      · cases h : rdOk x y s false with
        | true => rfl
        | false => rw [h] at hc; simp at hc
      · contradiction
    unfold rdLat rdLon
    rw [hk]
    exact ⟨rfl, rfl⟩
  · rw [if_neg hc, if_neg hc, if_neg hc, if_neg hc]; exact ⟨rfl, rfl⟩
theorem readWv_eq (x y s : Int) : (if codeR x y s true = 0 then rdLat x y s true else 0) = (if codeW8 x y s = 0 then wbLat y s else 0) ∧ (if codeR x y s true = 0 then rdLon x y s true else 0) = (if codeW8 x y s = 0 then wbLon x y s else 0) := by
  rw [codeR_wave]
  by_cases hc : codeW8 x y s = 0
  · rw [if_pos hc, if_pos hc, if_pos hc, if_pos hc]
    have hk : rdOk x y s true = true := by
      rw [← codeR_wave] at hc
      unfold codeR at hc
      split at hc
      · cases h : rdOk x y s true with
        | true => rfl
        | false => rw [h] at hc; simp at hc
      · contradiction
    unfold rdLat rdLon
    rw [hk]
    exact ⟨rfl, rfl⟩
  · rw [if_neg hc, if_neg hc, if_neg hc, if_neg hc]; exact ⟨rfl, rfl⟩

set_option maxRecDepth 100000 in
set_option maxHeartbeats 1000000 in
theorem implPlateBack_any (x0 y0 s : Int) (w : World) :
    Calls Try.prog 21 #[.agg #[.int .i64 x0, .int .i64 y0], .int .i64 s] w fun e w' => e = .returned (.tuple #[.agg #[.int .i64 (if codeB8 x0 y0 s = 0 then y0 * s else 0), .int .i64 (if codeB8 x0 y0 s = 0 then x0 * s else 0)], .int .i64 (codeB8 x0 y0 s)]) ∧ Below w.heap.size w w' := by
  have MP := Lib.hid (fun W => mapOf_any s false W)
  have PO := Lib.hid (fun W => placeBack_any x0 y0 s false W)
  rw [(readB_eq x0 y0 s).1, (readB_eq x0 y0 s).2, codeR_plate] at PO
  generalize projT false = T at MP PO
  generalize (if codeB8 x0 y0 s = 0 then y0 * s else 0) = x at PO ⊢
  generalize (if codeB8 x0 y0 s = 0 then x0 * s else 0) = y at PO ⊢
  generalize codeB8 x0 y0 s = c at PO ⊢
  have B0 := Lib.hid (((Below.refl w.heap.size w).alloc (Nat.le_refl _) (.cells #[.int .i64 x0, .int .i64 y0] 29)).alloc (by simp) (.cells #[.int .i64 0, .int .i64 0] 25))
  obtain ⟨z1, u1, u2, u3, u4, u5⟩ := cells22 w (.int .i64 x0) (.int .i64 y0) (.int .i64 0) (.int .i64 0) 29 25
  have Z1 := Lib.hid z1
  clear z1
  go_enter Try.func21, Try.ntmps21
  go_wp2_with fail
  generalize ((w.alloc (.cells #[.int .i64 x0, .int .i64 y0] 29)).alloc (.cells #[.int .i64 0, .int .i64 0] 25)) = V0 at *
  have UP := Lib.hid (fun W (hW : Below V0.heap.size V0 W) => kept2 Z1.out u1 u2 u3 u4 u5 hW)
  have MP2 := Lib.hid (fun W (hW : Below V0.heap.size V0 W) => (MP.out W).mono fun e w' h => (⟨h.1, hW.trans (h.2.mono hW.size)⟩ : e = .returned (.agg #[.iface T (.agg #[]), .int .i64 s]) ∧ Below V0.heap.size V0 w'))
  have PO2 := Lib.hid (fun W (hW : Below V0.heap.size V0 W) => (PO.out W).mono fun e w' h => (⟨h.1, hW.trans (h.2.mono hW.size)⟩ : e = .returned (.tuple #[.agg #[.int .i64 x, .int .i64 y], .int .i64 c]) ∧ Below V0.heap.size V0 w'))
  clear MP PO
  go_region_held3 (fun W => W.cell? ⟨w.heap.size, 0, none⟩ = some (.int .i64 x0) ∧ W.cell? ⟨w.heap.size, 1, none⟩ = some (.int .i64 y0)) (first | exact ⟨u1, u2⟩ | exact ⟨n1, n2⟩ | exact ⟨o1, o2⟩ | (refine ⟨?_, ?_⟩ <;> repeat (first | assumption | exact u1 | exact u2 | refine sc_cell (Nat.ne_of_lt (Nat.lt_succ_self _)) ?_))) (first | (go_at_call 78; refine (MP2.out _ (by repeat (first | assumption | exact Below.refl _ _ | refine Below.drew ?_ | refine bdQ ?_ _ | refine Below.alloc ?_ (by first | exact Nat.le_refl _ | exact hv1.size | (simp; done) | (simp; omega)) _))).mono ?_; rintro e w1 ⟨rfl, hv1⟩; obtain ⟨n1, n2, n3, n4, n5⟩ := UP.out _ hv1) | (go_at_call 84; refine (PO2.out _ (by repeat (first | assumption | exact Below.refl _ _ | refine Below.drew ?_ | refine bdQ ?_ _ | refine Below.alloc ?_ (by first | exact Nat.le_refl _ | exact hv1.size | (simp; done) | (simp; omega)) _))).mono ?_; rintro e w2 ⟨rfl, hv2⟩; obtain ⟨o1, o2, o3, o4, o5⟩ := UP.out _ hv2; obtain ⟨f1, f2, f3, f4⟩ := cel2_cells o5))
  all_goals
    obtain ⟨q0, q1, q2⟩ := stored2 o5 (.int .i64 x) (.int .i64 y)
    have HB := B0.out.trans (hv2.mono B0.out.size)
    clear hv1 hv2 n1 n2 n3 n4 n5 u1 u2 u3 u4 u5
    go_wp2
    exact bodyPost_ret (v := .tuple #[.agg #[.int .i64 x, .int .i64 y], .int .i64 c]) (by simp [results, Try.results21, go_sem, q0, q1, q2]) rfl ⟨rfl, by repeat (first | assumption | exact Below.refl _ _ | refine Below.drew ?_ | refine bdQ ?_ _ | refine Below.setCell ?_ (by first | exact Nat.le_refl _ | omega | (simp; done) | (simp; omega)) _ | refine Below.alloc ?_ (by first | exact Nat.le_refl _ | omega | (simp; done) | (simp; omega)) _)⟩

set_option maxRecDepth 100000 in
set_option maxHeartbeats 1000000 in
theorem implWaveBack_any (x0 y0 s : Int) (w : World) :
    Calls Try.prog 23 #[.agg #[.int .i64 x0, .int .i64 y0], .int .i64 s] w fun e w' => e = .returned (.tuple #[.agg #[.int .i64 (if codeW8 x0 y0 s = 0 then wbLat y0 s else 0), .int .i64 (if codeW8 x0 y0 s = 0 then wbLon x0 y0 s else 0)], .int .i64 (codeW8 x0 y0 s)]) ∧ Below w.heap.size w w' := by
  have MP := Lib.hid (fun W => mapOf_any s true W)
  have PO := Lib.hid (fun W => placeBack_any x0 y0 s true W)
  rw [(readWv_eq x0 y0 s).1, (readWv_eq x0 y0 s).2, codeR_wave] at PO
  generalize projT true = T at MP PO
  generalize (if codeW8 x0 y0 s = 0 then wbLat y0 s else 0) = x at PO ⊢
  generalize (if codeW8 x0 y0 s = 0 then wbLon x0 y0 s else 0) = y at PO ⊢
  generalize codeW8 x0 y0 s = c at PO ⊢
  have B0 := Lib.hid (((Below.refl w.heap.size w).alloc (Nat.le_refl _) (.cells #[.int .i64 x0, .int .i64 y0] 29)).alloc (by simp) (.cells #[.int .i64 0, .int .i64 0] 25))
  obtain ⟨z1, u1, u2, u3, u4, u5⟩ := cells22 w (.int .i64 x0) (.int .i64 y0) (.int .i64 0) (.int .i64 0) 29 25
  have Z1 := Lib.hid z1
  clear z1
  go_enter Try.func23, Try.ntmps23
  go_wp2_with fail
  generalize ((w.alloc (.cells #[.int .i64 x0, .int .i64 y0] 29)).alloc (.cells #[.int .i64 0, .int .i64 0] 25)) = V0 at *
  have UP := Lib.hid (fun W (hW : Below V0.heap.size V0 W) => kept2 Z1.out u1 u2 u3 u4 u5 hW)
  have MP2 := Lib.hid (fun W (hW : Below V0.heap.size V0 W) => (MP.out W).mono fun e w' h => (⟨h.1, hW.trans (h.2.mono hW.size)⟩ : e = .returned (.agg #[.iface T (.agg #[]), .int .i64 s]) ∧ Below V0.heap.size V0 w'))
  have PO2 := Lib.hid (fun W (hW : Below V0.heap.size V0 W) => (PO.out W).mono fun e w' h => (⟨h.1, hW.trans (h.2.mono hW.size)⟩ : e = .returned (.tuple #[.agg #[.int .i64 x, .int .i64 y], .int .i64 c]) ∧ Below V0.heap.size V0 w'))
  clear MP PO
  go_region_held3 (fun W => W.cell? ⟨w.heap.size, 0, none⟩ = some (.int .i64 x0) ∧ W.cell? ⟨w.heap.size, 1, none⟩ = some (.int .i64 y0)) (first | exact ⟨u1, u2⟩ | exact ⟨n1, n2⟩ | exact ⟨o1, o2⟩ | (refine ⟨?_, ?_⟩ <;> repeat (first | assumption | exact u1 | exact u2 | refine sc_cell (Nat.ne_of_lt (Nat.lt_succ_self _)) ?_))) (first | (go_at_call 78; refine (MP2.out _ (by repeat (first | assumption | exact Below.refl _ _ | refine Below.drew ?_ | refine bdQ ?_ _ | refine Below.alloc ?_ (by first | exact Nat.le_refl _ | exact hv1.size | (simp; done) | (simp; omega)) _))).mono ?_; rintro e w1 ⟨rfl, hv1⟩; obtain ⟨n1, n2, n3, n4, n5⟩ := UP.out _ hv1) | (go_at_call 84; refine (PO2.out _ (by repeat (first | assumption | exact Below.refl _ _ | refine Below.drew ?_ | refine bdQ ?_ _ | refine Below.alloc ?_ (by first | exact Nat.le_refl _ | exact hv1.size | (simp; done) | (simp; omega)) _))).mono ?_; rintro e w2 ⟨rfl, hv2⟩; obtain ⟨o1, o2, o3, o4, o5⟩ := UP.out _ hv2; obtain ⟨f1, f2, f3, f4⟩ := cel2_cells o5))
  all_goals
    obtain ⟨q0, q1, q2⟩ := stored2 o5 (.int .i64 x) (.int .i64 y)
    have HB := B0.out.trans (hv2.mono B0.out.size)
    clear hv1 hv2 n1 n2 n3 n4 n5 u1 u2 u3 u4 u5
    go_wp2
    exact bodyPost_ret (v := .tuple #[.agg #[.int .i64 x, .int .i64 y], .int .i64 c]) (by simp [results, Try.results23, go_sem, q0, q1, q2]) rfl ⟨rfl, by repeat (first | assumption | exact Below.refl _ _ | refine Below.drew ?_ | refine bdQ ?_ _ | refine Below.setCell ?_ (by first | exact Nat.le_refl _ | omega | (simp; done) | (simp; omega)) _ | refine Below.alloc ?_ (by first | exact Nat.le_refl _ | omega | (simp; done) | (simp; omega)) _)⟩
end Go.Proofs.Ytemhmejjmhbfdaa.sines
