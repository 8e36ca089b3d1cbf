/- What is lost between the program's maps and the sphere: contracts. -/
import Derived.Test.YtemhmejjmhbfdaaPlatesI7
namespace Go.Proofs.Ytemhmejjmhbfdaa.sines
open Go.ChangeShapes Go.WideShapes Go.ChangeAt Go.RowKit Go.Proofs.Ytemhmejjmhbfdaa.spots Go.Proofs.Ytemhmejjmhbfdaa.pairs
set_option linter.unusedSimpArgs false
set_option linter.unusedVariables false


theorem cells22 (w : World) (a b c d : Value) (T U : TypeId) :
    ((w.alloc (.cells #[a, b] T)).alloc (.cells #[c, d] U)).heap.size = w.heap.size + 2 ∧
    ((w.alloc (.cells #[a, b] T)).alloc (.cells #[c, d] U)).cell? ⟨w.heap.size, 0, none⟩ = some a ∧
    ((w.alloc (.cells #[a, b] T)).alloc (.cells #[c, d] U)).cell? ⟨w.heap.size, 1, none⟩ = some b ∧
    ((w.alloc (.cells #[a, b] T)).alloc (.cells #[c, d] U)).cell? ⟨w.heap.size + 1, 0, none⟩ = some c ∧
    ((w.alloc (.cells #[a, b] T)).alloc (.cells #[c, d] U)).cell? ⟨w.heap.size + 1, 1, none⟩ = some d ∧
    ((w.alloc (.cells #[a, b] T)).alloc (.cells #[c, d] U)).heap[w.heap.size + 1]? = some (.cells #[c, d] U (0, 0)) := by
  have e1 : (w.alloc (.cells #[a, b] T)).heap.size = w.heap.size + 1 := by simp
  have g1 : ((w.alloc (.cells #[a, b] T)).alloc (.cells #[c, d] U)).heap[w.heap.size]? = some (.cells #[a, b] T (0, 0)) := by
    rw [Below.heap_alloc _ _ _ (by rw [e1]; omega)]
    exact heap_alloc_new w _
  have g2 : ((w.alloc (.cells #[a, b] T)).alloc (.cells #[c, d] U)).heap[w.heap.size + 1]? = some (.cells #[c, d] U (0, 0)) := by
    rw [← e1]
    exact heap_alloc_new _ _
  exact ⟨by simp, cell_heap g1 0, cell_heap g1 1, cell_heap g2 0, cell_heap g2 1, g2⟩
theorem kept2 {w V0 W : World} {p q r t : Value} {o : Obj} (hz : V0.heap.size = w.heap.size + 2) (u1 : V0.cell? ⟨w.heap.size, 0, none⟩ = some p) (u2 : V0.cell? ⟨w.heap.size, 1, none⟩ = some q) (u3 : V0.cell? ⟨w.heap.size + 1, 0, none⟩ = some r) (u4 : V0.cell? ⟨w.heap.size + 1, 1, none⟩ = some t) (u5 : V0.heap[w.heap.size + 1]? = some o) (hW : Below V0.heap.size V0 W) :
    W.cell? ⟨w.heap.size, 0, none⟩ = some p ∧ W.cell? ⟨w.heap.size, 1, none⟩ = some q ∧ W.cell? ⟨w.heap.size + 1, 0, none⟩ = some r ∧ W.cell? ⟨w.heap.size + 1, 1, none⟩ = some t ∧ W.heap[w.heap.size + 1]? = some o :=
  ⟨(hW.cell (p := ⟨w.heap.size, 0, none⟩) (show w.heap.size < V0.heap.size by omega)).trans u1, (hW.cell (p := ⟨w.heap.size, 1, none⟩) (show w.heap.size < V0.heap.size by omega)).trans u2, (hW.cell (p := ⟨w.heap.size + 1, 0, none⟩) (show w.heap.size + 1 < V0.heap.size by omega)).trans u3, (hW.cell (p := ⟨w.heap.size + 1, 1, none⟩) (show w.heap.size + 1 < V0.heap.size by omega)).trans u4, (hW.block _ (by omega)).trans u5⟩
theorem drX_bounds {lat lon s : Int} (wave : Bool) (h : okB lat lon = true) (s0 : 1 ≤ s) (s1 : s ≤ 100000) : -2000000 ≤ drX lat lon s wave ∧ drX lat lon s wave ≤ 2000000 ∧ -2000000 ≤ near lat s ∧ near lat s ≤ 2000000 := by
  obtain ⟨h1, h2, h3, h4⟩ := okB_of h
  obtain ⟨p1, p2, _, _⟩ := plate_bounds (n := lat) (N := 324000) h1 h2 (by omega) s0 s1
  obtain ⟨r1, r2, _, _⟩ := plate_bounds (n := lon) (N := 648000) h3 (by omega) (by omega) s0 s1
  obtain ⟨v1, v2, _, _⟩ := waX_bounds h s0 s1
  cases wave with
  | true => simp only [drX, if_true]; omega
  | false => simp only [drX, Bool.false_eq_true, if_false]; omega
theorem loss_read (lat lon s : Int) (wave : Bool) : rdOk (drX lat lon s wave) (near lat s) s wave = lossOk lat lon s wave ∧ (lossOk lat lon s wave = true → rdLat (drX lat lon s wave) (near lat s) s wave - lat = lossN lat s wave ∧ rdLon (drX lat lon s wave) (near lat s) s wave - lon = lossE lat lon s wave) := by
  have e1 : rdOk (drX lat lon s wave) (near lat s) s wave = lossOk lat lon s wave := by cases wave <;> rfl
  refine ⟨e1, fun h => ?_⟩
  unfold rdLat rdLon
  rw [e1, h]
  cases wave <;> exact ⟨rfl, rfl⟩
set_option maxRecDepth 100000 in
set_option maxHeartbeats 2000000 in
theorem loss_any (lat lon s : Int) (wave : Bool) (w : World) (h : okB lat lon = true) (s0 : 1 ≤ s) (s1 : s ≤ 100000) :
    Calls Try.prog 112 #[.agg #[.iface (projT wave) (.agg #[]), .int .i64 s], .agg #[.int .i64 lat, .int .i64 lon]] w fun e w' => e = .returned (.tuple #[.int .i64 (if lossOk lat lon s wave = true then lossN lat s wave else 0), .int .i64 (if lossOk lat lon s wave = true then lossE lat lon s wave else 0), .bool (lossOk lat lon s wave)]) ∧ Below w.heap.size w w' := by
  obtain ⟨h1, h2, h3, h4⟩ := drX_bounds wave h s0 s1
  obtain ⟨b1, b2, b3, b4⟩ := loss_bounds wave h s0 s1
  obtain ⟨e1, e2⟩ := loss_read lat lon s wave
  have DR := Lib.hid (fun W => draw_any lat lon s wave W h s0 s1)
  have RD := Lib.hid (fun W => read_any (drX lat lon s wave) (near lat s) s wave W h1 h2 h3 h4 s0 s1)
  rw [e1] at RD
  generalize projT wave = T at DR RD ⊢
  generalize rdLat (drX lat lon s wave) (near lat s) s wave = rl at RD e2
  generalize rdLon (drX lat lon s wave) (near lat s) s wave = rn at RD e2
  generalize drX lat lon s wave = x at DR RD
  generalize near lat s = y at DR RD
  generalize lossOk lat lon s wave = ok at RD e2 ⊢
  generalize lossN lat s wave = N1 at b1 b2 e2 ⊢
  generalize lossE lat lon s wave = N2 at b3 b4 e2 ⊢
  have B0 := Lib.hid (((Below.refl w.heap.size w).alloc (Nat.le_refl _) (.cells #[.iface T (.agg #[]), .int .i64 s] 98)).alloc (by simp) (.cells #[.int .i64 lat, .int .i64 lon] 25))
  obtain ⟨z1, u1, u2, u3, u4, u5⟩ := cells22 w (.iface T (.agg #[])) (.int .i64 s) (.int .i64 lat) (.int .i64 lon) 98 25
  have Z1 := Lib.hid z1
  clear z1 h s0 s1 h1 h2 h3 h4 e1
  cases ok with
  | true =>
    obtain ⟨e3, e4⟩ := e2 rfl
    have k1 : IntKind.i64.wrap (rl - lat) = N1 := by rw [e3]; exact IntWalk.i64_in _ (by omega)
    have k2 : IntKind.i64.wrap (rn - lon) = N2 := by rw [e4]; exact IntWalk.i64_in _ (by omega)
    clear e2 e3 e4 b1 b2 b3 b4
    simp only [if_true]
    go_enter Try.func112, Try.ntmps112
    go_wp2_with fail
    generalize ((w.alloc (.cells #[.iface T (.agg #[]), .int .i64 s] 98)).alloc (.cells #[.int .i64 lat, .int .i64 lon] 25)) = V0 at *
    have hn : w.heap.size < V0.heap.size := by have := Z1.out; omega
    have hn1 : w.heap.size + 1 < V0.heap.size := by have := Z1.out; omega
    have UP := Lib.hid (fun W (hW : Below V0.heap.size V0 W) => kept2 Z1.out u1 u2 u3 u4 u5 hW)
    have DR2 := Lib.hid (fun W (hW : Below V0.heap.size V0 W) => (DR.out W).mono fun e w' h => (⟨h.1, h.2, hW.trans (h.2.mono hW.size)⟩ : e = .returned (.agg #[.int .i64 x, .int .i64 y]) ∧ Below W.heap.size W w' ∧ Below V0.heap.size V0 w'))
    have RD2 := Lib.hid (fun W (hW : Below V0.heap.size V0 W) => (RD.out W).mono fun e w' h => (⟨h.1, h.2, hW.trans (h.2.mono hW.size)⟩ : e = .returned (.tuple #[.agg #[.int .i64 rl, .int .i64 rn], .bool true]) ∧ Below W.heap.size W w' ∧ Below V0.heap.size V0 w'))
    clear DR RD u5
    go_region_held3 (fun W => W.cell? ⟨w.heap.size, 0, none⟩ = some (.iface T (.agg #[])) ∧ W.cell? ⟨w.heap.size, 1, none⟩ = some (.int .i64 s) ∧ W.cell? ⟨w.heap.size + 1, 0, none⟩ = some (.int .i64 lat) ∧ W.cell? ⟨w.heap.size + 1, 1, none⟩ = some (.int .i64 lon)) (first | exact ⟨u1, u2, u3, u4⟩ | exact ⟨n1, n2, n3, n4⟩ | exact ⟨o1, o2, o3, o4⟩ | (refine ⟨?_, ?_, ?_, ?_⟩ <;> repeat (first | assumption | exact u1 | exact u2 | exact u3 | exact u4 | refine al_cell _ ?_ | refine sc_cell (by (first | exact Nat.ne_of_lt hn | exact Nat.ne_of_lt hn1 | exact Nat.ne_of_lt (Nat.lt_of_lt_of_le hn hv1.size) | exact Nat.ne_of_lt (Nat.lt_of_lt_of_le hn1 hv1.size) | exact Nat.ne_of_lt (Nat.lt_of_lt_of_le hn hv2.size) | exact Nat.ne_of_lt (Nat.lt_of_lt_of_le hn1 hv2.size))) ?_))) (first
      | (go_at_call 149; refine (DR2.out _ (by repeat (first | assumption | exact Below.refl _ _ | refine Below.drew ?_ | refine bdQ ?_ _ | refine Below.alloc ?_ (by first | exact Nat.le_refl _ | exact hv1.size | (simp; done) | (simp; omega)) _))).mono ?_; rintro e w1 ⟨rfl, hb1, hv1⟩; obtain ⟨n1, n2, n3, n4, n5⟩ := UP.out _ hv1; (first | have p1 : w1.heap[V0.heap.size]? = some (.cells #[.int .i64 0, .int .i64 0] 25 (0, 0)) := box1h (belOf hb1) | skip))
      | (go_at_call 104; refine (RD2.out _ (by repeat (first | assumption | exact Below.refl _ _ | refine Below.drew ?_ | refine bdQ ?_ _ | refine Below.alloc ?_ (by first | exact Nat.le_refl _ | exact hv1.size | (simp; done) | (simp; omega)) _))).mono ?_; rintro e w2 ⟨rfl, hb2, hv2⟩; obtain ⟨o1, o2, o3, o4, o5⟩ := UP.out _ hv2; (first | have p2 := (hb2.block _ (lt_of p1)).trans p1 | have p2 := box1h hb2 | skip); (first | (have F := cel2_cells p2; obtain ⟨f1, f2, f3, f4⟩ := F) | (have F := cel2_cells (heap_alloc_new w2 (.cells #[.int .i64 0, .int .i64 0] 25)); obtain ⟨f1, f2, f3, f4⟩ := F))))
    · have P1 := heap_alloc_new w2 (.cells #[.int .i64 rl, .int .i64 rn] 25)
      have P2 := (Below.heap_alloc w2 (.cells #[.int .i64 rl, .int .i64 rn] 25) _ (lt_of o5)).trans o5
      have P3 := (B0.out.trans (hv2.mono B0.out.size)).alloc (Nat.le_trans B0.out.size hv2.size) (.cells #[.int .i64 rl, .int .i64 rn] 25)
      generalize w2.alloc (.cells #[.int .i64 rl, .int .i64 rn] 25) = W3 at P1 P2 P3 ⊢
      generalize w2.heap.size = g7 at P1 ⊢
      clear hb1 hb2 hv1 hv2 n1 n2 n3 n4 n5 o1 o2 o3 o4 o5 f1 f2 f3 f4 DR2 RD2 UP
      obtain ⟨a1, a2, a3, a4⟩ := cel2_cells P1
      obtain ⟨b1, b2, b3, b4⟩ := cel2_cells P2
      have HP3 := Lib.hid P3
      clear P1 P2 P3 u1 u2 u3 u4
      go_wp2_with fail
      go_quiet (fail)
      all_goals go_wp2
      all_goals have HB := HP3.out
      all_goals exact bodyPost_ret (v := .tuple #[.int .i64 N1, .int .i64 N2, .bool true]) (by simp [results, Try.results112, go_sem]) rfl ⟨rfl, by repeat (first | assumption | exact Below.refl _ _ | refine Below.drew ?_ | refine bdQ ?_ _ | refine Below.setCell ?_ (by first | exact Nat.le_refl _ | omega | (simp; done) | (simp; omega)) _ | refine Below.alloc ?_ (by first | exact Nat.le_refl _ | omega | (simp; done) | (simp; omega)) _)⟩
    · have hne : w.heap.size + 1 ≠ w1.heap.size := Nat.ne_of_lt (Nat.lt_of_lt_of_le hn1 hv1.size)
      obtain ⟨P1, P2⟩ := two_other p2 o5 hne (.int .i64 rl) (.int .i64 rn)
      have P3 : Below w.heap.size w ((w2.setCell ⟨w1.heap.size, 0, none⟩ (.int .i64 rl)).setCell ⟨w1.heap.size, 1, none⟩ (.int .i64 rn)) := ((B0.out.trans (hv2.mono B0.out.size)).setCell (show w.heap.size ≤ w1.heap.size by exact Nat.le_trans B0.out.size hv1.size) _).setCell (show w.heap.size ≤ w1.heap.size by exact Nat.le_trans B0.out.size hv1.size) _
      generalize (w2.setCell ⟨w1.heap.size, 0, none⟩ (.int .i64 rl)).setCell ⟨w1.heap.size, 1, none⟩ (.int .i64 rn) = W3 at P1 P2 P3 ⊢
      generalize w1.heap.size = g7 at P1 ⊢
      clear hb1 hb2 hv1 hv2 n1 n2 n3 n4 n5 o1 o2 o3 o4 o5 f1 f2 f3 f4 DR2 RD2 UP
      obtain ⟨a1, a2, a3, a4⟩ := cel2_cells P1
      obtain ⟨b1, b2, b3, b4⟩ := cel2_cells P2
      have HP3 := Lib.hid P3
      clear P1 P2 P3 u1 u2 u3 u4
      go_wp2_with fail
      go_quiet (fail)
      all_goals go_wp2
      all_goals have HB := HP3.out
      all_goals exact bodyPost_ret (v := .tuple #[.int .i64 N1, .int .i64 N2, .bool true]) (by simp [results, Try.results112, go_sem]) rfl ⟨rfl, by repeat (first | assumption | exact Below.refl _ _ | refine Below.drew ?_ | refine bdQ ?_ _ | refine Below.setCell ?_ (by first | exact Nat.le_refl _ | omega | (simp; done) | (simp; omega)) _ | refine Below.alloc ?_ (by first | exact Nat.le_refl _ | omega | (simp; done) | (simp; omega)) _)⟩
    · have hne : w.heap.size + 1 ≠ V0.heap.size := Nat.ne_of_lt hn1
      obtain ⟨P1, P2⟩ := two_other p2 o5 hne (.int .i64 rl) (.int .i64 rn)
      have P3 : Below w.heap.size w ((w2.setCell ⟨V0.heap.size, 0, none⟩ (.int .i64 rl)).setCell ⟨V0.heap.size, 1, none⟩ (.int .i64 rn)) := ((B0.out.trans (hv2.mono B0.out.size)).setCell (show w.heap.size ≤ V0.heap.size by exact B0.out.size) _).setCell (show w.heap.size ≤ V0.heap.size by exact B0.out.size) _
      generalize (w2.setCell ⟨V0.heap.size, 0, none⟩ (.int .i64 rl)).setCell ⟨V0.heap.size, 1, none⟩ (.int .i64 rn) = W3 at P1 P2 P3 ⊢
      generalize V0.heap.size = g7 at P1 ⊢
      clear hb1 hb2 hv1 hv2 n1 n2 n3 n4 n5 o1 o2 o3 o4 o5 f1 f2 f3 f4 DR2 RD2 UP
      obtain ⟨a1, a2, a3, a4⟩ := cel2_cells P1
      obtain ⟨b1, b2, b3, b4⟩ := cel2_cells P2
      have HP3 := Lib.hid P3
      clear P1 P2 P3 u1 u2 u3 u4
      go_wp2_with fail
      go_quiet (fail)
      all_goals go_wp2
      all_goals have HB := HP3.out
      all_goals exact bodyPost_ret (v := .tuple #[.int .i64 N1, .int .i64 N2, .bool true]) (by simp [results, Try.results112, go_sem]) rfl ⟨rfl, by repeat (first | assumption | exact Below.refl _ _ | refine Below.drew ?_ | refine bdQ ?_ _ | refine Below.setCell ?_ (by first | exact Nat.le_refl _ | omega | (simp; done) | (simp; omega)) _ | refine Below.alloc ?_ (by first | exact Nat.le_refl _ | omega | (simp; done) | (simp; omega)) _)⟩
  | false =>
    clear e2 b1 b2 b3 b4
    simp only [Bool.false_eq_true, if_false]
    go_enter Try.func112, Try.ntmps112
    go_wp2_with fail
    generalize ((w.alloc (.cells #[.iface T (.agg #[]), .int .i64 s] 98)).alloc (.cells #[.int .i64 lat, .int .i64 lon] 25)) = V0 at *
    have hn : w.heap.size < V0.heap.size := by have := Z1.out; omega
    have hn1 : w.heap.size + 1 < V0.heap.size := by have := Z1.out; omega
    have UP := Lib.hid (fun W (hW : Below V0.heap.size V0 W) => kept2 Z1.out u1 u2 u3 u4 u5 hW)
    have DR2 := Lib.hid (fun W (hW : Below V0.heap.size V0 W) => (DR.out W).mono fun e w' h => (⟨h.1, h.2, hW.trans (h.2.mono hW.size)⟩ : e = .returned (.agg #[.int .i64 x, .int .i64 y]) ∧ Below W.heap.size W w' ∧ Below V0.heap.size V0 w'))
    have RD2 := Lib.hid (fun W (hW : Below V0.heap.size V0 W) => (RD.out W).mono fun e w' h => (⟨h.1, h.2, hW.trans (h.2.mono hW.size)⟩ : e = .returned (.tuple #[.agg #[.int .i64 rl, .int .i64 rn], .bool false]) ∧ Below W.heap.size W w' ∧ Below V0.heap.size V0 w'))
    clear DR RD u5
    go_region_held3 (fun W => W.cell? ⟨w.heap.size, 0, none⟩ = some (.iface T (.agg #[])) ∧ W.cell? ⟨w.heap.size, 1, none⟩ = some (.int .i64 s) ∧ W.cell? ⟨w.heap.size + 1, 0, none⟩ = some (.int .i64 lat) ∧ W.cell? ⟨w.heap.size + 1, 1, none⟩ = some (.int .i64 lon)) (first | exact ⟨u1, u2, u3, u4⟩ | exact ⟨n1, n2, n3, n4⟩ | exact ⟨o1, o2, o3, o4⟩ | (refine ⟨?_, ?_, ?_, ?_⟩ <;> repeat (first | assumption | exact u1 | exact u2 | exact u3 | exact u4 | refine al_cell _ ?_ | refine sc_cell (by (first | exact Nat.ne_of_lt hn | exact Nat.ne_of_lt hn1 | exact Nat.ne_of_lt (Nat.lt_of_lt_of_le hn hv1.size) | exact Nat.ne_of_lt (Nat.lt_of_lt_of_le hn1 hv1.size) | exact Nat.ne_of_lt (Nat.lt_of_lt_of_le hn hv2.size) | exact Nat.ne_of_lt (Nat.lt_of_lt_of_le hn1 hv2.size))) ?_))) (first
      | (go_at_call 149; refine (DR2.out _ (by repeat (first | assumption | exact Below.refl _ _ | refine Below.drew ?_ | refine bdQ ?_ _ | refine Below.alloc ?_ (by first | exact Nat.le_refl _ | exact hv1.size | (simp; done) | (simp; omega)) _))).mono ?_; rintro e w1 ⟨rfl, hb1, hv1⟩; obtain ⟨n1, n2, n3, n4, n5⟩ := UP.out _ hv1; (first | have p1 : w1.heap[V0.heap.size]? = some (.cells #[.int .i64 0, .int .i64 0] 25 (0, 0)) := box1h (belOf hb1) | skip))
      | (go_at_call 104; refine (RD2.out _ (by repeat (first | assumption | exact Below.refl _ _ | refine Below.drew ?_ | refine bdQ ?_ _ | refine Below.alloc ?_ (by first | exact Nat.le_refl _ | exact hv1.size | (simp; done) | (simp; omega)) _))).mono ?_; rintro e w2 ⟨rfl, hb2, hv2⟩; obtain ⟨o1, o2, o3, o4, o5⟩ := UP.out _ hv2; (first | have p2 := (hb2.block _ (lt_of p1)).trans p1 | have p2 := box1h hb2 | skip); (first | (have F := cel2_cells p2; obtain ⟨f1, f2, f3, f4⟩ := F) | (have F := cel2_cells (heap_alloc_new w2 (.cells #[.int .i64 0, .int .i64 0] 25)); obtain ⟨f1, f2, f3, f4⟩ := F))))
    · have P1 := heap_alloc_new w2 (.cells #[.int .i64 rl, .int .i64 rn] 25)
      have P2 := (Below.heap_alloc w2 (.cells #[.int .i64 rl, .int .i64 rn] 25) _ (lt_of o5)).trans o5
      have P3 := (B0.out.trans (hv2.mono B0.out.size)).alloc (Nat.le_trans B0.out.size hv2.size) (.cells #[.int .i64 rl, .int .i64 rn] 25)
      generalize w2.alloc (.cells #[.int .i64 rl, .int .i64 rn] 25) = W3 at P1 P2 P3 ⊢
      generalize w2.heap.size = g7 at P1 ⊢
      clear hb1 hb2 hv1 hv2 n1 n2 n3 n4 n5 o1 o2 o3 o4 o5 f1 f2 f3 f4 DR2 RD2 UP
      obtain ⟨a1, a2, a3, a4⟩ := cel2_cells P1
      obtain ⟨b1, b2, b3, b4⟩ := cel2_cells P2
      have HP3 := Lib.hid P3
      clear P1 P2 P3 u1 u2 u3 u4
      go_wp2
      have HB := HP3.out
      exact bodyPost_ret (v := .tuple #[.int .i64 0, .int .i64 0, .bool false]) (by simp [results, Try.results112, go_sem]) rfl ⟨rfl, by repeat (first | assumption | exact Below.refl _ _ | refine Below.drew ?_ | refine bdQ ?_ _ | refine Below.setCell ?_ (by first | exact Nat.le_refl _ | omega | (simp; done) | (simp; omega)) _ | refine Below.alloc ?_ (by first | exact Nat.le_refl _ | omega | (simp; done) | (simp; omega)) _)⟩
    · have hne : w.heap.size + 1 ≠ w1.heap.size := Nat.ne_of_lt (Nat.lt_of_lt_of_le hn1 hv1.size)
      obtain ⟨P1, P2⟩ := two_other p2 o5 hne (.int .i64 rl) (.int .i64 rn)
      have P3 : Below w.heap.size w ((w2.setCell ⟨w1.heap.size, 0, none⟩ (.int .i64 rl)).setCell ⟨w1.heap.size, 1, none⟩ (.int .i64 rn)) := ((B0.out.trans (hv2.mono B0.out.size)).setCell (show w.heap.size ≤ w1.heap.size by exact Nat.le_trans B0.out.size hv1.size) _).setCell (show w.heap.size ≤ w1.heap.size by exact Nat.le_trans B0.out.size hv1.size) _
      generalize (w2.setCell ⟨w1.heap.size, 0, none⟩ (.int .i64 rl)).setCell ⟨w1.heap.size, 1, none⟩ (.int .i64 rn) = W3 at P1 P2 P3 ⊢
      generalize w1.heap.size = g7 at P1 ⊢
      clear hb1 hb2 hv1 hv2 n1 n2 n3 n4 n5 o1 o2 o3 o4 o5 f1 f2 f3 f4 DR2 RD2 UP
      obtain ⟨a1, a2, a3, a4⟩ := cel2_cells P1
      obtain ⟨b1, b2, b3, b4⟩ := cel2_cells P2
      have HP3 := Lib.hid P3
      clear P1 P2 P3 u1 u2 u3 u4
      go_wp2
      have HB := HP3.out
      exact bodyPost_ret (v := .tuple #[.int .i64 0, .int .i64 0, .bool false]) (by simp [results, Try.results112, go_sem]) rfl ⟨rfl, by repeat (first | assumption | exact Below.refl _ _ | refine Below.drew ?_ | refine bdQ ?_ _ | refine Below.setCell ?_ (by first | exact Nat.le_refl _ | omega | (simp; done) | (simp; omega)) _ | refine Below.alloc ?_ (by first | exact Nat.le_refl _ | omega | (simp; done) | (simp; omega)) _)⟩
    · have hne : w.heap.size + 1 ≠ V0.heap.size := Nat.ne_of_lt hn1
      obtain ⟨P1, P2⟩ := two_other p2 o5 hne (.int .i64 rl) (.int .i64 rn)
      have P3 : Below w.heap.size w ((w2.setCell ⟨V0.heap.size, 0, none⟩ (.int .i64 rl)).setCell ⟨V0.heap.size, 1, none⟩ (.int .i64 rn)) := ((B0.out.trans (hv2.mono B0.out.size)).setCell (show w.heap.size ≤ V0.heap.size by exact B0.out.size) _).setCell (show w.heap.size ≤ V0.heap.size by exact B0.out.size) _
      generalize (w2.setCell ⟨V0.heap.size, 0, none⟩ (.int .i64 rl)).setCell ⟨V0.heap.size, 1, none⟩ (.int .i64 rn) = W3 at P1 P2 P3 ⊢
      generalize V0.heap.size = g7 at P1 ⊢
      clear hb1 hb2 hv1 hv2 n1 n2 n3 n4 n5 o1 o2 o3 o4 o5 f1 f2 f3 f4 DR2 RD2 UP
      obtain ⟨a1, a2, a3, a4⟩ := cel2_cells P1
      obtain ⟨b1, b2, b3, b4⟩ := cel2_cells P2
      have HP3 := Lib.hid P3
      clear P1 P2 P3 u1 u2 u3 u4
      go_wp2
      have HB := HP3.out
      exact bodyPost_ret (v := .tuple #[.int .i64 0, .int .i64 0, .bool false]) (by simp [results, Try.results112, go_sem]) rfl ⟨rfl, by repeat (first | assumption | exact Below.refl _ _ | refine Below.drew ?_ | refine bdQ ?_ _ | refine Below.setCell ?_ (by first | exact Nat.le_refl _ | omega | (simp; done) | (simp; omega)) _ | refine Below.alloc ?_ (by first | exact Nat.le_refl _ | omega | (simp; done) | (simp; omega)) _)⟩
end Go.Proofs.Ytemhmejjmhbfdaa.sines
