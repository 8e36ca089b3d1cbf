/- The model's ways back from maps with true parallels: contracts. -/
import Derived.Test.YtemhmejjmhbfdaaPlatesW
import Derived.BigRegion
namespace Go.Proofs.Ytemhmejjmhbfdaa.sines
open Go.ChangeShapes Go.WideShapes Go.ChangeAt Go.RowKit Go.Proofs.Ytemhmejjmhbfdaa.spots
set_option linter.unusedSimpArgs false
set_option linter.unusedVariables false

theorem okBel {W w' : World} {o : Obj} (h : w' = W.alloc o) : Below W.heap.size W w' := by rw [h]; exact (Below.refl _ _).alloc (Nat.le_refl _) _
theorem belOf {W w' : World} (h : Below W.drew.heap.size W.drew w') : Below W.heap.size W w' := ⟨h.os, h.tape, h.output, h.size, h.block⟩
/-- A box and a result: what lies in them behind a call. -/
theorem places2 {w W W' : World} {n : Nat} {v z a b : Value} {T : TypeId} (hz : w.heap.size + 1 < n) (h1 : n < W.heap.size) (g1 : W.heap[n]? = some (.cells #[v, z] T (0, 0))) (g2 : W.heap[w.heap.size + 1]? = some (.cells #[a, b] T (0, 0))) (hB : Below w.heap.size w W) (h : Below W.heap.size W W') :
    W'.cell? ⟨n, 0, none⟩ = some v ∧ W'.cell? ⟨n, 1, none⟩ = some z ∧ W'.cell? ⟨w.heap.size + 1, 0, none⟩ = some a ∧ W'.cell? ⟨w.heap.size + 1, 1, none⟩ = some b ∧ W'.frozen? ⟨w.heap.size + 1, 0, none⟩ = false ∧ W'.frozen? ⟨w.heap.size + 1, 1, none⟩ = false ∧ Below w.heap.size w W' ∧ W'.heap[w.heap.size + 1]? = some (.cells #[a, b] T (0, 0)) := by
  have k1 : W'.heap[n]? = some (.cells #[v, z] T (0, 0)) := by rw [h.block _ h1]; exact g1
  have k2 : W'.heap[w.heap.size + 1]? = some (.cells #[a, b] T (0, 0)) := by rw [h.block _ (by omega)]; exact g2
  exact ⟨by simp [World.cell?, k1], by simp [World.cell?, k1], by simp [World.cell?, k2], by simp [World.cell?, k2], by simp [World.frozen?, k2], by simp [World.frozen?, k2], hB.trans (h.mono hB.size), k2⟩
theorem stored2' {w W W' : World} {n : Nat} {v z : Int} {a b : Value} {T : TypeId} (hz : w.heap.size + 1 < n) (h1 : n < W.heap.size) (g1 : W.heap[n]? = some (.cells #[.int .i64 v, .int .i64 z] T (0, 0))) (g2 : W.heap[w.heap.size + 1]? = some (.cells #[a, b] T (0, 0))) (hB : Below w.heap.size w W) (v' z' : Int)
    (h : Below ((W.setCell ⟨w.heap.size + 1, 0, none⟩ (.int .i64 v')).setCell ⟨w.heap.size + 1, 1, none⟩ (.int .i64 z')).heap.size ((W.setCell ⟨w.heap.size + 1, 0, none⟩ (.int .i64 v')).setCell ⟨w.heap.size + 1, 1, none⟩ (.int .i64 z')) W') :
    W'.cell? ⟨n, 0, none⟩ = some (.int .i64 v) ∧ W'.cell? ⟨n, 1, none⟩ = some (.int .i64 z) ∧ W'.cell? ⟨w.heap.size + 1, 0, none⟩ = some (.int .i64 v') ∧ W'.cell? ⟨w.heap.size + 1, 1, none⟩ = some (.int .i64 z') ∧ W'.frozen? ⟨w.heap.size + 1, 0, none⟩ = false ∧ W'.frozen? ⟨w.heap.size + 1, 1, none⟩ = false ∧ Below w.heap.size w W' := by
  have e1 := heap_setCell_same W (w.heap.size + 1) 0 _ _ (.int .i64 v') g2
  have e2 := heap_setCell_same _ (w.heap.size + 1) 1 _ _ (.int .i64 z') e1
  have f1 : ((W.setCell ⟨w.heap.size + 1, 0, none⟩ (.int .i64 v')).setCell ⟨w.heap.size + 1, 1, none⟩ (.int .i64 z')).heap[n]? = some (.cells #[.int .i64 v, .int .i64 z] T (0, 0)) := by
    rw [heap_setCell_other _ _ _ _ (show n ≠ w.heap.size + 1 by omega), heap_setCell_other _ _ _ _ (show n ≠ w.heap.size + 1 by omega)]; exact g1
  have hs : ((W.setCell ⟨w.heap.size + 1, 0, none⟩ (.int .i64 v')).setCell ⟨w.heap.size + 1, 1, none⟩ (.int .i64 z')).heap.size = W.heap.size := by simp
  have k1 := (h.block n (by rw [hs]; exact h1)).trans f1
  have k2 := (h.block (w.heap.size + 1) (by rw [hs]; omega)).trans e2
  exact ⟨by simp [World.cell?, k1], by simp [World.cell?, k1], by simp [World.cell?, k2], by simp [World.cell?, k2], by simp [World.frozen?, k2], by simp [World.frozen?, k2], ((hB.setCell (show w.heap.size ≤ w.heap.size + 1 by omega) _).setCell (show w.heap.size ≤ w.heap.size + 1 by omega) _).trans (h.mono (by rw [hs]; exact hB.size))⟩
set_option maxRecDepth 100000 in
set_option maxHeartbeats 2000000 in
theorem l08WaveBack_any (x y s : Int) (w : World) (x0 : -2000000 ≤ x) (x1 : x ≤ 2000000) (y0 : -2000000 ≤ y) (y1 : y ≤ 2000000) (s0 : 1 ≤ s) (s1 : s ≤ 100000) :
    Calls Try.prog 89 #[.agg #[.int .i64 x, .int .i64 y], .int .i64 s] w fun e w' => e = .returned (.tuple #[.agg #[.int .i64 (wbLat y s), .int .i64 (wbLon x y s)], .bool (wbOk x y s)]) ∧ Below w.heap.size w w' := by
  have m1 := mul_range x0 x1 (by omega : 0 ≤ s) s1 (by omega)
  have m2 := mul_range y0 y1 (by omega : 0 ≤ s) s1 (by omega)
  have k1 : IntKind.i64.wrap (x * s) = x * s := IntWalk.i64_in _ (by omega)
  have k2 : IntKind.i64.wrap (y * s) = y * s := IntWalk.i64_in _ (by omega)
  have k3 : IntKind.i64.wrap (x * s * 1000000) = x * s * 1000000 := IntWalk.i64_in _ (by omega)
  have P1 := Lib.hid (fun W => l00In_any (y * s) (-324000) 324000 W)
  have E1 : wbLat y s = if inB (y * s) (-324000) 324000 = true then y * s else 0 := rfl
  have E2 : wbLon x y s = if inB (y * s) (-324000) 324000 = true then (if cosL (y * s) = 0 then 0 else near (x * s * 1000000) (cosL (y * s))) else 0 := rfl
  have E3 : wbOk x y s = (inB (y * s) (-324000) 324000 && (if cosL (y * s) = 0 then decide (x = 0) else okB (y * s) (wbLon x y s))) := rfl
  rw [E3, E2, E1]
  clear E1 E2 E3
  cases g : inB (y * s) (-324000) 324000 with
  | false =>
    rw [g] at P1
    simp only [Bool.false_eq_true, if_false, Bool.false_and]
    clear m1 m2
    go_enter Try.func89, Try.ntmps89
    go_wp2_with (first | (go_at_call 88; refine (P1.out _).mono ?_; rintro e w' ⟨rfl, rfl⟩))
    exact bodyPost_ret (v := .tuple #[.agg #[.int .i64 0, .int .i64 0], .bool false]) (by simp [results, Try.results89, go_sem]) rfl ⟨rfl, by repeat (first | assumption | exact Below.refl _ _ | refine Below.drew ?_ | refine bdQ ?_ _ | refine Below.setCell ?_ (by first | exact Nat.le_refl _ | (simp; done) | (simp; omega)) _ | refine Below.alloc ?_ (by first | exact Nat.le_refl _ | (simp; done) | (simp; omega)) _)⟩
  | true =>
    rw [g] at P1
    obtain ⟨l0, l1⟩ := inB_of g
    obtain ⟨c0, c1⟩ := cosL_lat l0 l1
    have P2 := Lib.hid (fun W => l03Cosine_any (y * s) W (by omega) (by omega))
    have hcc : sineL (y * s + 324000) = cosL (y * s) := rfl
    rw [hcc] at P2
    simp only [if_true, Bool.true_and]
    clear hcc
    generalize cosL (y * s) = c at c0 c1 P2 ⊢
    have k1' : ∃ u, x * s = u ∧ IntKind.i64.wrap (x * s) = u := ⟨_, rfl, k1⟩
    have k2' : ∃ v, y * s = v ∧ IntKind.i64.wrap (y * s) = v := ⟨_, rfl, k2⟩
    clear k1 k2
    obtain ⟨u, eu, k1⟩ := k1'
    obtain ⟨v, ev, k2⟩ := k2'
    have k1 : IntKind.i64.wrap (x * s) = u := k1
    rw [eu] at m1 k3 ⊢
    rw [ev] at m2 P1 P2 g l0 l1 ⊢
    clear eu ev
    by_cases hc : c = 0
    · subst hc
      simp only [if_true]
      clear m1 m2 g l0 l1 c0 c1
      obtain ⟨b, hb⟩ : ∃ b, Hid (decide (x = 0) = b) := ⟨_, Lib.hid rfl⟩
      have hb2 : (x == 0) = b := by rw [← hb.out]; rfl
      rw [hb.out]
      obtain ⟨a1, a2, a3, a4, a5, a6, a7, a8⟩ := boxes2 (w := w) (a := .int .i64 x) (b := .int .i64 y) (c := .int .i64 0) (d := .int .i64 0) (T := 29) (U := 25) (Below.refl _ _)
      have A7 := Lib.hid a7
      obtain ⟨q0, q1, q2⟩ := stored2 a8 (.int .i64 v) (.int .i64 0)
      clear a7 a8
      go_enter Try.func89, Try.ntmps89
      go_wp2_with fail
      refine (P1.out _).mono ?_
      rintro e w' ⟨rfl, rfl⟩
      generalize ((w.alloc (.cells #[.int .i64 x, .int .i64 y] 29)).alloc (.cells #[.int .i64 0, .int .i64 0] 25)) = V at *
      go_wp2_with fail
      refine (P2.out _).mono ?_
      rintro e w' ⟨rfl, rfl⟩
      go_wp2_with fail
      go_region
      all_goals have B7 := A7.out
      all_goals go_wp2
      all_goals exact bodyPost_ret (v := .tuple #[.agg #[.int .i64 v, .int .i64 0], .bool b]) (by simp [results, Try.results89, go_sem, q0, q1, q2]) rfl ⟨rfl, by repeat (first | assumption | exact Below.refl _ _ | refine Below.drew ?_ | refine bdQ ?_ _ | refine Below.setCell ?_ (by first | exact Nat.le_refl _ | (simp; done) | (simp; omega)) _ | refine Below.alloc ?_ (by first | exact Nat.le_refl _ | (simp; done) | (simp; omega)) _)⟩
    · rw [if_neg hc, if_neg hc]
      have hn : (c == 0) = false := by simpa using hc
      have RD := Lib.hid (fun W => l00Round_any (u * 1000000) c W (by omega) (by omega) (by omega) (by omega))
      have OK := Lib.hid (fun W => l02Ok_any v (near (u * 1000000) c) W)
      clear m1 m2 g l0 l1 c0 c1
      generalize okB v (near (u * 1000000) c) = b at OK ⊢
      generalize near (u * 1000000) c = z at RD OK ⊢
      obtain ⟨a1, a2, a3, a4, a5, a6, a7, a8⟩ := boxes2 (w := w) (a := .int .i64 x) (b := .int .i64 y) (c := .int .i64 0) (d := .int .i64 0) (T := 29) (U := 25) (Below.refl _ _)
      have A7 := Lib.hid a7
      have A8 := Lib.hid a8
      clear a7 a8
      go_enter Try.func89, Try.ntmps89
      go_wp2_with fail
      refine (P1.out _).mono ?_
      rintro e w' ⟨rfl, rfl⟩
      generalize ((w.alloc (.cells #[.int .i64 x, .int .i64 y] 29)).alloc (.cells #[.int .i64 0, .int .i64 0] 25)) = V at *
      go_wp2_with fail
      refine (P2.out _).mono ?_
      rintro e w' ⟨rfl, rfl⟩
      go_wp2_with fail
      refine (RD.out _).mono ?_
      rintro e w' ⟨rfl, rfl⟩
      go_wp2_with fail
      have hz : w.heap.size + 1 < V.heap.size := (Array.getElem?_eq_some_iff.1 A8.out).1
      have B1 := Lib.hid ((Below.refl V.heap.size V).alloc (Nat.le_refl _) (.cells #[.int .i64 v, .int .i64 z] 25))
      have g1 : (V.alloc (.cells #[.int .i64 v, .int .i64 z] 25)).heap[V.heap.size]? = some (.cells #[.int .i64 v, .int .i64 z] 25 (0, 0)) := heap_alloc_new _ _
      have g2 : (V.alloc (.cells #[.int .i64 v, .int .i64 z] 25)).heap[w.heap.size + 1]? = some (.cells #[.int .i64 0, .int .i64 0] 25 (0, 0)) := by rw [B1.out.block _ hz]; exact A8.out
      have hz1 : V.heap.size < (V.alloc (.cells #[.int .i64 v, .int .i64 z] 25)).heap.size := by simp
      have B2 := Lib.hid (A7.out.trans (B1.out.mono A7.out.size))
      have NP := Lib.hid (fun W' h => places2 hz hz1 g1 g2 B2.out (W' := W') h)
      have NQ := Lib.hid (fun W' h => stored2' hz hz1 g1 g2 B2.out v z (W' := W') h)
      obtain ⟨m1, m2, m3, m4, m5, m6, m7, m8⟩ := NP.out _ (Below.refl _ _)
      clear g1 g2 a1 a2 a3 a4 a5 a6
      generalize V.alloc (.cells #[.int .i64 v, .int .i64 z] 25) = V1 at *
      go_region_with (go_at_call 87; refine (OK.out _).mono ?_; rintro e w' ⟨rfl, o1, hw⟩; have h3 := okBel hw; clear hw; first | (obtain ⟨n1, n2, n3, n4, n5, n6, n7, n8⟩ := NP.out _ (belOf h3); clear h3) | (obtain ⟨n1, n2, n3, n4, n5, n6, n7⟩ := NQ.out _ (belOf h3); clear h3))
      all_goals first
        | (obtain ⟨q0, q1, q2⟩ := stored2 n8 (.int .i64 v) (.int .i64 z)
           go_wp2
           exact bodyPost_ret (v := .tuple #[.agg #[.int .i64 v, .int .i64 z], .bool b]) (by simp [results, Try.results89, go_sem, q0, q1, q2]) rfl ⟨rfl, by repeat (first | assumption | exact Below.refl _ _ | refine Below.drew ?_ | refine bdQ ?_ _ | refine Below.setCell ?_ (by first | exact Nat.le_refl _ | (simp; done) | (simp; omega)) _ | refine Below.alloc ?_ (by first | exact Nat.le_refl _ | (simp; done) | (simp; omega)) _)⟩)
        | (go_wp2
           exact bodyPost_ret (v := .tuple #[.agg #[.int .i64 v, .int .i64 z], .bool b]) (by simp [results, Try.results89, go_sem, n3, n4]) rfl ⟨rfl, n7⟩)
end Go.Proofs.Ytemhmejjmhbfdaa.sines
