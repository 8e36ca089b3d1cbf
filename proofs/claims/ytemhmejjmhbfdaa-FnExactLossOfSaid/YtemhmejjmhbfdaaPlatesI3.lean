/- The places that the program draws on its maps: contracts. -/
import Derived.Test.YtemhmejjmhbfdaaPlatesI2
import Derived.Deep.RegionHeld3
namespace Go.Proofs.Ytemhmejjmhbfdaa.sines
open Go.ChangeShapes Go.WideShapes Go.ChangeAt Go.RowKit Go.Proofs.Ytemhmejjmhbfdaa.spots Go.Proofs.Ytemhmejjmhbfdaa.pairs
set_option linter.unusedSimpArgs false
set_option linter.unusedVariables false

def NOk (n d : Int) : Prop := 0 < d ∧ -2000000000000000000 ≤ n ∧ n ≤ 2000000000000000000 ∧ d ≤ 1000000000000000000
theorem nearestOk_any (n d : Int) (w : World) (h : NOk n d) :
    Calls Try.prog 117 #[.int .i64 n, .int .i64 d] w fun e w' => e = .returned (.int .i64 (near n d)) ∧ w = w' := nearest_any n d w h.1 h.2.1 h.2.2.1 h.2.2.2
theorem near_scale (n : Int) {d : Int} (hd : 0 < d) : near (n * 1000000) (d * 1000000) = near n d := by
  unfold near
  rw [show 2 * (n * 1000000) + d * 1000000 = (2 * n + d) * 1000000 by grind, show 2 * (d * 1000000) = (2 * d) * 1000000 by grind]
  exact Int.mul_ediv_mul_of_pos_left _ _ (by omega)
theorem cells222 (w : World) (a b c d e f : Value) (T U V : TypeId) :
    (((w.alloc (.cells #[a, b] T)).alloc (.cells #[c, d] U)).alloc (.cells #[e, f] V)).heap.size = w.heap.size + 3 ∧
    (((w.alloc (.cells #[a, b] T)).alloc (.cells #[c, d] U)).alloc (.cells #[e, f] V)).cell? ⟨w.heap.size, 0, none⟩ = some a ∧
    (((w.alloc (.cells #[a, b] T)).alloc (.cells #[c, d] U)).alloc (.cells #[e, f] V)).cell? ⟨w.heap.size, 1, none⟩ = some b ∧
    (((w.alloc (.cells #[a, b] T)).alloc (.cells #[c, d] U)).alloc (.cells #[e, f] V)).cell? ⟨w.heap.size + 1, 0, none⟩ = some c ∧
    (((w.alloc (.cells #[a, b] T)).alloc (.cells #[c, d] U)).alloc (.cells #[e, f] V)).cell? ⟨w.heap.size + 1, 1, none⟩ = some d ∧
    (((w.alloc (.cells #[a, b] T)).alloc (.cells #[c, d] U)).alloc (.cells #[e, f] V)).heap[w.heap.size + 1 + 1]? = some (.cells #[e, f] V (0, 0)) := by
  have e1 : (w.alloc (.cells #[a, b] T)).heap.size = w.heap.size + 1 := by simp
  have e2 : ((w.alloc (.cells #[a, b] T)).alloc (.cells #[c, d] U)).heap.size = w.heap.size + 1 + 1 := by simp
  have g1 : (((w.alloc (.cells #[a, b] T)).alloc (.cells #[c, d] U)).alloc (.cells #[e, f] V)).heap[w.heap.size]? = some (.cells #[a, b] T (0, 0)) := by
    rw [Below.heap_alloc _ _ _ (by rw [e2]; omega), Below.heap_alloc _ _ _ (by rw [e1]; omega)]
    exact heap_alloc_new w _
  have g2 : (((w.alloc (.cells #[a, b] T)).alloc (.cells #[c, d] U)).alloc (.cells #[e, f] V)).heap[w.heap.size + 1]? = some (.cells #[c, d] U (0, 0)) := by
    rw [Below.heap_alloc _ _ _ (by rw [e2]; omega), ← e1]
    exact heap_alloc_new _ _
  have g3 : (((w.alloc (.cells #[a, b] T)).alloc (.cells #[c, d] U)).alloc (.cells #[e, f] V)).heap[w.heap.size + 1 + 1]? = some (.cells #[e, f] V (0, 0)) := by
    rw [← e2]
    exact heap_alloc_new _ _
  exact ⟨by simp, cell_heap g1 0, cell_heap g1 1, cell_heap g2 0, cell_heap g2 1, g3⟩
set_option maxRecDepth 100000 in
set_option maxHeartbeats 2000000 in
theorem drawW_any (lat lon s : Int) (w : World) (h : okB lat lon = true) (s0 : 1 ≤ s) (s1 : s ≤ 100000) :
    Calls Try.prog 149 #[.agg #[.iface 156 (.agg #[]), .int .i64 s], .agg #[.int .i64 lat, .int .i64 lon]] w fun e w' => e = .returned (.agg #[.int .i64 (waX lat lon s), .int .i64 (near lat s)]) ∧ Below w.heap.size w w' := by
  obtain ⟨h1, h2, h3, h4⟩ := okB_of h
  clear h
  have hm : ∀ w : World, (method 299 156 (.agg #[]) "loop.example/g01055/impl.widthAt").run Try.prog w = .ok (202, .agg #[]) w := fun _ => by kernel_rfl
  have WA := Lib.hid (fun W => waveWidth_any lat W (by omega) (by omega))
  obtain ⟨c0, c1⟩ := cosL_lat h1 h2
  have HX := Lib.hid (show waX lat lon s = near (lon * cosL lat) (1000000 * s) from rfl)
  generalize cosL lat = c at WA c0 c1 HX
  have m := mul_range (x := lon) (s := c) (X := 648000) (S := 1000000) (by omega) (by omega) c0 c1 (by omega)
  have k1 : IntKind.i64.wrap (lon * c) = lon * c := IntWalk.i64_in _ (by omega)
  have k2 : IntKind.i64.wrap (1000000 * s) = 1000000 * s := IntWalk.i64_in _ (by omega)
  have OK1 := Lib.hid (show NOk (lon * c) (1000000 * s) from ⟨by omega, by omega, by omega, by omega⟩)
  have OK2 := Lib.hid (show NOk lat s from ⟨by omega, by omega, by omega, by omega⟩)
  rw [HX.out]
  have k1' : ∃ v, lon * c = v ∧ IntKind.i64.wrap (lon * c) = v := ⟨_, rfl, k1⟩
  have k2' : ∃ v, 1000000 * s = v ∧ IntKind.i64.wrap (1000000 * s) = v := ⟨_, rfl, k2⟩
  clear k1 k2
  obtain ⟨v1, j1, k1⟩ := k1'
  obtain ⟨v2, j2, k2⟩ := k2'
  rw [j1, j2] at OK1 ⊢
  clear j1 j2
  have B0 := Lib.hid ((((Below.refl w.heap.size w).alloc (Nat.le_refl _) (.cells #[.iface 156 (.agg #[]), .int .i64 s] 98)).alloc (by simp) (.cells #[.int .i64 lat, .int .i64 lon] 25)).alloc (by simp; omega) (.cells #[.int .i64 0, .int .i64 0] 29))
  obtain ⟨z1, u1, u2, u3, u4, u5⟩ := cells222 w (.iface 156 (.agg #[])) (.int .i64 s) (.int .i64 lat) (.int .i64 lon) (.int .i64 0) (.int .i64 0) 98 25 29
  clear m HX h1 h2 h3 h4 c0 c1
  go_enter Try.func149, Try.ntmps149
  go_wp2_with fail
  generalize (((w.alloc (.cells #[.iface 156 (.agg #[]), .int .i64 s] 98)).alloc (.cells #[.int .i64 lat, .int .i64 lon] 25)).alloc (.cells #[.int .i64 0, .int .i64 0] 29)) = V0 at *
  have hn : w.heap.size < V0.heap.size := by omega
  have hn1 : w.heap.size + 1 < V0.heap.size := by omega
  have hn2 : w.heap.size + 1 + 1 < V0.heap.size := by omega
  have U5 := Lib.hid u5
  clear u5
  go_region_held3 (fun W => W.cell? ⟨w.heap.size, 0, none⟩ = some (.iface 156 (.agg #[])) ∧ W.cell? ⟨w.heap.size, 1, none⟩ = some (.int .i64 s) ∧ W.cell? ⟨w.heap.size + 1, 0, none⟩ = some (.int .i64 lat) ∧ W.cell? ⟨w.heap.size + 1, 1, none⟩ = some (.int .i64 lon)) (first | exact ⟨u1, u2, u3, u4⟩ | exact ⟨n1, n2, n3, n4⟩ | (simp [go_sem]; first | exact ⟨u1, u2, u3, u4⟩ | exact ⟨n1, n2, n3, n4⟩)) (first | (go_at_call 202; refine (WA.out _).mono ?_; rintro e w1 ⟨rfl, hb1⟩; have n1 := (hb1.cell (p := ⟨w.heap.size, 0, none⟩) hn).trans u1; have n2 := (hb1.cell (p := ⟨w.heap.size, 1, none⟩) hn).trans u2; have n3 := (hb1.cell (p := ⟨w.heap.size + 1, 0, none⟩) hn1).trans u3; have n4 := (hb1.cell (p := ⟨w.heap.size + 1, 1, none⟩) hn1).trans u4; have r1 := (hb1.block _ hn2).trans U5.out; obtain ⟨f1, f2, f3, f4⟩ := cel_cells r1; have HB1 := Lib.hid (B0.out.trans ((belOf hb1).mono B0.out.size)); have RR := Lib.hid r1; clear r1 hb1) | (go_at_call 117; refine (nearestOk_any _ _ _ (by first | exact OK1.out | exact OK2.out)).mono ?_; rintro e w' ⟨rfl, rfl⟩))
  all_goals
    obtain ⟨q0, q1, q2⟩ := stored2 RR.out (.int .i64 (near v1 v2)) (.int .i64 (near lat s))
    have HB := HB1.out
    go_wp2
    exact bodyPost_ret (v := .agg #[.int .i64 (near v1 v2), .int .i64 (near lat s)]) (by simp [results, Try.results149, go_sem, q0, q1, q2]) rfl ⟨rfl, by repeat (first | assumption | exact Below.refl _ _ | refine Below.drew ?_ | refine bdQ ?_ _ | refine Below.setCell ?_ (by first | exact Nat.le_refl _ | omega | (simp; done) | (simp; omega)) _ | refine Below.alloc ?_ (by first | exact Nat.le_refl _ | omega | (simp; done) | (simp; omega)) _)⟩
set_option maxRecDepth 100000 in
set_option maxHeartbeats 2000000 in
theorem drawS_any (lat lon s : Int) (w : World) (h : okB lat lon = true) (s0 : 1 ≤ s) (s1 : s ≤ 100000) :
    Calls Try.prog 149 #[.agg #[.iface 157 (.agg #[]), .int .i64 s], .agg #[.int .i64 lat, .int .i64 lon]] w fun e w' => e = .returned (.agg #[.int .i64 (near lon s), .int .i64 (near lat s)]) ∧ Below w.heap.size w w' := by
  obtain ⟨h1, h2, h3, h4⟩ := okB_of h
  clear h
  have hm : ∀ w : World, (method 299 157 (.agg #[]) "loop.example/g01055/impl.widthAt").run Try.prog w = .ok (203, .agg #[]) w := fun _ => by kernel_rfl
  have WA := Lib.hid (fun W => squareWidth_any lat W)
  have c0 : (0 : Int) ≤ 1000000 := by omega
  have c1 : (1000000 : Int) ≤ 1000000 := by omega
  obtain ⟨c, hc⟩ : ∃ c : Int, (1000000 : Int) = c := ⟨_, rfl⟩
  have HX := Lib.hid (show near lon s = near (lon * c) (1000000 * s) by rw [← hc, Int.mul_comm 1000000 s, near_scale _ (by omega)])
  rw [hc] at WA c1
  have c0 : 0 ≤ c := by omega
  have c1 : c ≤ 1000000 := by omega
  clear hc
  have m := mul_range (x := lon) (s := c) (X := 648000) (S := 1000000) (by omega) (by omega) c0 c1 (by omega)
  have k1 : IntKind.i64.wrap (lon * c) = lon * c := IntWalk.i64_in _ (by omega)
  have k2 : IntKind.i64.wrap (1000000 * s) = 1000000 * s := IntWalk.i64_in _ (by omega)
  have OK1 := Lib.hid (show NOk (lon * c) (1000000 * s) from ⟨by omega, by omega, by omega, by omega⟩)
  have OK2 := Lib.hid (show NOk lat s from ⟨by omega, by omega, by omega, by omega⟩)
  rw [HX.out]
  have k1' : ∃ v, lon * c = v ∧ IntKind.i64.wrap (lon * c) = v := ⟨_, rfl, k1⟩
  have k2' : ∃ v, 1000000 * s = v ∧ IntKind.i64.wrap (1000000 * s) = v := ⟨_, rfl, k2⟩
  clear k1 k2
  obtain ⟨v1, j1, k1⟩ := k1'
  obtain ⟨v2, j2, k2⟩ := k2'
  rw [j1, j2] at OK1 ⊢
  clear j1 j2
  have B0 := Lib.hid ((((Below.refl w.heap.size w).alloc (Nat.le_refl _) (.cells #[.iface 157 (.agg #[]), .int .i64 s] 98)).alloc (by simp) (.cells #[.int .i64 lat, .int .i64 lon] 25)).alloc (by simp; omega) (.cells #[.int .i64 0, .int .i64 0] 29))
  obtain ⟨z1, u1, u2, u3, u4, u5⟩ := cells222 w (.iface 157 (.agg #[])) (.int .i64 s) (.int .i64 lat) (.int .i64 lon) (.int .i64 0) (.int .i64 0) 98 25 29
  clear m HX h1 h2 h3 h4 c0 c1
  go_enter Try.func149, Try.ntmps149
  go_wp2_with fail
  generalize (((w.alloc (.cells #[.iface 157 (.agg #[]), .int .i64 s] 98)).alloc (.cells #[.int .i64 lat, .int .i64 lon] 25)).alloc (.cells #[.int .i64 0, .int .i64 0] 29)) = V0 at *
  have hn : w.heap.size < V0.heap.size := by omega
  have hn1 : w.heap.size + 1 < V0.heap.size := by omega
  have hn2 : w.heap.size + 1 + 1 < V0.heap.size := by omega
  have U5 := Lib.hid u5
  clear u5
  go_region_held3 (fun W => W.cell? ⟨w.heap.size, 0, none⟩ = some (.iface 157 (.agg #[])) ∧ W.cell? ⟨w.heap.size, 1, none⟩ = some (.int .i64 s) ∧ W.cell? ⟨w.heap.size + 1, 0, none⟩ = some (.int .i64 lat) ∧ W.cell? ⟨w.heap.size + 1, 1, none⟩ = some (.int .i64 lon)) (first | exact ⟨u1, u2, u3, u4⟩ | exact ⟨n1, n2, n3, n4⟩ | (simp [go_sem]; first | exact ⟨u1, u2, u3, u4⟩ | exact ⟨n1, n2, n3, n4⟩)) (first | (go_at_call 203; refine (WA.out _).mono ?_; rintro e w1 ⟨rfl, hb1⟩; have n1 := (hb1.cell (p := ⟨w.heap.size, 0, none⟩) hn).trans u1; have n2 := (hb1.cell (p := ⟨w.heap.size, 1, none⟩) hn).trans u2; have n3 := (hb1.cell (p := ⟨w.heap.size + 1, 0, none⟩) hn1).trans u3; have n4 := (hb1.cell (p := ⟨w.heap.size + 1, 1, none⟩) hn1).trans u4; have r1 := (hb1.block _ hn2).trans U5.out; obtain ⟨f1, f2, f3, f4⟩ := cel_cells r1; have HB1 := Lib.hid (B0.out.trans ((belOf hb1).mono B0.out.size)); have RR := Lib.hid r1; clear r1 hb1) | (go_at_call 117; refine (nearestOk_any _ _ _ (by first | exact OK1.out | exact OK2.out)).mono ?_; rintro e w' ⟨rfl, rfl⟩))
  all_goals
    obtain ⟨q0, q1, q2⟩ := stored2 RR.out (.int .i64 (near v1 v2)) (.int .i64 (near lat s))
    have HB := HB1.out
    go_wp2
    exact bodyPost_ret (v := .agg #[.int .i64 (near v1 v2), .int .i64 (near lat s)]) (by simp [results, Try.results149, go_sem, q0, q1, q2]) rfl ⟨rfl, by repeat (first | assumption | exact Below.refl _ _ | refine Below.drew ?_ | refine bdQ ?_ _ | refine Below.setCell ?_ (by first | exact Nat.le_refl _ | omega | (simp; done) | (simp; omega)) _ | refine Below.alloc ?_ (by first | exact Nat.le_refl _ | omega | (simp; done) | (simp; omega)) _)⟩
end Go.Proofs.Ytemhmejjmhbfdaa.sines
