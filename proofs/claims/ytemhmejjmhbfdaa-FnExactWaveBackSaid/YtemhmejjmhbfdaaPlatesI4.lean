/- The places that the program reads from its maps: contracts. -/
import Derived.Test.YtemhmejjmhbfdaaPlatesI3
namespace Go.Proofs.Ytemhmejjmhbfdaa.sines
open Go.ChangeShapes Go.WideShapes Go.ChangeAt Go.RowKit Go.Proofs.Ytemhmejjmhbfdaa.spots Go.Proofs.Ytemhmejjmhbfdaa.pairs
set_option linter.unusedSimpArgs false
set_option linter.unusedVariables false

theorem al_cell {W : World} {a : Addr} {v : Value} (o : Obj) (h : W.cell? a = some v) : (W.alloc o).cell? a = some v := by
  exact (World.cell?_alloc_some W a o (by rw [h]; rfl)).trans h
theorem two_other {W : World} {n r : Nat} {a b : Value} {T : TypeId} {o : Obj} (h : W.heap[n]? = some (.cells #[a, b] T (0, 0))) (hr : W.heap[r]? = some o) (hne : r ≠ n) (x y : Value) :
    ((W.setCell ⟨n, 0, none⟩ x).setCell ⟨n, 1, none⟩ y).heap[n]? = some (.cells #[x, y] T (0, 0)) ∧ ((W.setCell ⟨n, 0, none⟩ x).setCell ⟨n, 1, none⟩ y).heap[r]? = some o := by
  have e1 := heap_setCell_same W n 0 _ _ x h
  have e2 := heap_setCell_same _ n 1 _ _ y e1
  refine ⟨by simpa using e2, ?_⟩
  rw [heap_setCell_other _ _ _ _ hne, heap_setCell_other _ _ _ _ hne]; exact hr
theorem sc_cell {W : World} {n i b j : Nat} {v x : Value} (hn : b ≠ n) (h : W.cell? ⟨b, j, none⟩ = some v) : (W.setCell ⟨n, i, none⟩ x).cell? ⟨b, j, none⟩ = some v := by
  rw [World.cell?_setCell_far _ _ _ _ (show n ≠ b from fun e => hn e.symm)]; exact h
theorem cel2_cells {W : World} {n : Nat} {a b : Value} {T : TypeId} (h : W.heap[n]? = some (.cells #[a, b] T (0, 0))) : W.cell? ⟨n, 0, none⟩ = some a ∧ W.cell? ⟨n, 1, none⟩ = some b ∧ W.frozen? ⟨n, 0, none⟩ = false ∧ W.frozen? ⟨n, 1, none⟩ = false :=
  ⟨by simp [World.cell?, h], by simp [World.cell?, h], by simp [World.frozen?, h], by simp [World.frozen?, h]⟩
set_option maxRecDepth 100000 in
set_option maxHeartbeats 2000000 in
theorem readW_z (x y s : Int) (w : World) (x0 : -2000000 ≤ x) (x1 : x ≤ 2000000) (y0 : -2000000 ≤ y) (y1 : y ≤ 2000000) (s0 : 1 ≤ s) (s1 : s ≤ 100000) :
    Calls Try.prog 104 #[.agg #[.iface 156 (.agg #[]), .int .i64 s], .agg #[.int .i64 x, .int .i64 y]] w fun e w' => (∃ z, LonAt x s (cosL (y * s)) z ∧ e = .returned (.tuple #[.agg #[.int .i64 (if okB (y * s) z = true then y * s else 0), .int .i64 (if okB (y * s) z = true then z else 0)], .bool (okB (y * s) z)])) ∧ Below w.heap.size w w' := by
  have m2 := mul_range y0 y1 (by omega : 0 ≤ s) s1 (by omega)
  have hm : ∀ w : World, (method 299 156 (.agg #[]) "loop.example/g01055/impl.widthAt").run Try.prog w = .ok (202, .agg #[]) w := fun _ => by kernel_rfl
  have WA := Lib.hid (fun W => waveWidth_any (y * s) W (by omega) (by omega))
  obtain ⟨c, hc, c0, c1⟩ : ∃ c : Int, cosL (y * s) = c ∧ -1000000 ≤ c ∧ c ≤ 1000000 := ⟨_, rfl, (cosL_any _).1, (cosL_any _).2⟩
  rw [hc] at WA ⊢
  have LN := Lib.hid (fun W => lonAt_any 156 x s c W x0 x1 s0 s1 c0 c1)
  have k2' : ∃ v, y * s = v ∧ IntKind.i64.wrap (y * s) = v := ⟨_, rfl, IntWalk.i64_in _ (by omega)⟩
  obtain ⟨v, j2, k2⟩ := k2'
  rw [j2] at WA ⊢
  have B0 := Lib.hid ((((Below.refl w.heap.size w).alloc (Nat.le_refl _) (.cells #[.iface 156 (.agg #[]), .int .i64 s] 98)).alloc (by simp) (.cells #[.int .i64 x, .int .i64 y] 29)).alloc (by simp; omega) (.cells #[.int .i64 0, .int .i64 0] 25))
  obtain ⟨z1, u1, u2, u3, u4, u5⟩ := cells222 w (.iface 156 (.agg #[])) (.int .i64 s) (.int .i64 x) (.int .i64 y) (.int .i64 0) (.int .i64 0) 98 29 25
  clear m2 hc j2 x0 x1 y0 y1 s0 s1 c0 c1
  go_enter Try.func104, Try.ntmps104
  go_wp2_with fail
  generalize (((w.alloc (.cells #[.iface 156 (.agg #[]), .int .i64 s] 98)).alloc (.cells #[.int .i64 x, .int .i64 y] 29)).alloc (.cells #[.int .i64 0, .int .i64 0] 25)) = V0 at *
  have hn : w.heap.size < V0.heap.size := by omega
  have hn1 : w.heap.size + 1 < V0.heap.size := by omega
  have hn2 : w.heap.size + 1 + 1 < V0.heap.size := by omega
  have WA2 := Lib.hid (fun W (hW : Below V0.heap.size V0 W) => (WA.out W).mono fun e w' h => (⟨h.1, h.2, hW.trans (h.2.mono hW.size)⟩ : e = .returned (.int .i64 c) ∧ Below W.heap.size W w' ∧ Below V0.heap.size V0 w'))
  have LN2 := Lib.hid (fun W (hW : Below V0.heap.size V0 W) => (LN.out W).mono fun e w' h => (⟨h.1, h.2, hW.trans (h.2.mono hW.size)⟩ : (∃ z, e = .returned (.int .i64 z) ∧ LonAt x s c z) ∧ Below W.heap.size W w' ∧ Below V0.heap.size V0 w'))
  have UP := Lib.hid (fun W (hW : Below V0.heap.size V0 W) => (⟨(hW.cell (p := ⟨w.heap.size, 0, none⟩) hn).trans u1, (hW.cell (p := ⟨w.heap.size, 1, none⟩) hn).trans u2, (hW.cell (p := ⟨w.heap.size + 1, 0, none⟩) hn1).trans u3, (hW.block _ hn2).trans u5⟩ : W.cell? ⟨w.heap.size, 0, none⟩ = some (.iface 156 (.agg #[])) ∧ W.cell? ⟨w.heap.size, 1, none⟩ = some (.int .i64 s) ∧ W.cell? ⟨w.heap.size + 1, 0, none⟩ = some (.int .i64 x) ∧ W.heap[w.heap.size + 1 + 1]? = some (.cells #[.int .i64 0, .int .i64 0] 25 (0, 0))))
  have Z1 := Lib.hid z1
  clear u5 WA LN z1
  go_region_held3 (fun W => W.cell? ⟨w.heap.size, 0, none⟩ = some (.iface 156 (.agg #[])) ∧ W.cell? ⟨w.heap.size, 1, none⟩ = some (.int .i64 s) ∧ W.cell? ⟨w.heap.size + 1, 0, none⟩ = some (.int .i64 x)) (first | exact ⟨u1, u2, u3⟩ | exact ⟨n1, n2, n3⟩ | exact ⟨o1, o2, o3⟩ | (refine ⟨?_, ?_, ?_⟩ <;> repeat (first | assumption | exact u1 | exact u2 | exact u3 | refine al_cell _ ?_ | refine sc_cell (by (first | exact Nat.ne_of_lt hn | exact Nat.ne_of_lt hn1 | exact Nat.ne_of_lt (Nat.lt_of_lt_of_le hn hv1.size) | exact Nat.ne_of_lt (Nat.lt_of_lt_of_le hn1 hv1.size) | exact Nat.ne_of_lt (Nat.lt_of_lt_of_le hn hv2.size) | exact Nat.ne_of_lt (Nat.lt_of_lt_of_le hn1 hv2.size))) ?_))) (first
    | (go_at_call 202; refine (WA2.out _ (by repeat (first | assumption | exact Below.refl _ _ | refine Below.drew ?_ | refine bdQ ?_ _ | refine Below.alloc ?_ (by first | exact Nat.le_refl _ | exact hv1.size | (simp; done) | (simp; omega)) _))).mono ?_; rintro e w1 ⟨rfl, hb1, hv1⟩; obtain ⟨n1, n2, n3, n4⟩ := UP.out _ hv1; (first | have p1 : w1.heap[V0.heap.size]? = some (.cells #[.int .i64 0, .int .i64 0] 25 (0, 0)) := box1h (belOf hb1) | skip))
    | (go_at_call 154; refine (LN2.out _ (by repeat (first | assumption | exact Below.refl _ _ | refine Below.drew ?_ | refine bdQ ?_ _ | refine Below.alloc ?_ (by first | exact Nat.le_refl _ | exact hv1.size | (simp; done) | (simp; omega)) _))).mono ?_; rintro e w2 ⟨⟨z, rfl, hz⟩, hb2, hv2⟩; obtain ⟨o1, o2, o3, o4⟩ := UP.out _ hv2; (first | have p2 := (hb2.block _ (lt_of p1)).trans p1 | have p2 := box1h hb2 | skip); (first | (have F := cel2_cells p2; obtain ⟨f1, f2, f3, f4⟩ := F) | (have F := cel2_cells (heap_alloc_new w2 (.cells #[.int .i64 0, .int .i64 0] 25)); obtain ⟨f1, f2, f3, f4⟩ := F))))
  · have P1 := heap_alloc_new w2 (.cells #[.int .i64 v, .int .i64 z] 25)
    have P2 := (Below.heap_alloc w2 (.cells #[.int .i64 v, .int .i64 z] 25) _ (lt_of o4)).trans o4
    have P3 := (B0.out.trans (hv2.mono B0.out.size)).alloc (Nat.le_trans B0.out.size hv2.size) (.cells #[.int .i64 v, .int .i64 z] 25)
    generalize w2.alloc (.cells #[.int .i64 v, .int .i64 z] 25) = W3 at P1 P2 P3 ⊢
    generalize w2.heap.size = g7 at P1 ⊢
    clear hb1 hb2 hv1 hv2 n1 n2 n3 n4 o1 o2 o3 o4 f1 f2 f3 f4
    obtain ⟨a1, a2, a3, a4⟩ := cel2_cells P1
    obtain ⟨b1, b2, b3, b4⟩ := cel2_cells P2
    have HP3 := Lib.hid P3
    have HP1 := Lib.hid P1
    have HP2 := Lib.hid P2
    have HZ := Lib.hid hz
    clear P1 P2 P3 hz
    go_wp2_with fail
    refine (ValidSpot_any v z _).mono ?_
    rintro e w4 ⟨rfl, q1, hw⟩
    have BW := okBel hw
    have C1 := (BW.block _ (lt_of HP1.out)).trans HP1.out
    have C2 := (BW.block _ (lt_of HP2.out)).trans HP2.out
    have HB4 := HP3.out.trans (BW.mono HP3.out.size)
    clear hw BW HP1 HP2 HP3 a1 a2 a3 a4 b1 b2 b3 b4
    obtain ⟨a1, a2, a3, a4⟩ := cel2_cells C1
    obtain ⟨b1, b2, b3, b4⟩ := cel2_cells C2
    cases hok : okB v z with
    | true =>
      obtain ⟨q0, q1, q2⟩ := stored2 C2 (.int .i64 v) (.int .i64 z)
      clear C1 C2
      go_wp2
      exact bodyPost_ret (v := .tuple #[.agg #[.int .i64 v, .int .i64 z], .bool true]) (by simp [results, Try.results104, go_sem, q0, q1, q2]) rfl ⟨⟨z, HZ.out, by simp [hok]⟩, by repeat (first | assumption | exact Below.refl _ _ | refine Below.drew ?_ | refine bdQ ?_ _ | refine Below.setCell ?_ (by first | exact Nat.le_refl _ | omega | (simp; done) | (simp; omega)) _ | refine Below.alloc ?_ (by first | exact Nat.le_refl _ | omega | (simp; done) | (simp; omega)) _)⟩
    | false =>
      obtain ⟨q0, q1, q2⟩ := stored2 C2 (.int .i64 0) (.int .i64 0)
      clear C1 C2
      go_wp2
      exact bodyPost_ret (v := .tuple #[.agg #[.int .i64 0, .int .i64 0], .bool false]) (by simp [results, Try.results104, go_sem, q0, q1, q2]) rfl ⟨⟨z, HZ.out, by simp [hok]⟩, by repeat (first | assumption | exact Below.refl _ _ | refine Below.drew ?_ | refine bdQ ?_ _ | refine Below.setCell ?_ (by first | exact Nat.le_refl _ | omega | (simp; done) | (simp; omega)) _ | refine Below.alloc ?_ (by first | exact Nat.le_refl _ | omega | (simp; done) | (simp; omega)) _)⟩
  · have hne : w.heap.size + 1 + 1 ≠ w1.heap.size := Nat.ne_of_lt (Nat.lt_of_lt_of_le hn2 hv1.size)
    obtain ⟨P1, P2⟩ := two_other p2 o4 hne (.int .i64 v) (.int .i64 z)
    have P3 : Below w.heap.size w ((w2.setCell ⟨w1.heap.size, 0, none⟩ (.int .i64 v)).setCell ⟨w1.heap.size, 1, none⟩ (.int .i64 z)) := ((B0.out.trans (hv2.mono B0.out.size)).setCell (show w.heap.size ≤ w1.heap.size by exact Nat.le_trans B0.out.size hv1.size) _).setCell (show w.heap.size ≤ w1.heap.size by exact Nat.le_trans B0.out.size hv1.size) _
    generalize (w2.setCell ⟨w1.heap.size, 0, none⟩ (.int .i64 v)).setCell ⟨w1.heap.size, 1, none⟩ (.int .i64 z) = W3 at P1 P2 P3 ⊢
    generalize w1.heap.size = g7 at P1 ⊢
    clear hb1 hb2 hv1 hv2 n1 n2 n3 n4 o1 o2 o3 o4 f1 f2 f3 f4
    obtain ⟨a1, a2, a3, a4⟩ := cel2_cells P1
    obtain ⟨b1, b2, b3, b4⟩ := cel2_cells P2
    have HP3 := Lib.hid P3
    have HP1 := Lib.hid P1
    have HP2 := Lib.hid P2
    have HZ := Lib.hid hz
    clear P1 P2 P3 hz
    go_wp2_with fail
    refine (ValidSpot_any v z _).mono ?_
    rintro e w4 ⟨rfl, q1, hw⟩
    have BW := okBel hw
    have C1 := (BW.block _ (lt_of HP1.out)).trans HP1.out
    have C2 := (BW.block _ (lt_of HP2.out)).trans HP2.out
    have HB4 := HP3.out.trans (BW.mono HP3.out.size)
    clear hw BW HP1 HP2 HP3 a1 a2 a3 a4 b1 b2 b3 b4
    obtain ⟨a1, a2, a3, a4⟩ := cel2_cells C1
    obtain ⟨b1, b2, b3, b4⟩ := cel2_cells C2
    cases hok : okB v z with
    | true =>
      obtain ⟨q0, q1, q2⟩ := stored2 C2 (.int .i64 v) (.int .i64 z)
      clear C1 C2
      go_wp2
      exact bodyPost_ret (v := .tuple #[.agg #[.int .i64 v, .int .i64 z], .bool true]) (by simp [results, Try.results104, go_sem, q0, q1, q2]) rfl ⟨⟨z, HZ.out, by simp [hok]⟩, by repeat (first | assumption | exact Below.refl _ _ | refine Below.drew ?_ | refine bdQ ?_ _ | refine Below.setCell ?_ (by first | exact Nat.le_refl _ | omega | (simp; done) | (simp; omega)) _ | refine Below.alloc ?_ (by first | exact Nat.le_refl _ | omega | (simp; done) | (simp; omega)) _)⟩
    | false =>
      obtain ⟨q0, q1, q2⟩ := stored2 C2 (.int .i64 0) (.int .i64 0)
      clear C1 C2
      go_wp2
      exact bodyPost_ret (v := .tuple #[.agg #[.int .i64 0, .int .i64 0], .bool false]) (by simp [results, Try.results104, go_sem, q0, q1, q2]) rfl ⟨⟨z, HZ.out, by simp [hok]⟩, by repeat (first | assumption | exact Below.refl _ _ | refine Below.drew ?_ | refine bdQ ?_ _ | refine Below.setCell ?_ (by first | exact Nat.le_refl _ | omega | (simp; done) | (simp; omega)) _ | refine Below.alloc ?_ (by first | exact Nat.le_refl _ | omega | (simp; done) | (simp; omega)) _)⟩
  · have hne : w.heap.size + 1 + 1 ≠ V0.heap.size := Nat.ne_of_lt hn2
    obtain ⟨P1, P2⟩ := two_other p2 o4 hne (.int .i64 v) (.int .i64 z)
    have P3 : Below w.heap.size w ((w2.setCell ⟨V0.heap.size, 0, none⟩ (.int .i64 v)).setCell ⟨V0.heap.size, 1, none⟩ (.int .i64 z)) := ((B0.out.trans (hv2.mono B0.out.size)).setCell (show w.heap.size ≤ V0.heap.size by exact B0.out.size) _).setCell (show w.heap.size ≤ V0.heap.size by exact B0.out.size) _
    generalize (w2.setCell ⟨V0.heap.size, 0, none⟩ (.int .i64 v)).setCell ⟨V0.heap.size, 1, none⟩ (.int .i64 z) = W3 at P1 P2 P3 ⊢
    generalize V0.heap.size = g7 at P1 ⊢
    clear hb1 hb2 hv1 hv2 n1 n2 n3 n4 o1 o2 o3 o4 f1 f2 f3 f4
    obtain ⟨a1, a2, a3, a4⟩ := cel2_cells P1
    obtain ⟨b1, b2, b3, b4⟩ := cel2_cells P2
    have HP3 := Lib.hid P3
    have HP1 := Lib.hid P1
    have HP2 := Lib.hid P2
    have HZ := Lib.hid hz
    clear P1 P2 P3 hz
    go_wp2_with fail
    refine (ValidSpot_any v z _).mono ?_
    rintro e w4 ⟨rfl, q1, hw⟩
    have BW := okBel hw
    have C1 := (BW.block _ (lt_of HP1.out)).trans HP1.out
    have C2 := (BW.block _ (lt_of HP2.out)).trans HP2.out
    have HB4 := HP3.out.trans (BW.mono HP3.out.size)
    clear hw BW HP1 HP2 HP3 a1 a2 a3 a4 b1 b2 b3 b4
    obtain ⟨a1, a2, a3, a4⟩ := cel2_cells C1
    obtain ⟨b1, b2, b3, b4⟩ := cel2_cells C2
    cases hok : okB v z with
    | true =>
      obtain ⟨q0, q1, q2⟩ := stored2 C2 (.int .i64 v) (.int .i64 z)
      clear C1 C2
      go_wp2
      exact bodyPost_ret (v := .tuple #[.agg #[.int .i64 v, .int .i64 z], .bool true]) (by simp [results, Try.results104, go_sem, q0, q1, q2]) rfl ⟨⟨z, HZ.out, by simp [hok]⟩, by repeat (first | assumption | exact Below.refl _ _ | refine Below.drew ?_ | refine bdQ ?_ _ | refine Below.setCell ?_ (by first | exact Nat.le_refl _ | omega | (simp; done) | (simp; omega)) _ | refine Below.alloc ?_ (by first | exact Nat.le_refl _ | omega | (simp; done) | (simp; omega)) _)⟩
    | false =>
      obtain ⟨q0, q1, q2⟩ := stored2 C2 (.int .i64 0) (.int .i64 0)
      clear C1 C2
      go_wp2
      exact bodyPost_ret (v := .tuple #[.agg #[.int .i64 0, .int .i64 0], .bool false]) (by simp [results, Try.results104, go_sem, q0, q1, q2]) rfl ⟨⟨z, HZ.out, by simp [hok]⟩, by repeat (first | assumption | exact Below.refl _ _ | refine Below.drew ?_ | refine bdQ ?_ _ | refine Below.setCell ?_ (by first | exact Nat.le_refl _ | omega | (simp; done) | (simp; omega)) _ | refine Below.alloc ?_ (by first | exact Nat.le_refl _ | omega | (simp; done) | (simp; omega)) _)⟩
set_option maxRecDepth 100000 in
set_option maxHeartbeats 2000000 in
theorem readS_z (x y s : Int) (w : World) (x0 : -2000000 ≤ x) (x1 : x ≤ 2000000) (y0 : -2000000 ≤ y) (y1 : y ≤ 2000000) (s0 : 1 ≤ s) (s1 : s ≤ 100000) :
    Calls Try.prog 104 #[.agg #[.iface 157 (.agg #[]), .int .i64 s], .agg #[.int .i64 x, .int .i64 y]] w fun e w' => (∃ z, LonAt x s (1000000) z ∧ e = .returned (.tuple #[.agg #[.int .i64 (if okB (y * s) z = true then y * s else 0), .int .i64 (if okB (y * s) z = true then z else 0)], .bool (okB (y * s) z)])) ∧ Below w.heap.size w w' := by
  have m2 := mul_range y0 y1 (by omega : 0 ≤ s) s1 (by omega)
  have hm : ∀ w : World, (method 299 157 (.agg #[]) "loop.example/g01055/impl.widthAt").run Try.prog w = .ok (203, .agg #[]) w := fun _ => by kernel_rfl
  have WA := Lib.hid (fun W => squareWidth_any (y * s) W)
  obtain ⟨c, hc, c0, c1⟩ : ∃ c : Int, 1000000 = c ∧ -1000000 ≤ c ∧ c ≤ 1000000 := ⟨_, rfl, by omega, by omega⟩
  rw [hc] at WA ⊢
  have LN := Lib.hid (fun W => lonAt_any 157 x s c W x0 x1 s0 s1 c0 c1)
  have k2' : ∃ v, y * s = v ∧ IntKind.i64.wrap (y * s) = v := ⟨_, rfl, IntWalk.i64_in _ (by omega)⟩
  obtain ⟨v, j2, k2⟩ := k2'
  rw [j2] at WA ⊢
  have B0 := Lib.hid ((((Below.refl w.heap.size w).alloc (Nat.le_refl _) (.cells #[.iface 157 (.agg #[]), .int .i64 s] 98)).alloc (by simp) (.cells #[.int .i64 x, .int .i64 y] 29)).alloc (by simp; omega) (.cells #[.int .i64 0, .int .i64 0] 25))
  obtain ⟨z1, u1, u2, u3, u4, u5⟩ := cells222 w (.iface 157 (.agg #[])) (.int .i64 s) (.int .i64 x) (.int .i64 y) (.int .i64 0) (.int .i64 0) 98 29 25
  clear m2 hc j2 x0 x1 y0 y1 s0 s1 c0 c1
  go_enter Try.func104, Try.ntmps104
  go_wp2_with fail
  generalize (((w.alloc (.cells #[.iface 157 (.agg #[]), .int .i64 s] 98)).alloc (.cells #[.int .i64 x, .int .i64 y] 29)).alloc (.cells #[.int .i64 0, .int .i64 0] 25)) = V0 at *
  have hn : w.heap.size < V0.heap.size := by omega
  have hn1 : w.heap.size + 1 < V0.heap.size := by omega
  have hn2 : w.heap.size + 1 + 1 < V0.heap.size := by omega
  have WA2 := Lib.hid (fun W (hW : Below V0.heap.size V0 W) => (WA.out W).mono fun e w' h => (⟨h.1, h.2, hW.trans (h.2.mono hW.size)⟩ : e = .returned (.int .i64 c) ∧ Below W.heap.size W w' ∧ Below V0.heap.size V0 w'))
  have LN2 := Lib.hid (fun W (hW : Below V0.heap.size V0 W) => (LN.out W).mono fun e w' h => (⟨h.1, h.2, hW.trans (h.2.mono hW.size)⟩ : (∃ z, e = .returned (.int .i64 z) ∧ LonAt x s c z) ∧ Below W.heap.size W w' ∧ Below V0.heap.size V0 w'))
  have UP := Lib.hid (fun W (hW : Below V0.heap.size V0 W) => (⟨(hW.cell (p := ⟨w.heap.size, 0, none⟩) hn).trans u1, (hW.cell (p := ⟨w.heap.size, 1, none⟩) hn).trans u2, (hW.cell (p := ⟨w.heap.size + 1, 0, none⟩) hn1).trans u3, (hW.block _ hn2).trans u5⟩ : W.cell? ⟨w.heap.size, 0, none⟩ = some (.iface 157 (.agg #[])) ∧ W.cell? ⟨w.heap.size, 1, none⟩ = some (.int .i64 s) ∧ W.cell? ⟨w.heap.size + 1, 0, none⟩ = some (.int .i64 x) ∧ W.heap[w.heap.size + 1 + 1]? = some (.cells #[.int .i64 0, .int .i64 0] 25 (0, 0))))
  have Z1 := Lib.hid z1
  clear u5 WA LN z1
  go_region_held3 (fun W => W.cell? ⟨w.heap.size, 0, none⟩ = some (.iface 157 (.agg #[])) ∧ W.cell? ⟨w.heap.size, 1, none⟩ = some (.int .i64 s) ∧ W.cell? ⟨w.heap.size + 1, 0, none⟩ = some (.int .i64 x)) (first | exact ⟨u1, u2, u3⟩ | exact ⟨n1, n2, n3⟩ | exact ⟨o1, o2, o3⟩ | (refine ⟨?_, ?_, ?_⟩ <;> repeat (first | assumption | exact u1 | exact u2 | exact u3 | refine al_cell _ ?_ | refine sc_cell (by (first | exact Nat.ne_of_lt hn | exact Nat.ne_of_lt hn1 | exact Nat.ne_of_lt (Nat.lt_of_lt_of_le hn hv1.size) | exact Nat.ne_of_lt (Nat.lt_of_lt_of_le hn1 hv1.size) | exact Nat.ne_of_lt (Nat.lt_of_lt_of_le hn hv2.size) | exact Nat.ne_of_lt (Nat.lt_of_lt_of_le hn1 hv2.size))) ?_))) (first
    | (go_at_call 203; refine (WA2.out _ (by repeat (first | assumption | exact Below.refl _ _ | refine Below.drew ?_ | refine bdQ ?_ _ | refine Below.alloc ?_ (by first | exact Nat.le_refl _ | exact hv1.size | (simp; done) | (simp; omega)) _))).mono ?_; rintro e w1 ⟨rfl, hb1, hv1⟩; obtain ⟨n1, n2, n3, n4⟩ := UP.out _ hv1; (first | have p1 : w1.heap[V0.heap.size]? = some (.cells #[.int .i64 0, .int .i64 0] 25 (0, 0)) := box1h (belOf hb1) | skip))
    | (go_at_call 154; refine (LN2.out _ (by repeat (first | assumption | exact Below.refl _ _ | refine Below.drew ?_ | refine bdQ ?_ _ | refine Below.alloc ?_ (by first | exact Nat.le_refl _ | exact hv1.size | (simp; done) | (simp; omega)) _))).mono ?_; rintro e w2 ⟨⟨z, rfl, hz⟩, hb2, hv2⟩; obtain ⟨o1, o2, o3, o4⟩ := UP.out _ hv2; (first | have p2 := (hb2.block _ (lt_of p1)).trans p1 | have p2 := box1h hb2 | skip); (first | (have F := cel2_cells p2; obtain ⟨f1, f2, f3, f4⟩ := F) | (have F := cel2_cells (heap_alloc_new w2 (.cells #[.int .i64 0, .int .i64 0] 25)); obtain ⟨f1, f2, f3, f4⟩ := F))))
  · have P1 := heap_alloc_new w2 (.cells #[.int .i64 v, .int .i64 z] 25)
    have P2 := (Below.heap_alloc w2 (.cells #[.int .i64 v, .int .i64 z] 25) _ (lt_of o4)).trans o4
    have P3 := (B0.out.trans (hv2.mono B0.out.size)).alloc (Nat.le_trans B0.out.size hv2.size) (.cells #[.int .i64 v, .int .i64 z] 25)
    generalize w2.alloc (.cells #[.int .i64 v, .int .i64 z] 25) = W3 at P1 P2 P3 ⊢
    generalize w2.heap.size = g7 at P1 ⊢
    clear hb1 hb2 hv1 hv2 n1 n2 n3 n4 o1 o2 o3 o4 f1 f2 f3 f4
    obtain ⟨a1, a2, a3, a4⟩ := cel2_cells P1
    obtain ⟨b1, b2, b3, b4⟩ := cel2_cells P2
    have HP3 := Lib.hid P3
    have HP1 := Lib.hid P1
    have HP2 := Lib.hid P2
    have HZ := Lib.hid hz
    clear P1 P2 P3 hz
    go_wp2_with fail
    refine (ValidSpot_any v z _).mono ?_
    rintro e w4 ⟨rfl, q1, hw⟩
    have BW := okBel hw
    have C1 := (BW.block _ (lt_of HP1.out)).trans HP1.out
    have C2 := (BW.block _ (lt_of HP2.out)).trans HP2.out
    have HB4 := HP3.out.trans (BW.mono HP3.out.size)
    clear hw BW HP1 HP2 HP3 a1 a2 a3 a4 b1 b2 b3 b4
    obtain ⟨a1, a2, a3, a4⟩ := cel2_cells C1
    obtain ⟨b1, b2, b3, b4⟩ := cel2_cells C2
    cases hok : okB v z with
    | true =>
      obtain ⟨q0, q1, q2⟩ := stored2 C2 (.int .i64 v) (.int .i64 z)
      clear C1 C2
      go_wp2
      exact bodyPost_ret (v := .tuple #[.agg #[.int .i64 v, .int .i64 z], .bool true]) (by simp [results, Try.results104, go_sem, q0, q1, q2]) rfl ⟨⟨z, HZ.out, by simp [hok]⟩, by repeat (first | assumption | exact Below.refl _ _ | refine Below.drew ?_ | refine bdQ ?_ _ | refine Below.setCell ?_ (by first | exact Nat.le_refl _ | omega | (simp; done) | (simp; omega)) _ | refine Below.alloc ?_ (by first | exact Nat.le_refl _ | omega | (simp; done) | (simp; omega)) _)⟩
    | false =>
      obtain ⟨q0, q1, q2⟩ := stored2 C2 (.int .i64 0) (.int .i64 0)
      clear C1 C2
      go_wp2
      exact bodyPost_ret (v := .tuple #[.agg #[.int .i64 0, .int .i64 0], .bool false]) (by simp [results, Try.results104, go_sem, q0, q1, q2]) rfl ⟨⟨z, HZ.out, by simp [hok]⟩, by repeat (first | assumption | exact Below.refl _ _ | refine Below.drew ?_ | refine bdQ ?_ _ | refine Below.setCell ?_ (by first | exact Nat.le_refl _ | omega | (simp; done) | (simp; omega)) _ | refine Below.alloc ?_ (by first | exact Nat.le_refl _ | omega | (simp; done) | (simp; omega)) _)⟩
  · have hne : w.heap.size + 1 + 1 ≠ w1.heap.size := Nat.ne_of_lt (Nat.lt_of_lt_of_le hn2 hv1.size)
    obtain ⟨P1, P2⟩ := two_other p2 o4 hne (.int .i64 v) (.int .i64 z)
    have P3 : Below w.heap.size w ((w2.setCell ⟨w1.heap.size, 0, none⟩ (.int .i64 v)).setCell ⟨w1.heap.size, 1, none⟩ (.int .i64 z)) := ((B0.out.trans (hv2.mono B0.out.size)).setCell (show w.heap.size ≤ w1.heap.size by exact Nat.le_trans B0.out.size hv1.size) _).setCell (show w.heap.size ≤ w1.heap.size by exact Nat.le_trans B0.out.size hv1.size) _
    generalize (w2.setCell ⟨w1.heap.size, 0, none⟩ (.int .i64 v)).setCell ⟨w1.heap.size, 1, none⟩ (.int .i64 z) = W3 at P1 P2 P3 ⊢
    generalize w1.heap.size = g7 at P1 ⊢
    clear hb1 hb2 hv1 hv2 n1 n2 n3 n4 o1 o2 o3 o4 f1 f2 f3 f4
    obtain ⟨a1, a2, a3, a4⟩ := cel2_cells P1
    obtain ⟨b1, b2, b3, b4⟩ := cel2_cells P2
    have HP3 := Lib.hid P3
    have HP1 := Lib.hid P1
    have HP2 := Lib.hid P2
    have HZ := Lib.hid hz
    clear P1 P2 P3 hz
    go_wp2_with fail
    refine (ValidSpot_any v z _).mono ?_
    rintro e w4 ⟨rfl, q1, hw⟩
    have BW := okBel hw
    have C1 := (BW.block _ (lt_of HP1.out)).trans HP1.out
    have C2 := (BW.block _ (lt_of HP2.out)).trans HP2.out
    have HB4 := HP3.out.trans (BW.mono HP3.out.size)
    clear hw BW HP1 HP2 HP3 a1 a2 a3 a4 b1 b2 b3 b4
    obtain ⟨a1, a2, a3, a4⟩ := cel2_cells C1
    obtain ⟨b1, b2, b3, b4⟩ := cel2_cells C2
    cases hok : okB v z with
    | true =>
      obtain ⟨q0, q1, q2⟩ := stored2 C2 (.int .i64 v) (.int .i64 z)
      clear C1 C2
      go_wp2
      exact bodyPost_ret (v := .tuple #[.agg #[.int .i64 v, .int .i64 z], .bool true]) (by simp [results, Try.results104, go_sem, q0, q1, q2]) rfl ⟨⟨z, HZ.out, by simp [hok]⟩, by repeat (first | assumption | exact Below.refl _ _ | refine Below.drew ?_ | refine bdQ ?_ _ | refine Below.setCell ?_ (by first | exact Nat.le_refl _ | omega | (simp; done) | (simp; omega)) _ | refine Below.alloc ?_ (by first | exact Nat.le_refl _ | omega | (simp; done) | (simp; omega)) _)⟩
    | false =>
      obtain ⟨q0, q1, q2⟩ := stored2 C2 (.int .i64 0) (.int .i64 0)
      clear C1 C2
      go_wp2
      exact bodyPost_ret (v := .tuple #[.agg #[.int .i64 0, .int .i64 0], .bool false]) (by simp [results, Try.results104, go_sem, q0, q1, q2]) rfl ⟨⟨z, HZ.out, by simp [hok]⟩, by repeat (first | assumption | exact Below.refl _ _ | refine Below.drew ?_ | refine bdQ ?_ _ | refine Below.setCell ?_ (by first | exact Nat.le_refl _ | omega | (simp; done) | (simp; omega)) _ | refine Below.alloc ?_ (by first | exact Nat.le_refl _ | omega | (simp; done) | (simp; omega)) _)⟩
  · have hne : w.heap.size + 1 + 1 ≠ V0.heap.size := Nat.ne_of_lt hn2
    obtain ⟨P1, P2⟩ := two_other p2 o4 hne (.int .i64 v) (.int .i64 z)
    have P3 : Below w.heap.size w ((w2.setCell ⟨V0.heap.size, 0, none⟩ (.int .i64 v)).setCell ⟨V0.heap.size, 1, none⟩ (.int .i64 z)) := ((B0.out.trans (hv2.mono B0.out.size)).setCell (show w.heap.size ≤ V0.heap.size by exact B0.out.size) _).setCell (show w.heap.size ≤ V0.heap.size by exact B0.out.size) _
    generalize (w2.setCell ⟨V0.heap.size, 0, none⟩ (.int .i64 v)).setCell ⟨V0.heap.size, 1, none⟩ (.int .i64 z) = W3 at P1 P2 P3 ⊢
    generalize V0.heap.size = g7 at P1 ⊢
    clear hb1 hb2 hv1 hv2 n1 n2 n3 n4 o1 o2 o3 o4 f1 f2 f3 f4
    obtain ⟨a1, a2, a3, a4⟩ := cel2_cells P1
    obtain ⟨b1, b2, b3, b4⟩ := cel2_cells P2
    have HP3 := Lib.hid P3
    have HP1 := Lib.hid P1
    have HP2 := Lib.hid P2
    have HZ := Lib.hid hz
    clear P1 P2 P3 hz
    go_wp2_with fail
    refine (ValidSpot_any v z _).mono ?_
    rintro e w4 ⟨rfl, q1, hw⟩
    have BW := okBel hw
    have C1 := (BW.block _ (lt_of HP1.out)).trans HP1.out
    have C2 := (BW.block _ (lt_of HP2.out)).trans HP2.out
    have HB4 := HP3.out.trans (BW.mono HP3.out.size)
    clear hw BW HP1 HP2 HP3 a1 a2 a3 a4 b1 b2 b3 b4
    obtain ⟨a1, a2, a3, a4⟩ := cel2_cells C1
    obtain ⟨b1, b2, b3, b4⟩ := cel2_cells C2
    cases hok : okB v z with
    | true =>
      obtain ⟨q0, q1, q2⟩ := stored2 C2 (.int .i64 v) (.int .i64 z)
      clear C1 C2
      go_wp2
      exact bodyPost_ret (v := .tuple #[.agg #[.int .i64 v, .int .i64 z], .bool true]) (by simp [results, Try.results104, go_sem, q0, q1, q2]) rfl ⟨⟨z, HZ.out, by simp [hok]⟩, by repeat (first | assumption | exact Below.refl _ _ | refine Below.drew ?_ | refine bdQ ?_ _ | refine Below.setCell ?_ (by first | exact Nat.le_refl _ | omega | (simp; done) | (simp; omega)) _ | refine Below.alloc ?_ (by first | exact Nat.le_refl _ | omega | (simp; done) | (simp; omega)) _)⟩
    | false =>
      obtain ⟨q0, q1, q2⟩ := stored2 C2 (.int .i64 0) (.int .i64 0)
      clear C1 C2
      go_wp2
      exact bodyPost_ret (v := .tuple #[.agg #[.int .i64 0, .int .i64 0], .bool false]) (by simp [results, Try.results104, go_sem, q0, q1, q2]) rfl ⟨⟨z, HZ.out, by simp [hok]⟩, by repeat (first | assumption | exact Below.refl _ _ | refine Below.drew ?_ | refine bdQ ?_ _ | refine Below.setCell ?_ (by first | exact Nat.le_refl _ | omega | (simp; done) | (simp; omega)) _ | refine Below.alloc ?_ (by first | exact Nat.le_refl _ | omega | (simp; done) | (simp; omega)) _)⟩
end Go.Proofs.Ytemhmejjmhbfdaa.sines
