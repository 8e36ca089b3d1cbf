/- Drawn closed chains, moves, points, lists: contracts of the model's functions. -/
import Derived.Test.YtemhmejjmhbfdaaParts9
import Derived.Test.YtemhmejjmhbfdaaA2
namespace Go.Proofs.Ytemhmejjmhbfdaa.srcP
open Go.ChangeShapes Go.WideShapes Go.ChangeAt Go.RowKit Go.Proofs.Ytemhmejjmhbfdaa.irows Go.Proofs.Ytemhmejjmhbfdaa.pairsPlace Go.Proofs.Ytemhmejjmhbfdaa.src Go.Proofs.Ytemhmejjmhbfdaa.sines Go.Proofs.Ytemhmejjmhbfdaa.ctab Go.Proofs.Ytemhmejjmhbfdaa.a2
set_option linter.unusedSimpArgs false
set_option linter.unusedVariables false

set_option maxRecDepth 100000 in
set_option maxHeartbeats 4000000 in
theorem DrawTwiceArea_any (w : World) (a : Option Addr) (len cap : Nat) (hb : Bytes w a len w.heap.size) :
    Calls Try.prog 41 #[.slice a len cap] w fun e w' => ∃ u ps, e = .returned u ∧ ps.length ≤ 10 ∧ PRow w' w.heap.size u ps ∧ Below w.heap.size w w' := by
  have HB := Lib.hid hb
  clear hb
  go_enter Try.func41, Try.ntmps41
  go_wp2_with fail
  refine (l00From_any _ a len cap).mono ?_
  rintro e w' ⟨rfl, rfl⟩
  have S0 := Lib.hid (show St (w.alloc (.cells #[.slice a len cap, .int .i64 0, .int .u64 0] 162)) (w.alloc (.cells #[.slice a len cap, .int .i64 0, .int .u64 0] 162)) w.heap.size a len cap 0 from ⟨src_start w a len cap, ⟨rfl, rfl, rfl, Nat.le_refl _, fun _ _ _ => rfl⟩, bytes_start HB.out _, by simp⟩)
  obtain ⟨W1, hW1⟩ : ∃ W1, w.alloc (.cells #[.slice a len cap, .int .i64 0, .int .u64 0] 162) = W1 := ⟨_, rfl⟩
  have BW1 := Lib.hid (show ∀ w', W1.grownBy w' (some w.heap.size) → Below w.heap.size w w' from fun w' hg => by subst hW1; exact below_src hg)
  have hWz : w.heap.size < W1.heap.size := by rw [← hW1]; simp
  rw [hW1] at S0 ⊢
  clear hW1
  go_wp2_with fail
  refine (l10Any_any W1 w.heap.size a len cap _ S0.out (by omega)).mono ?_
  rintro e w1 ⟨u, ps, rfl, hl, hr, s1, hg1⟩
  have S1 := Lib.hid s1
  have R1 := Lib.hid hr
  have HL := Lib.hid hl
  obtain ⟨au, cu, eu, _⟩ := prow_at hr
  subst eu
  clear s1 hg1 hr hl
  go_wp2
  go_ret
  exact ⟨_, ps, rfl, HL.out, prow_up R1.out (by omega), BW1.out _ S1.out.2.1⟩

set_option maxRecDepth 100000 in
set_option maxHeartbeats 4000000 in
theorem DrawGreatestOutline_any (w : World) (a : Option Addr) (len cap : Nat) (hb : Bytes w a len w.heap.size) :
    Calls Try.prog 52 #[.slice a len cap] w fun e w' => ∃ u rows, e = .returned u ∧ rows.length ≤ 10 ∧ (∀ zs ∈ rows, zs.length ≤ 24) ∧ CAt w' w'.heap.size u rows ∧ Below w.heap.size w w' := by
  have HB := Lib.hid hb
  clear hb
  go_enter Try.func52, Try.ntmps52
  go_wp2_with fail
  refine (l00From_any _ a len cap).mono ?_
  rintro e w' ⟨rfl, rfl⟩
  have S0 := Lib.hid (show St (w.alloc (.cells #[.slice a len cap, .int .i64 0, .int .u64 0] 162)) (w.alloc (.cells #[.slice a len cap, .int .i64 0, .int .u64 0] 162)) w.heap.size a len cap 0 from ⟨src_start w a len cap, ⟨rfl, rfl, rfl, Nat.le_refl _, fun _ _ _ => rfl⟩, bytes_start HB.out _, by simp⟩)
  obtain ⟨W1, hW1⟩ : ∃ W1, w.alloc (.cells #[.slice a len cap, .int .i64 0, .int .u64 0] 162) = W1 := ⟨_, rfl⟩
  have BW1 := Lib.hid (show ∀ w', W1.grownBy w' (some w.heap.size) → Below w.heap.size w w' from fun w' hg => by subst hW1; exact below_src hg)
  have hWz : w.heap.size < W1.heap.size := by rw [← hW1]; simp
  rw [hW1] at S0 ⊢
  clear hW1
  go_wp2_with fail
  refine (l10Parts_any W1 w.heap.size a len cap _ S0.out (by omega)).mono ?_
  rintro e w1 ⟨u, rows, rfl, hl, hall, hc, s1, hg1⟩
  have S1 := Lib.hid s1
  have HC := Lib.hid hc
  have HL := Lib.hid hl
  have HA := Lib.hid hall
  obtain ⟨au, cu, eu, _⟩ := hc
  subst eu
  clear s1 hg1 hl hall
  go_wp2
  go_ret
  exact ⟨_, rows, rfl, HL.out, HA.out, HC.out, BW1.out _ S1.out.2.1⟩

set_option maxRecDepth 100000 in
set_option maxHeartbeats 4000000 in
theorem DrawMoveChain_any (w : World) (a : Option Addr) (len cap : Nat) (hb : Bytes w a len w.heap.size) :
    Calls Try.prog 46 #[.slice a len cap] w fun e w' => ∃ u ps x y, e = .returned (.tuple #[u, .int .i64 x, .int .i64 y]) ∧ ps.length ≤ 10 ∧ PRow w' w.heap.size u ps ∧ Below w.heap.size w w' := by
  have HB := Lib.hid hb
  clear hb
  go_enter Try.func46, Try.ntmps46
  go_wp2_with fail
  refine (l00From_any _ a len cap).mono ?_
  rintro e w' ⟨rfl, rfl⟩
  have S0 := Lib.hid (show St (w.alloc (.cells #[.slice a len cap, .int .i64 0, .int .u64 0] 162)) (w.alloc (.cells #[.slice a len cap, .int .i64 0, .int .u64 0] 162)) w.heap.size a len cap 0 from ⟨src_start w a len cap, ⟨rfl, rfl, rfl, Nat.le_refl _, fun _ _ _ => rfl⟩, bytes_start HB.out _, by simp⟩)
  obtain ⟨W1, hW1⟩ : ∃ W1, w.alloc (.cells #[.slice a len cap, .int .i64 0, .int .u64 0] 162) = W1 := ⟨_, rfl⟩
  have BW1 := Lib.hid (show ∀ w', W1.grownBy w' (some w.heap.size) → Below w.heap.size w w' from fun w' hg => by subst hW1; exact below_src hg)
  have hWz : w.heap.size < W1.heap.size := by rw [← hW1]; simp
  rw [hW1] at S0 ⊢
  clear hW1
  go_wp2_with fail
  refine (l10Any_any W1 w.heap.size a len cap _ S0.out (by omega)).mono ?_
  rintro e w1 ⟨u, ps, rfl, hl, hr, s1, hg1⟩
  have S1 := Lib.hid s1
  have R1 := Lib.hid hr
  have HL := Lib.hid hl
  obtain ⟨au, cu, eu, _⟩ := prow_at hr
  subst eu
  clear s1 hg1 hr hl
  go_wp2_with fail
  refine (pick_keep 60 S1.out (by omega) (by decide) (by decide)).mono ?_
  rintro e w2 ⟨x, rfl, x0, x1, s_w2, g_w2⟩
  have S2 := Lib.hid s_w2
  have R2 := Lib.hid (row_src R1.out hWz g_w2)
  clear s_w2 g_w2
  have xk : IntKind.i64.wrap (x - 20) = x - 20 := IntWalk.i64_in _ (by omega)
  go_wp2_with fail
  refine (one_keep 10 S2.out (by omega) (by decide) (by decide)).mono ?_
  rintro e w3 ⟨b, rfl, s_w3, g_w3⟩
  have S3 := Lib.hid s_w3
  have R3 := Lib.hid (row_src R2.out hWz g_w3)
  clear s_w3 g_w3
  cases b with
  | true =>
    go_wp2_with fail
    refine (among_keep (n := 5) (fun _ => True) (st_alloc S3.out _) (by omega) (by decide) (by decide) (list_of rfl (by intro i hi; rcases i with _ | _ | _ | _ | _ | i <;> first | exact ⟨_, rfl, trivial⟩ | omega)) (by have := (S3.out).2.1.size; omega)).mono ?_
    rintro e w4 ⟨y, rfl, _, s_w4, g_w4⟩
    have S4 := Lib.hid s_w4
    have R4 := Lib.hid (row_src (World.ownsRow.alloc R3.out _) hWz g_w4)
    clear s_w4 g_w4
    go_wp2
    exact bodyPost_ret (v := .tuple #[.slice au ps.length cu, .int .i64 (x - 20), .int .i64 y]) (by simp [results, Try.results46, go_sem]) rfl ⟨_, ps, _, _, rfl, HL.out, prow_up R4.out (by omega), BW1.out _ S4.out.2.1⟩
  | false =>
    go_wp2_with fail
    refine (pick_keep 60 S3.out (by omega) (by decide) (by decide)).mono ?_
    rintro e w4 ⟨y, rfl, y0, y1, s_w4, g_w4⟩
    have S4 := Lib.hid s_w4
    have R4 := Lib.hid (row_src R3.out hWz g_w4)
    clear s_w4 g_w4
    have yk : IntKind.i64.wrap (y - 20) = y - 20 := IntWalk.i64_in _ (by omega)
    go_wp2
    exact bodyPost_ret (v := .tuple #[.slice au ps.length cu, .int .i64 (x - 20), .int .i64 (y - 20)]) (by simp [results, Try.results46, go_sem]) rfl ⟨_, ps, _, _, rfl, HL.out, prow_up R4.out (by omega), BW1.out _ S4.out.2.1⟩

theorem st_put {w0 W0 w w' : World} {B P : Nat} {a : Option Addr} {len cap : Nat} {m : Int} (HB : Bytes w0 a len w0.heap.size) (hb : Below w0.heap.size w0 w) (h : St W0 w B a len cap m) (hg : w.grownBy w' (some P)) (hP : P ≠ B) (h0 : w0.heap.size ≤ P) (h1 : w0.heap.size ≤ B) : St w' w' B a len cap m ∧ Below w0.heap.size w0 w' := by
  have hb' : Below w0.heap.size w0 w' := hb.grown hg hb.size (fun j hj => by cases hj; exact h0)
  have hB : B < w.heap.size := Nat.lt_of_lt_of_le h.2.2.2 h.2.1.size
  have hB' : B < w'.heap.size := Nat.lt_of_lt_of_le hB hg.size
  refine ⟨⟨?_, World.grownBy.refl _ _, ?_, hB'⟩, hb'⟩
  · obtain ⟨⟨x, y, k1, k2⟩, _, _, _⟩ := h
    exact ⟨x, y, by rw [hg.block B hB (by simp; omega)]; exact k1, k2⟩
  · obtain ⟨q1, q2, q3⟩ := bytes_below HB hb'
    refine ⟨q1, Nat.le_of_lt hB', fun i hi => ?_⟩
    obtain ⟨b, off, z, e, hlt, hz, h4⟩ := q3 i hi
    exact ⟨b, off, z, e, by omega, hz, h4⟩
theorem put2 {w : World} {r : Nat} {u v : Value} {T : TypeId} (h : w.heap[r]? = some (.cells #[u, v] T (0, 0))) (x y : Value) : ((w.setCell ⟨r, 0, none⟩ x).setCell ⟨r, 1, none⟩ y).cell? ⟨r, 0, none⟩ = some x ∧ ((w.setCell ⟨r, 0, none⟩ x).setCell ⟨r, 1, none⟩ y).cell? ⟨r, 1, none⟩ = some y ∧ w.grownBy ((w.setCell ⟨r, 0, none⟩ x).setCell ⟨r, 1, none⟩ y) (some r) := by
  have h1 := heap_setCell_same w r 0 _ _ x h
  have h2 := heap_setCell_same (w.setCell ⟨r, 0, none⟩ x) r 1 _ _ y h1
  have e : ((w.setCell ⟨r, 0, none⟩ x).setCell ⟨r, 1, none⟩ y).heap[r]? = some (.cells #[x, y] T (0, 0)) := h2
  obtain ⟨_, c0, c1, _, _⟩ := two_cellsP e
  exact ⟨c0, c1, Lib.grownBy_setB (Lib.grownBy_setB (World.grownBy.refl w (some r)) 0 x) 1 y⟩
theorem grow_drew {w w' : World} {r : Option Nat} (h : w.grownBy w' r) : w.grownBy w'.drew r := ⟨h.os, h.tape, h.output, h.size, fun k hk hne => h.block k hk hne⟩
theorem below_on {w0 w w' : World} {B : Nat} (hb : Below w0.heap.size w0 w) (hg : w.grownBy w' (some B)) (h1 : w0.heap.size ≤ B) : Below w0.heap.size w0 w' := hb.grown hg hb.size (fun j hj => by cases hj; exact h1)

set_option maxRecDepth 100000 in
set_option maxHeartbeats 4000000 in
theorem DrawInsideOf_any (w : World) (a : Option Addr) (len cap : Nat) (hb : Bytes w a len w.heap.size) :
    Calls Try.prog 49 #[.slice a len cap] w fun e w' => ∃ u ps x y, e = .returned (.tuple #[u, .agg #[.int .i64 x, .int .i64 y]]) ∧ ps.length ≤ 10 ∧ PRow w' w.heap.size u ps ∧ Below w.heap.size w w' := by
  have HB := Lib.hid hb
  have P0 := Lib.hid (heap_alloc_new w (.cells #[.int .i64 0, .int .i64 0] 60))
  have B0 := Lib.hid ((Below.refl w.heap.size w).alloc (Nat.le_refl _) (.cells #[.int .i64 0, .int .i64 0] 60))
  have hVs : w.heap.size < (w.alloc (.cells #[.int .i64 0, .int .i64 0] 60)).heap.size := by simp
  have HB2 := Lib.hid (show Bytes (w.alloc (.cells #[.int .i64 0, .int .i64 0] 60)) a len (w.alloc (.cells #[.int .i64 0, .int .i64 0] 60)).heap.size from bytes_up hb B0.out)
  clear hb
  go_enter Try.func49, Try.ntmps49
  go_wp2_with fail
  generalize w.alloc (.cells #[.int .i64 0, .int .i64 0] 60) = V at *
  refine (l00From_any _ a len cap).mono ?_
  rintro e w' ⟨rfl, rfl⟩
  have S0 := Lib.hid (show St (V.alloc (.cells #[.slice a len cap, .int .i64 0, .int .u64 0] 162)) (V.alloc (.cells #[.slice a len cap, .int .i64 0, .int .u64 0] 162)) V.heap.size a len cap 0 from ⟨src_start V a len cap, ⟨rfl, rfl, rfl, Nat.le_refl _, fun _ _ _ => rfl⟩, bytes_start HB2.out _, by simp⟩)
  have P0 := Lib.hid (show (V.alloc (.cells #[.slice a len cap, .int .i64 0, .int .u64 0] 162)).heap[w.heap.size]? = _ from (Below.heap_alloc V (.cells #[.slice a len cap, .int .i64 0, .int .u64 0] 162) w.heap.size hVs).trans P0.out)
  have B0 := Lib.hid (B0.out.alloc (Nat.le_of_lt hVs) (.cells #[.slice a len cap, .int .i64 0, .int .u64 0] 162))
  have hPB : w.heap.size ≠ V.heap.size := Nat.ne_of_lt hVs
  have hBB : w.heap.size ≤ V.heap.size := Nat.le_of_lt hVs
  have hWz : V.heap.size < (V.alloc (.cells #[.slice a len cap, .int .i64 0, .int .u64 0] 162)).heap.size := by simp
  have hPW : w.heap.size < (V.alloc (.cells #[.slice a len cap, .int .i64 0, .int .u64 0] 162)).heap.size := Nat.lt_trans hVs hWz
  generalize V.alloc (.cells #[.slice a len cap, .int .i64 0, .int .u64 0] 162) = W1 at *
  go_wp2_with fail
  refine (l10Any_any W1 V.heap.size a len cap _ S0.out (by omega)).mono ?_
  rintro e w1 ⟨u, ps, rfl, hl, hr, s1, hg1⟩
  have S1 := Lib.hid s1
  have R1 := Lib.hid hr
  have HL := Lib.hid hl
  have P1 := Lib.hid (block_src P0.out hPB hg1)
  have B1 := Lib.hid (below_on B0.out hg1 hBB)
  obtain ⟨au, cu, eu, _⟩ := prow_at hr
  subst eu
  clear s1 hg1 hr hl
  go_wp2_with fail
  refine (pick_keep 100 S1.out (by omega) (by decide) (by decide)).mono ?_
  rintro e w2 ⟨x, rfl, x0, x1, s_w2, g_w2⟩
  have S2 := Lib.hid s_w2
  have R2 := Lib.hid (row_src R1.out hWz g_w2)
  have P2 := Lib.hid (block_src P1.out hPB g_w2)
  have B2 := Lib.hid (below_on B1.out g_w2 hBB)
  clear s_w2 g_w2
  go_wp2_with fail
  refine (pick_keep 100 S2.out (by omega) (by decide) (by decide)).mono ?_
  rintro e w3 ⟨y, rfl, y0, y1, s_w3, g_w3⟩
  have S3 := Lib.hid s_w3
  have R3 := Lib.hid (row_src R2.out hWz g_w3)
  have P3 := Lib.hid (block_src P2.out hPB g_w3)
  have B3 := Lib.hid (below_on B2.out g_w3 hBB)
  clear s_w3 g_w3
  have PY := Lib.hid (heap_alloc_new w3 (.cells #[.int .i64 x, .int .i64 y] 60))
  have SS := Lib.hid (st_alloc S3.out (.cells #[.int .i64 x, .int .i64 y] 60))
  have RX := Lib.hid (World.ownsRow.alloc R3.out (.cells #[.int .i64 x, .int .i64 y] 60))
  have BS := Lib.hid (B3.out.alloc B3.out.size (.cells #[.int .i64 x, .int .i64 y] 60))
  have hM : W1.heap.size ≤ w3.heap.size := S3.out.2.1.size
  have hMB : w3.heap.size ≠ V.heap.size := by omega
  have QS := Lib.hid ((Below.heap_alloc w3 (.cells #[.int .i64 x, .int .i64 y] 60) w.heap.size (Array.getElem?_eq_some_iff.1 P3.out).1).trans P3.out)
  have hMr : w.heap.size ≠ w3.heap.size := by omega
  clear P3
  have NE := Lib.hid (show (Value.slice au ps.length cu).ownBlock = none ∨ (Value.slice au ps.length cu).ownBlock ≠ some w3.heap.size from by
    cases hv : (Value.slice au ps.length cu).ownBlock with
    | none => exact .inl rfl
    | some k => exact .inr (fun e => by cases e; exact Nat.lt_irrefl _ (World.ownsRow.lt R3.out _ hv).2))
  clear S3 R3 B3
  go_wp2_with fail
  generalize w3.alloc (.cells #[.int .i64 x, .int .i64 y] 60) = WS at *
  refine (one_keep 10 SS.out (by omega) (by decide) (by decide)).mono ?_
  rintro e w4 ⟨b, rfl, s_w4, g_w4⟩
  have S4 := Lib.hid s_w4
  have R4 := Lib.hid (row_src RX.out hWz g_w4)
  have P4 := Lib.hid (block_src PY.out hMB g_w4)
  have B4 := Lib.hid (below_on BS.out g_w4 hBB)
  have Q4 := Lib.hid (block_src QS.out hPB g_w4)
  clear s_w4 g_w4
  cases b with
  | false =>
    obtain ⟨z1, r0, r1, f0, f1⟩ := two_cellsP P4.out
    obtain ⟨z2, t0, t1, e0, e1⟩ := two_cellsP Q4.out
    obtain ⟨p0, p1, p2⟩ := put2 Q4.out (.int .i64 x) (.int .i64 y)
    have GG := Lib.hid p2
    clear p2
    go_wp2
    go_region_with (fail)
    go_wp2
    exact bodyPost_ret (v := .tuple #[.slice au ps.length cu, .agg #[.int .i64 x, .int .i64 y]]) (by simp [results, Try.results49, go_sem, p0, p1]) rfl ⟨_, ps, _, _, rfl, HL.out, prow_up (row_src R4.out hPW (grow_drew GG.out)) (Nat.le_of_lt hPW), below_on B4.out (grow_drew GG.out) (Nat.le_refl _)⟩
  | true =>
    go_wp2_with fail
    refine (among_keep (n := 4) (fun _ => True) (st_alloc S4.out _) (by omega) (by decide) (by decide) (list_of rfl (by intro i hi; rcases i with _ | _ | _ | _ | i <;> first | exact ⟨_, rfl, trivial⟩ | omega)) (by have := (S4.out).2.1.size; omega)).mono ?_
    rintro e w5 ⟨z, rfl, _, s5, g5⟩
    have S5 := Lib.hid s5
    have R5 := Lib.hid (row_src (World.ownsRow.alloc R4.out _) hWz g5)
    have P5 := Lib.hid (block_src ((Below.heap_alloc w4 _ w3.heap.size (Array.getElem?_eq_some_iff.1 P4.out).1).trans P4.out) hMB g5)
    have B5 := Lib.hid (below_on (B4.out.alloc B4.out.size _) g5 hBB)
    have Q5 := Lib.hid (block_src ((Below.heap_alloc w4 _ w.heap.size (Array.getElem?_eq_some_iff.1 Q4.out).1).trans Q4.out) hPB g5)
    clear s5 g5
    obtain ⟨z1, r0, r1, f0, f1⟩ := two_cellsP P5.out
    have P6 := Lib.hid (show (w5.setCell ⟨w3.heap.size, 0, none⟩ (.int .i64 z)).heap[w3.heap.size]? = some (.cells #[.int .i64 z, .int .i64 y] 60 (0, 0)) from heap_setCell_same w5 w3.heap.size 0 _ _ (.int .i64 z) P5.out)
    have G6 := Lib.hid (Lib.grownBy_setB (World.grownBy.refl w5 (some w3.heap.size)) 0 (.int .i64 z))
    have B6 := Lib.hid (below_on B5.out G6.out (by omega))
    obtain ⟨z2, q0, q1, _, _⟩ := two_cellsP P6.out
    have Q6 := Lib.hid (block_src Q5.out hMr G6.out)
    obtain ⟨z3, t0, t1, e0, e1⟩ := two_cellsP Q6.out
    obtain ⟨p0, p1, p2⟩ := put2 Q6.out (.int .i64 z) (.int .i64 y)
    have GG := Lib.hid p2
    clear p2
    have R6 := Lib.hid (show PRow (w5.setCell ⟨w3.heap.size, 0, none⟩ (.int .i64 z)) W1.heap.size (.slice au ps.length cu) ps from World.ownsRow.kept R5.out G6.out NE.out)
    go_wp2
    go_region_with (fail)
    go_wp2
    exact bodyPost_ret (v := .tuple #[.slice au ps.length cu, .agg #[.int .i64 z, .int .i64 y]]) (by simp [results, Try.results49, go_sem, p0, p1]) rfl ⟨_, ps, _, _, rfl, HL.out, prow_up (row_src R6.out hPW (grow_drew GG.out)) (Nat.le_of_lt hPW), below_on B6.out (grow_drew GG.out) (Nat.le_refl _)⟩

end Go.Proofs.Ytemhmejjmhbfdaa.srcP
