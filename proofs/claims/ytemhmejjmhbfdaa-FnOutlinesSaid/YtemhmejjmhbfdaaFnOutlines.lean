/- FnOutlines answers true for every list of bytes. -/
import Derived.Test.YtemhmejjmhbfdaaJoinT2
import Derived.Test.YtemhmejjmhbfdaaJoinS4
import Derived.Test.YtemhmejjmhbfdaaJoinI4
import Derived.Test.YtemhmejjmhbfdaaJoinI7
import Derived.Test.YtemhmejjmhbfdaaOutM
import Derived.Test.YtemhmejjmhbfdaaDraw9
import Derived.Test.YtemhmejjmhbfdaaF6
namespace Go.Proofs.Ytemhmejjmhbfdaa.outlines
open Go.ChangeShapes Go.WideShapes Go.ChangeAt Go.RowKit Go.Proofs.Ytemhmejjmhbfdaa.spots Go.Proofs.Ytemhmejjmhbfdaa.sines Go.Proofs.Ytemhmejjmhbfdaa.src Go.Proofs.Ytemhmejjmhbfdaa.srcP Go.Proofs.Ytemhmejjmhbfdaa.a2 Go.Proofs.Ytemhmejjmhbfdaa.irows Go.Proofs.Ytemhmejjmhbfdaa.pairsPlace Go.Proofs.Ytemhmejjmhbfdaa.ctab
set_option linter.unusedSimpArgs false
set_option linter.unusedVariables false

theorem sizeA_abs (ps : List Pl) : absI (areaI ps) = sizeA ps := by unfold absI sizeA; rfl
theorem areaV_bounds (ps : List Pl) : -100000000 ≤ areaV ps ∧ areaV ps ≤ 100000000 := by
  unfold areaV
  split
  · rename_i h
    exact areaI_bounds (codeG_of h).1
  · omega
theorem closed_facts {ps : List Pl} (h : codeG ps = 0) : code1 ps = 0 ∧ isV ps = true := by
  obtain ⟨h1, h2⟩ := codeG_of h
  simp [code1, isV, h1, h2]
theorem open_facts {ps : List Pl} (h : ¬ codeG ps = 0) : isV ps = false := by
  unfold isV
  unfold codeG at h
  cases h1 : okC ps with
  | false => rfl
  | true =>
    cases h2 : closedB ps with
    | false => rfl
    | true => simp [h1, h2] at h
theorem moved_facts {ps : List Pl} {x y : Int} (h : codeM ps x y = 0) : areaV (moveL ps x y) = areaV ps ∧ codeG (moveL ps x y) = codeG ps := by
  obtain ⟨h1, h2⟩ := code_move h
  refine ⟨?_, h1⟩
  unfold areaV
  rw [h1]
  by_cases hc : codeG ps = 0
  · rw [if_pos hc, if_pos hc, h2 hc]
  · rw [if_neg hc, if_neg hc]
theorem newP (w : World) (x y : Value) (T : TypeId) : (w.alloc (.cells #[x, y] T)).cell? ⟨w.heap.size, 0, none⟩ = some x ∧ (w.alloc (.cells #[x, y] T)).cell? ⟨w.heap.size, 1, none⟩ = some y ∧ Below w.heap.size w (w.alloc (.cells #[x, y] T)) ∧ w.heap.size < (w.alloc (.cells #[x, y] T)).heap.size :=
  ⟨by simp, by simp, (Below.refl _ _).alloc (Nat.le_refl _) _, by simp⟩
theorem catk {w w' : World} {v : Value} {rows : List (List Pl)} (h : CAt w w.heap.size v rows) (hb : Below w.heap.size w w') : CAt w' w'.heap.size v rows := cat_up (cat_keep h hb) hb.size
theorem keepQ {W W' : World} {n : Nat} {a b : Value} (hb : Below W.heap.size W W') (hn : n < W.heap.size) (h1 : W.cell? ⟨n, 0, none⟩ = some a) (h2 : W.cell? ⟨n, 1, none⟩ = some b) : W'.cell? ⟨n, 0, none⟩ = some a ∧ W'.cell? ⟨n, 1, none⟩ = some b ∧ n < W'.heap.size :=
  ⟨(hb.cell (p := ⟨n, 0, none⟩) hn).trans h1, (hb.cell (p := ⟨n, 1, none⟩) hn).trans h2, Nat.lt_of_lt_of_le hn hb.size⟩
theorem area_of {ps : List Pl} (h : codeG ps = 0) : areaV ps = areaI ps := by unfold areaV; rw [if_pos h]
theorem left_all {ps : List Pl} (h : codeG ps = 0) : codeG (leftL ps) = 0 ∧ areaV (leftL ps) = absI (areaV ps) := by
  obtain ⟨h1, h2⟩ := left_facts h
  refine ⟨h1, ?_⟩
  rw [area_of h1, area_of h, h2, sizeA_abs]
theorem best_all {rows : List (List Pl)} (h : codeB9 rows = 0) : ∃ (b : Nat) (v : Int), bestV rows = (b : Int) ∧ ∃ hb : b < rows.length, codeG rows[b] = 0 ∧ areaV rows[b] = v ∧ ∀ j, (hj : j < rows.length) → codeG rows[j] = 0 → absI (areaV rows[j]) ≤ absI v := by
  obtain ⟨b, h1, h2, h3, h4⟩ := best_facts h
  refine ⟨b, _, h1, h2, h3, rfl, fun j hj hc => ?_⟩
  rw [area_of hc, area_of h3, sizeA_abs, sizeA_abs]
  exact h4 j hj hc
theorem sameC (v u : Value) (ps : List Pl) (w : World) (hv : PAt w w.heap.size v ps) (hu : PAt w w.heap.size u ps) (hl : ps.length ≤ 1048576) :
    Calls Try.prog 57 #[v, u] w fun e w' => e = .returned (.bool true) ∧ Below w.heap.size w w' := by
  refine (specSameChain_any v u ps ps w hv hu hl hl).mono ?_
  rw [decide_eq_true rfl]
  exact fun e w' h => h
set_option maxRecDepth 100000 in
set_option maxHeartbeats 16000000 in
theorem walk (a0 : Option Addr) (l0 c0 : Nat) (z0 : List Int) (w : World) (r0 : IsRow .u8 w a0 l0 c0 z0) :
    Calls Try.prog 5 #[.slice a0 l0 c0] w fun e w' => e = .returned (.bool true) ∧ Below w.heap.size w w' := by
  have hl0 := row_len r0
  by_cases hlong : 4096 < l0
  · have hd : decide (4096 < l0) = true := decide_eq_true hlong
    clear r0 hlong
    go_enter Try.func5, Try.ntmps5
    go_wp2_with fail
    refine (f6big_any _ _ _ _ hl0).mono ?_
    rw [hd]
    rintro e w' ⟨rfl, rfl⟩
    go_wp2
    go_ret
    exact ⟨rfl, Below.refl _ _⟩
  have hd : decide (4096 < l0) = false := decide_eq_false hlong
  have B0 := Lib.hid (bytes_of r0 (by omega) (fun b o v h => World.block_lt_of_cell? _ _ h))
  have HB0 := Lib.hid (Below.refl w.heap.size w)
  clear r0
  go_enter Try.func5, Try.ntmps5
  go_wp2_with fail
  refine (f6big_any _ _ _ _ hl0).mono ?_
  rw [hd]
  rintro e w' ⟨rfl, rfl⟩
  clear hl0 hlong hd
  go_wp2_with fail
  refine (DrawTwiceArea_any w a0 l0 c0 (bytes_up B0.out HB0.out)).mono ?_
  rintro e w1 ⟨u1, PS, rfl, hl, hr, hb⟩
  have HB2 := Lib.hid (HB0.out.trans (hb.mono HB0.out.size))
  have U0 := Lib.hid hr
  clear hb hr
  have LU := Lib.hid (show PS.length ≤ 1048576 by omega)
  clear hl
  obtain ⟨V1, HV1⟩ : ∃ v, Hid (areaV PS = v) := ⟨_, Lib.hid rfl⟩
  obtain ⟨C1, HC1⟩ : ∃ v, Hid (codeG PS = v) := ⟨_, Lib.hid rfl⟩
  obtain ⟨LL, HLL⟩ : ∃ v, Hid (leftL PS = v) := ⟨_, Lib.hid rfl⟩
  obtain ⟨IS, HIS⟩ : ∃ v, Hid (isV PS = v) := ⟨_, Lib.hid rfl⟩
  obtain ⟨N1, HN1⟩ : ∃ v, Hid (code1 PS = v) := ⟨_, Lib.hid rfl⟩
  have LLL := Lib.hid (show LL.length ≤ 1048576 from by rw [← HLL.out]; have h1 := leftL_len PS; have h2 := LU.out; omega)
  go_wp2_with fail
  refine (implTwiceArea_any u1 PS w1 (prow_at U0.out) LU.out).mono ?_
  rw [HV1.out, HC1.out]
  rintro e w3 ⟨rfl, hb⟩
  have HB4 := Lib.hid (HB2.out.trans (hb.mono HB2.out.size))
  have U4 := Lib.hid (prow_keep U0.out hb)
  clear hb U0 HB2
  go_wp2_with fail
  refine (specTwiceArea_any u1 PS w3 (prow_at U4.out) LU.out).mono ?_
  rw [HV1.out, HC1.out]
  rintro e w5 ⟨rfl, hb⟩
  have HB6 := Lib.hid (HB4.out.trans (hb.mono HB4.out.size))
  have U6 := Lib.hid (prow_keep U4.out hb)
  clear hb U4 HB4
  go_wp2_with fail
  refine (implLeftTurned_any u1 PS w5 (prow_at U6.out) LU.out).mono ?_
  rw [HC1.out, HLL.out]
  rintro e w7 ⟨x1, rfl, hr, hb⟩
  have HB8 := Lib.hid (HB6.out.trans (hb.mono HB6.out.size))
  have U8 := Lib.hid (prow_keep U6.out hb)
  have X0 := Lib.hid hr
  clear hb hr U6 HB6
  go_wp2_with fail
  refine (specLeftTurned_any u1 PS w7 (prow_at U8.out) LU.out).mono ?_
  rw [HC1.out, HLL.out]
  rintro e w9 ⟨x2, rfl, hr, hb⟩
  have HB10 := Lib.hid (HB8.out.trans (hb.mono HB8.out.size))
  have U10 := Lib.hid (prow_keep U8.out hb)
  have X10 := Lib.hid (prow_keep X0.out hb)
  have Z0 := Lib.hid hr
  clear hb hr U8 X0 HB8
  go_wp2_with fail
  refine (DrawMoveChain_any w9 a0 l0 c0 (bytes_up B0.out HB10.out)).mono ?_
  rintro e w11 ⟨a1, AS, dx, dy, rfl, hl, hr, hb⟩
  have HB12 := Lib.hid (HB10.out.trans (hb.mono HB10.out.size))
  have U12 := Lib.hid (prow_keep U10.out hb)
  have X12 := Lib.hid (prow_keep X10.out hb)
  have Z12 := Lib.hid (prow_keep Z0.out hb)
  have A0 := Lib.hid hr
  clear hb hr U10 X10 Z0 HB10
  have LA := Lib.hid (show AS.length ≤ 1048576 by omega)
  clear hl
  obtain ⟨C3, HC3⟩ : ∃ v, Hid (codeM AS dx dy = v) := ⟨_, Lib.hid rfl⟩
  obtain ⟨ML, HML⟩ : ∃ v, Hid (moveL AS dx dy = v) := ⟨_, Lib.hid rfl⟩
  have LM := Lib.hid (show ML.length ≤ 1048576 from by rw [← HML.out]; have h1 := moveL_len AS dx dy; have h2 := LA.out; omega)
  go_wp2_with fail
  refine (implMoveChain_any a1 AS dx dy w11 (prow_at A0.out) LA.out).mono ?_
  rw [HC3.out, HML.out]
  rintro e w13 ⟨y1, rfl, hr, hb⟩
  have HB14 := Lib.hid (HB12.out.trans (hb.mono HB12.out.size))
  have U14 := Lib.hid (prow_keep U12.out hb)
  have X14 := Lib.hid (prow_keep X12.out hb)
  have Z14 := Lib.hid (prow_keep Z12.out hb)
  have A14 := Lib.hid (prow_keep A0.out hb)
  have Y0 := Lib.hid hr
  clear hb hr U12 X12 Z12 A0 HB12
  go_wp2_with fail
  refine (specMoveChain_any a1 AS dx dy w13 (prow_at A14.out) LA.out).mono ?_
  rw [HC3.out, HML.out]
  rintro e w15 ⟨y2, rfl, hr, hb⟩
  have HB16 := Lib.hid (HB14.out.trans (hb.mono HB14.out.size))
  have U16 := Lib.hid (prow_keep U14.out hb)
  have X16 := Lib.hid (prow_keep X14.out hb)
  have Z16 := Lib.hid (prow_keep Z14.out hb)
  have A16 := Lib.hid (prow_keep A14.out hb)
  have Y16 := Lib.hid (prow_keep Y0.out hb)
  have M0 := Lib.hid hr
  clear hb hr U14 X14 Z14 A14 Y0 HB14
  go_wp2_with fail
  refine (DrawInsideOf_any w15 a0 l0 c0 (bytes_up B0.out HB16.out)).mono ?_
  rintro e w17 ⟨b1, BS, px, py, rfl, hl, hr, hb⟩
  have HB18 := Lib.hid (HB16.out.trans (hb.mono HB16.out.size))
  have U18 := Lib.hid (prow_keep U16.out hb)
  have X18 := Lib.hid (prow_keep X16.out hb)
  have Z18 := Lib.hid (prow_keep Z16.out hb)
  have A18 := Lib.hid (prow_keep A16.out hb)
  have Y18 := Lib.hid (prow_keep Y16.out hb)
  have M18 := Lib.hid (prow_keep M0.out hb)
  have Q0 := Lib.hid hr
  clear hb hr U16 X16 Z16 A16 Y16 M0 HB16
  have LB := Lib.hid (show BS.length ≤ 1048576 by omega)
  clear hl
  obtain ⟨C5, HC5⟩ : ∃ v, Hid (codeN BS (px, py) = v) := ⟨_, Lib.hid rfl⟩
  obtain ⟨I5, HI5⟩ : ∃ v, Hid (insideV BS (px, py) = v) := ⟨_, Lib.hid rfl⟩
  obtain ⟨d1, d2, hn, d3⟩ := newP w17 (.int .i64 px) (.int .i64 py) 60
  have HB19 := Lib.hid (HB18.out.trans (hn.mono HB18.out.size))
  have U19 := Lib.hid (prow_keep U18.out hn)
  have X19 := Lib.hid (prow_keep X18.out hn)
  have Z19 := Lib.hid (prow_keep Z18.out hn)
  have A19 := Lib.hid (prow_keep A18.out hn)
  have Y19 := Lib.hid (prow_keep Y18.out hn)
  have M19 := Lib.hid (prow_keep M18.out hn)
  have Q19 := Lib.hid (prow_keep Q0.out hn)
  clear hn
  go_wp2_with fail
  generalize w17.alloc (.cells #[.int .i64 px, .int .i64 py] 60) = WP at *
  refine (implInsideOf_any b1 BS px py WP (prow_at Q19.out) LB.out).mono ?_
  rw [HC5.out, HI5.out]
  rintro e WQ ⟨rfl, hb⟩
  have HB21 := Lib.hid (HB19.out.trans (hb.mono HB19.out.size))
  have U21 := Lib.hid (prow_keep U19.out hb)
  have X21 := Lib.hid (prow_keep X19.out hb)
  have Z21 := Lib.hid (prow_keep Z19.out hb)
  have A21 := Lib.hid (prow_keep A19.out hb)
  have Y21 := Lib.hid (prow_keep Y19.out hb)
  have M21 := Lib.hid (prow_keep M19.out hb)
  have Q21 := Lib.hid (prow_keep Q19.out hb)
  obtain ⟨d1, d2, d3⟩ := keepQ hb d3 d1 d2
  clear hb U19 X19 Z19 A19 Y19 M19 Q19 HB19
  go_wp2_with fail
  refine (specInsideOf_any b1 BS px py WQ (prow_at Q21.out) LB.out).mono ?_
  rw [HC5.out, HI5.out]
  rintro e w22 ⟨rfl, hb⟩
  have HB23 := Lib.hid (HB21.out.trans (hb.mono HB21.out.size))
  have U23 := Lib.hid (prow_keep U21.out hb)
  have X23 := Lib.hid (prow_keep X21.out hb)
  have Z23 := Lib.hid (prow_keep Z21.out hb)
  have A23 := Lib.hid (prow_keep A21.out hb)
  have Y23 := Lib.hid (prow_keep Y21.out hb)
  have M23 := Lib.hid (prow_keep M21.out hb)
  have Q23 := Lib.hid (prow_keep Q21.out hb)
  clear hb U21 X21 Z21 A21 Y21 M21 Q21 HB21
  clear d1 d2 d3 Q23 LB HC5 HI5
  go_wp2_with fail
  refine (DrawGreatestOutline_any w22 a0 l0 c0 (bytes_up B0.out HB23.out)).mono ?_
  rintro e w24 ⟨u7, ROWS, rfl, hl, hall, hc, hb⟩
  have HB25 := Lib.hid (HB23.out.trans (hb.mono HB23.out.size))
  have U25 := Lib.hid (prow_keep U23.out hb)
  have X25 := Lib.hid (prow_keep X23.out hb)
  have Z25 := Lib.hid (prow_keep Z23.out hb)
  have A25 := Lib.hid (prow_keep A23.out hb)
  have Y25 := Lib.hid (prow_keep Y23.out hb)
  have M25 := Lib.hid (prow_keep M23.out hb)
  have G0 := Lib.hid hc
  clear hb hc U23 X23 Z23 A23 Y23 M23 HB23
  have LR := Lib.hid (show ROWS.length ≤ 1048576 by omega)
  have LE := Lib.hid (show ∀ j, (hj : j < ROWS.length) → ROWS[j].length ≤ 1048576 from fun j hj => by have := hall _ (List.getElem_mem hj); omega)
  have LS := Lib.hid hl
  clear hl hall
  obtain ⟨al, cl, el, _⟩ := G0.out
  subst el
  obtain ⟨V7, HV7⟩ : ∃ v, Hid (bestV ROWS = v) := ⟨_, Lib.hid rfl⟩
  obtain ⟨C7, HC7⟩ : ∃ v, Hid (codeB9 ROWS = v) := ⟨_, Lib.hid rfl⟩
  go_wp2_with fail
  refine (implGreatestOutline_any (.slice al ROWS.length cl) ROWS w24 G0.out LR.out LE.out).mono ?_
  rw [HV7.out, HC7.out]
  rintro e w26 ⟨rfl, hb⟩
  have HB27 := Lib.hid (HB25.out.trans (hb.mono HB25.out.size))
  have U27 := Lib.hid (prow_keep U25.out hb)
  have X27 := Lib.hid (prow_keep X25.out hb)
  have Z27 := Lib.hid (prow_keep Z25.out hb)
  have A27 := Lib.hid (prow_keep A25.out hb)
  have Y27 := Lib.hid (prow_keep Y25.out hb)
  have M27 := Lib.hid (prow_keep M25.out hb)
  have G27 := Lib.hid (catk G0.out hb)
  clear hb U25 X25 Z25 A25 Y25 M25 G0 HB25
  go_wp2_with fail
  refine (specGreatestOutline_any (.slice al ROWS.length cl) ROWS w26 G27.out LR.out LE.out).mono ?_
  rw [HV7.out, HC7.out]
  rintro e w28 ⟨rfl, hb⟩
  have HB29 := Lib.hid (HB27.out.trans (hb.mono HB27.out.size))
  have U29 := Lib.hid (prow_keep U27.out hb)
  have X29 := Lib.hid (prow_keep X27.out hb)
  have Z29 := Lib.hid (prow_keep Z27.out hb)
  have A29 := Lib.hid (prow_keep A27.out hb)
  have Y29 := Lib.hid (prow_keep Y27.out hb)
  have M29 := Lib.hid (prow_keep M27.out hb)
  have G29 := Lib.hid (catk G27.out hb)
  clear hb U27 X27 Z27 A27 Y27 M27 G27 HB27
  go_wp2_with fail
  refine (implIsClosed_any u1 PS w28 (prow_at U29.out) LU.out).mono ?_
  rw [HIS.out, HN1.out]
  rintro e w30 ⟨rfl, hb⟩
  have HB31 := Lib.hid (HB29.out.trans (hb.mono HB29.out.size))
  have U31 := Lib.hid (prow_keep U29.out hb)
  have X31 := Lib.hid (prow_keep X29.out hb)
  have Z31 := Lib.hid (prow_keep Z29.out hb)
  have A31 := Lib.hid (prow_keep A29.out hb)
  have Y31 := Lib.hid (prow_keep Y29.out hb)
  have M31 := Lib.hid (prow_keep M29.out hb)
  have G31 := Lib.hid (catk G29.out hb)
  clear hb U29 X29 Z29 A29 Y29 M29 G29 HB29
  go_wp2_with fail
  refine (specIsClosed_any u1 PS w30 (prow_at U31.out) LU.out).mono ?_
  rw [HIS.out, HN1.out]
  rintro e w32 ⟨rfl, hb⟩
  have HB33 := Lib.hid (HB31.out.trans (hb.mono HB31.out.size))
  have U33 := Lib.hid (prow_keep U31.out hb)
  have X33 := Lib.hid (prow_keep X31.out hb)
  have Z33 := Lib.hid (prow_keep Z31.out hb)
  have A33 := Lib.hid (prow_keep A31.out hb)
  have Y33 := Lib.hid (prow_keep Y31.out hb)
  have M33 := Lib.hid (prow_keep M31.out hb)
  have G33 := Lib.hid (catk G31.out hb)
  clear hb U31 X31 Z31 A31 Y31 M31 G31 HB31
  clear U33
  have F1 := Lib.hid (show C1 = 0 → N1 = 0 ∧ IS = true ∧ codeG LL = 0 ∧ areaV LL = absI V1 from fun h => by rw [← HN1.out, ← HIS.out, ← HLL.out, ← HV1.out]; have h2 := HC1.out.trans h; obtain ⟨a, b⟩ := closed_facts h2; obtain ⟨c, d⟩ := left_all h2; exact ⟨a, b, c, d⟩)
  have F2 := Lib.hid (show ¬ C1 = 0 → IS = false from fun h => by rw [← HIS.out]; exact open_facts (by rw [HC1.out]; exact h))
  have F3 := Lib.hid (show C3 = 0 → areaV ML = areaV AS ∧ codeG ML = codeG AS from fun h => by rw [← HML.out]; exact moved_facts (HC3.out.trans h))
  have F7 := Lib.hid (show C7 = 0 → ∃ (b : Nat) (vb : Int), V7 = (b : Int) ∧ ∃ hb : b < ROWS.length, codeG ROWS[b] = 0 ∧ areaV ROWS[b] = vb ∧ ∀ j, (hj : j < ROWS.length) → codeG ROWS[j] = 0 → absI (areaV ROWS[j]) ≤ absI vb from fun h => by rw [← HV7.out]; exact best_all (HC7.out.trans h))
  have BV := Lib.hid (show -100000000 ≤ V1 ∧ V1 ≤ 100000000 from by rw [← HV1.out]; exact areaV_bounds PS)
  clear HV1 HC1 HLL HIS HN1 HML HC3 HV7 HC7 LU
  go_wp2_with fail
  refine (sameC x1 x2 LL w32 (prow_at X33.out) (prow_at Z33.out) LLL.out).mono ?_
  rintro e w34 ⟨rfl, hb⟩
  have HB35 := Lib.hid (HB33.out.trans (hb.mono HB33.out.size))
  have X35 := Lib.hid (prow_keep X33.out hb)
  have Z35 := Lib.hid (prow_keep Z33.out hb)
  have A35 := Lib.hid (prow_keep A33.out hb)
  have Y35 := Lib.hid (prow_keep Y33.out hb)
  have M35 := Lib.hid (prow_keep M33.out hb)
  have G35 := Lib.hid (catk G33.out hb)
  clear hb X33 Z33 A33 Y33 M33 G33 HB33
  clear Z35
  go_wp2_with fail
  refine (sameC y1 y2 ML w34 (prow_at Y35.out) (prow_at M35.out) LM.out).mono ?_
  rintro e w36 ⟨rfl, hb⟩
  have HB37 := Lib.hid (HB35.out.trans (hb.mono HB35.out.size))
  have X37 := Lib.hid (prow_keep X35.out hb)
  have A37 := Lib.hid (prow_keep A35.out hb)
  have Y37 := Lib.hid (prow_keep Y35.out hb)
  have M37 := Lib.hid (prow_keep M35.out hb)
  have G37 := Lib.hid (catk G35.out hb)
  clear hb X35 A35 Y35 M35 G35 HB35
  clear M37
  by_cases c1 : C1 = 0
  · obtain ⟨hN, hI, hG, hV⟩ := F1.out c1
    subst c1 hN hI
    have VG := Lib.hid hG
    have VV := Lib.hid hV
    clear hG hV F1 F2
    by_cases c3 : C3 = 0
    · obtain ⟨hA, hG⟩ := F3.out c3
      subst c3
      have MA := Lib.hid hA
      have MG := Lib.hid hG
      clear hA hG F3
      by_cases c7 : C7 = 0
      · obtain ⟨b, vb, hV, hb, hG, hvb, hM⟩ := F7.out c7
        subst c7 hV
        have BM := Lib.hid hM
        have BG := Lib.hid hG
        have Hvb := Lib.hid hvb
        clear hM hG hvb F7
        obtain ⟨v3, Hv3⟩ : ∃ v, Hid (areaV AS = v) := ⟨_, Lib.hid rfl⟩
        obtain ⟨g3, Hg3⟩ : ∃ v, Hid (codeG AS = v) := ⟨_, Lib.hid rfl⟩
        go_wp2_with fail
        refine (specTwiceArea_any a1 AS w36 (prow_at A37.out) LA.out).mono ?_
        rw [Hv3.out, Hg3.out]
        rintro e w38 ⟨rfl, hb⟩
        have HB39 := Lib.hid (HB37.out.trans (hb.mono HB37.out.size))
        have X39 := Lib.hid (prow_keep X37.out hb)
        have A39 := Lib.hid (prow_keep A37.out hb)
        have Y39 := Lib.hid (prow_keep Y37.out hb)
        have G39 := Lib.hid (catk G37.out hb)
        clear hb X37 A37 Y37 G37 HB37
        go_wp2_with fail
        refine (implTwiceArea_any y1 ML w38 (prow_at Y39.out) LM.out).mono ?_
        rw [MA.out, MG.out, Hv3.out, Hg3.out]
        rintro e w40 ⟨rfl, hb⟩
        have HB41 := Lib.hid (HB39.out.trans (hb.mono HB39.out.size))
        have X41 := Lib.hid (prow_keep X39.out hb)
        have A41 := Lib.hid (prow_keep A39.out hb)
        have Y41 := Lib.hid (prow_keep Y39.out hb)
        have G41 := Lib.hid (catk G39.out hb)
        clear hb X39 A39 Y39 G39 HB39
        obtain ⟨ga, og, xb, rfl, hgb, cb, xp, _⟩ : ∃ ga og xb, al = some ⟨ga, og, none⟩ ∧ ga < w40.heap.size ∧ w40.cell? ⟨ga, og + b, none⟩ = some xb ∧ PAt w40 w40.heap.size xb (ROWS[b]'hb) ∧ CapOk xb := by
          obtain ⟨a2, c2, e2, h2⟩ := G41.out
          cases e2
          exact h2 b hb
        have XP := Lib.hid xp
        obtain ⟨ax, cx, rfl, _⟩ := xp
        have b0 : 0 ≤ (b : Int) := by omega
        have b1 : (b : Int) < (ROWS.length : Int) := by omega
        have BB := Lib.hid (show -100000000 ≤ vb ∧ vb ≤ 100000000 from by rw [← Hvb.out]; exact areaV_bounds _)
        go_wp2_with fail
        refine (specTwiceArea_any (.slice ax (ROWS[b]'hb).length cx) (ROWS[b]'hb) w40 XP.out (LE.out b hb)).mono ?_
        rw [Hvb.out, BG.out]
        rintro e w42 ⟨rfl, hb⟩
        have HB43 := Lib.hid (HB41.out.trans (hb.mono HB41.out.size))
        have X43 := Lib.hid (prow_keep X41.out hb)
        have A43 := Lib.hid (prow_keep A41.out hb)
        have Y43 := Lib.hid (prow_keep Y41.out hb)
        have G43 := Lib.hid (catk G41.out hb)
        clear hb X41 A41 Y41 G41 HB41
        clear cb XP b0 b1 hgb
        go_wp2
        go_loopw [40] (fun i wr => ∃ j : Nat, j ≤ ROWS.length ∧ i = .int .i64 (j : Int) ∧ Below w42.heap.size w42 wr) (fun i _ => ROWS.length - (intOf i).toNat)
        case atStart => exact ⟨0, Nat.zero_le _, rfl, Below.refl _ _⟩
        case round =>
          obtain ⟨j, hj, rfl, hbr⟩ := hrel
          have HW := Lib.hid hbr
          have hsz := hbr.size
          have Xr := Lib.hid (prow_keep X43.out hbr)
          have Ar := Lib.hid (prow_keep A43.out hbr)
          have Yr := Lib.hid (prow_keep Y43.out hbr)
          have Gr := Lib.hid (catk G43.out hbr)
          have HBr := Lib.hid (HB43.out.trans (hbr.mono HB43.out.size))
          clear hbr
          by_cases hlt : j < ROWS.length
          · obtain ⟨bj, oj, xj, ej, hgj, cj, xpj, _⟩ : ∃ ga2 og2 xb, some (⟨ga, og, none⟩ : Addr) = some ⟨ga2, og2, none⟩ ∧ ga2 < wr.heap.size ∧ wr.cell? ⟨ga2, og2 + j, none⟩ = some xb ∧ PAt wr wr.heap.size xb (ROWS[j]'hlt) ∧ CapOk xb := by
              obtain ⟨a2, c2, e2, h2⟩ := Gr.out
              cases e2
              exact h2 j hlt
            cases ej
            have XJ := Lib.hid xpj
            obtain ⟨ay, cy, rfl, _⟩ := xpj
            have jL : (ROWS.length : Int) ≤ 1048576 := by have := LR.out; omega
            have j0 : 0 ≤ (j : Int) := by omega
            have j1 : (j : Int) < (ROWS.length : Int) := by omega
            have TJ := Lib.hid (implTwiceArea_any (.slice ay (ROWS[j]'hlt).length cy) (ROWS[j]'hlt) wr XJ.out (LE.out j hlt))
            have MJ := Lib.hid (BM.out j hlt)
            have BJ := Lib.hid (areaV_bounds (ROWS[j]'hlt))
            generalize hvj : areaV (ROWS[j]'hlt) = vj at *
            generalize hgjj : codeG (ROWS[j]'hlt) = gj at *
            clear hvj hgjj XJ
            by_cases g0 : gj = 0
            · have mle := MJ.out g0
              subst g0
              have A4 := Lib.hid (fun W => f6abs_any vj W (by have := BJ.out; omega) (by have := BJ.out; omega))
              have A5 := Lib.hid (fun W => f6abs_any vb W (by have := BB.out; omega) (by have := BB.out; omega))
              generalize absI vj = m4 at mle A4
              generalize absI vb = m5 at mle A5
              have mle' : decide (m5 < m4) = false := by simp; omega
              go_wp2_with fail
              refine TJ.out.mono ?_
              rintro e wn ⟨rfl, hbn⟩
              have HWN := Lib.hid (HW.out.trans (hbn.mono hsz))
              clear hbn
              go_wp2_with (first | (go_at_call 31; first | (refine (A4.out _).mono ?_; rintro e w' ⟨rfl, rfl⟩) | (refine (A5.out _).mono ?_; rintro e w' ⟨rfl, rfl⟩)))
              go_roundw
              case rel => exact ⟨j + 1, by omega, by go_num, HWN.out⟩
              case measure => simp [intOf]; omega
            · have g0' : (gj == 0) = false := by simpa using g0
              go_wp2_with fail
              refine TJ.out.mono ?_
              rintro e wn ⟨rfl, hbn⟩
              have HWN := Lib.hid (HW.out.trans (hbn.mono hsz))
              clear hbn
              go_wp2
              go_roundw
              case rel => exact ⟨j + 1, by omega, by go_num, HWN.out⟩
              case measure => simp [intOf]; omega
          · obtain rfl : j = ROWS.length := by omega
            go_wp2_with fail
            refine (implTwiceArea_any x1 LL wr (prow_at Xr.out) LLL.out).mono ?_
            rw [VG.out, VV.out]
            rintro e w44 ⟨rfl, hb⟩
            have HB45 := Lib.hid (HBr.out.trans (hb.mono HBr.out.size))
            have X45 := Lib.hid (prow_keep Xr.out hb)
            have A45 := Lib.hid (prow_keep Ar.out hb)
            have Y45 := Lib.hid (prow_keep Yr.out hb)
            have G45 := Lib.hid (catk Gr.out hb)
            clear hb Xr Ar Yr Gr HBr
            have A1 := Lib.hid (fun W => f6abs_any V1 W (by have := BV.out; omega) (by have := BV.out; omega))
            go_wp2_with (go_at_call 31; refine (A1.out _).mono ?_; rintro e w' ⟨rfl, rfl⟩)
            go_ret
            exact ⟨by simp, HB45.out⟩
      · have c7a : (C7 == 0) = false := by simpa using c7
        clear F7
        obtain ⟨v3, Hv3⟩ : ∃ v, Hid (areaV AS = v) := ⟨_, Lib.hid rfl⟩
        obtain ⟨g3, Hg3⟩ : ∃ v, Hid (codeG AS = v) := ⟨_, Lib.hid rfl⟩
        go_wp2_with fail
        refine (specTwiceArea_any a1 AS w36 (prow_at A37.out) LA.out).mono ?_
        rw [Hv3.out, Hg3.out]
        rintro e w46 ⟨rfl, hb⟩
        have HB47 := Lib.hid (HB37.out.trans (hb.mono HB37.out.size))
        have X47 := Lib.hid (prow_keep X37.out hb)
        have A47 := Lib.hid (prow_keep A37.out hb)
        have Y47 := Lib.hid (prow_keep Y37.out hb)
        have G47 := Lib.hid (catk G37.out hb)
        clear hb X37 A37 Y37 G37 HB37
        go_wp2_with fail
        refine (implTwiceArea_any y1 ML w46 (prow_at Y47.out) LM.out).mono ?_
        rw [MA.out, MG.out, Hv3.out, Hg3.out]
        rintro e w48 ⟨rfl, hb⟩
        have HB49 := Lib.hid (HB47.out.trans (hb.mono HB47.out.size))
        have X49 := Lib.hid (prow_keep X47.out hb)
        have A49 := Lib.hid (prow_keep A47.out hb)
        have Y49 := Lib.hid (prow_keep Y47.out hb)
        have G49 := Lib.hid (catk G47.out hb)
        clear hb X47 A47 Y47 G47 HB47
        go_wp2_with fail
        refine (implTwiceArea_any x1 LL w48 (prow_at X49.out) LLL.out).mono ?_
        rw [VG.out, VV.out]
        rintro e w50 ⟨rfl, hb⟩
        have HB51 := Lib.hid (HB49.out.trans (hb.mono HB49.out.size))
        have X51 := Lib.hid (prow_keep X49.out hb)
        have A51 := Lib.hid (prow_keep A49.out hb)
        have Y51 := Lib.hid (prow_keep Y49.out hb)
        have G51 := Lib.hid (catk G49.out hb)
        clear hb X49 A49 Y49 G49 HB49
        have A1 := Lib.hid (fun W => f6abs_any V1 W (by have := BV.out; omega) (by have := BV.out; omega))
        go_wp2_with (go_at_call 31; refine (A1.out _).mono ?_; rintro e w' ⟨rfl, rfl⟩)
        go_ret
        exact ⟨by simp, HB51.out⟩
    · have c3a : (C3 == 0) = false := by simpa using c3
      clear F3
      by_cases c7 : C7 = 0
      · obtain ⟨b, vb, hV, hb, hG, hvb, hM⟩ := F7.out c7
        subst c7 hV
        have BM := Lib.hid hM
        have BG := Lib.hid hG
        have Hvb := Lib.hid hvb
        clear hM hG hvb F7
        obtain ⟨ga, og, xb, rfl, hgb, cb, xp, _⟩ : ∃ ga og xb, al = some ⟨ga, og, none⟩ ∧ ga < w36.heap.size ∧ w36.cell? ⟨ga, og + b, none⟩ = some xb ∧ PAt w36 w36.heap.size xb (ROWS[b]'hb) ∧ CapOk xb := by
          obtain ⟨a2, c2, e2, h2⟩ := G37.out
          cases e2
          exact h2 b hb
        have XP := Lib.hid xp
        obtain ⟨ax, cx, rfl, _⟩ := xp
        have b0 : 0 ≤ (b : Int) := by omega
        have b1 : (b : Int) < (ROWS.length : Int) := by omega
        have BB := Lib.hid (show -100000000 ≤ vb ∧ vb ≤ 100000000 from by rw [← Hvb.out]; exact areaV_bounds _)
        go_wp2_with fail
        refine (specTwiceArea_any (.slice ax (ROWS[b]'hb).length cx) (ROWS[b]'hb) w36 XP.out (LE.out b hb)).mono ?_
        rw [Hvb.out, BG.out]
        rintro e w52 ⟨rfl, hb⟩
        have HB53 := Lib.hid (HB37.out.trans (hb.mono HB37.out.size))
        have X53 := Lib.hid (prow_keep X37.out hb)
        have A53 := Lib.hid (prow_keep A37.out hb)
        have Y53 := Lib.hid (prow_keep Y37.out hb)
        have G53 := Lib.hid (catk G37.out hb)
        clear hb X37 A37 Y37 G37 HB37
        clear cb XP b0 b1 hgb
        go_wp2
        go_loopw [40] (fun i wr => ∃ j : Nat, j ≤ ROWS.length ∧ i = .int .i64 (j : Int) ∧ Below w52.heap.size w52 wr) (fun i _ => ROWS.length - (intOf i).toNat)
        case atStart => exact ⟨0, Nat.zero_le _, rfl, Below.refl _ _⟩
        case round =>
          obtain ⟨j, hj, rfl, hbr⟩ := hrel
          have HW := Lib.hid hbr
          have hsz := hbr.size
          have Xr := Lib.hid (prow_keep X53.out hbr)
          have Ar := Lib.hid (prow_keep A53.out hbr)
          have Yr := Lib.hid (prow_keep Y53.out hbr)
          have Gr := Lib.hid (catk G53.out hbr)
          have HBr := Lib.hid (HB53.out.trans (hbr.mono HB53.out.size))
          clear hbr
          by_cases hlt : j < ROWS.length
          · obtain ⟨bj, oj, xj, ej, hgj, cj, xpj, _⟩ : ∃ ga2 og2 xb, some (⟨ga, og, none⟩ : Addr) = some ⟨ga2, og2, none⟩ ∧ ga2 < wr.heap.size ∧ wr.cell? ⟨ga2, og2 + j, none⟩ = some xb ∧ PAt wr wr.heap.size xb (ROWS[j]'hlt) ∧ CapOk xb := by
              obtain ⟨a2, c2, e2, h2⟩ := Gr.out
              cases e2
              exact h2 j hlt
            cases ej
            have XJ := Lib.hid xpj
            obtain ⟨ay, cy, rfl, _⟩ := xpj
            have jL : (ROWS.length : Int) ≤ 1048576 := by have := LR.out; omega
            have j0 : 0 ≤ (j : Int) := by omega
            have j1 : (j : Int) < (ROWS.length : Int) := by omega
            have TJ := Lib.hid (implTwiceArea_any (.slice ay (ROWS[j]'hlt).length cy) (ROWS[j]'hlt) wr XJ.out (LE.out j hlt))
            have MJ := Lib.hid (BM.out j hlt)
            have BJ := Lib.hid (areaV_bounds (ROWS[j]'hlt))
            generalize hvj : areaV (ROWS[j]'hlt) = vj at *
            generalize hgjj : codeG (ROWS[j]'hlt) = gj at *
            clear hvj hgjj XJ
            by_cases g0 : gj = 0
            · have mle := MJ.out g0
              subst g0
              have A4 := Lib.hid (fun W => f6abs_any vj W (by have := BJ.out; omega) (by have := BJ.out; omega))
              have A5 := Lib.hid (fun W => f6abs_any vb W (by have := BB.out; omega) (by have := BB.out; omega))
              generalize absI vj = m4 at mle A4
              generalize absI vb = m5 at mle A5
              have mle' : decide (m5 < m4) = false := by simp; omega
              go_wp2_with fail
              refine TJ.out.mono ?_
              rintro e wn ⟨rfl, hbn⟩
              have HWN := Lib.hid (HW.out.trans (hbn.mono hsz))
              clear hbn
              go_wp2_with (first | (go_at_call 31; first | (refine (A4.out _).mono ?_; rintro e w' ⟨rfl, rfl⟩) | (refine (A5.out _).mono ?_; rintro e w' ⟨rfl, rfl⟩)))
              go_roundw
              case rel => exact ⟨j + 1, by omega, by go_num, HWN.out⟩
              case measure => simp [intOf]; omega
            · have g0' : (gj == 0) = false := by simpa using g0
              go_wp2_with fail
              refine TJ.out.mono ?_
              rintro e wn ⟨rfl, hbn⟩
              have HWN := Lib.hid (HW.out.trans (hbn.mono hsz))
              clear hbn
              go_wp2
              go_roundw
              case rel => exact ⟨j + 1, by omega, by go_num, HWN.out⟩
              case measure => simp [intOf]; omega
          · obtain rfl : j = ROWS.length := by omega
            go_wp2_with fail
            refine (implTwiceArea_any x1 LL wr (prow_at Xr.out) LLL.out).mono ?_
            rw [VG.out, VV.out]
            rintro e w54 ⟨rfl, hb⟩
            have HB55 := Lib.hid (HBr.out.trans (hb.mono HBr.out.size))
            have X55 := Lib.hid (prow_keep Xr.out hb)
            have A55 := Lib.hid (prow_keep Ar.out hb)
            have Y55 := Lib.hid (prow_keep Yr.out hb)
            have G55 := Lib.hid (catk Gr.out hb)
            clear hb Xr Ar Yr Gr HBr
            have A1 := Lib.hid (fun W => f6abs_any V1 W (by have := BV.out; omega) (by have := BV.out; omega))
            go_wp2_with (go_at_call 31; refine (A1.out _).mono ?_; rintro e w' ⟨rfl, rfl⟩)
            go_ret
            exact ⟨by simp, HB55.out⟩
      · have c7a : (C7 == 0) = false := by simpa using c7
        clear F7
        go_wp2_with fail
        refine (implTwiceArea_any x1 LL w36 (prow_at X37.out) LLL.out).mono ?_
        rw [VG.out, VV.out]
        rintro e w56 ⟨rfl, hb⟩
        have HB57 := Lib.hid (HB37.out.trans (hb.mono HB37.out.size))
        have X57 := Lib.hid (prow_keep X37.out hb)
        have A57 := Lib.hid (prow_keep A37.out hb)
        have Y57 := Lib.hid (prow_keep Y37.out hb)
        have G57 := Lib.hid (catk G37.out hb)
        clear hb X37 A37 Y37 G37 HB37
        have A1 := Lib.hid (fun W => f6abs_any V1 W (by have := BV.out; omega) (by have := BV.out; omega))
        go_wp2_with (go_at_call 31; refine (A1.out _).mono ?_; rintro e w' ⟨rfl, rfl⟩)
        go_ret
        exact ⟨by simp, HB57.out⟩
  · have hI := F2.out c1
    subst hI
    have c1a : (C1 == 0) = false := by simpa using c1
    have c1b : (C1 != 0) = true := by simp [c1]
    clear F1 F2
    by_cases n1 : N1 = 0
    · subst n1
      by_cases c3 : C3 = 0
      · obtain ⟨hA, hG⟩ := F3.out c3
        subst c3
        have MA := Lib.hid hA
        have MG := Lib.hid hG
        clear hA hG F3
        by_cases c7 : C7 = 0
        · obtain ⟨b, vb, hV, hb, hG, hvb, hM⟩ := F7.out c7
          subst c7 hV
          have BM := Lib.hid hM
          have BG := Lib.hid hG
          have Hvb := Lib.hid hvb
          clear hM hG hvb F7
          obtain ⟨v3, Hv3⟩ : ∃ v, Hid (areaV AS = v) := ⟨_, Lib.hid rfl⟩
          obtain ⟨g3, Hg3⟩ : ∃ v, Hid (codeG AS = v) := ⟨_, Lib.hid rfl⟩
          go_wp2_with fail
          refine (specTwiceArea_any a1 AS w36 (prow_at A37.out) LA.out).mono ?_
          rw [Hv3.out, Hg3.out]
          rintro e w58 ⟨rfl, hb⟩
          have HB59 := Lib.hid (HB37.out.trans (hb.mono HB37.out.size))
          have X59 := Lib.hid (prow_keep X37.out hb)
          have A59 := Lib.hid (prow_keep A37.out hb)
          have Y59 := Lib.hid (prow_keep Y37.out hb)
          have G59 := Lib.hid (catk G37.out hb)
          clear hb X37 A37 Y37 G37 HB37
          go_wp2_with fail
          refine (implTwiceArea_any y1 ML w58 (prow_at Y59.out) LM.out).mono ?_
          rw [MA.out, MG.out, Hv3.out, Hg3.out]
          rintro e w60 ⟨rfl, hb⟩
          have HB61 := Lib.hid (HB59.out.trans (hb.mono HB59.out.size))
          have X61 := Lib.hid (prow_keep X59.out hb)
          have A61 := Lib.hid (prow_keep A59.out hb)
          have Y61 := Lib.hid (prow_keep Y59.out hb)
          have G61 := Lib.hid (catk G59.out hb)
          clear hb X59 A59 Y59 G59 HB59
          obtain ⟨ga, og, xb, rfl, hgb, cb, xp, _⟩ : ∃ ga og xb, al = some ⟨ga, og, none⟩ ∧ ga < w60.heap.size ∧ w60.cell? ⟨ga, og + b, none⟩ = some xb ∧ PAt w60 w60.heap.size xb (ROWS[b]'hb) ∧ CapOk xb := by
            obtain ⟨a2, c2, e2, h2⟩ := G61.out
            cases e2
            exact h2 b hb
          have XP := Lib.hid xp
          obtain ⟨ax, cx, rfl, _⟩ := xp
          have b0 : 0 ≤ (b : Int) := by omega
          have b1 : (b : Int) < (ROWS.length : Int) := by omega
          have BB := Lib.hid (show -100000000 ≤ vb ∧ vb ≤ 100000000 from by rw [← Hvb.out]; exact areaV_bounds _)
          go_wp2_with fail
          refine (specTwiceArea_any (.slice ax (ROWS[b]'hb).length cx) (ROWS[b]'hb) w60 XP.out (LE.out b hb)).mono ?_
          rw [Hvb.out, BG.out]
          rintro e w62 ⟨rfl, hb⟩
          have HB63 := Lib.hid (HB61.out.trans (hb.mono HB61.out.size))
          have X63 := Lib.hid (prow_keep X61.out hb)
          have A63 := Lib.hid (prow_keep A61.out hb)
          have Y63 := Lib.hid (prow_keep Y61.out hb)
          have G63 := Lib.hid (catk G61.out hb)
          clear hb X61 A61 Y61 G61 HB61
          clear cb XP b0 b1 hgb
          go_wp2
          go_loopw [40] (fun i wr => ∃ j : Nat, j ≤ ROWS.length ∧ i = .int .i64 (j : Int) ∧ Below w62.heap.size w62 wr) (fun i _ => ROWS.length - (intOf i).toNat)
          case atStart => exact ⟨0, Nat.zero_le _, rfl, Below.refl _ _⟩
          case round =>
            obtain ⟨j, hj, rfl, hbr⟩ := hrel
            have HW := Lib.hid hbr
            have hsz := hbr.size
            have Xr := Lib.hid (prow_keep X63.out hbr)
            have Ar := Lib.hid (prow_keep A63.out hbr)
            have Yr := Lib.hid (prow_keep Y63.out hbr)
            have Gr := Lib.hid (catk G63.out hbr)
            have HBr := Lib.hid (HB63.out.trans (hbr.mono HB63.out.size))
            clear hbr
            by_cases hlt : j < ROWS.length
            · obtain ⟨bj, oj, xj, ej, hgj, cj, xpj, _⟩ : ∃ ga2 og2 xb, some (⟨ga, og, none⟩ : Addr) = some ⟨ga2, og2, none⟩ ∧ ga2 < wr.heap.size ∧ wr.cell? ⟨ga2, og2 + j, none⟩ = some xb ∧ PAt wr wr.heap.size xb (ROWS[j]'hlt) ∧ CapOk xb := by
                obtain ⟨a2, c2, e2, h2⟩ := Gr.out
                cases e2
                exact h2 j hlt
              cases ej
              have XJ := Lib.hid xpj
              obtain ⟨ay, cy, rfl, _⟩ := xpj
              have jL : (ROWS.length : Int) ≤ 1048576 := by have := LR.out; omega
              have j0 : 0 ≤ (j : Int) := by omega
              have j1 : (j : Int) < (ROWS.length : Int) := by omega
              have TJ := Lib.hid (implTwiceArea_any (.slice ay (ROWS[j]'hlt).length cy) (ROWS[j]'hlt) wr XJ.out (LE.out j hlt))
              have MJ := Lib.hid (BM.out j hlt)
              have BJ := Lib.hid (areaV_bounds (ROWS[j]'hlt))
              generalize hvj : areaV (ROWS[j]'hlt) = vj at *
              generalize hgjj : codeG (ROWS[j]'hlt) = gj at *
              clear hvj hgjj XJ
              by_cases g0 : gj = 0
              · have mle := MJ.out g0
                subst g0
                have A4 := Lib.hid (fun W => f6abs_any vj W (by have := BJ.out; omega) (by have := BJ.out; omega))
                have A5 := Lib.hid (fun W => f6abs_any vb W (by have := BB.out; omega) (by have := BB.out; omega))
                generalize absI vj = m4 at mle A4
                generalize absI vb = m5 at mle A5
                have mle' : decide (m5 < m4) = false := by simp; omega
                go_wp2_with fail
                refine TJ.out.mono ?_
                rintro e wn ⟨rfl, hbn⟩
                have HWN := Lib.hid (HW.out.trans (hbn.mono hsz))
                clear hbn
                go_wp2_with (first | (go_at_call 31; first | (refine (A4.out _).mono ?_; rintro e w' ⟨rfl, rfl⟩) | (refine (A5.out _).mono ?_; rintro e w' ⟨rfl, rfl⟩)))
                go_roundw
                case rel => exact ⟨j + 1, by omega, by go_num, HWN.out⟩
                case measure => simp [intOf]; omega
              · have g0' : (gj == 0) = false := by simpa using g0
                go_wp2_with fail
                refine TJ.out.mono ?_
                rintro e wn ⟨rfl, hbn⟩
                have HWN := Lib.hid (HW.out.trans (hbn.mono hsz))
                clear hbn
                go_wp2
                go_roundw
                case rel => exact ⟨j + 1, by omega, by go_num, HWN.out⟩
                case measure => simp [intOf]; omega
            · obtain rfl : j = ROWS.length := by omega
              go_wp2
              go_ret
              exact ⟨by simp, HBr.out⟩
        · have c7a : (C7 == 0) = false := by simpa using c7
          clear F7
          obtain ⟨v3, Hv3⟩ : ∃ v, Hid (areaV AS = v) := ⟨_, Lib.hid rfl⟩
          obtain ⟨g3, Hg3⟩ : ∃ v, Hid (codeG AS = v) := ⟨_, Lib.hid rfl⟩
          go_wp2_with fail
          refine (specTwiceArea_any a1 AS w36 (prow_at A37.out) LA.out).mono ?_
          rw [Hv3.out, Hg3.out]
          rintro e w64 ⟨rfl, hb⟩
          have HB65 := Lib.hid (HB37.out.trans (hb.mono HB37.out.size))
          have X65 := Lib.hid (prow_keep X37.out hb)
          have A65 := Lib.hid (prow_keep A37.out hb)
          have Y65 := Lib.hid (prow_keep Y37.out hb)
          have G65 := Lib.hid (catk G37.out hb)
          clear hb X37 A37 Y37 G37 HB37
          go_wp2_with fail
          refine (implTwiceArea_any y1 ML w64 (prow_at Y65.out) LM.out).mono ?_
          rw [MA.out, MG.out, Hv3.out, Hg3.out]
          rintro e w66 ⟨rfl, hb⟩
          have HB67 := Lib.hid (HB65.out.trans (hb.mono HB65.out.size))
          have X67 := Lib.hid (prow_keep X65.out hb)
          have A67 := Lib.hid (prow_keep A65.out hb)
          have Y67 := Lib.hid (prow_keep Y65.out hb)
          have G67 := Lib.hid (catk G65.out hb)
          clear hb X65 A65 Y65 G65 HB65
          go_wp2
          go_ret
          exact ⟨by simp, HB67.out⟩
      · have c3a : (C3 == 0) = false := by simpa using c3
        clear F3
        by_cases c7 : C7 = 0
        · obtain ⟨b, vb, hV, hb, hG, hvb, hM⟩ := F7.out c7
          subst c7 hV
          have BM := Lib.hid hM
          have BG := Lib.hid hG
          have Hvb := Lib.hid hvb
          clear hM hG hvb F7
          obtain ⟨ga, og, xb, rfl, hgb, cb, xp, _⟩ : ∃ ga og xb, al = some ⟨ga, og, none⟩ ∧ ga < w36.heap.size ∧ w36.cell? ⟨ga, og + b, none⟩ = some xb ∧ PAt w36 w36.heap.size xb (ROWS[b]'hb) ∧ CapOk xb := by
            obtain ⟨a2, c2, e2, h2⟩ := G37.out
            cases e2
            exact h2 b hb
          have XP := Lib.hid xp
          obtain ⟨ax, cx, rfl, _⟩ := xp
          have b0 : 0 ≤ (b : Int) := by omega
          have b1 : (b : Int) < (ROWS.length : Int) := by omega
          have BB := Lib.hid (show -100000000 ≤ vb ∧ vb ≤ 100000000 from by rw [← Hvb.out]; exact areaV_bounds _)
          go_wp2_with fail
          refine (specTwiceArea_any (.slice ax (ROWS[b]'hb).length cx) (ROWS[b]'hb) w36 XP.out (LE.out b hb)).mono ?_
          rw [Hvb.out, BG.out]
          rintro e w68 ⟨rfl, hb⟩
          have HB69 := Lib.hid (HB37.out.trans (hb.mono HB37.out.size))
          have X69 := Lib.hid (prow_keep X37.out hb)
          have A69 := Lib.hid (prow_keep A37.out hb)
          have Y69 := Lib.hid (prow_keep Y37.out hb)
          have G69 := Lib.hid (catk G37.out hb)
          clear hb X37 A37 Y37 G37 HB37
          clear cb XP b0 b1 hgb
          go_wp2
          go_loopw [40] (fun i wr => ∃ j : Nat, j ≤ ROWS.length ∧ i = .int .i64 (j : Int) ∧ Below w68.heap.size w68 wr) (fun i _ => ROWS.length - (intOf i).toNat)
          case atStart => exact ⟨0, Nat.zero_le _, rfl, Below.refl _ _⟩
          case round =>
            obtain ⟨j, hj, rfl, hbr⟩ := hrel
            have HW := Lib.hid hbr
            have hsz := hbr.size
            have Xr := Lib.hid (prow_keep X69.out hbr)
            have Ar := Lib.hid (prow_keep A69.out hbr)
            have Yr := Lib.hid (prow_keep Y69.out hbr)
            have Gr := Lib.hid (catk G69.out hbr)
            have HBr := Lib.hid (HB69.out.trans (hbr.mono HB69.out.size))
            clear hbr
            by_cases hlt : j < ROWS.length
            · obtain ⟨bj, oj, xj, ej, hgj, cj, xpj, _⟩ : ∃ ga2 og2 xb, some (⟨ga, og, none⟩ : Addr) = some ⟨ga2, og2, none⟩ ∧ ga2 < wr.heap.size ∧ wr.cell? ⟨ga2, og2 + j, none⟩ = some xb ∧ PAt wr wr.heap.size xb (ROWS[j]'hlt) ∧ CapOk xb := by
                obtain ⟨a2, c2, e2, h2⟩ := Gr.out
                cases e2
                exact h2 j hlt
              cases ej
              have XJ := Lib.hid xpj
              obtain ⟨ay, cy, rfl, _⟩ := xpj
              have jL : (ROWS.length : Int) ≤ 1048576 := by have := LR.out; omega
              have j0 : 0 ≤ (j : Int) := by omega
              have j1 : (j : Int) < (ROWS.length : Int) := by omega
              have TJ := Lib.hid (implTwiceArea_any (.slice ay (ROWS[j]'hlt).length cy) (ROWS[j]'hlt) wr XJ.out (LE.out j hlt))
              have MJ := Lib.hid (BM.out j hlt)
              have BJ := Lib.hid (areaV_bounds (ROWS[j]'hlt))
              generalize hvj : areaV (ROWS[j]'hlt) = vj at *
              generalize hgjj : codeG (ROWS[j]'hlt) = gj at *
              clear hvj hgjj XJ
              by_cases g0 : gj = 0
              · have mle := MJ.out g0
                subst g0
                have A4 := Lib.hid (fun W => f6abs_any vj W (by have := BJ.out; omega) (by have := BJ.out; omega))
                have A5 := Lib.hid (fun W => f6abs_any vb W (by have := BB.out; omega) (by have := BB.out; omega))
                generalize absI vj = m4 at mle A4
                generalize absI vb = m5 at mle A5
                have mle' : decide (m5 < m4) = false := by simp; omega
                go_wp2_with fail
                refine TJ.out.mono ?_
                rintro e wn ⟨rfl, hbn⟩
                have HWN := Lib.hid (HW.out.trans (hbn.mono hsz))
                clear hbn
                go_wp2_with (first | (go_at_call 31; first | (refine (A4.out _).mono ?_; rintro e w' ⟨rfl, rfl⟩) | (refine (A5.out _).mono ?_; rintro e w' ⟨rfl, rfl⟩)))
                go_roundw
                case rel => exact ⟨j + 1, by omega, by go_num, HWN.out⟩
                case measure => simp [intOf]; omega
              · have g0' : (gj == 0) = false := by simpa using g0
                go_wp2_with fail
                refine TJ.out.mono ?_
                rintro e wn ⟨rfl, hbn⟩
                have HWN := Lib.hid (HW.out.trans (hbn.mono hsz))
                clear hbn
                go_wp2
                go_roundw
                case rel => exact ⟨j + 1, by omega, by go_num, HWN.out⟩
                case measure => simp [intOf]; omega
            · obtain rfl : j = ROWS.length := by omega
              go_wp2
              go_ret
              exact ⟨by simp, HBr.out⟩
        · have c7a : (C7 == 0) = false := by simpa using c7
          clear F7
          go_wp2
          go_ret
          exact ⟨by simp, HB37.out⟩
    · have n1a : (N1 == 0) = false := by simpa using n1
      by_cases c3 : C3 = 0
      · obtain ⟨hA, hG⟩ := F3.out c3
        subst c3
        have MA := Lib.hid hA
        have MG := Lib.hid hG
        clear hA hG F3
        by_cases c7 : C7 = 0
        · obtain ⟨b, vb, hV, hb, hG, hvb, hM⟩ := F7.out c7
          subst c7 hV
          have BM := Lib.hid hM
          have BG := Lib.hid hG
          have Hvb := Lib.hid hvb
          clear hM hG hvb F7
          obtain ⟨v3, Hv3⟩ : ∃ v, Hid (areaV AS = v) := ⟨_, Lib.hid rfl⟩
          obtain ⟨g3, Hg3⟩ : ∃ v, Hid (codeG AS = v) := ⟨_, Lib.hid rfl⟩
          go_wp2_with fail
          refine (specTwiceArea_any a1 AS w36 (prow_at A37.out) LA.out).mono ?_
          rw [Hv3.out, Hg3.out]
          rintro e w70 ⟨rfl, hb⟩
          have HB71 := Lib.hid (HB37.out.trans (hb.mono HB37.out.size))
          have X71 := Lib.hid (prow_keep X37.out hb)
          have A71 := Lib.hid (prow_keep A37.out hb)
          have Y71 := Lib.hid (prow_keep Y37.out hb)
          have G71 := Lib.hid (catk G37.out hb)
          clear hb X37 A37 Y37 G37 HB37
          go_wp2_with fail
          refine (implTwiceArea_any y1 ML w70 (prow_at Y71.out) LM.out).mono ?_
          rw [MA.out, MG.out, Hv3.out, Hg3.out]
          rintro e w72 ⟨rfl, hb⟩
          have HB73 := Lib.hid (HB71.out.trans (hb.mono HB71.out.size))
          have X73 := Lib.hid (prow_keep X71.out hb)
          have A73 := Lib.hid (prow_keep A71.out hb)
          have Y73 := Lib.hid (prow_keep Y71.out hb)
          have G73 := Lib.hid (catk G71.out hb)
          clear hb X71 A71 Y71 G71 HB71
          obtain ⟨ga, og, xb, rfl, hgb, cb, xp, _⟩ : ∃ ga og xb, al = some ⟨ga, og, none⟩ ∧ ga < w72.heap.size ∧ w72.cell? ⟨ga, og + b, none⟩ = some xb ∧ PAt w72 w72.heap.size xb (ROWS[b]'hb) ∧ CapOk xb := by
            obtain ⟨a2, c2, e2, h2⟩ := G73.out
            cases e2
            exact h2 b hb
          have XP := Lib.hid xp
          obtain ⟨ax, cx, rfl, _⟩ := xp
          have b0 : 0 ≤ (b : Int) := by omega
          have b1 : (b : Int) < (ROWS.length : Int) := by omega
          have BB := Lib.hid (show -100000000 ≤ vb ∧ vb ≤ 100000000 from by rw [← Hvb.out]; exact areaV_bounds _)
          go_wp2_with fail
          refine (specTwiceArea_any (.slice ax (ROWS[b]'hb).length cx) (ROWS[b]'hb) w72 XP.out (LE.out b hb)).mono ?_
          rw [Hvb.out, BG.out]
          rintro e w74 ⟨rfl, hb⟩
          have HB75 := Lib.hid (HB73.out.trans (hb.mono HB73.out.size))
          have X75 := Lib.hid (prow_keep X73.out hb)
          have A75 := Lib.hid (prow_keep A73.out hb)
          have Y75 := Lib.hid (prow_keep Y73.out hb)
          have G75 := Lib.hid (catk G73.out hb)
          clear hb X73 A73 Y73 G73 HB73
          clear cb XP b0 b1 hgb
          go_wp2
          go_loopw [40] (fun i wr => ∃ j : Nat, j ≤ ROWS.length ∧ i = .int .i64 (j : Int) ∧ Below w74.heap.size w74 wr) (fun i _ => ROWS.length - (intOf i).toNat)
          case atStart => exact ⟨0, Nat.zero_le _, rfl, Below.refl _ _⟩
          case round =>
            obtain ⟨j, hj, rfl, hbr⟩ := hrel
            have HW := Lib.hid hbr
            have hsz := hbr.size
            have Xr := Lib.hid (prow_keep X75.out hbr)
            have Ar := Lib.hid (prow_keep A75.out hbr)
            have Yr := Lib.hid (prow_keep Y75.out hbr)
            have Gr := Lib.hid (catk G75.out hbr)
            have HBr := Lib.hid (HB75.out.trans (hbr.mono HB75.out.size))
            clear hbr
            by_cases hlt : j < ROWS.length
            · obtain ⟨bj, oj, xj, ej, hgj, cj, xpj, _⟩ : ∃ ga2 og2 xb, some (⟨ga, og, none⟩ : Addr) = some ⟨ga2, og2, none⟩ ∧ ga2 < wr.heap.size ∧ wr.cell? ⟨ga2, og2 + j, none⟩ = some xb ∧ PAt wr wr.heap.size xb (ROWS[j]'hlt) ∧ CapOk xb := by
                obtain ⟨a2, c2, e2, h2⟩ := Gr.out
                cases e2
                exact h2 j hlt
              cases ej
              have XJ := Lib.hid xpj
              obtain ⟨ay, cy, rfl, _⟩ := xpj
              have jL : (ROWS.length : Int) ≤ 1048576 := by have := LR.out; omega
              have j0 : 0 ≤ (j : Int) := by omega
              have j1 : (j : Int) < (ROWS.length : Int) := by omega
              have TJ := Lib.hid (implTwiceArea_any (.slice ay (ROWS[j]'hlt).length cy) (ROWS[j]'hlt) wr XJ.out (LE.out j hlt))
              have MJ := Lib.hid (BM.out j hlt)
              have BJ := Lib.hid (areaV_bounds (ROWS[j]'hlt))
              generalize hvj : areaV (ROWS[j]'hlt) = vj at *
              generalize hgjj : codeG (ROWS[j]'hlt) = gj at *
              clear hvj hgjj XJ
              by_cases g0 : gj = 0
              · have mle := MJ.out g0
                subst g0
                have A4 := Lib.hid (fun W => f6abs_any vj W (by have := BJ.out; omega) (by have := BJ.out; omega))
                have A5 := Lib.hid (fun W => f6abs_any vb W (by have := BB.out; omega) (by have := BB.out; omega))
                generalize absI vj = m4 at mle A4
                generalize absI vb = m5 at mle A5
                have mle' : decide (m5 < m4) = false := by simp; omega
                go_wp2_with fail
                refine TJ.out.mono ?_
                rintro e wn ⟨rfl, hbn⟩
                have HWN := Lib.hid (HW.out.trans (hbn.mono hsz))
                clear hbn
                go_wp2_with (first | (go_at_call 31; first | (refine (A4.out _).mono ?_; rintro e w' ⟨rfl, rfl⟩) | (refine (A5.out _).mono ?_; rintro e w' ⟨rfl, rfl⟩)))
                go_roundw
                case rel => exact ⟨j + 1, by omega, by go_num, HWN.out⟩
                case measure => simp [intOf]; omega
              · have g0' : (gj == 0) = false := by simpa using g0
                go_wp2_with fail
                refine TJ.out.mono ?_
                rintro e wn ⟨rfl, hbn⟩
                have HWN := Lib.hid (HW.out.trans (hbn.mono hsz))
                clear hbn
                go_wp2
                go_roundw
                case rel => exact ⟨j + 1, by omega, by go_num, HWN.out⟩
                case measure => simp [intOf]; omega
            · obtain rfl : j = ROWS.length := by omega
              go_wp2
              go_ret
              exact ⟨by simp, HBr.out⟩
        · have c7a : (C7 == 0) = false := by simpa using c7
          clear F7
          obtain ⟨v3, Hv3⟩ : ∃ v, Hid (areaV AS = v) := ⟨_, Lib.hid rfl⟩
          obtain ⟨g3, Hg3⟩ : ∃ v, Hid (codeG AS = v) := ⟨_, Lib.hid rfl⟩
          go_wp2_with fail
          refine (specTwiceArea_any a1 AS w36 (prow_at A37.out) LA.out).mono ?_
          rw [Hv3.out, Hg3.out]
          rintro e w76 ⟨rfl, hb⟩
          have HB77 := Lib.hid (HB37.out.trans (hb.mono HB37.out.size))
          have X77 := Lib.hid (prow_keep X37.out hb)
          have A77 := Lib.hid (prow_keep A37.out hb)
          have Y77 := Lib.hid (prow_keep Y37.out hb)
          have G77 := Lib.hid (catk G37.out hb)
          clear hb X37 A37 Y37 G37 HB37
          go_wp2_with fail
          refine (implTwiceArea_any y1 ML w76 (prow_at Y77.out) LM.out).mono ?_
          rw [MA.out, MG.out, Hv3.out, Hg3.out]
          rintro e w78 ⟨rfl, hb⟩
          have HB79 := Lib.hid (HB77.out.trans (hb.mono HB77.out.size))
          have X79 := Lib.hid (prow_keep X77.out hb)
          have A79 := Lib.hid (prow_keep A77.out hb)
          have Y79 := Lib.hid (prow_keep Y77.out hb)
          have G79 := Lib.hid (catk G77.out hb)
          clear hb X77 A77 Y77 G77 HB77
          go_wp2
          go_ret
          exact ⟨by simp, HB79.out⟩
      · have c3a : (C3 == 0) = false := by simpa using c3
        clear F3
        by_cases c7 : C7 = 0
        · obtain ⟨b, vb, hV, hb, hG, hvb, hM⟩ := F7.out c7
          subst c7 hV
          have BM := Lib.hid hM
          have BG := Lib.hid hG
          have Hvb := Lib.hid hvb
          clear hM hG hvb F7
          obtain ⟨ga, og, xb, rfl, hgb, cb, xp, _⟩ : ∃ ga og xb, al = some ⟨ga, og, none⟩ ∧ ga < w36.heap.size ∧ w36.cell? ⟨ga, og + b, none⟩ = some xb ∧ PAt w36 w36.heap.size xb (ROWS[b]'hb) ∧ CapOk xb := by
            obtain ⟨a2, c2, e2, h2⟩ := G37.out
            cases e2
            exact h2 b hb
          have XP := Lib.hid xp
          obtain ⟨ax, cx, rfl, _⟩ := xp
          have b0 : 0 ≤ (b : Int) := by omega
          have b1 : (b : Int) < (ROWS.length : Int) := by omega
          have BB := Lib.hid (show -100000000 ≤ vb ∧ vb ≤ 100000000 from by rw [← Hvb.out]; exact areaV_bounds _)
          go_wp2_with fail
          refine (specTwiceArea_any (.slice ax (ROWS[b]'hb).length cx) (ROWS[b]'hb) w36 XP.out (LE.out b hb)).mono ?_
          rw [Hvb.out, BG.out]
          rintro e w80 ⟨rfl, hb⟩
          have HB81 := Lib.hid (HB37.out.trans (hb.mono HB37.out.size))
          have X81 := Lib.hid (prow_keep X37.out hb)
          have A81 := Lib.hid (prow_keep A37.out hb)
          have Y81 := Lib.hid (prow_keep Y37.out hb)
          have G81 := Lib.hid (catk G37.out hb)
          clear hb X37 A37 Y37 G37 HB37
          clear cb XP b0 b1 hgb
          go_wp2
          go_loopw [40] (fun i wr => ∃ j : Nat, j ≤ ROWS.length ∧ i = .int .i64 (j : Int) ∧ Below w80.heap.size w80 wr) (fun i _ => ROWS.length - (intOf i).toNat)
          case atStart => exact ⟨0, Nat.zero_le _, rfl, Below.refl _ _⟩
          case round =>
            obtain ⟨j, hj, rfl, hbr⟩ := hrel
            have HW := Lib.hid hbr
            have hsz := hbr.size
            have Xr := Lib.hid (prow_keep X81.out hbr)
            have Ar := Lib.hid (prow_keep A81.out hbr)
            have Yr := Lib.hid (prow_keep Y81.out hbr)
            have Gr := Lib.hid (catk G81.out hbr)
            have HBr := Lib.hid (HB81.out.trans (hbr.mono HB81.out.size))
            clear hbr
            by_cases hlt : j < ROWS.length
            · obtain ⟨bj, oj, xj, ej, hgj, cj, xpj, _⟩ : ∃ ga2 og2 xb, some (⟨ga, og, none⟩ : Addr) = some ⟨ga2, og2, none⟩ ∧ ga2 < wr.heap.size ∧ wr.cell? ⟨ga2, og2 + j, none⟩ = some xb ∧ PAt wr wr.heap.size xb (ROWS[j]'hlt) ∧ CapOk xb := by
                obtain ⟨a2, c2, e2, h2⟩ := Gr.out
                cases e2
                exact h2 j hlt
              cases ej
              have XJ := Lib.hid xpj
              obtain ⟨ay, cy, rfl, _⟩ := xpj
              have jL : (ROWS.length : Int) ≤ 1048576 := by have := LR.out; omega
              have j0 : 0 ≤ (j : Int) := by omega
              have j1 : (j : Int) < (ROWS.length : Int) := by omega
              have TJ := Lib.hid (implTwiceArea_any (.slice ay (ROWS[j]'hlt).length cy) (ROWS[j]'hlt) wr XJ.out (LE.out j hlt))
              have MJ := Lib.hid (BM.out j hlt)
              have BJ := Lib.hid (areaV_bounds (ROWS[j]'hlt))
              generalize hvj : areaV (ROWS[j]'hlt) = vj at *
              generalize hgjj : codeG (ROWS[j]'hlt) = gj at *
              clear hvj hgjj XJ
              by_cases g0 : gj = 0
              · have mle := MJ.out g0
                subst g0
                have A4 := Lib.hid (fun W => f6abs_any vj W (by have := BJ.out; omega) (by have := BJ.out; omega))
                have A5 := Lib.hid (fun W => f6abs_any vb W (by have := BB.out; omega) (by have := BB.out; omega))
                generalize absI vj = m4 at mle A4
                generalize absI vb = m5 at mle A5
                have mle' : decide (m5 < m4) = false := by simp; omega
                go_wp2_with fail
                refine TJ.out.mono ?_
                rintro e wn ⟨rfl, hbn⟩
                have HWN := Lib.hid (HW.out.trans (hbn.mono hsz))
                clear hbn
                go_wp2_with (first | (go_at_call 31; first | (refine (A4.out _).mono ?_; rintro e w' ⟨rfl, rfl⟩) | (refine (A5.out _).mono ?_; rintro e w' ⟨rfl, rfl⟩)))
                go_roundw
                case rel => exact ⟨j + 1, by omega, by go_num, HWN.out⟩
                case measure => simp [intOf]; omega
              · have g0' : (gj == 0) = false := by simpa using g0
                go_wp2_with fail
                refine TJ.out.mono ?_
                rintro e wn ⟨rfl, hbn⟩
                have HWN := Lib.hid (HW.out.trans (hbn.mono hsz))
                clear hbn
                go_wp2
                go_roundw
                case rel => exact ⟨j + 1, by omega, by go_num, HWN.out⟩
                case measure => simp [intOf]; omega
            · obtain rfl : j = ROWS.length := by omega
              go_wp2
              go_ret
              exact ⟨by simp, HBr.out⟩
        · have c7a : (C7 == 0) = false := by simpa using c7
          clear F7
          go_wp2
          go_ret
          exact ⟨by simp, HB37.out⟩

set_option maxRecDepth 100000 in
theorem lifted (os : Os) (started : os.Started) (H : Type) (enc : TypeId × Value → H) :
    ReturnsInHanded {} Try.checked os 5 .any (Rows.fnOutlinesSpec.pre6 enc Try.prog Try.f5 Rows.fnOutlinesRow.domain false) (Rows.fnOutlinesSpec.post enc Try.prog Try.f5 false true false false) := by
  refine returnsInHanded_of_change (C := Try.checked) own started (by kernel_rfl) Try.func5
    (ChangeSpec.witness6 (enc := enc) (C := Try.checked) false ⟨#[], #[.slice none 0 0], []⟩ 8 (by kernel_rfl) (by kernel_rfl) (by kernel_rfl) (by kernel_rfl)) ?_
  intro W base args ds gs before hval0 hW hcnd _
  have hval : ∀ (j : Nat) t v, Try.f5.params[j]? = some t → args[j]? = some v → Value.okWide Try.prog W .any base t v := hval0
  have hW' := hW
  obtain ⟨p, q, hA0, hV, hpq, hfz, hnd⟩ := hW
  have hA : DataW.TrodAll enc Try.prog W 0 (fun _ => true) true Try.f5.params.toList args.toList ds p := hA0
  rw [Try.params5] at hA hval
  obtain ⟨v0, vs0, d0, ds0, p0, q0, hargs, rfl, rfl, h0, r0⟩ := trodAll_cons hA
  obtain ⟨rfl, rfl, rfl⟩ := trodAll_nil r0
  obtain rfl : args = #[v0] := by cases args; simp_all
  obtain ⟨a0, len0, cap0, rfl⟩ := okWide_slice Try.underlying22 (hval 0 22 v0 rfl rfl)
  obtain ⟨z0, w0⟩ : ∃ zs, IsRow .u8 W a0 len0 cap0 zs := by
    obtain ⟨fuel, hf⟩ := h0
    rcases open_ints Try.underlying22 Try.underlying5 (by kernel_rfl) hf with ⟨hcs, _⟩ | ⟨x, l, c, zs, hcs, _, hl, hm, hz, _, hcell, hwz⟩
    · simp [Value.cells] at hcs
      obtain ⟨rfl, rfl, rfl⟩ := hcs
      exact ⟨[], .inl ⟨rfl, rfl, rfl, rfl⟩⟩
    · simp [Value.cells] at hcs
      obtain ⟨rfl, rfl, rfl⟩ := hcs
      exact ⟨zs, .inr ⟨_, rfl, hl, hm, by simpa using hz, hcell, hwz⟩⟩
  refine (walk a0 len0 cap0 z0 W w0).mono fun e W' ⟨he, bel⟩ => ?_
  subst he
  exact ⟨_, rfl, post_of_law laidOut (by kernel_rfl) Try.underlying4 rfl rfl (fun ds h => by match ds, h with | [_], _ => rfl) hW' bel⟩

theorem holds : Rows.FnOutlinesSaid :=
  OpenClaim.holds_of_wide 5 Try.f5 rfl rfl rfl rfl rfl rfl rfl ⟨rfl, rfl, rfl, rfl, rfl⟩ rfl rfl rfl rfl rfl (by kernel_rfl) Try.func5 (by kernel_rfl)
    (of_decide_eq_true (by kernel_rfl)) (by unfold Func.isWrapper; first | (rw [if_pos (by decide +kernel)]; kernel_rfl) | (rw [if_neg (by decide +kernel)]; exact ⟨rfl, rfl⟩))
    (fun os started H enc _ => lifted os started H enc)
#print axioms holds

end Go.Proofs.Ytemhmejjmhbfdaa.outlines
