/- The model's greatest outline: contract. -/
import Derived.Test.YtemhmejjmhbfdabJoinT1
import Derived.BigQuiet
namespace Go.Proofs.Ytemhmejjmhbfdab.sines
open Go.ChangeShapes Go.WideShapes Go.ChangeAt Go.RowKit Go.Proofs.Ytemhmejjmhbfdab.spots Go.Proofs.Ytemhmejjmhbfdab.irows Go.Proofs.Ytemhmejjmhbfdab.pairsPlace
set_option linter.unusedSimpArgs false
set_option linter.unusedVariables false

set_option maxRecDepth 100000 in
set_option maxHeartbeats 1000000 in
theorem l10Closed_q (v : Value) (ps : List (Int × Int)) (w : World) (hv : PAt w w.heap.size v ps) (hl : ps.length ≤ 1048576) :
    Calls Try.prog 71 #[v] w fun e w' => e = .returned (.bool (closedB ps)) ∧ ∃ q, w' = w.drewN q := by
  by_cases h4 : 4 ≤ ps.length
  · obtain ⟨bb, off, c, rfl, hbs, c1, c2, d1, d2⟩ := ends_at hv (by omega)
    rw [closedB_eq h4]
    clear hv
    obtain ⟨n, hn⟩ : ∃ n : Nat, Hid (ps.length = n) := ⟨_, Lib.hid rfl⟩
    obtain ⟨z, hz⟩ : ∃ z : Nat, Hid (ps.length - 1 = z) := ⟨_, Lib.hid rfl⟩
    have hnz : n = z + 1 := by have := hn.out; have := hz.out; omega
    have h4z : 3 ≤ z := by have := hz.out; omega
    have hlz : z ≤ 1048576 := by have := hz.out; omega
    rw [hz.out] at d1 d2
    rw [hn.out, hnz]
    clear h4 hl
    have e1 : ((z + 1 : Nat) : Int) - 1 = (z : Int) := by omega
    have e2 : ((z : Int) + 1) - 1 = (z : Int) := by omega
    have e4 : (4 : Int) ≤ ((z + 1 : Nat) : Int) := by omega
    have e4' : (4 : Int) ≤ (z : Int) + 1 := by omega
    have kz : IntKind.i64.wrap (z : Int) = (z : Int) := IntWalk.i64_in _ (by omega)
    have z0 : 0 ≤ (z : Int) := by omega
    have z1 : (z : Int) < ((z + 1 : Nat) : Int) := by omega
    have z1' : (z : Int) < (z : Int) + 1 := by omega
    have p0 : (0 : Int) < ((z + 1 : Nat) : Int) := by omega
    have p0' : (0 : Int) < (z : Int) + 1 := by omega
    have eB : decide (pAt ps 0 = lastP ps) = (decide ((pAt ps 0).1 = (lastP ps).1) && decide ((pAt ps 0).2 = (lastP ps).2)) := by
      by_cases h1 : pAt ps 0 = lastP ps
      · rw [h1]; simp
      · by_cases h2 : (pAt ps 0).1 = (lastP ps).1 ∧ (pAt ps 0).2 = (lastP ps).2
        · exact absurd (Prod.ext h2.1 h2.2) h1
        · rw [decide_eq_false h1]
          by_cases h3 : (pAt ps 0).1 = (lastP ps).1
          · have h4 : ¬ (pAt ps 0).2 = (lastP ps).2 := fun k => h2 ⟨h3, k⟩
            simp [h3, h4]
          · simp [h3]
    rw [eB]
    clear eB hn hz hnz
    generalize (pAt ps 0).1 = x1 at c1 ⊢
    generalize (pAt ps 0).2 = x2 at c2 ⊢
    generalize (lastP ps).1 = y1 at d1 ⊢
    generalize (lastP ps).2 = y2 at d2 ⊢
    by_cases h1 : x1 = y1
    · by_cases h2 : x2 = y2
      · subst h1 h2
        go_enter Try.func71, Try.ntmps71
        go_wp2
        all_goals (try (go_quiet (fail); go_wp2))
        all_goals
          go_ret
          exact ⟨retB (by simp), (by first | exact ⟨_, rfl⟩ | exact ⟨0, rfl⟩)⟩
      · subst h1
        go_enter Try.func71, Try.ntmps71
        go_wp2
        all_goals (try (go_quiet (fail); go_wp2))
        all_goals
          go_ret
          exact ⟨retB (by simp [h2]), (by first | exact ⟨_, rfl⟩ | exact ⟨0, rfl⟩)⟩
    · go_enter Try.func71, Try.ntmps71
      go_wp2
      all_goals (try (go_quiet (fail); go_wp2))
      all_goals
        go_ret
        exact ⟨retB (by simp [h1]), (by first | exact ⟨_, rfl⟩ | exact ⟨0, rfl⟩)⟩
  · obtain ⟨ar, c, rfl, hcl⟩ := hv
    rw [closedB_no h4]
    have h4i : ¬ 4 ≤ (ps.length : Int) := by omega
    have h4d : decide (4 ≤ (ps.length : Int)) = false := by simp; omega
    go_enter Try.func71, Try.ntmps71
    go_wp2
    all_goals (try (go_quiet (fail); go_wp2))
    all_goals
      go_ret
      exact ⟨rfl, (by first | exact ⟨_, rfl⟩ | exact ⟨0, rfl⟩)⟩
set_option maxRecDepth 100000 in
set_option maxHeartbeats 2000000 in
theorem l10Area_q (v : Value) (ps : List (Int × Int)) (w : World) (hv : PAt w w.heap.size v ps) (hok : okC ps = true) :
    Calls Try.prog 73 #[v] w fun e w' => e = .returned (.int .i64 (areaI ps)) ∧ ∃ q, w' = w.drewN q := by
  obtain ⟨q1, q2, q3⟩ := okC_of hok
  obtain ⟨bb, off, c, rfl, hbs, _, _, _, _⟩ := ends_at hv (by omega)
  have HCL := Lib.hid (show ∀ k, k < ps.length → w.cell? ⟨bb, off + k * 2, none⟩ = some (.int .i64 (pAt ps k).1) ∧ w.cell? ⟨bb, off + k * 2 + 1, none⟩ = some (.int .i64 (pAt ps k).2) from fun k hk => by
    obtain ⟨a, c', e, h⟩ := hv
    injection e with e1 e2 e3
    subst e1
    obtain ⟨b', o', e, _, h1, h2⟩ := h k hk
    simp only [Option.some.injEq, Addr.mk.injEq, and_true] at e
    obtain ⟨rfl, rfl⟩ := e
    rw [pat_of hk] at h1 h2
    exact ⟨h1, h2⟩)
  have HO := Lib.hid q3
  have AB := Lib.hid (areaN_bounds q3)
  clear hv q3
  have hl2 : (ps.length : Int) ≤ 24 := by omega
  have hl3 : 2 ≤ (ps.length : Int) := by omega
  go_enter Try.func73, Try.ntmps73
  go_wp2
  go_loopw [3, 4] (fun s i wr => ∃ k q : Nat, k + 1 ≤ ps.length ∧ i = .int .i64 ((k : Int) + 1) ∧ s = .int .i64 (areaN ps k) ∧ wr = w.drewN q) (fun _ i _ => ps.length - (intOf i).toNat)
  case atStart => exact ⟨0, 0, by omega, rfl, rfl, rfl⟩
  case round =>
    obtain ⟨k, q, hk, rfl, rfl, rfl⟩ := hrel
    obtain ⟨b1, b2⟩ := AB.out k (by omega)
    by_cases hlt : k + 1 < ps.length
    · obtain ⟨c1, c2⟩ := HCL.out k (by omega)
      obtain ⟨d1, d2⟩ := HCL.out (k + 1) hlt
      obtain ⟨n1, n2, n3, n4, n5, n6⟩ := edgeA_bounds (HO.out k (by omega)) (HO.out (k + 1) hlt)
      have ES := Lib.hid (show areaN ps (k + 1) = areaN ps k + edgeA (pAt ps k) (pAt ps (k + 1)) from rfl)
      have hk0 : 0 ≤ (k : Int) := by omega
      have hk1 : (k : Int) < (ps.length : Int) := by omega
      have hk2 : (k : Int) + 1 < (ps.length : Int) := by omega
      have hk3 : 0 ≤ (k : Int) + 1 := by omega
      have km : IntKind.i64.wrap ((k : Int) + 1 - 1) = (k : Int) := by rw [show (k : Int) + 1 - 1 = (k : Int) by omega]; exact IntWalk.i64_in _ (by omega)
      have kk : IntKind.i64.wrap (k : Int) = (k : Int) := IntWalk.i64_in _ (by omega)
      have kp : IntKind.i64.wrap ((k : Int) + 1 + 1) = (k : Int) + 1 + 1 := IntWalk.i64_in _ (by omega)
      have tn : ((k : Int) + 1).toNat = k + 1 := by omega
      unfold edgeA at n1 n2 ES
      generalize areaN ps k = S at b1 b2 ES ⊢
      generalize (pAt ps k).1 = x1 at c1 n1 n2 n3 n4 n5 n6 ES
      generalize (pAt ps k).2 = x2 at c2 n1 n2 n3 n4 n5 n6 ES
      generalize (pAt ps (k + 1)).1 = y1 at d1 n1 n2 n3 n4 n5 n6 ES
      generalize (pAt ps (k + 1)).2 = y2 at d2 n1 n2 n3 n4 n5 n6 ES
      have m1 : IntKind.i64.wrap (x1 * y2) = x1 * y2 := IntWalk.i64_in _ (by omega)
      have m2 : IntKind.i64.wrap (y1 * x2) = y1 * x2 := IntWalk.i64_in _ (by omega)
      have m3 : IntKind.i64.wrap (x1 * y2 - y1 * x2) = x1 * y2 - y1 * x2 := IntWalk.i64_in _ (by omega)
      have m4 : IntKind.i64.wrap (S + (x1 * y2 - y1 * x2)) = S + (x1 * y2 - y1 * x2) := IntWalk.i64_in _ (by omega)
      clear n1 n2 n3 n4 n5 n6 b1 b2
      go_wp2
      all_goals (try (go_quiet (fail); go_wp2))
      all_goals
        go_roundw
        case rel => exact ⟨k + 1, _, by omega, by go_num, by rw [ES.out], rfl⟩
        case measure => simp [intOf]; omega
    · have EA := Lib.hid (show areaN ps k = areaI ps by unfold areaI; rw [show ps.length - 1 = k by omega])
      have hk2 : ¬ (k : Int) + 1 < (ps.length : Int) := by omega
      go_wp2
      go_ret
      exact ⟨retI EA.out, q, rfl⟩
theorem l00SizeQ_any (n : Int) (w : World) (h1 : -1000000000000 ≤ n) (h2 : n ≤ 1000000000000) :
    Calls Try.prog 72 #[.int .i64 n] w fun e w' => e = .returned (.int .i64 (if n < 0 then -n else n)) ∧ w = w' := by
  have kn : IntKind.i64.wrap (-n) = -n := IntWalk.i64_in _ (by omega)
  by_cases h : n < 0
  · rw [if_pos h]
    go_enter Try.func72, Try.ntmps72
    go_wp2
    go_ret
    exact ⟨rfl, rfl⟩
  · rw [if_neg h]
    go_enter Try.func72, Try.ntmps72
    go_wp2
    go_ret
    exact ⟨rfl, rfl⟩
/-- What is asked of a chain whose area is taken. -/
structure AreaOk (W0 : World) (v : Value) (R : Int) : Prop where
  run : ∀ q, Calls Try.prog 73 #[v] (W0.drewN q) fun e w' => e = .returned (.int .i64 R) ∧ ∃ q', w' = W0.drewN q'
theorem quiet_add (W : World) (q : Nat) (v : Value) (e : Ending) (w' : World) (h : e = .returned v ∧ ∃ q', w' = (W.drewN q).drewN q') : e = .returned v ∧ ∃ q', w' = W.drewN q' := by
  obtain ⟨h1, q', h2⟩ := h
  exact ⟨h1, q + q', by rw [h2, World.drewN_drewN]⟩
theorem pat_drewN {w : World} {v : Value} {ps : List Pl} (h : PAt w w.heap.size v ps) (q : Nat) : PAt (w.drewN q) (w.drewN q).heap.size v ps := pat_keep h (bdP (Below.refl _ _) q)
set_option maxRecDepth 100000 in
set_option maxHeartbeats 2000000 in
theorem specGreatestOutline_any (v : Value) (rows : List (List Pl)) (w : World) (hv : CAt w w.heap.size v rows) (hl : rows.length ≤ 1048576) (hr : ∀ j, (hj : j < rows.length) → rows[j].length ≤ 1048576) :
    Calls Try.prog 28 #[v] w fun e w' => e = .returned (.tuple #[.int .i64 (bestV rows), .int .i64 (codeB9 rows)]) ∧ Below w.heap.size w w' := by
  have CC := Lib.hid (l10List_any v rows w hv hl hr)
  obtain ⟨a, c, rfl, hc⟩ := hv
  have HC := Lib.hid hc
  clear hc
  by_cases h0 : codeL rows = 0
  · obtain ⟨h8, ho⟩ := codeL_of h0
    have HO := Lib.hid ho
    have BF := Lib.hid (bestN_facts ho)
    rw [h0] at CC
    have E1 := Lib.hid (show codeB9 rows = if (bestN rows rows.length).1 < 0 then 3 else 0 by unfold codeB9; rw [if_pos h0])
    have E2 := Lib.hid (show bestV rows = if codeB9 rows = 0 then (bestN rows rows.length).1 else 0 from rfl)
    rw [E2.out, E1.out]
    obtain ⟨b1, hb1⟩ : ∃ b, Hid ((bestN rows rows.length).1 = b) := ⟨_, Lib.hid rfl⟩
    rw [hb1.out]
    have h8i : (rows.length : Int) ≤ 8 := by omega
    clear h0 ho E1 E2
    go_enter Try.func28, Try.ntmps28
    go_wp2_with fail
    refine CC.out.mono ?_
    rintro e w1 ⟨rfl, hb⟩
    have HB1 := Lib.hid hb
    clear hb
    go_wp2
    go_loopw [5, 6] (fun x i wr => ∃ k q : Nat, k ≤ rows.length ∧ i = .int .i64 (k : Int) ∧ x = .int .i64 (bestN rows k).1 ∧ wr = w1.drewN q) (fun _ i _ => rows.length - (intOf i).toNat)
    case atStart => exact ⟨0, 0, Nat.zero_le _, rfl, rfl, rfl⟩
    case round =>
      obtain ⟨k, q, hk, rfl, rfl, hq⟩ := hrel
      have hb : Below w.heap.size w wr := by rw [hq]; exact bdP HB1.out q
      have HQ := Lib.hid hq
      have hsz := hb.size
      have FB := BF.out k hk
      by_cases hlt : k < rows.length
      · obtain ⟨b, off, x, rfl, hbs, c1, hx, _⟩ := HC.out k hlt
        have c1' := (hb.cell (p := ⟨b, off + k, none⟩) hbs).trans c1
        have hok := HO.out k hlt
        have PX := Lib.hid (pat_up (pat_keep hx hb) hsz)
        have ISC := Lib.hid (fun q => (l10Closed_q x rows[k] (wr.drewN q) (pat_drewN PX.out q) (by have := (okC_of hok).2.1; omega)).mono (quiet_add wr q _))
        have TWK := Lib.hid (show AreaOk wr x (areaI rows[k]) from ⟨fun q => (l10Area_q x rows[k] _ (pat_drewN PX.out q) hok).mono (quiet_add wr q _)⟩)
        have AB := areaI_bounds hok
        have EN := Lib.hid (show bestN rows (k + 1) = if closedB rows[k] = true ∧ (bestN rows k).2 < sizeA rows[k] then ((k : Int), sizeA rows[k]) else bestN rows k by simp only [bestN]; rw [getD_row hlt])
        have ESA := Lib.hid (show sizeA rows[k] = if areaI rows[k] < 0 then -areaI rows[k] else areaI rows[k] from rfl)
        have SB := (sizeA_bounds hok).1
        have hk0 : 0 ≤ (k : Int) := by omega
        have hk1 : (k : Int) < (rows.length : Int) := by omega
        obtain ⟨ax, cx, rfl, hjx⟩ := hx
        clear c1 hjx hok hq
        obtain ⟨cl, hcl⟩ : ∃ cl, Hid (closedB rows[k] = cl) := ⟨_, Lib.hid rfl⟩
        obtain ⟨A, hA⟩ : ∃ A, Hid (areaI rows[k] = A) := ⟨_, Lib.hid rfl⟩
        obtain ⟨L, hL⟩ : ∃ L, Hid (rows[k].length = L) := ⟨_, Lib.hid rfl⟩
        rw [hcl.out] at ISC EN
        rw [hA.out] at TWK AB ESA
        rw [hL.out] at ISC TWK c1'
        have FINAL := Lib.hid (show ∀ n, wr.drewN n = w1.drewN (q + n) from fun n => by rw [HQ.out, World.drewN_drewN])
        cases cl with
        | false =>
          have E := Lib.hid (show bestN rows (k + 1) = bestN rows k by rw [EN.out]; simp)
          clear FB
          go_wp2_with fail
          go_quiet ((go_at_call 71; exact ISC.out _))
          go_wp2
          go_roundw
          case rel => exact ⟨k + 1, _, by omega, by go_num, by rw [E.out], FINAL.out _⟩
          case measure => simp [intOf]; omega
        | true =>
          rcases FB with ⟨f1, f2⟩ | ⟨bb, f1, fb, f2⟩
          · have E := Lib.hid (show bestN rows (k + 1) = ((k : Int), sizeA rows[k]) by rw [EN.out, f2, if_pos ⟨rfl, by omega⟩])
            rw [f1]
            clear f1 f2
            go_wp2_with fail
            go_quiet ((go_at_call 71; exact ISC.out _))
            go_wp2
            go_roundw
            case rel => exact ⟨k + 1, _, by omega, by go_num, by rw [E.out], FINAL.out _⟩
            case measure => simp [intOf]; omega
          · have f2' : (bestN rows k).2 = sizeA rows[bb] := by rw [f2, getD_row (by omega)]
            have hbb : bb < rows.length := by omega
            obtain ⟨b2, off2, y, ey, hbs2, c2, hy, _⟩ := HC.out bb hbb
            simp only [Option.some.injEq, Addr.mk.injEq, and_true] at ey
            obtain ⟨rfl, rfl⟩ := ey
            have c2' := (hb.cell (p := ⟨b, off + bb, none⟩) hbs2).trans c2
            have hok2 := HO.out bb hbb
            have PY := Lib.hid (pat_up (pat_keep hy hb) hsz)
            have TWB := Lib.hid (show AreaOk wr y (areaI rows[bb]) from ⟨fun q => (l10Area_q y rows[bb] _ (pat_drewN PY.out q) hok2).mono (quiet_add wr q _)⟩)
            have AB2 := areaI_bounds hok2
            have ESB := Lib.hid (show sizeA rows[bb] = if areaI rows[bb] < 0 then -areaI rows[bb] else areaI rows[bb] from rfl)
            obtain ⟨ay, cy, rfl, hjy⟩ := hy
            obtain ⟨A2, hA2⟩ : ∃ A, Hid (areaI rows[bb] = A) := ⟨_, Lib.hid rfl⟩
            obtain ⟨L2, hL2⟩ : ∃ L, Hid (rows[bb].length = L) := ⟨_, Lib.hid rfl⟩
            rw [hA2.out] at TWB AB2 ESB
            rw [hL2.out] at TWB c2'
            have hb0 : 0 ≤ (bb : Int) := by omega
            have hb1' : (bb : Int) < (rows.length : Int) := by omega
            rw [f1]
            have E := Lib.hid (show bestN rows (k + 1) = if (if A2 < 0 then -A2 else A2) < (if A < 0 then -A else A) then ((k : Int), sizeA rows[k]) else bestN rows k by rw [EN.out, f2', ESB.out, ESA.out]; simp)
            have SA := Lib.hid (fun W => l00SizeQ_any A W (by omega) (by omega))
            have SB2 := Lib.hid (fun W => l00SizeQ_any A2 W (by omega) (by omega))
            have F1 := Lib.hid f1
            clear f1 f2 f2' c2 hjy hok2
            generalize (if A < 0 then -A else A) = P1 at *
            generalize (if A2 < 0 then -A2 else A2) = P2 at *
            by_cases hlt2 : P2 < P1
            · have E2 := Lib.hid (show bestN rows (k + 1) = ((k : Int), sizeA rows[k]) by rw [E.out, if_pos hlt2])
              go_wp2_with fail
              go_quiet (first | (go_at_call 71; exact ISC.out _) | (go_at_call 73; exact AreaOk.run (by first | exact TWK.out | exact TWB.out) _) | (go_at_call 72; first | exact (SA.out _).mono fun _ _ h => ⟨h.1, _, h.2.symm⟩ | exact (SB2.out _).mono fun _ _ h => ⟨h.1, _, h.2.symm⟩))
              go_wp2
              go_roundw
              case rel => exact ⟨k + 1, _, by omega, by go_num, by rw [E2.out], FINAL.out _⟩
              case measure => simp [intOf]; omega
            · have E2 := Lib.hid (show bestN rows (k + 1) = bestN rows k by rw [E.out, if_neg hlt2])
              go_wp2_with fail
              go_quiet (first | (go_at_call 71; exact ISC.out _) | (go_at_call 73; exact AreaOk.run (by first | exact TWK.out | exact TWB.out) _) | (go_at_call 72; first | exact (SA.out _).mono fun _ _ h => ⟨h.1, _, h.2.symm⟩ | exact (SB2.out _).mono fun _ _ h => ⟨h.1, _, h.2.symm⟩))
              go_wp2
              go_roundw
              case rel => exact ⟨k + 1, _, by omega, by go_num, by rw [E2.out, F1.out], FINAL.out _⟩
              case measure => simp [intOf]; omega
      · obtain rfl : k = rows.length := by omega
        have HB := Lib.hid hb
        clear hb FB hq
        rw [hb1.out]
        by_cases hneg : b1 < 0
        · go_wp2
          exact bodyPost_ret (v := .tuple #[.int .i64 0, .int .i64 3]) (by simp [results, Try.results28, go_sem]) rfl ⟨by first | (simp [hneg]; done) | (rw [if_neg hneg]; rfl) | (rw [if_pos hneg]; rfl), HB.out⟩
        · have hd : decide (b1 < 0) = false := by simp; omega
          have hd2 : 0 ≤ b1 := by omega
          go_wp2
          exact bodyPost_ret (v := .tuple #[.int .i64 b1, .int .i64 0]) (by simp [results, Try.results28, go_sem]) rfl ⟨by first | (simp [hneg]; done) | (rw [if_neg hneg]; rfl) | (rw [if_pos hneg]; rfl), HB.out⟩
  · have E1 : codeB9 rows = codeL rows := by unfold codeB9; rw [if_neg h0]
    have E2 : bestV rows = 0 := by unfold bestV; rw [E1, if_neg h0]
    rw [E1, E2]
    clear E1 E2
    generalize codeL rows = C at *
    go_enter Try.func28, Try.ntmps28
    go_wp2_with fail
    refine CC.out.mono ?_
    rintro e w1 ⟨rfl, hb⟩
    have HB1 := Lib.hid hb
    clear hb
    go_wp2
    exact bodyPost_ret (v := .tuple #[.int .i64 0, .int .i64 C]) (by simp [results, Try.results28, go_sem]) rfl ⟨rfl, HB1.out⟩
end Go.Proofs.Ytemhmejjmhbfdab.sines
