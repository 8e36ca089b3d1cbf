/- Filled rows: contract of the program. -/
import Derived.Test.YtmfjpmimkpldjaaLabI8
namespace Go.Proofs.Ytmfjpmimkpldjaa.ltab
open Go.ChangeShapes Go.WideShapes Go.ChangeAt Go.RowKit Go.Shelf Go.Proofs.Ytmfjpmimkpldjaa.irows Go.Proofs.Ytmfjpmimkpldjaa.sines
attribute [local go_sem] Oper.semAt_some
set_option linter.unusedSimpArgs false
set_option linter.unusedVariables false

def filF (ps : List Lb) (row : Int) (x : Nat) : Int := if (lbAt ps x).1 = row then (lbAt ps x).2.1 else 0
theorem fill_sum (ps : List Lb) (zs : List Int) (row : Int) : ∀ k, fillK ps zs row k = sumF (filF ps row) (onL zs k)
  | 0 => rfl
  | k + 1 => by
    cases h : onB zs k with
    | true =>
      rw [fillK, h, onL_yes h, sumF_snoc, fill_sum ps zs row k]
      unfold filF
      by_cases e : (lbAt ps k).1 = row <;> simp [e]
    | false => rw [fillK, h, onL_no h, fill_sum ps zs row k]; simp
theorem codeRFI {ps : List Lb} {zs : List Int} {row : Int} : codeRF ps zs row = if (if okL ps = false then 1 else if (placesOk ps zs && inB row 0 11) = false then 2 else 0 : Int) = 0 then (if 0 ≤ faultK ps zs then 9 else 0) else (if okL ps = false then 1 else if (placesOk ps zs && inB row 0 11) = false then 2 else 0) := by
  unfold codeRF
  cases okL ps <;> cases placesOk ps zs <;> cases inB row 0 11 <;> simp
set_option maxRecDepth 100000 in
set_option maxHeartbeats 4000000 in
theorem implRowFill_any (v u : Value) (ps : List Lb) (zs : List Int) (row : Int) (w : World) (hv : LAt w w.heap.size v ps) (hu : IAt w w.heap.size u zs) (hl : ps.length ≤ 1048576) (hr : ∀ i, (hi : i < ps.length) → ps[i].2.2.1.length ≤ 1048576) (hz : zs.length ≤ 1048576) :
    Calls Try.prog 25 #[v, u, .int .i64 row] w fun e w' => e = .returned (.tuple #[.int .i64 (valRF ps zs row), .int .i64 (codeRF ps zs row)]) ∧ Below w.heap.size w w' := by
  have VL := Lib.hid (fun W (h : Below w.heap.size w W) => implValidLabels_any v ps W (lat_up (lat_keep hv h) h.size) hl hr)
  have AP := Lib.hid (fun W (h : Below w.heap.size w W) => arePlaces_any v u ps zs W (lat_up (lat_keep hv h) h.size) (iat_up (iat_keep hu h) h.size) hl hr hz)
  have CO := Lib.hid (fun W => codeOf_any (okL ps) (placesOk ps zs && inB row 0 11) W)
  have FF := Lib.hid (fun h1 h2 W (h : Below w.heap.size w W) => firstFault_any v u ps zs W (lat_up (lat_keep hv h) h.size) (iat_up (iat_keep hu h) h.size) h1 h2)
  have EC := Lib.hid (codeRFI (ps := ps) (zs := zs) (row := row))
  have EV := Lib.hid (show valRF ps zs row = if codeRF ps zs row = 0 then fillK ps zs row ps.length else 0 from rfl)
  have HV := Lib.hid hv
  have HU := Lib.hid hu
  obtain ⟨a, c, rfl, _⟩ := hv
  obtain ⟨au, cu, rfl, _⟩ := hu
  have BX := Lib.hid ((Below.refl w.heap.size w).alloc (Nat.le_refl _) (.cells #[.int .i64 row] 2))
  have c1 : (w.alloc (.cells #[.int .i64 row] 2)).cell? ⟨w.heap.size, 0, none⟩ = some (.int .i64 row) := by simp [go_sem]
  have bx := Lib.hid (Boxed.new w 2 (.int .i64 row))
  have hlt : w.heap.size < (w.alloc (.cells #[.int .i64 row] 2)).heap.size := by simp
  obtain ⟨W, hW⟩ : ∃ W, Hid ((w.alloc (.cells #[.int .i64 row] 2)) = W) := ⟨_, Lib.hid rfl⟩
  rw [hW.out] at BX c1 bx hlt
  obtain ⟨K0, hK0⟩ : ∃ K : Int, Hid ((if okL ps = false then 1 else if (placesOk ps zs && inB row 0 11) = false then 2 else 0) = K) := ⟨_, Lib.hid rfl⟩
  rw [hK0.out] at CO EC
  obtain ⟨b3, h3⟩ : ∃ c, inB row 0 11 = c := ⟨_, rfl⟩
  by_cases h0 : K0 = 0
  · have HO : okL ps = true ∧ placesOk ps zs = true ∧ inB row 0 11 = true := by
      have e := hK0.out
      rw [h0] at e
      cases x1 : okL ps with
      | false => rw [x1] at e; simp at e
      | true =>
        cases x2 : placesOk ps zs with
        | false => rw [x1, x2] at e; simp at e
        | true =>
          cases x3 : inB row 0 11 with
          | false => rw [x1, x2, x3] at e; simp at e
          | true => exact ⟨rfl, rfl, rfl⟩
    obtain ⟨h1, h2, h3'⟩ := HO
    have FF2 := Lib.hid (FF.out h1 h2)
    subst h0
    rw [h3'] at h3 CO
    subst h3
    rw [h1, h2] at CO
    simp only [Bool.and_true, if_true] at CO
    by_cases h9 : 0 ≤ faultK ps zs
    · have ZC := Lib.hid (show codeRF ps zs row = 9 by rw [EC.out, if_pos rfl, if_pos h9])
      have ZV := Lib.hid (show valRF ps zs row = 0 by rw [EV.out, ZC.out]; rfl)
      rw [ZV.out, ZC.out]
      generalize faultK ps zs = Z at h9 FF2
      rw [h2] at AP
      have VL2 := Lib.hid (fun U (h : Below w.heap.size w U) => show Calls Try.prog 49 #[.slice a ps.length c] U fun e w' => e = .returned (.bool true) ∧ Below U.heap.size U w' by have := VL.out U h; rw [h1] at this; exact this)
      clear VL FF EC EV ZC ZV hK0 h1 h2
      go_enter Try.func25, Try.ntmps25
      go_wp2_with fail
      rw [hW.out]
      refine (VL2.out _ BX.out).mono ?_
      rintro e w1 ⟨rfl, hb1⟩
      have B1 := Lib.hid (BX.out.trans (hb1.mono BX.out.size))
      have d1 := (hb1.cell (p := ⟨w.heap.size, 0, none⟩) hlt).trans c1
      clear hb1
      go_wp2_with fail
      refine (AP.out w1 B1.out).mono ?_
      rintro e w2 ⟨rfl, rfl⟩
      go_wp2_with fail
      refine (isRowL _ h3').mono ?_
      rintro e w3 ⟨rfl, rfl⟩
      go_wp2_with fail
      refine (CO.out _).mono ?_
      rintro e w4 ⟨rfl, rfl⟩
      go_wp2_with fail
      refine (FF2.out _ B1.out).mono ?_
      rintro e w5 ⟨rfl, hb⟩
      have B5 := Lib.hid (B1.out.trans (hb.mono B1.out.size))
      clear hb
      go_wp2
      exact bodyPost_ret (v := .tuple #[.int .i64 0, .int .i64 9]) (by simp [results, Try.results25, go_sem]) rfl ⟨rfl, B5.out⟩
    · have ZC := Lib.hid (show codeRF ps zs row = 0 by rw [EC.out, if_pos rfl, if_neg h9])
      have ZV := Lib.hid (show valRF ps zs row = fillK ps zs row ps.length by rw [EV.out, if_pos ZC.out])
      rw [ZV.out, ZC.out]
      obtain ⟨hp, hzl, hf⟩ := places_facts h1 h2
      have HF := Lib.hid hf
      have HZL := Lib.hid hzl
      obtain ⟨R, hR⟩ : ∃ R, Hid (fillK ps zs row ps.length = R) := ⟨_, Lib.hid rfl⟩
      have EA := Lib.hid (show sumF (filF ps row) (onL zs ps.length) = R by rw [← fill_sum]; exact hR.out)
      rw [hR.out]
      have h9d : decide (0 ≤ faultK ps zs) = false := by simpa using h9
      generalize faultK ps zs = Z at h9 h9d FF2
      rw [h2] at AP
      have VL2 := Lib.hid (fun U (h : Below w.heap.size w U) => show Calls Try.prog 49 #[.slice a ps.length c] U fun e w' => e = .returned (.bool true) ∧ Below U.heap.size U w' by have := VL.out U h; rw [h1] at this; exact this)
      clear VL FF EC EV ZC ZV hK0 h1 h2 hzl hf
      refine (callsIn_wide (n := 5)).1 ?_
      refine callsIn_of_wp_marks Try.func25 rfl trivial ?_ rfl
      simp only [Try.ntmps25, List.size_toArray, List.length_cons, List.length_nil, Nat.reduceAdd, Nat.reduceSub, Array.replicate_succ, Array.replicate_zero, List.push_toArray, List.append_toArray, List.nil_append, List.cons_append]
      refine wpIn_wide.2 ?_
      go_wp2_with fail
      rw [hW.out]
      refine (VL2.out _ BX.out).mono ?_
      rintro e w1 ⟨rfl, hb1⟩
      have B1 := Lib.hid (BX.out.trans (hb1.mono BX.out.size))
      have d1 := (hb1.cell (p := ⟨w.heap.size, 0, none⟩) hlt).trans c1
      have bx1 := Lib.hid (bx.out.kept (grown_ofL hb1) (by simp))
      clear hb1
      go_wp2_with fail
      refine (AP.out w1 B1.out).mono ?_
      rintro e w2 ⟨rfl, rfl⟩
      go_wp2_with fail
      refine (isRowL _ h3').mono ?_
      rintro e w3 ⟨rfl, rfl⟩
      go_wp2_with fail
      refine (CO.out _).mono ?_
      rintro e w4 ⟨rfl, rfl⟩
      go_wp2_with fail
      refine (FF2.out _ B1.out).mono ?_
      rintro e w5 ⟨rfl, hb⟩
      have B5 := Lib.hid (B1.out.trans (hb.mono B1.out.size))
      have bx5 := Lib.hid (bx1.out.kept (grown_ofL hb) (by simp))
      have hgl : w.heap.size < w5.heap.size := bx5.out.lt
      have bx6 := Lib.hid (bx5.out.alloc (.cells #[.int .i64 0] 2))
      have bw6 := Lib.hid (Boxed.new w5 2 (.int .i64 0))
      have B6 := Lib.hid (B5.out.alloc B5.out.size (.cells #[.int .i64 0] 2))
      have hg1 : w5.heap.size < (w5.alloc (.cells #[.int .i64 0] 2)).heap.size := by simp
      clear hb d1 c1
      go_wp2_with fail
      generalize hW1 : w5.alloc (.cells #[.int .i64 0] 2) = W1 at *
      refine (placedSpans_any _ _ _ _ _ _ W1).mono ?_
      rintro e w7 ⟨rfl, hc1, hc2, hb7, hsz7⟩
      have bx7 := Lib.hid (show Boxed w7 w.heap.size 2 (.int .i64 row) from bx6.out.kept (grown_ofL hb7) (by simp))
      have bw7 := Lib.hid (show Boxed w7 w5.heap.size 2 (.int .i64 0) from bw6.out.kept (grown_ofL hb7) (by simp))
      have B7 := Lib.hid (B6.out.trans (hb7.mono B6.out.size))
      have LV := Lib.hid (lat_keep HV.out B7.out)
      have IV := Lib.hid (iat_keep HU.out B7.out)
      have HC1 := Lib.hid hc1
      have HC2 := Lib.hid hc2
      have HS7 := Lib.hid (show W1.heap.size + 2 = w7.heap.size from hsz7.symm)
      generalize w5.heap.size = gw at *
      generalize W1.heap.size = B at *
      clear hb7 hsz7 hc1 hc2 bx1 bx5 bx6 bw6 B6 B5 hW1
      go_wp2
      refine (wpIn_wide (n := 5)).1 ?_
      refine' wpIn_rangeFunc_ownH (F := Fence.wide) (n := 5) rfl (by omega) (gf := 121) (lb := #[.pointer (some ⟨B, 0, none⟩), .pointer (some ⟨B + 1, 0, none⟩)]) rfl trivial (enters_of Try.func121 (by kernel_rfl) rfl)
        (placed_stops (5 - 1) w.heap.size B (B + 1) _ _ ps zs hp HZL.out HF.out w7 HC1.out HC2.out LV.out IV.out B7.out.size) kpD_t kpD_b (Below.refl _ _) (fun _ => rfl)
        (fun pre W => (Boxed W w.heap.size 2 (.int .i64 row) ∧ Boxed W gw 2 (.int .i64 (sumF (filF ps row) (pre.map Subtype.val)))) ∧ Below w.heap.size w W)
        (fun _ _ _ => False)
        (OwnFrom.and (Own.from (fun s A B' row' hs hg hr => ⟨boxed_own w.heap.size 2 (fun _ : List (Plc ps zs) => Value.int .i64 row) s A B' row' hs.1 hg hr, boxed_own gw 2 (fun pre : List (Plc ps zs) => Value.int .i64 (sumF (filF ps row) (pre.map Subtype.val))) s A B' row' hs.2 hg hr⟩) _) (ownFrom_below (Nat.le_refl _) B7.out.size))
        (fun _ _ _ _ _ hs _ _ => hs)
        ⟨⟨bx7.out, by simpa [sumF] using bw7.out⟩, B7.out⟩
        (fun x a' W => ∃ b1 : Nat, gw < b1 ∧ W.heap[b1]? = some (.cells #[.int .i64 (spl ps zs x.1).1, .int .i64 (spl ps zs x.1).2.1, .int .i64 (spl ps zs x.1).2.2] 90 (0, 0)) ∧ a' = { tmps := #[.slice a ps.length c, .slice au zs.length cu, .int .i64 row, undef, undef, .pointer (some ⟨w.heap.size, 0, none⟩), .int .i64 0, .int .i64 0, .int .i64 0, .pointer (some ⟨gw, 0, none⟩), undef, .pointer (some ⟨b1, 0, none⟩), .slice a ps.length c, .bool true, .slice a ps.length c, .slice au zs.length cu, .bool true, .bool true, .int .i64 row, .bool true, .bool true, .int .i64 0, .int .i64 0, .bool false, undef, .slice a ps.length c, .slice au zs.length cu, .int .i64 Z, .bool false, .slice a ps.length c, .slice au zs.length cu, .func (.func 121) #[] #[.pointer (some ⟨B, 0, none⟩), .pointer (some ⟨B + 1, 0, none⟩)], .int .i64 (x.1 : Int), .agg #[.int .i64 (spl ps zs x.1).1, .int .i64 (spl ps zs x.1).2.1, .int .i64 (spl ps zs x.1).2.2], undef, undef, undef, undef, undef, undef, undef, undef, undef, undef, undef, undef], defers := [] })
        (fun x a' s A B' row' hs hg hr => by
          obtain ⟨b1, h1, h3, h5⟩ := hs
          exact ⟨b1, h1, cells_keptL h3 hg hr, h5⟩)
        ?assign ?body ?done ?stop
      case assign =>
        rintro l pre x W K ⟨⟨hr0, hv⟩, hB⟩ hK
        have hs := hB.size
        have hlt := hv.lt
        have hK' := hK _ _ ((KeepsOthers.alloc W (.cells #[.int .i64 (spl ps zs x.1).1, .int .i64 (spl ps zs x.1).2.1, .int .i64 (spl ps zs x.1).2.2] 90)).from _) (kpD_of ((Below.refl _ _).alloc (Nat.le_refl _) _)) ⟨⟨hr0.alloc _, hv.alloc _⟩, hB.alloc hs _⟩ ⟨W.heap.size, hlt, World.alloc_heap_new W _, rfl⟩
        clear hK
        unfold encP sv
        change K _ _ at hK'
        gi_wp2
        exact hK'
      case body =>
        rintro l pre x a' W hl hlr ⟨⟨hr0, hv⟩, hB⟩ ⟨b1, g1, g2, rfl⟩ hlt2
        have hsz := hB.size
        have F1 := HF.out x.1 x.2.1
        obtain ⟨hone, hz0, hz1⟩ := F1
        have F2 := oneL_facts hone
        have hon : 0 ≤ zAt zs x.1 := by have := x.2.2; simpa [onB] using this
        have SA : 0 ≤ sAt ps zs x.1 ∧ sAt ps zs x.1 ≤ 1000 := by
          have := F2.2.2.2.2 (zAt zs x.1).toNat (by omega)
          exact this
        have SB := sumF_b (f := filF ps row) (M := 1000) (by omega) (pre.map Subtype.val) (fun z hz => by
          obtain ⟨y, _, rfl⟩ := List.mem_map.1 hz
          have := (oneL_facts (HF.out y.1 y.2.1).1).2.2.1
          unfold filF; split <;> omega)
        rw [List.length_map] at SB
        have SN : sumF (filF ps row) ((pre ++ [x]).map Subtype.val) = sumF (filF ps row) (pre.map Subtype.val) + filF ps row x.1 := by rw [List.map_append]; exact sumF_snoc _ _ _
        have W3 : (spl ps zs x.1).2.2 - (spl ps zs x.1).2.1 = (lbAt ps x.1).2.1 := by simp only [spl, spanL]; omega
        have R1 : (spl ps zs x.1).2.1 = sAt ps zs x.1 := rfl
        have EQ1 := Lib.hid (show (spl ps zs x.1).1 = row → sumF (filF ps row) ((pre ++ [x]).map Subtype.val) = sumF (filF ps row) (pre.map Subtype.val) + ((spl ps zs x.1).2.2 - (spl ps zs x.1).2.1) from fun h => by rw [SN, W3]; unfold filF; rw [if_pos (show (lbAt ps x.1).1 = row from h)])
        have EQ2 := Lib.hid (show ¬ (spl ps zs x.1).1 = row → sumF (filF ps row) ((pre ++ [x]).map Subtype.val) = sumF (filF ps row) (pre.map Subtype.val) from fun h => by rw [SN]; unfold filF; rw [if_neg (show ¬ (lbAt ps x.1).1 = row from h)]; simp)
        have POST := Lib.hid (show ∀ z : Int, sumF (filF ps row) ((pre ++ [x]).map Subtype.val) = z → KeepsFrom w7.heap.size W (W.setCell ⟨gw, 0, none⟩ (.int .i64 z)) ∧ KpD w.heap.size B (B + 1) W (W.setCell ⟨gw, 0, none⟩ (.int .i64 z)) ∧ ((Boxed (W.setCell ⟨gw, 0, none⟩ (.int .i64 z)) w.heap.size 2 (.int .i64 row) ∧ Boxed (W.setCell ⟨gw, 0, none⟩ (.int .i64 z)) gw 2 (.int .i64 (sumF (filF ps row) ((pre ++ [x]).map Subtype.val)))) ∧ Below w.heap.size w (W.setCell ⟨gw, 0, none⟩ (.int .i64 z))) from fun z hz => by
          refine ⟨(KeepsOthers.setCell _ _ _).from _, ⟨by simp, fun i cs t fr hi hc => ?_⟩, ⟨(heap_setCell_other W ⟨gw, 0, none⟩ _ _ (by show w.heap.size ≠ gw; omega)).trans hr0, by rw [hz]; exact hv.set _⟩, hB.setCell (p := ⟨gw, 0, none⟩) (by show w.heap.size ≤ gw; omega) _⟩
          rw [← hc]
          exact heap_setCell_other W ⟨gw, 0, none⟩ i _ (by show i ≠ gw; omega))
        have POST0 := Lib.hid (show sumF (filF ps row) ((pre ++ [x]).map Subtype.val) = sumF (filF ps row) (pre.map Subtype.val) → KeepsFrom w7.heap.size W W ∧ KpD w.heap.size B (B + 1) W W ∧ ((Boxed W w.heap.size 2 (.int .i64 row) ∧ Boxed W gw 2 (.int .i64 (sumF (filF ps row) ((pre ++ [x]).map Subtype.val)))) ∧ Below w.heap.size w W) from fun hz => ⟨(KeepsOthers.refl W).from _, kpD_of (Below.refl _ _), ⟨hr0, by rw [hz]; exact hv⟩, hB⟩)
        have k0 := cell_heapL g2 0
        have k1 := cell_heapL g2 1
        have k2 := cell_heapL g2 2
        have c0 := hr0.cell
        have cV := hv.cell
        have fV := hv.frozen
        have wb := F2.2.2.1
        rw [← W3] at wb
        rw [← R1] at SA
        clear g2 hr0 hv hB hlr F2 hone SN W3 R1
        generalize sumF (filF ps row) (pre.map Subtype.val) = S0 at *
        generalize (spl ps zs x.1).1 = s1 at *
        generalize (spl ps zs x.1).2.1 = s2 at *
        generalize (spl ps zs x.1).2.2 = s3 at *
        have m1 : IntKind.i64.wrap (s3 - s2) = s3 - s2 := IntWalk.i64_in _ (by omega)
        have m2 : IntKind.i64.wrap (S0 + (s3 - s2)) = S0 + (s3 - s2) := IntWalk.i64_in _ (by omega)
        clear SA wb SB hz0 hz1 hon
        by_cases hrow : s1 = row
        · have E := Lib.hid (EQ1.out hrow)
          subst hrow
          gi_wp2
          exact POST.out _ E.out
        · have E := Lib.hid (EQ2.out hrow)
          have hd1 : decide (s1 = row) = false := by simpa using hrow
          have hd2 : (s1 == row) = false := by simpa using hrow
          gi_wp2
          exact POST0.out E.out
      case done =>
        rintro D ys W hD hys ⟨⟨h7, h9⟩, hB⟩ hK
        have e : sumF (filF ps row) (ys.map Subtype.val) = R := by rw [hys]; exact EA.out
        rw [e] at h9
        have hc := h9.cell
        clear e
        go_wp2
        refine ⟨by simp, .inl ⟨_, _, rfl, run_takeDeferred hK, ?_⟩⟩
        refine ⟨.tuple #[.int .i64 R, .int .i64 0], ?_, rfl, hB.trans (belowK_b (w := w7) B7.out.size W D _ _ hD hK rfl rfl)⟩
        simp [results, Try.results25, go_sem]
      case stop =>
        rintro D c pre W _ _ hh _
        exact hh.elim
  · have ZC := Lib.hid (show codeRF ps zs row = K0 by rw [EC.out, if_neg h0])
    have ZV := Lib.hid (show valRF ps zs row = 0 by rw [EV.out, ZC.out, if_neg h0])
    rw [ZV.out, ZC.out]
    have hzz1 : decide (K0 = 0) = false := by simpa using h0
    have hzz2 : (K0 == 0) = false := by simpa using h0
    rw [h3] at CO
    generalize okL ps = o1 at VL CO
    generalize placesOk ps zs = o2 at AP CO
    clear FF ZV ZC EC EV hK0
    cases o2 <;>
    · go_enter Try.func25, Try.ntmps25
      go_wp2_with fail
      rw [hW.out]
      refine (VL.out _ BX.out).mono ?_
      rintro e w1 ⟨rfl, hb1⟩
      have B1 := Lib.hid (BX.out.trans (hb1.mono BX.out.size))
      have d1 := (hb1.cell (p := ⟨w.heap.size, 0, none⟩) hlt).trans c1
      clear hb1
      go_wp2_with fail
      refine (AP.out w1 B1.out).mono ?_
      rintro e w2 ⟨rfl, rfl⟩
      first
        | (go_wp2_with fail; refine (isRowL _ h3).mono ?_; rintro e w3 ⟨rfl, rfl⟩; go_wp2_with fail; refine (CO.out _).mono ?_; rintro e w4 ⟨rfl, rfl⟩)
        | (go_wp2_with fail; refine (CO.out _).mono ?_; rintro e w4 ⟨rfl, rfl⟩)
      go_wp2
      exact bodyPost_ret (v := .tuple #[.int .i64 0, .int .i64 K0]) (by simp [results, Try.results25, go_sem]) rfl ⟨rfl, B1.out⟩
end Go.Proofs.Ytmfjpmimkpldjaa.ltab
