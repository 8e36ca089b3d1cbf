/- The model's labels and places: what is told of them: contracts. -/
import Derived.Test.YtmfjpmimkpldjaaLabS4
namespace Go.Proofs.Ytmfjpmimkpldjaa.ltab
open Go.ChangeShapes Go.WideShapes Go.ChangeAt Go.RowKit Go.Proofs.Ytmfjpmimkpldjaa.irows Go.Proofs.Ytmfjpmimkpldjaa.sines
set_option linter.unusedSimpArgs false
set_option linter.unusedVariables false

set_option maxRecDepth 100000 in
set_option maxHeartbeats 1000000 in
theorem specPlacesFault_any (v u : Value) (ps : List Lb) (zs : List Int) (w : World) (hv : LAt w w.heap.size v ps) (hu : IAt w w.heap.size u zs) (hl : ps.length ≤ 1048576) (hr : ∀ i, (hi : i < ps.length) → ps[i].2.2.1.length ≤ 1048576) (hz : zs.length ≤ 1048576) :
    Calls Try.prog 55 #[v, u] w fun e w' => e = .returned (.tuple #[.int .i64 (valPF ps zs), .int .i64 (codeK ps zs)]) ∧ Below w.heap.size w w' := by
  have CO := Lib.hid (l11Code_any v u ps zs w hv hu hl hr hz)
  have FA := Lib.hid (fun h1 h2 q => l11Fault_any v u ps zs (w.drewN q) (lat_keep hv (below_drawn w q)) (iat_keep hu (below_drawn w q)) h1 h2)
  obtain ⟨a, c, rfl, _⟩ := hv
  obtain ⟨au, cu, rfl, _⟩ := hu
  by_cases h0 : codeK ps zs = 0
  · obtain ⟨h1, h2⟩ := codeK_zero h0
    have FA2 := Lib.hid (FA.out h1 h2)
    have ZV := Lib.hid (show valPF ps zs = faultK ps zs by rw [valPF, if_pos h0])
    rw [ZV.out, h0]
    rw [h0] at CO
    generalize faultK ps zs = F at FA2 ⊢
    clear FA ZV h1 h2 h0
    go_enter Try.func55, Try.ntmps55
    go_wp2_with fail
    refine CO.out.mono ?_
    rintro e w1 ⟨rfl, q, rfl⟩
    go_wp2_with fail
    refine (FA2.out _).mono ?_
    rintro e w1 ⟨rfl, q2, rfl⟩
    go_wp2
    exact bodyPost_ret (v := .tuple #[.int .i64 F, .int .i64 0]) (by simp [results, Try.results55, go_sem]) rfl ⟨rfl, by repeat (first | exact Below.refl _ _ | refine bdr ?_ _)⟩
  · have ZV := Lib.hid (show valPF ps zs = 0 by rw [valPF, if_neg h0])
    rw [ZV.out]
    have hz1 : decide (codeK ps zs = 0) = false := by simpa using h0
    have hz2 : (codeK ps zs == 0) = false := by simpa using h0
    generalize codeK ps zs = C at h0 hz1 hz2 CO ⊢
    clear FA ZV
    go_enter Try.func55, Try.ntmps55
    go_wp2_with fail
    refine CO.out.mono ?_
    rintro e w1 ⟨rfl, q, rfl⟩
    go_wp2
    exact bodyPost_ret (v := .tuple #[.int .i64 0, .int .i64 C]) (by simp [results, Try.results55, go_sem]) rfl ⟨rfl, by repeat (first | exact Below.refl _ _ | refine bdr ?_ _)⟩
set_option maxRecDepth 100000 in
set_option maxHeartbeats 1000000 in
theorem specWeightPlaced_any (v u : Value) (ps : List Lb) (zs : List Int) (w : World) (hv : LAt w w.heap.size v ps) (hu : IAt w w.heap.size u zs) (hl : ps.length ≤ 1048576) (hr : ∀ i, (hi : i < ps.length) → ps[i].2.2.1.length ≤ 1048576) (hz : zs.length ≤ 1048576) :
    Calls Try.prog 58 #[v, u] w fun e w' => e = .returned (.tuple #[.int .i64 (valW ps zs), .int .i64 (codeK ps zs)]) ∧ Below w.heap.size w w' := by
  have CO := Lib.hid (l11Code_any v u ps zs w hv hu hl hr hz)
  obtain ⟨a, c, rfl, hcl⟩ := lat_k hv
  have HCL := Lib.hid hcl
  obtain ⟨au, cu, rfl, hcu⟩ := hu
  have HCU := Lib.hid hcu
  clear hcl hcu hv hr
  by_cases h0 : codeK ps zs = 0
  · obtain ⟨h1, h2⟩ := codeK_zero h0
    obtain ⟨hp, hzl, hf⟩ := places_facts h1 h2
    have HF := Lib.hid hf
    have ZV := Lib.hid (show valW ps zs = weightK ps zs ps.length by rw [valW, if_pos h0])
    rw [ZV.out, h0]
    rw [h0] at CO
    have hk2 : (ps.length : Int) ≤ 8 := by omega
    have HWB := Lib.hid (weightK_b (zs := zs) (fun k hk => (hf k hk).1))
    rw [hzl] at HCU CO ⊢
    clear ZV h1 h2 h0 hf hzl hz
    go_enter Try.func58, Try.ntmps58
    go_wp2_with fail
    refine CO.out.mono ?_
    rintro e w1 ⟨rfl, q, rfl⟩
    go_wp2
    go_loopw [7, 8] (fun s i wr => ∃ k n : Nat, k ≤ ps.length ∧ i = .int .i64 (k : Int) ∧ s = .int .i64 (weightK ps zs k) ∧ wr = w.drewN n) (fun _ i _ => ps.length - (intOf i).toNat)
    case atStart => exact ⟨0, q, Nat.zero_le _, rfl, rfl, rfl⟩
    case round =>
      obtain ⟨k, n, hk, rfl, rfl, rfl⟩ := hrel
      by_cases hlt : k < ps.length
      · have hk0 : 0 ≤ (k : Int) := by omega
        have hk1 : (k : Int) < (ps.length : Int) := by omega
        obtain ⟨b2, off2, rfl, hbs2, d1⟩ := HCU.out k hlt
        obtain ⟨b, off, rfl, hbs, x, _, _, _, c4, _⟩ := HCL.out k hlt
        obtain ⟨wb0, wb1⟩ := HWB.out k hk
        have F1 := (oneL_facts (HF.out k hlt).1).2.2.2.1
        have EW := Lib.hid (show weightK ps zs (k + 1) = weightK ps zs k + (if onB zs k = true then (lbAt ps k).2.2.2 else 0) from rfl)
        have EO := Lib.hid (show onB zs k = decide (0 ≤ zAt zs k) from rfl)
        generalize weightK ps zs k = S at wb0 wb1 EW ⊢
        generalize (lbAt ps k).2.2.2 = t at c4 F1 EW
        generalize zAt zs k = z at d1 EO
        have kw : IntKind.i64.wrap (S + t) = S + t := IntWalk.i64_in _ (by omega)
        by_cases hon : 0 ≤ z
        · have E2 := Lib.hid (show S + t = weightK ps zs (k + 1) by rw [EW.out, EO.out, if_pos (by simpa using hon)])
          clear EW EO
          go_wp2
          go_roundw
          case rel => exact ⟨k + 1, _, by omega, by go_num, by rw [E2.out], rfl⟩
          case measure => simp [intOf]; omega
        · have hd : decide (0 ≤ z) = false := by simpa using hon
          have E2 := Lib.hid (show S = weightK ps zs (k + 1) by rw [EW.out, EO.out, if_neg (by simpa using hon)]; simp)
          clear EW EO
          go_wp2
          go_roundw
          case rel => exact ⟨k + 1, _, by omega, by go_num, by rw [E2.out], rfl⟩
          case measure => simp [intOf]; omega
      · obtain rfl : k = ps.length := by omega
        go_wp2
        exact bodyPost_ret (v := .tuple #[.int .i64 (weightK ps zs ps.length), .int .i64 0]) (by simp [results, Try.results58, go_sem]) rfl ⟨rfl, below_drawn _ _⟩
  · have ZV := Lib.hid (show valW ps zs = 0 by rw [valW, if_neg h0])
    rw [ZV.out]
    have hz1 : decide (codeK ps zs = 0) = false := by simpa using h0
    have hz2 : (codeK ps zs == 0) = false := by simpa using h0
    generalize codeK ps zs = C at h0 hz1 hz2 CO ⊢
    clear ZV HCL HCU
    go_enter Try.func58, Try.ntmps58
    go_wp2_with fail
    refine CO.out.mono ?_
    rintro e w1 ⟨rfl, q, rfl⟩
    go_wp2
    exact bodyPost_ret (v := .tuple #[.int .i64 0, .int .i64 C]) (by simp [results, Try.results58, go_sem]) rfl ⟨rfl, below_drawn _ _⟩
set_option maxRecDepth 100000 in
set_option maxHeartbeats 1000000 in
theorem specLeftOut_any (v u : Value) (ps : List Lb) (zs : List Int) (w : World) (hv : LAt w w.heap.size v ps) (hu : IAt w w.heap.size u zs) (hl : ps.length ≤ 1048576) (hr : ∀ i, (hi : i < ps.length) → ps[i].2.2.1.length ≤ 1048576) (hz : zs.length ≤ 1048576) :
    Calls Try.prog 64 #[v, u] w fun e w' => ∃ r, e = .returned (.tuple #[r, .int .i64 (codeK ps zs)]) ∧ IRow w' w.heap.size r (valLO ps zs) ∧ Below w.heap.size w w' := by
  obtain ⟨i0, hi, hz0, hz1, hz2⟩ := info_parts info_int
  have CO := Lib.hid (l11Code_any v u ps zs w hv hu hl hr hz)
  obtain ⟨a, c, rfl, _⟩ := hv
  obtain ⟨au, cu, rfl, hcu⟩ := hu
  have HCU := Lib.hid hcu
  clear hcu hr
  by_cases h0 : codeK ps zs = 0
  · obtain ⟨h1, h2⟩ := codeK_zero h0
    obtain ⟨hp, hzl, _⟩ := places_facts h1 h2
    have ZV := Lib.hid (show valLO ps zs = outK zs zs.length by rw [valLO, if_pos h0])
    rw [ZV.out, h0]
    rw [h0] at CO
    have hk2 : (zs.length : Int) ≤ 8 := by omega
    clear ZV h1 h2 h0 hzl hz
    go_enter Try.func64, Try.ntmps64
    go_wp2_with fail
    refine CO.out.mono ?_
    rintro e w1 ⟨rfl, q, hq⟩
    have B1 := Lib.hid (show Below w.heap.size w w1 by rw [hq]; exact below_drawn _ _)
    clear hq
    go_wp2
    go_loopw [7, 8] (fun u i wr => ∃ k : Nat, k ≤ zs.length ∧ i = .int .i64 (k : Int) ∧ IRow wr w1.heap.size u (outK zs k) ∧ Below w1.heap.size w1 wr) (fun _ i _ => zs.length - (intOf i).toNat)
    case atStart => exact ⟨0, Nat.zero_le _, rfl, irow_madeL _ _ (Nat.le_refl _), (Below.refl _ _).alloc (Nat.le_refl _) _⟩
    case round =>
      obtain ⟨k, hk, rfl, hr, hb⟩ := hrel
      have HR2 := Lib.hid hr
      have HB3 := Lib.hid hb
      have hsz := hb.size
      have NL := outK_len zs k
      by_cases hlt : k < zs.length
      · obtain ⟨bb, off, rfl, hbs, c1⟩ := HCU.out k hlt
        have d1 := ((B1.out.trans (hb.mono B1.out.size)).cell (p := ⟨bb, off + k, none⟩) hbs).trans c1
        have hk0' : 0 ≤ (k : Int) := by omega
        have hk1 : (k : Int) < (zs.length : Int) := by omega
        have EO := Lib.hid (show outK zs (k + 1) = if zAt zs k < 0 then outK zs k ++ [(k : Int)] else outK zs k from rfl)
        obtain ⟨ns, hns⟩ : ∃ ns, Hid (outK zs k = ns) := ⟨_, Lib.hid rfl⟩
        rw [hns.out] at NL HR2 EO
        clear c1 hb hr
        generalize zAt zs k = z at d1 EO
        by_cases hd : z < 0
        · have SM := Lib.hid (show outK zs (k + 1) = ns ++ [(k : Int)] by rw [EO.out, if_pos hd])
          go_wp2_with (at_builtin; refine wpList_append_own _ rfl _ _ 26 rfl (w1.heap.size) 2 i0 (.int .i64 0) 1 8 Try.underlying26 hi hz0 hz1 hz2 rfl (by decide) _ ns.length _ rfl (HR2.out.alloc _) ⟨wr.heap.size, 0, none⟩ 1 1 [.int .i64 (k : Int)] rfl rfl (newL _ _ _ (by first | rfl | simp)) (cellL _) (by unfold maxLen; omega) (by omega) (by simp; omega) ?_; intro v4 w4 hown1 hg1 _)
          go_roundw
          case rel => exact ⟨k + 1, by omega, by go_num, by rw [SM.out]; exact snocL hown1, (HB3.out.alloc hsz _).grown hg1 (by simp; omega) (fun j hj => (HR2.out.lt j hj).1)⟩
          case measure => simp [intOf]; omega
        · have SM := Lib.hid (show outK zs (k + 1) = ns by rw [EO.out, if_neg hd])
          have hd2 : decide (z < 0) = false := by simpa using hd
          go_wp2
          go_roundw
          case rel => exact ⟨k + 1, by omega, by go_num, by rw [SM.out]; exact HR2.out, HB3.out⟩
          case measure => simp [intOf]; omega
      · obtain rfl : k = zs.length := by omega
        clear hr hb
        go_wp2
        exact bodyPost_ret (v := .tuple #[u7, .int .i64 0]) (by simp [results, Try.results64, go_sem]) rfl ⟨_, rfl, irow_up HR2.out B1.out.size, B1.out.trans (HB3.out.mono B1.out.size)⟩
  · have ZV := Lib.hid (show valLO ps zs = [] by rw [valLO, if_neg h0])
    rw [ZV.out]
    have hzz1 : decide (codeK ps zs = 0) = false := by simpa using h0
    have hzz2 : (codeK ps zs == 0) = false := by simpa using h0
    generalize codeK ps zs = C at h0 hzz1 hzz2 CO ⊢
    clear ZV HCU
    go_enter Try.func64, Try.ntmps64
    go_wp2_with fail
    refine CO.out.mono ?_
    rintro e w1 ⟨rfl, q, rfl⟩
    go_wp2
    exact bodyPost_ret (v := .tuple #[.slice none 0 0, .int .i64 C]) (by simp [results, Try.results64, go_sem]) rfl ⟨_, rfl, irow_nil _ _, below_drawn _ _⟩
theorem codeRF_k {ps : List Lb} {zs : List Int} {row : Int} : codeRF ps zs row = if codeK ps zs = 0 then (if inB row 0 11 = true then (if 0 ≤ faultK ps zs then 9 else 0) else 2) else codeK ps zs := by
  unfold codeRF codeK
  cases okL ps <;> cases placesOk ps zs <;> cases inB row 0 11 <;> simp
set_option maxRecDepth 100000 in
set_option maxHeartbeats 2000000 in
theorem specRowFill_any (v u : Value) (ps : List Lb) (zs : List Int) (row : Int) (w : World) (hv : LAt w w.heap.size v ps) (hu : IAt w w.heap.size u zs) (hl : ps.length ≤ 1048576) (hr : ∀ i, (hi : i < ps.length) → ps[i].2.2.1.length ≤ 1048576) (hz : zs.length ≤ 1048576) :
    Calls Try.prog 65 #[v, u, .int .i64 row] w fun e w' => e = .returned (.tuple #[.int .i64 (valRF ps zs row), .int .i64 (codeRF ps zs row)]) ∧ Below w.heap.size w w' := by
  have CO := Lib.hid (l11Code_any v u ps zs w hv hu hl hr hz)
  have FA := Lib.hid (fun h1 h2 q => l11Fault_any v u ps zs (w.drewN q) (lat_keep hv (below_drawn w q)) (iat_keep hu (below_drawn w q)) h1 h2)
  obtain ⟨a, c, rfl, hcl⟩ := lat_k hv
  have HCL := Lib.hid hcl
  obtain ⟨au, cu, rfl, hcu⟩ := hu
  have HCU := Lib.hid hcu
  clear hcl hcu hv hr
  have EC := Lib.hid (codeRF_k (ps := ps) (zs := zs) (row := row))
  have EV := Lib.hid (show valRF ps zs row = if codeRF ps zs row = 0 then fillK ps zs row ps.length else 0 from rfl)
  by_cases h0 : codeK ps zs = 0
  · obtain ⟨h1, h2⟩ := codeK_zero h0
    have FA2 := Lib.hid (FA.out h1 h2)
    obtain ⟨hp, hzl, hf⟩ := places_facts h1 h2
    have HF := Lib.hid hf
    rw [h0] at CO
    have hk2 : (ps.length : Int) ≤ 8 := by omega
    have HWB := Lib.hid (fillK_b (zs := zs) (row := row) (fun k hk => (hf k hk).1))
    cases h3 : inB row 0 11 with
    | false =>
      have ZC := Lib.hid (show codeRF ps zs row = 2 by rw [EC.out, if_pos h0, h3]; rfl)
      have ZV := Lib.hid (show valRF ps zs row = 0 by rw [EV.out, ZC.out]; rfl)
      rw [ZV.out, ZC.out]
      clear FA FA2 h0 h1 h2 hf hzl hz EC EV ZC ZV HWB HF HCL HCU hp
      go_enter Try.func65, Try.ntmps65
      go_wp2_with fail
      refine CO.out.mono ?_
      rintro e w1 ⟨rfl, q, rfl⟩
      go_wp2_with fail
      refine (l00InL _ h3).mono ?_
      rintro e w1 ⟨rfl, rfl⟩
      go_wp2
      exact bodyPost_ret (v := .tuple #[.int .i64 0, .int .i64 2]) (by simp [results, Try.results65, go_sem]) rfl ⟨rfl, below_drawn _ _⟩
    | true =>
      by_cases h9 : 0 ≤ faultK ps zs
      · have ZC := Lib.hid (show codeRF ps zs row = 9 by rw [EC.out, if_pos h0, h3, if_pos rfl, if_pos h9])
        have ZV := Lib.hid (show valRF ps zs row = 0 by rw [EV.out, ZC.out]; rfl)
        rw [ZV.out, ZC.out]
        generalize faultK ps zs = F at h9 FA2
        clear FA h0 h1 h2 hf hzl hz EC EV ZC ZV HWB HF HCL HCU hp
        go_enter Try.func65, Try.ntmps65
        go_wp2_with fail
        refine CO.out.mono ?_
        rintro e w1 ⟨rfl, q, rfl⟩
        go_wp2_with fail
        refine (l00InL _ h3).mono ?_
        rintro e w1 ⟨rfl, rfl⟩
        go_wp2_with fail
        refine (FA2.out _).mono ?_
        rintro e w1 ⟨rfl, q2, rfl⟩
        go_wp2
        exact bodyPost_ret (v := .tuple #[.int .i64 0, .int .i64 9]) (by simp [results, Try.results65, go_sem]) rfl ⟨rfl, by repeat (first | exact Below.refl _ _ | refine bdr ?_ _)⟩
      · have ZC := Lib.hid (show codeRF ps zs row = 0 by rw [EC.out, if_pos h0, h3, if_pos rfl, if_neg h9])
        have ZV := Lib.hid (show valRF ps zs row = fillK ps zs row ps.length by rw [EV.out, if_pos ZC.out])
        rw [ZV.out, ZC.out]
        have h9d : decide (0 ≤ faultK ps zs) = false := by simpa using h9
        generalize faultK ps zs = F at h9 h9d FA2
        rw [hzl] at HCU CO FA2 ⊢
        clear FA h0 h1 h2 hf hzl hz EC EV ZC ZV
        go_enter Try.func65, Try.ntmps65
        go_wp2_with fail
        refine CO.out.mono ?_
        rintro e w1 ⟨rfl, q, rfl⟩
        go_wp2_with fail
        refine (l00InL _ h3).mono ?_
        rintro e w1 ⟨rfl, rfl⟩
        go_wp2_with fail
        refine (FA2.out _).mono ?_
        rintro e w1 ⟨rfl, q2, rfl⟩
        go_wp2
        go_loopw [9, 10] (fun s i wr => ∃ k n : Nat, k ≤ ps.length ∧ i = .int .i64 (k : Int) ∧ s = .int .i64 (fillK ps zs row k) ∧ wr = w.drewN n) (fun _ i _ => ps.length - (intOf i).toNat)
        case atStart => exact ⟨0, q + q2, Nat.zero_le _, rfl, rfl, by first | rfl | exact World.drewN_drewN _ _ _⟩
        case round =>
          obtain ⟨k, n, hk, rfl, rfl, rfl⟩ := hrel
          by_cases hlt : k < ps.length
          · have hk0 : 0 ≤ (k : Int) := by omega
            have hk1 : (k : Int) < (ps.length : Int) := by omega
            obtain ⟨b2, off2, rfl, hbs2, d1⟩ := HCU.out k hlt
            obtain ⟨b, off, rfl, hbs, x, c1, c2, _, _, _⟩ := HCL.out k hlt
            obtain ⟨wb0, wb1⟩ := HWB.out k hk
            have F1 := (oneL_facts (HF.out k hlt).1).2.2.1
            have EW := Lib.hid (show fillK ps zs row (k + 1) = fillK ps zs row k + (if (decide ((lbAt ps k).1 = row) && decide (0 ≤ zAt zs k)) = true then (lbAt ps k).2.1 else 0) from rfl)
            generalize fillK ps zs row k = S at wb0 wb1 EW ⊢
            generalize (lbAt ps k).2.1 = t at c2 F1 EW
            generalize (lbAt ps k).1 = rw1 at c1 EW
            generalize zAt zs k = z at d1 EW
            have kw : IntKind.i64.wrap (S + t) = S + t := IntWalk.i64_in _ (by omega)
            by_cases hrow : rw1 = row
            · subst hrow
              by_cases hon : 0 ≤ z
              · have E2 := Lib.hid (show S + t = fillK ps zs rw1 (k + 1) by rw [EW.out, if_pos (by simpa using hon)])
                clear EW
                go_wp2
                go_roundw
                case rel => exact ⟨k + 1, _, by omega, by go_num, by rw [E2.out], rfl⟩
                case measure => simp [intOf]; omega
              · have hd : decide (0 ≤ z) = false := by simpa using hon
                have E2 := Lib.hid (show S = fillK ps zs rw1 (k + 1) by rw [EW.out, if_neg (by simpa using hon)]; simp)
                clear EW
                go_wp2
                go_roundw
                case rel => exact ⟨k + 1, _, by omega, by go_num, by rw [E2.out], rfl⟩
                case measure => simp [intOf]; omega
            · have hd1 : decide (rw1 = row) = false := by simpa using hrow
              have hd2 : (rw1 == row) = false := by simpa using hrow
              have E2 := Lib.hid (show S = fillK ps zs row (k + 1) by rw [EW.out, hd1]; simp)
              clear EW
              go_wp2
              go_roundw
              case rel => exact ⟨k + 1, _, by omega, by go_num, by rw [E2.out], rfl⟩
              case measure => simp [intOf]; omega
          · obtain rfl : k = ps.length := by omega
            go_wp2
            exact bodyPost_ret (v := .tuple #[.int .i64 (fillK ps zs row ps.length), .int .i64 0]) (by simp [results, Try.results65, go_sem]) rfl ⟨rfl, below_drawn _ _⟩
  · have ZC := Lib.hid (show codeRF ps zs row = codeK ps zs by rw [EC.out, if_neg h0])
    have ZV := Lib.hid (show valRF ps zs row = 0 by rw [EV.out, ZC.out, if_neg h0])
    rw [ZV.out, ZC.out]
    have hz1 : decide (codeK ps zs = 0) = false := by simpa using h0
    have hz2 : (codeK ps zs == 0) = false := by simpa using h0
    generalize codeK ps zs = C at h0 hz1 hz2 CO ⊢
    clear ZV ZC EC EV FA HCL HCU
    go_enter Try.func65, Try.ntmps65
    go_wp2_with fail
    refine CO.out.mono ?_
    rintro e w1 ⟨rfl, q, rfl⟩
    go_wp2
    exact bodyPost_ret (v := .tuple #[.int .i64 0, .int .i64 C]) (by simp [results, Try.results65, go_sem]) rfl ⟨rfl, below_drawn _ _⟩
end Go.Proofs.Ytmfjpmimkpldjaa.ltab
