/- Moved chains and points inside: contracts of the program. -/
import Derived.Test.YtemhmejjmhbfdabJoinI3
import Derived.Test.YtemhmejjmhbfdabChainI2
namespace Go.Proofs.Ytemhmejjmhbfdab.sines
open Go.ChangeShapes Go.WideShapes Go.ChangeAt Go.RowKit Go.Shelf Go.Proofs.Ytemhmejjmhbfdab.spots Go.Proofs.Ytemhmejjmhbfdab.irows Go.Proofs.Ytemhmejjmhbfdab.pairsPlace
attribute [local go_sem] Oper.semAt_some
set_option linter.unusedSimpArgs false
set_option linter.unusedVariables false

theorem isMove_any (d : Int) (w : World) :
    Calls Try.prog 81 #[.int .i64 d] w fun e w' => e = .returned (.bool (inB d (-2000) 2000)) ∧ w = w' := by
  go_enter Try.func81, Try.ntmps81
  go_wp2_with (go_at_call 66; refine (within_any _ _ _ _).mono ?_; rintro e w' ⟨rfl, rfl⟩)
  go_ret
  exact ⟨rfl, rfl⟩
theorem moved_set (ps : List Pl) (f : Pl → Pl) (k : Nat) (hk : k < ps.length) : ((ps.map f).take k ++ zeros (ps.length - k)).set k (f (pAt ps k)) = (ps.map f).take (k + 1) ++ zeros (ps.length - (k + 1)) := by
  have h := mid_set (ps.map f) k (by simpa using hk)
  simp only [List.length_map, List.getElem_map] at h
  rw [pat_of hk] at h
  exact h
set_option maxRecDepth 100000 in
set_option maxHeartbeats 2000000 in
theorem implMoveChain_any (v : Value) (ps : List (Int × Int)) (x y : Int) (w : World) (hv : PAt w w.heap.size v ps) (hl : ps.length ≤ 1048576) :
    Calls Try.prog 35 #[v, .int .i64 x, .int .i64 y] w fun e w' => ∃ u, e = .returned (.tuple #[u, .int .i64 (codeM ps x y)]) ∧ PRow w' w.heap.size u (moveL ps x y) ∧ Below w.heap.size w w' := by
  obtain ⟨i0, hi, hz0, hz1, hz2⟩ := info_parts info_pair
  have HV := Lib.hid hv
  obtain ⟨ar, c, rfl, hcl⟩ := hv
  have HCL := Lib.hid hcl
  clear hcl
  have hl2 : (ps.length : Int) ≤ 1048576 := by omega
  by_cases hq : codeQ ps (inB x (-2000) 2000 && inB y (-2000) 2000) = 0
  · have hok : okC ps = true := by
      cases e : okC ps with
      | true => rfl
      | false => simp [codeQ, e] at hq
    have hxy : (inB x (-2000) 2000 && inB y (-2000) 2000) = true := by
      cases e : (inB x (-2000) 2000 && inB y (-2000) 2000) with
      | true => rfl
      | false => rw [e] at hq; simp [codeQ, hok] at hq
    have h1 : inB x (-2000) 2000 = true := by rw [Bool.and_eq_true] at hxy; exact hxy.1
    have h2 : inB y (-2000) 2000 = true := by rw [Bool.and_eq_true] at hxy; exact hxy.2
    rw [hxy] at hq
    obtain ⟨x1, x2⟩ := inB_of h1
    obtain ⟨y1, y2⟩ := inB_of h2
    obtain ⟨q1, q2, q3⟩ := okC_of hok
    have HO := Lib.hid q3
    obtain ⟨M, hM⟩ : ∃ M, Hid (ps.map (moveP x y) = M) := ⟨_, Lib.hid rfl⟩
    have hML : M.length = ps.length := by rw [← hM.out]; simp
    have eC : codeM ps x y = if okC M = true then 0 else 5 := by simp [codeM, hok, h1, h2, hM.out]
    have eL : moveL ps x y = if okC M = true then M else [] := by
      unfold moveL
      rw [eC, hM.out]
      cases okC M <;> simp
    rw [eC, eL]
    clear q3 eC eL hxy
    have MS := Lib.hid (fun k (h : k < ps.length) => moved_set ps (moveP x y) k h)
    rw [hM.out] at MS
    have HQ := Lib.hid hq
    have HML := Lib.hid hML
    have CQ := Lib.hid (chainCode_any _ ps true w HV.out hl)
    clear hq
    obtain ⟨RV, hRV⟩ : ∃ b, Hid (okC M = b) := ⟨_, Lib.hid rfl⟩
    rw [hRV.out]
    go_enter Try.func35, Try.ntmps35
    go_wp2_with (first | (go_at_call 81; refine (isMove_any _ _).mono ?_; (first | rw [h1] | rw [h2]); rintro e w' ⟨rfl, rfl⟩))
    refine CQ.out.mono ?_
    rw [HQ.out]
    rintro e w1 ⟨rfl, hb⟩
    have HB1 := Lib.hid hb
    have hsz1 := hb.size
    clear hb CQ
    obtain ⟨w2, hmk, hown0, hg0⟩ := run_make_full (P := Try.prog) (w := w1) w.heap.size 60 120 i0 (.agg #[.int .i64 0, .int .i64 0]) 2 Try.underlying60 hi hz0 hz1 .i64 .i64 ps.length (by rw [hz2]; omega) (by unfold maxLen; omega) hsz1
    have H0 := Lib.hid (show PRow w2 w.heap.size (.slice (some ⟨w1.heap.size, 0, none⟩) ps.length ps.length) (M.take 0 ++ zeros (M.length - 0)) from start_row hown0 HML.out)
    have HB2 := Lib.hid (show Below w.heap.size w w2 from HB1.out.grown hg0 hsz1 (by simp))
    generalize hgm : w1.heap.size = gm at *
    clear hown0 hg0
    go_wp2
    clear hmk
    go_loopw [28] (fun i wr => ∃ k : Nat, k ≤ ps.length ∧ i = .int .i64 (k : Int) ∧ PRow wr w.heap.size (.slice (some ⟨gm, 0, none⟩) ps.length ps.length) (M.take k ++ zeros (ps.length - k)) ∧ Below w.heap.size w wr) (fun i _ => ps.length - (intOf i).toNat)
    case atStart => exact ⟨0, Nat.zero_le _, rfl, by have := H0.out; rwa [HML.out] at this, HB2.out⟩
    case round =>
      obtain ⟨k, hk, rfl, hr, hb⟩ := hrel
      have HB := Lib.hid hb
      have hsz := hb.size
      by_cases hlt : k < ps.length
      · obtain ⟨b, off, rfl, hbs, c1, c2⟩ := HCL.out k hlt
        rw [pat_of hlt] at c1 c2
        have d1 := (hb.cell (p := ⟨b, off + k * 2, none⟩) hbs).trans c1
        have d2 := (hb.cell (p := ⟨b, off + k * 2 + 1, none⟩) hbs).trans c2
        have hk0 : 0 ≤ (k : Int) := by omega
        have hk1 : (k : Int) < (ps.length : Int) := by omega
        obtain ⟨o1, o2, o3, o4⟩ := okP_of (HO.out k hlt)
        have SN := Lib.hid (MS.out k hlt)
        have eP : moveP x y (pAt ps k) = ((pAt ps k).1 + x, (pAt ps k).2 + y) := rfl
        rw [eP] at SN
        obtain ⟨g', y0', y1', eg, hBg, hws, q0, q1', f0, f1⟩ := own_cells hr (by rw [← HML.out, mid_len M k (by omega)]) hlt
        simp only [Option.some.injEq, Addr.mk.injEq, and_true] at eg
        subst eg
        have HR := Lib.hid hr
        clear c1 c2 hr hb eP
        generalize (pAt ps k).1 = z1 at d1 SN o1 o2
        generalize (pAt ps k).2 = z2 at d2 SN o3 o4
        have k1 : IntKind.i64.wrap (z1 + x) = z1 + x := IntWalk.i64_in _ (by omega)
        have k2 : IntKind.i64.wrap (z2 + y) = z2 + y := IntWalk.i64_in _ (by omega)
        have FIN := Lib.hid (show PRow (((wr.setCell ⟨gm, k * 2, none⟩ (.int .i64 (z1 + x))).setCell ⟨gm, k * 2 + 1, none⟩ (.int .i64 (z2 + y))).alloc (.cells #[.int .i64 z1, .int .i64 z2] 120)) w.heap.size (.slice (some ⟨gm, 0, none⟩) ps.length ps.length) (M.take (k + 1) ++ zeros (ps.length - (k + 1))) from by
          have h := prow_store (k := k) (x := (z1 + x, z2 + y)) HR.out (by rw [← HML.out]; exact mid_len M k (by omega)) hlt
          rw [SN.out] at h
          exact World.ownsRow.alloc h _)
        have FB := Lib.hid (show Below w.heap.size w (((wr.setCell ⟨gm, k * 2, none⟩ (.int .i64 (z1 + x))).setCell ⟨gm, k * 2 + 1, none⟩ (.int .i64 (z2 + y))).alloc (.cells #[.int .i64 z1, .int .i64 z2] 120)) from ((HB.out.setCell (p := ⟨gm, k * 2, none⟩) hBg _).setCell (p := ⟨gm, k * 2 + 1, none⟩) hBg _).alloc (by simp; omega) _)
        have hne : gm ≠ wr.heap.size := by omega
        have hne2 : ¬ gm = wr.heap.size := by omega
        go_wp2
        go_roundw
        case rel => exact ⟨k + 1, by omega, by go_num, FIN.out, FB.out⟩
        case measure => simp [intOf]; omega
      · obtain rfl : k = ps.length := by omega
        have hr2 : PRow wr w.heap.size (.slice (some ⟨gm, 0, none⟩) ps.length ps.length) M := by
          rw [Nat.sub_self] at hr
          have e : M.take ps.length = M := by rw [← HML.out]; exact List.take_length
          rw [e] at hr
          simpa [zeros] using hr
        have HR := Lib.hid hr2
        clear hr hr2 hb
        cases RV with
        | true =>
          go_wp2_with (first | (go_at_call 82; refine (implValidChain_any _ M _ (prow_at HR.out) (by omega)).mono ?_; rw [hRV.out]; rintro e w5 ⟨rfl, hb5⟩; have HR5 := Lib.hid (prow_keep HR.out hb5); have HB5 := Lib.hid (HB.out.trans (hb5.mono hsz)); clear hb5))
          all_goals exact bodyPost_ret (v := .tuple #[.slice (some ⟨gm, 0, none⟩) ps.length ps.length, .int .i64 0]) (by simp [results, Try.results35, go_sem]) rfl ⟨_, rfl, HR5.out, HB5.out⟩
        | false =>
          go_wp2_with (first | (go_at_call 82; refine (implValidChain_any _ M _ (prow_at HR.out) (by omega)).mono ?_; rw [hRV.out]; rintro e w5 ⟨rfl, hb5⟩; have HB5 := Lib.hid (HB.out.trans (hb5.mono hsz)); clear hb5))
          all_goals exact bodyPost_ret (v := .tuple #[.slice none 0 0, .int .i64 5]) (by simp [results, Try.results35, go_sem]) rfl ⟨_, rfl, prow_nil _ _, HB5.out⟩
  · obtain ⟨C, hC⟩ : ∃ C, Hid (codeQ ps (inB x (-2000) 2000 && inB y (-2000) 2000) = C) := ⟨_, Lib.hid rfl⟩
    have hne : ¬ C = 0 := by rw [← hC.out]; exact hq
    have eM : codeM ps x y = C := by
      rw [← hC.out]
      unfold codeQ at hq ⊢
      unfold codeM
      by_cases e1 : okC ps = true
      · rw [if_pos e1] at hq ⊢
        rw [if_pos e1]
        by_cases e2 : (inB x (-2000) 2000 && inB y (-2000) 2000) = true
        · rw [if_pos e2] at hq; exact absurd rfl hq
        · rw [if_neg e2, if_neg e2]
      · rw [if_neg e1, if_neg e1]
    have eL : moveL ps x y = [] := by unfold moveL; rw [eM, if_neg hne]
    rw [eM, eL]
    clear hq eM eL
    have CQ := Lib.hid (fun b => chainCode_any _ ps b w HV.out hl)
    cases h1 : inB x (-2000) 2000 with
    | false =>
      rw [h1, Bool.false_and] at hC
      go_enter Try.func35, Try.ntmps35
      go_wp2_with (go_at_call 81; refine (isMove_any _ _).mono ?_; rw [h1]; rintro e w' ⟨rfl, rfl⟩)
      refine (CQ.out _).mono ?_
      rw [hC.out]
      rintro e w1 ⟨rfl, hb⟩
      have HB1 := Lib.hid hb
      clear hb
      go_wp2
      exact bodyPost_ret (v := .tuple #[.slice none 0 0, .int .i64 C]) (by simp [results, Try.results35, go_sem]) rfl ⟨_, rfl, prow_nil _ _, HB1.out⟩
    | true =>
      rw [h1, Bool.true_and] at hC
      generalize h2 : inB y (-2000) 2000 = b2 at hC
      go_enter Try.func35, Try.ntmps35
      go_wp2_with (go_at_call 81; refine (isMove_any _ _).mono ?_; (first | rw [h1] | rw [h2]); rintro e w' ⟨rfl, rfl⟩)
      refine (CQ.out _).mono ?_
      rw [hC.out]
      rintro e w1 ⟨rfl, hb⟩
      have HB1 := Lib.hid hb
      clear hb
      go_wp2
      exact bodyPost_ret (v := .tuple #[.slice none 0 0, .int .i64 C]) (by simp [results, Try.results35, go_sem]) rfl ⟨_, rfl, prow_nil _ _, HB1.out⟩
end Go.Proofs.Ytemhmejjmhbfdab.sines
