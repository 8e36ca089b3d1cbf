/- The model's moved chains and points inside: contracts. -/
import Derived.Test.YtemhmejjmhbfdaaJoinS2
import Derived.Deep.AppendLies
import Derived.Deep.RegionLawGrows
namespace Go.Proofs.Ytemhmejjmhbfdaa.sines
open Go.ChangeShapes Go.WideShapes Go.ChangeAt Go.RowKit Go.Proofs.Ytemhmejjmhbfdaa.spots Go.Proofs.Ytemhmejjmhbfdaa.irows Go.Proofs.Ytemhmejjmhbfdaa.pairsPlace
set_option linter.unusedSimpArgs false
set_option linter.unusedVariables false

theorem map_take_succ {ps : List Pl} {k : Nat} (f : Pl → Pl) (h : k < ps.length) : (ps.take (k + 1)).map f = (ps.take k).map f ++ [f (pAt ps k)] := by
  rw [List.take_add_one, List.getElem?_eq_getElem h, pat_of h]; simp
set_option maxRecDepth 100000 in
set_option maxHeartbeats 2000000 in
theorem specMoveChain_any (v : Value) (ps : List (Int × Int)) (x y : Int) (w : World) (hv : PAt w w.heap.size v ps) (hl : ps.length ≤ 1048576) :
    Calls Try.prog 48 #[v, .int .i64 x, .int .i64 y] w fun e w' => ∃ u, e = .returned (.tuple #[u, .int .i64 (codeM ps x y)]) ∧ PRow w' w.heap.size u (moveL ps x y) ∧ Below w.heap.size w w' := by
  obtain ⟨i0, hi, hz0, hz1, hz2⟩ := info_parts info_pair
  have HV := Lib.hid hv
  obtain ⟨ar, c, rfl, hcl⟩ := hv
  have HCL := Lib.hid hcl
  clear hcl
  have hl2 : (ps.length : Int) ≤ 1048576 := by omega
  cases hok : okC ps with
  | false =>
    rw [show codeM ps x y = 1 by simp [codeM, hok], show moveL ps x y = [] by simp [moveL, codeM, hok]]
    go_enter Try.func48, Try.ntmps48
    go_wp2_with (first | (go_at_call 131; refine (l07Ok_any _ ps _ HV.out hl).mono ?_; rw [hok]; rintro e w1 ⟨rfl, hb⟩))
    exact bodyPost_ret (v := .tuple #[.slice none 0 0, .int .i64 1]) (by simp [results, Try.results48, go_sem]) rfl ⟨_, rfl, prow_nil _ _, hb⟩
  | true =>
    cases h1 : inB x (-2000) 2000 with
    | false =>
      rw [show codeM ps x y = 2 by simp [codeM, hok, h1], show moveL ps x y = [] by simp [moveL, codeM, hok, h1]]
      go_enter Try.func48, Try.ntmps48
      go_wp2_with (first | (go_at_call 131; refine (l07Ok_any _ ps _ HV.out hl).mono ?_; rw [hok]; rintro e w1 ⟨rfl, hb⟩) | (go_at_call 88; refine (l00In_any _ _ _ _).mono ?_; rw [h1]; rintro e w' ⟨rfl, rfl⟩))
      exact bodyPost_ret (v := .tuple #[.slice none 0 0, .int .i64 2]) (by simp [results, Try.results48, go_sem]) rfl ⟨_, rfl, prow_nil _ _, hb⟩
    | true =>
      cases h2 : inB y (-2000) 2000 with
      | false =>
        rw [show codeM ps x y = 2 by simp [codeM, hok, h1, h2], show moveL ps x y = [] by simp [moveL, codeM, hok, h1, h2]]
        go_enter Try.func48, Try.ntmps48
        go_wp2_with (first | (go_at_call 131; refine (l07Ok_any _ ps _ HV.out hl).mono ?_; rw [hok]; rintro e w1 ⟨rfl, hb⟩) | (go_at_call 88; refine (l00In_any _ _ _ _).mono ?_; (first | rw [h1] | rw [h2]); rintro e w' ⟨rfl, rfl⟩))
        exact bodyPost_ret (v := .tuple #[.slice none 0 0, .int .i64 2]) (by simp [results, Try.results48, go_sem]) rfl ⟨_, rfl, prow_nil _ _, hb⟩
      | true =>
        obtain ⟨x1, x2⟩ := inB_of h1
        obtain ⟨y1, y2⟩ := inB_of h2
        obtain ⟨q1, q2, q3⟩ := okC_of hok
        have HO := Lib.hid q3
        obtain ⟨M, hM⟩ : ∃ M, Hid (ps.map (moveP x y) = M) := ⟨_, Lib.hid rfl⟩
        have hML : M.length ≤ 24 := by rw [← hM.out]; simpa using q2
        have eC : codeM ps x y = if okC M = true then 0 else 5 := by simp [codeM, hok, h1, h2, hM.out]
        have eL : moveL ps x y = if okC M = true then M else [] := by
          unfold moveL
          rw [eC, hM.out]
          cases okC M <;> simp
        rw [eC, eL]
        clear q3 eC eL
        have MS := Lib.hid (fun k (h : k < ps.length) => map_take_succ (moveP x y) h)
        have ME := Lib.hid (show (ps.take ps.length).map (moveP x y) = M by rw [List.take_length]; exact hM.out)
        go_enter Try.func48, Try.ntmps48
        go_wp2_with (first | (go_at_call 131; refine (l07Ok_any _ ps _ HV.out hl).mono ?_; rw [hok]; rintro e w1 ⟨rfl, hb⟩; have HB1 := Lib.hid hb; have hsz1 := hb.size; clear hb) | (go_at_call 88; refine (l00In_any _ _ _ _).mono ?_; (first | rw [h1] | rw [h2]); rintro e w' ⟨rfl, rfl⟩))
        go_loopw [8, 9] (fun u i wr => ∃ k : Nat, k ≤ ps.length ∧ i = .int .i64 (k : Int) ∧ PRow wr w.heap.size u ((ps.take k).map (moveP x y)) ∧ Below w.heap.size w wr) (fun _ i _ => ps.length - (intOf i).toNat)
        case atStart => exact ⟨0, Nat.zero_le _, rfl, prow_made w1 _ hsz1, HB1.out.alloc hsz1 _⟩
        case round =>
          obtain ⟨k, hk, rfl, hr, hb⟩ := hrel
          have HB := Lib.hid hb
          have hsz := hb.size
          by_cases hlt : k < ps.length
          · obtain ⟨b, off, rfl, hbs, c1, c2⟩ := HCL.out k hlt
            rw [pat_of hlt] at c1 c2
            have d1 := (hb.cell (p := ⟨b, off + k * 2, none⟩) hbs).trans c1
            have d2 := (hb.cell (p := ⟨b, off + k * 2 + 1, none⟩) hbs).trans c2
            have hk0 : 0 ≤ (k : Int) := by omega
            have hk1 : (k : Int) < (ps.length : Int) := by omega
            obtain ⟨o1, o2, o3, o4⟩ := okP_of (HO.out k hlt)
            have SN := Lib.hid (MS.out k hlt)
            have eP : moveP x y (pAt ps k) = ((pAt ps k).1 + x, (pAt ps k).2 + y) := rfl
            rw [eP] at SN
            obtain ⟨qs, hqs⟩ : ∃ qs, Hid ((ps.take k).map (moveP x y) = qs) := ⟨_, Lib.hid rfl⟩
            have hql : qs.length ≤ 24 := by rw [← hqs.out]; simp; omega
            rw [hqs.out] at hr SN
            have HR := Lib.hid hr
            have hbw : b < wr.heap.size := by omega
            clear c1 c2 hr hb eP
            generalize (pAt ps k).1 = z1 at d1 SN o1 o2
            generalize (pAt ps k).2 = z2 at d2 SN o3 o4
            have k1 : IntKind.i64.wrap (z1 + x) = z1 + x := IntWalk.i64_in _ (by omega)
            have k2 : IntKind.i64.wrap (z2 + y) = z2 + y := IntWalk.i64_in _ (by omega)
            go_wp2
            go_region_law (refine step_append_lies _ rfl (.tmp 28) (.tmp 44) 52 rfl w.heap.size 60 i0 (.agg #[.int .i64 0, .int .i64 0]) 2 16 Try.underlying52 hi hz0 hz1 hz2 rfl (by decide) u8 qs.length (ints (flat qs)) (by simp [Act.eval, Act.put]) (HR.out.alloc _) ⟨wr.heap.size, 0, none⟩ 1 1 [.int .i64 (z1 + x), .int .i64 (z2 + y)] (by simp [Act.eval, Act.put]) rfl (newPl _ _ _ _ (by first | rfl | simp)) (cellPl _ _) (by omega) (by unfold maxLen; omega) (by omega) (by simp; omega) _ rfl ?_; intro g4 cap4 w4 hown4 hg4 hat4 hlt4)
            go_wp2
            go_roundw
            all_goals first
              | exact ⟨k + 1, by omega, by go_num, by rw [SN.out]; exact snocPl hown4, (Below.drew (HB.out.alloc hsz _)).grown hg4 (by simp; omega) (fun j hj => (HR.out.lt j hj).1)⟩
              | (simp [intOf]; omega)
              | exact ⟨⟨k + 1, by omega, by go_num, by rw [SN.out]; exact snocPl hown4, (Below.drew (HB.out.alloc hsz _)).grown hg4 (by simp; omega) (fun j hj => (HR.out.lt j hj).1)⟩, by simp [intOf]; omega⟩
          · obtain rfl : k = ps.length := by omega
            rw [ME.out] at hr
            have HR := Lib.hid hr
            clear hr hb
            obtain ⟨am, cm, em, _⟩ := prow_at HR.out
            subst em
            cases hm : okC M with
            | true =>
              go_wp2_with (first | (go_at_call 131; refine (l07Ok_any _ M _ (prow_at HR.out) (by omega)).mono ?_; rw [hm]; rintro e w5 ⟨rfl, hb5⟩; have HR5 := Lib.hid (prow_keep HR.out hb5); have HB5 := Lib.hid (HB.out.trans (hb5.mono hsz)); clear hb5))
              exact bodyPost_ret (v := .tuple #[.slice am M.length cm, .int .i64 0]) (by simp [results, Try.results48, go_sem]) rfl ⟨_, rfl, HR5.out, HB5.out⟩
            | false =>
              go_wp2_with (first | (go_at_call 131; refine (l07Ok_any _ M _ (prow_at HR.out) (by omega)).mono ?_; rw [hm]; rintro e w5 ⟨rfl, hb5⟩; have HB5 := Lib.hid (HB.out.trans (hb5.mono hsz)); clear hb5))
              all_goals exact bodyPost_ret (v := .tuple #[.slice none 0 0, .int .i64 5]) (by simp [results, Try.results48, go_sem]) rfl ⟨_, rfl, prow_nil _ _, HB5.out⟩
theorem inN_bool (ps : List Pl) (p : Pl) (k : Nat) : inN ps p (k + 1) = (inN ps p k ^^ hitB (pAt ps k) (pAt ps (k + 1)) p) := rfl
set_option maxRecDepth 100000 in
set_option maxHeartbeats 4000000 in
theorem specInsideOf_any (v : Value) (ps : List (Int × Int)) (p0 p1 : Int) (w : World) (hv : PAt w w.heap.size v ps) (hl : ps.length ≤ 1048576) :
    Calls Try.prog 51 #[v, .agg #[.int .i64 p0, .int .i64 p1]] w fun e w' => e = .returned (.tuple #[.bool (insideV ps (p0, p1)), .int .i64 (codeN ps (p0, p1))]) ∧ Below w.heap.size w w' := by
  have HV := Lib.hid hv
  obtain ⟨ar, c, rfl, hcl⟩ := hv
  have HCL := Lib.hid hcl
  clear hcl
  have b0 : w.heap.size < (w.alloc (.cells #[.int .i64 p0, .int .i64 p1] 60)).heap.size := by simp
  have HW := Lib.hid ((Below.refl w.heap.size w).alloc (Nat.le_refl _) (.cells #[.int .i64 p0, .int .i64 p1] 60))
  have g0 : (w.alloc (.cells #[.int .i64 p0, .int .i64 p1] 60)).cell? ⟨w.heap.size, 0, none⟩ = some (.int .i64 p0) := by simp
  have g1 : (w.alloc (.cells #[.int .i64 p0, .int .i64 p1] 60)).cell? ⟨w.heap.size, 1, none⟩ = some (.int .i64 p1) := by simp
  by_cases hc : codeG ps = 0
  · have hok := (codeG_of hc).1
    have HC := Lib.hid hc
    have eN : codeN ps (p0, p1) = if okP (p0, p1) = true then 0 else 2 := by simp [codeN, hc]
    have eV : insideV ps (p0, p1) = (okP (p0, p1) && inN ps (p0, p1) (ps.length - 1)) := by
      unfold insideV; rw [eN]; cases okP (p0, p1) <;> simp
    have eO : okP (p0, p1) = (inB p0 0 2000 && inB p1 0 2000) := rfl
    rw [eN, eV, eO]
    clear eN eV eO hc
    cases h1 : inB p0 0 2000 with
    | false =>
      simp only [Bool.false_and, Bool.false_eq_true, if_false]
      go_enter Try.func51, Try.ntmps51
      go_wp2_with (first | (go_at_call 123; refine (l10Code_any _ ps _ (pat_up (pat_keep HV.out HW.out) HW.out.size) hl).mono ?_; rw [HC.out]; rintro e w1 ⟨rfl, hb⟩; have f0 := (hb.cell (p := ⟨w.heap.size, 0, none⟩) b0).trans g0; have f1 := (hb.cell (p := ⟨w.heap.size, 1, none⟩) b0).trans g1; have HB1 := Lib.hid (HW.out.trans (hb.mono HW.out.size)); clear hb) | (go_at_call 88; refine (l00In_any _ _ _ _).mono ?_; rw [h1]; rintro e w' ⟨rfl, rfl⟩))
      exact bodyPost_ret (v := .tuple #[.bool false, .int .i64 2]) (by simp [results, Try.results51, go_sem]) rfl ⟨rfl, HB1.out⟩
    | true =>
      cases h2 : inB p1 0 2000 with
      | false =>
        simp only [Bool.and_false, Bool.false_and, Bool.false_eq_true, if_false]
        go_enter Try.func51, Try.ntmps51
        go_wp2_with (first | (go_at_call 123; refine (l10Code_any _ ps _ (pat_up (pat_keep HV.out HW.out) HW.out.size) hl).mono ?_; rw [HC.out]; rintro e w1 ⟨rfl, hb⟩; have f0 := (hb.cell (p := ⟨w.heap.size, 0, none⟩) b0).trans g0; have f1 := (hb.cell (p := ⟨w.heap.size, 1, none⟩) b0).trans g1; have HB1 := Lib.hid (HW.out.trans (hb.mono HW.out.size)); clear hb) | (go_at_call 88; refine (l00In_any _ _ _ _).mono ?_; (first | rw [h1] | rw [h2]); rintro e w' ⟨rfl, rfl⟩))
        exact bodyPost_ret (v := .tuple #[.bool false, .int .i64 2]) (by simp [results, Try.results51, go_sem]) rfl ⟨rfl, HB1.out⟩
      | true =>
        simp only [Bool.true_and, Bool.and_self, if_true]
        obtain ⟨x1, x2⟩ := inB_of h1
        obtain ⟨y1, y2⟩ := inB_of h2
        obtain ⟨q1, q2, q3⟩ := okC_of hok
        have HO := Lib.hid q3
        clear q3
        have hl2 : (ps.length : Int) ≤ 24 := by omega
        have RE := Lib.hid (fun k (h : k + 1 = ps.length) => show inN ps (p0, p1) k = inN ps (p0, p1) (ps.length - 1) by rw [← h]; rfl)
        obtain ⟨R, hR⟩ : ∃ R, Hid (inN ps (p0, p1) (ps.length - 1) = R) := ⟨_, Lib.hid rfl⟩
        rw [hR.out] at RE ⊢
        go_enter Try.func51, Try.ntmps51
        go_wp2_with (first | (go_at_call 123; refine (l10Code_any _ ps _ (pat_up (pat_keep HV.out HW.out) HW.out.size) hl).mono ?_; rw [HC.out]; rintro e w1 ⟨rfl, hb⟩; have f0 := (hb.cell (p := ⟨w.heap.size, 0, none⟩) b0).trans g0; have f1 := (hb.cell (p := ⟨w.heap.size, 1, none⟩) b0).trans g1; have HB1 := Lib.hid (HW.out.trans (hb.mono HW.out.size)); have b1 : w.heap.size < w1.heap.size := Nat.lt_of_lt_of_le b0 hb.size; clear hb) | (go_at_call 88; refine (l00In_any _ _ _ _).mono ?_; (first | rw [h1] | rw [h2]); rintro e w' ⟨rfl, rfl⟩))
        go_loopw [7, 8] (fun s i wr => ∃ k : Nat, k + 1 ≤ ps.length ∧ i = .int .i64 ((k : Int) + 1) ∧ s = .bool (inN ps (p0, p1) k) ∧ Below w1.heap.size w1 wr) (fun _ i _ => ps.length - (intOf i).toNat)
        case atStart => exact ⟨0, by omega, rfl, rfl, Below.refl _ _⟩
        case round =>
          obtain ⟨k, hk, rfl, rfl, hb⟩ := hrel
          have HB := Lib.hid hb
          have hsz := hb.size
          by_cases hlt : k + 1 < ps.length
          · obtain ⟨bb, off, rfl, hbs, c1, c2⟩ := HCL.out k (by omega)
            obtain ⟨bz, oz, rz, hbz, d1, d2⟩ := HCL.out (k + 1) hlt
            simp only [Option.some.injEq, Addr.mk.injEq, and_true] at rz
            obtain ⟨rfl, rfl⟩ := rz
            rw [pat_of (by omega)] at c1 c2 d1 d2
            have hbw : bb < wr.heap.size := by have := HB1.out.size; omega
            have hgw : w.heap.size < wr.heap.size := by omega
            have UP := Lib.hid (HB1.out.trans (hb.mono HB1.out.size))
            have u1 := (UP.out.cell (p := ⟨bb, off + k * 2, none⟩) hbs).trans c1
            have u2 := (UP.out.cell (p := ⟨bb, off + k * 2 + 1, none⟩) hbs).trans c2
            have u3 := (UP.out.cell (p := ⟨bb, off + (k + 1) * 2, none⟩) hbs).trans d1
            have u4 := (UP.out.cell (p := ⟨bb, off + (k + 1) * 2 + 1, none⟩) hbs).trans d2
            have u5 := (hb.cell (p := ⟨w.heap.size, 0, none⟩) b1).trans f0
            have u6 := (hb.cell (p := ⟨w.heap.size, 1, none⟩) b1).trans f1
            obtain ⟨m1, m2, m3, m4⟩ := okP_of (HO.out k (by omega))
            obtain ⟨n1, n2, n3, n4⟩ := okP_of (HO.out (k + 1) hlt)
            have SN := Lib.hid (inN_bool ps (p0, p1) k)
            have hk0 : 0 ≤ (k : Int) := by omega
            have hk1 : (k : Int) < (ps.length : Int) := by omega
            have hk2 : (k : Int) + 1 < (ps.length : Int) := by omega
            have hk3 : 0 ≤ (k : Int) + 1 := by omega
            have km : (k : Int) + 1 - 1 = (k : Int) := by omega
            have kk : IntKind.i64.wrap (k : Int) = (k : Int) := IntWalk.i64_in _ (by omega)
            have kp : IntKind.i64.wrap ((k : Int) + 1 + 1) = (k : Int) + 1 + 1 := IntWalk.i64_in _ (by omega)
            have tn : ((k : Int) + 1).toNat = k + 1 := by omega
            have eH : hitB (pAt ps k) (pAt ps (k + 1)) (p0, p1) = hitB ((pAt ps k).1, (pAt ps k).2) ((pAt ps (k + 1)).1, (pAt ps (k + 1)).2) (p0, p1) := rfl
            rw [eH] at SN
            obtain ⟨I, hI⟩ : ∃ I, Hid (inN ps (p0, p1) k = I) := ⟨_, Lib.hid rfl⟩
            rw [hI.out] at SN ⊢
            clear c1 c2 d1 d2 eH hb
            generalize (pAt ps k).1 = a1 at u1 SN m1 m2
            generalize (pAt ps k).2 = a2 at u2 SN m3 m4
            generalize (pAt ps (k + 1)).1 = z1 at u3 SN n1 n2
            generalize (pAt ps (k + 1)).2 = z2 at u4 SN n3 n4
            obtain ⟨l1, l2⟩ := mul_bound (x := z1 - a1) (y := p1 - a2) (by omega) (by omega) (by omega) (by omega)
            obtain ⟨l3, l4⟩ := mul_bound (x := p0 - a1) (y := z2 - a2) (by omega) (by omega) (by omega) (by omega)
            have w1' : IntKind.i64.wrap (z1 - a1) = z1 - a1 := IntWalk.i64_in _ (by omega)
            have w2' : IntKind.i64.wrap (p1 - a2) = p1 - a2 := IntWalk.i64_in _ (by omega)
            have w3' : IntKind.i64.wrap (p0 - a1) = p0 - a1 := IntWalk.i64_in _ (by omega)
            have w4' : IntKind.i64.wrap (z2 - a2) = z2 - a2 := IntWalk.i64_in _ (by omega)
            have w5' : IntKind.i64.wrap ((z1 - a1) * (p1 - a2)) = (z1 - a1) * (p1 - a2) := IntWalk.i64_in _ (by omega)
            have w6' : IntKind.i64.wrap ((p0 - a1) * (z2 - a2)) = (p0 - a1) * (z2 - a2) := IntWalk.i64_in _ (by omega)
            have w7' : IntKind.i64.wrap ((z1 - a1) * (p1 - a2) - (p0 - a1) * (z2 - a2)) = (z1 - a1) * (p1 - a2) - (p0 - a1) * (z2 - a2) := IntWalk.i64_in _ (by omega)
            have w8' : IntKind.i64.wrap (-((z1 - a1) * (p1 - a2) - (p0 - a1) * (z2 - a2))) = -((z1 - a1) * (p1 - a2) - (p0 - a1) * (z2 - a2)) := IntWalk.i64_in _ (by omega)
            have eX : crossI (a1, a2) (z1, z2) (p0, p1) = (z1 - a1) * (p1 - a2) - (p0 - a1) * (z2 - a2) := by unfold crossI; simp only; rw [Int.mul_comm (z2 - a2)]
            unfold hitB at SN
            rw [eX] at SN
            simp only at SN
            clear eX l1 l2 l3 l4 m1 m2 m3 m4 n1 n2 n3 n4
            have FIN := Lib.hid (show ∀ o1 o2 : Obj, Below w1.heap.size w1 ((wr.alloc o1).alloc o2) from fun o1 o2 => (HB.out.alloc hsz _).alloc (by simp; omega) _)
            obtain ⟨J, hJ⟩ : ∃ J, Hid (inN ps (p0, p1) (k + 1) = J) := ⟨_, Lib.hid rfl⟩
            rw [hJ.out] at SN
            by_cases e1 : p1 < a2
            · by_cases e2 : p1 < z2
              · have SJ := Lib.hid (show J = I by rw [SN.out]; simp [e1, e2])
                clear SN
                go_wp2
                all_goals (try (go_quiet (fail); go_wp2))
                all_goals
                  go_roundw
                  case rel => exact ⟨k + 1, by omega, by go_num, by rw [hJ.out, SJ.out], (by first | exact FIN.out _ _ | exact bdP (FIN.out _ _) _)⟩
                  case measure => simp [intOf]; omega
              · have e3 : z2 < a2 := by omega
                have e4 : ¬ a2 < z2 := by omega
                by_cases e5 : ((z1 - a1) * (p1 - a2)) < ((p0 - a1) * (z2 - a2))
                · have e6 : ((z1 - a1) * (p1 - a2)) - ((p0 - a1) * (z2 - a2)) < 0 := by omega
                  have e7 : 0 < -(((z1 - a1) * (p1 - a2)) - ((p0 - a1) * (z2 - a2))) := by omega
                  have e8 : 0 < ((p0 - a1) * (z2 - a2)) - ((z1 - a1) * (p1 - a2)) := by omega
                  have SJ := Lib.hid (show J = !I by rw [SN.out]; simp [e1, e2, e3, e5, e6])
                  clear SN
                  go_wp2
                  all_goals (try (go_quiet (fail); go_wp2))
                  all_goals
                    go_roundw
                    case rel => exact ⟨k + 1, by omega, by go_num, by rw [hJ.out, SJ.out], (by first | exact FIN.out _ _ | exact bdP (FIN.out _ _) _)⟩
                    case measure => simp [intOf]; omega
                · have e6 : ¬ ((z1 - a1) * (p1 - a2)) - ((p0 - a1) * (z2 - a2)) < 0 := by omega
                  have e7 : ¬ 0 < -(((z1 - a1) * (p1 - a2)) - ((p0 - a1) * (z2 - a2))) := by omega
                  have e8 : ¬ 0 < ((p0 - a1) * (z2 - a2)) - ((z1 - a1) * (p1 - a2)) := by omega
                  have SJ := Lib.hid (show J = I by rw [SN.out]; simp [e1, e2, e3, e5, e6])
                  clear SN
                  go_wp2
                  all_goals (try (go_quiet (fail); go_wp2))
                  all_goals
                    go_roundw
                    case rel => exact ⟨k + 1, by omega, by go_num, by rw [hJ.out, SJ.out], (by first | exact FIN.out _ _ | exact bdP (FIN.out _ _) _)⟩
                    case measure => simp [intOf]; omega
            · by_cases e2 : p1 < z2
              · have e3 : ¬ z2 < a2 := by omega
                by_cases e5 : ((p0 - a1) * (z2 - a2)) < ((z1 - a1) * (p1 - a2))
                · have e6 : 0 < ((z1 - a1) * (p1 - a2)) - ((p0 - a1) * (z2 - a2)) := by omega
                  have SJ := Lib.hid (show J = !I by rw [SN.out]; simp [e1, e2, e3, e5, e6])
                  clear SN
                  go_wp2
                  all_goals (try (go_quiet (fail); go_wp2))
                  all_goals
                    go_roundw
                    case rel => exact ⟨k + 1, by omega, by go_num, by rw [hJ.out, SJ.out], (by first | exact FIN.out _ _ | exact bdP (FIN.out _ _) _)⟩
                    case measure => simp [intOf]; omega
                · have e6 : ¬ 0 < ((z1 - a1) * (p1 - a2)) - ((p0 - a1) * (z2 - a2)) := by omega
                  have SJ := Lib.hid (show J = I by rw [SN.out]; simp [e1, e2, e3, e5, e6])
                  clear SN
                  go_wp2
                  all_goals (try (go_quiet (fail); go_wp2))
                  all_goals
                    go_roundw
                    case rel => exact ⟨k + 1, by omega, by go_num, by rw [hJ.out, SJ.out], (by first | exact FIN.out _ _ | exact bdP (FIN.out _ _) _)⟩
                    case measure => simp [intOf]; omega
              · have SJ := Lib.hid (show J = I by rw [SN.out]; simp [e1, e2])
                clear SN
                go_wp2
                all_goals (try (go_quiet (fail); go_wp2))
                all_goals
                  go_roundw
                  case rel => exact ⟨k + 1, by omega, by go_num, by rw [hJ.out, SJ.out], (by first | exact FIN.out _ _ | exact bdP (FIN.out _ _) _)⟩
                  case measure => simp [intOf]; omega
          · have hRk := RE.out k (by omega)
            rw [hRk]
            have hk2 : ¬ (k : Int) + 1 < (ps.length : Int) := by omega
            clear hRk
            go_wp2
            exact bodyPost_ret (v := .tuple #[.bool R, .int .i64 0]) (by simp [results, Try.results51, go_sem]) rfl ⟨rfl, HB1.out.trans (HB.out.mono HB1.out.size)⟩
  · obtain ⟨C, hC⟩ : ∃ C, Hid (codeG ps = C) := ⟨_, Lib.hid rfl⟩
    have hne : ¬ C = 0 := by rw [← hC.out]; exact hc
    have eN : codeN ps (p0, p1) = C := by unfold codeN; rw [if_neg hc]; exact hC.out
    have eV : insideV ps (p0, p1) = false := by unfold insideV; rw [eN, decide_eq_false hne]; rfl
    rw [eN, eV]
    clear eN eV
    clear hc
    go_enter Try.func51, Try.ntmps51
    go_wp2_with (first | (go_at_call 123; refine (l10Code_any _ ps _ (pat_up (pat_keep HV.out HW.out) HW.out.size) hl).mono ?_; rw [hC.out]; rintro e w1 ⟨rfl, hb⟩; have HB1 := Lib.hid (HW.out.trans (hb.mono HW.out.size)); clear hb))
    exact bodyPost_ret (v := .tuple #[.bool false, .int .i64 C]) (by simp [results, Try.results51, go_sem]) rfl ⟨rfl, HB1.out⟩
end Go.Proofs.Ytemhmejjmhbfdaa.sines
