/- The model's moved chains and points inside: contracts. -/
import Derived.Test.YtemhmejjmhbfdabJoinS2
import Derived.Deep.AppendLies
import Derived.Deep.RegionLawGrows
namespace Go.Proofs.Ytemhmejjmhbfdab.sines
open Go.ChangeShapes Go.WideShapes Go.ChangeAt Go.RowKit Go.Proofs.Ytemhmejjmhbfdab.spots Go.Proofs.Ytemhmejjmhbfdab.irows Go.Proofs.Ytemhmejjmhbfdab.pairsPlace
set_option linter.unusedSimpArgs false
set_option linter.unusedVariables false

theorem map_take_succ {ps : List Pl} {k : Nat} (f : Pl → Pl) (h : k < ps.length) : (ps.take (k + 1)).map f = (ps.take k).map f ++ [f (pAt ps k)] := by
  rw [List.take_add_one, List.getElem?_eq_getElem h, pat_of h]; simp
set_option maxRecDepth 100000 in
set_option maxHeartbeats 2000000 in
theorem specMoveChain_any (v : Value) (ps : List (Int × Int)) (x y : Int) (w : World) (hv : PAt w w.heap.size v ps) (hl : ps.length ≤ 1048576) :
    Calls Try.prog 33 #[v, .int .i64 x, .int .i64 y] w fun e w' => ∃ u, e = .returned (.tuple #[u, .int .i64 (codeM ps x y)]) ∧ PRow w' w.heap.size u (moveL ps x y) ∧ Below w.heap.size w w' := by
  obtain ⟨i0, hi, hz0, hz1, hz2⟩ := info_parts info_pair
  have HV := Lib.hid hv
  obtain ⟨ar, c, rfl, hcl⟩ := hv
  have HCL := Lib.hid hcl
  clear hcl
  have hl2 : (ps.length : Int) ≤ 1048576 := by omega
  cases hok : okC ps with
  | false =>
    rw [show codeM ps x y = 1 by simp [codeM, hok], show moveL ps x y = [] by simp [moveL, codeM, hok]]
    go_enter Try.func33, Try.ntmps33
    go_wp2_with (first | (go_at_call 77; refine (l07Ok_any _ ps _ HV.out hl).mono ?_; rw [hok]; rintro e w1 ⟨rfl, hb⟩))
    exact bodyPost_ret (v := .tuple #[.slice none 0 0, .int .i64 1]) (by simp [results, Try.results33, go_sem]) rfl ⟨_, rfl, prow_nil _ _, hb⟩
  | true =>
    cases h1 : inB x (-2000) 2000 with
    | false =>
      rw [show codeM ps x y = 2 by simp [codeM, hok, h1], show moveL ps x y = [] by simp [moveL, codeM, hok, h1]]
      go_enter Try.func33, Try.ntmps33
      go_wp2_with (first | (go_at_call 77; refine (l07Ok_any _ ps _ HV.out hl).mono ?_; rw [hok]; rintro e w1 ⟨rfl, hb⟩) | (go_at_call 78; refine (l00In_any _ _ _ _).mono ?_; rw [h1]; rintro e w' ⟨rfl, rfl⟩))
      exact bodyPost_ret (v := .tuple #[.slice none 0 0, .int .i64 2]) (by simp [results, Try.results33, go_sem]) rfl ⟨_, rfl, prow_nil _ _, hb⟩
    | true =>
      cases h2 : inB y (-2000) 2000 with
      | false =>
        rw [show codeM ps x y = 2 by simp [codeM, hok, h1, h2], show moveL ps x y = [] by simp [moveL, codeM, hok, h1, h2]]
        go_enter Try.func33, Try.ntmps33
        go_wp2_with (first | (go_at_call 77; refine (l07Ok_any _ ps _ HV.out hl).mono ?_; rw [hok]; rintro e w1 ⟨rfl, hb⟩) | (go_at_call 78; refine (l00In_any _ _ _ _).mono ?_; (first | rw [h1] | rw [h2]); rintro e w' ⟨rfl, rfl⟩))
        exact bodyPost_ret (v := .tuple #[.slice none 0 0, .int .i64 2]) (by simp [results, Try.results33, go_sem]) rfl ⟨_, rfl, prow_nil _ _, hb⟩
      | true =>
        obtain ⟨x1, x2⟩ := inB_of h1
        obtain ⟨y1, y2⟩ := inB_of h2
        obtain ⟨q1, q2, q3⟩ := okC_of hok
        have HO := Lib.hid q3
        obtain ⟨M, hM⟩ : ∃ M, Hid (ps.map (moveP x y) = M) := ⟨_, Lib.hid rfl⟩
        have hML : M.length ≤ 24 := by rw [← hM.out]; simpa using q2
        have eC : codeM ps x y = if okC M = true then 0 else 5 := by simp [codeM, hok, h1, h2, hM.out]
        have eL : moveL ps x y = if okC M = true then M else [] := by
          unfold moveL
          rw [eC, hM.out]
          cases okC M <;> simp
        rw [eC, eL]
        clear q3 eC eL
        have MS := Lib.hid (fun k (h : k < ps.length) => map_take_succ (moveP x y) h)
        have ME := Lib.hid (show (ps.take ps.length).map (moveP x y) = M by rw [List.take_length]; exact hM.out)
        go_enter Try.func33, Try.ntmps33
        go_wp2_with (first | (go_at_call 77; refine (l07Ok_any _ ps _ HV.out hl).mono ?_; rw [hok]; rintro e w1 ⟨rfl, hb⟩; have HB1 := Lib.hid hb; have hsz1 := hb.size; clear hb) | (go_at_call 78; refine (l00In_any _ _ _ _).mono ?_; (first | rw [h1] | rw [h2]); rintro e w' ⟨rfl, rfl⟩))
        go_loopw [8, 9] (fun u i wr => ∃ k : Nat, k ≤ ps.length ∧ i = .int .i64 (k : Int) ∧ PRow wr w.heap.size u ((ps.take k).map (moveP x y)) ∧ Below w.heap.size w wr) (fun _ i _ => ps.length - (intOf i).toNat)
        case atStart => exact ⟨0, Nat.zero_le _, rfl, prow_made w1 _ hsz1, HB1.out.alloc hsz1 _⟩
        case round =>
          obtain ⟨k, hk, rfl, hr, hb⟩ := hrel
          have HB := Lib.hid hb
          have hsz := hb.size
          by_cases hlt : k < ps.length
          · obtain ⟨b, off, rfl, hbs, c1, c2⟩ := HCL.out k hlt
            rw [pat_of hlt] at c1 c2
            have d1 := (hb.cell (p := ⟨b, off + k * 2, none⟩) hbs).trans c1
            have d2 := (hb.cell (p := ⟨b, off + k * 2 + 1, none⟩) hbs).trans c2
            have hk0 : 0 ≤ (k : Int) := by omega
            have hk1 : (k : Int) < (ps.length : Int) := by omega
            obtain ⟨o1, o2, o3, o4⟩ := okP_of (HO.out k hlt)
            have SN := Lib.hid (MS.out k hlt)
            have eP : moveP x y (pAt ps k) = ((pAt ps k).1 + x, (pAt ps k).2 + y) := rfl
            rw [eP] at SN
            obtain ⟨qs, hqs⟩ : ∃ qs, Hid ((ps.take k).map (moveP x y) = qs) := ⟨_, Lib.hid rfl⟩
            have hql : qs.length ≤ 24 := by rw [← hqs.out]; simp; omega
            rw [hqs.out] at hr SN
            have HR := Lib.hid hr
            have hbw : b < wr.heap.size := by omega
            clear c1 c2 hr hb eP
            generalize (pAt ps k).1 = z1 at d1 SN o1 o2
            generalize (pAt ps k).2 = z2 at d2 SN o3 o4
            have k1 : IntKind.i64.wrap (z1 + x) = z1 + x := IntWalk.i64_in _ (by omega)
            have k2 : IntKind.i64.wrap (z2 + y) = z2 + y := IntWalk.i64_in _ (by omega)
            go_wp2
            go_region_law (refine step_append_lies _ rfl (.tmp 28) (.tmp 44) 60 rfl w.heap.size 120 i0 (.agg #[.int .i64 0, .int .i64 0]) 2 16 Try.underlying60 hi hz0 hz1 hz2 rfl (by decide) u8 qs.length (ints (flat qs)) (by simp [Act.eval, Act.put]) (HR.out.alloc _) ⟨wr.heap.size, 0, none⟩ 1 1 [.int .i64 (z1 + x), .int .i64 (z2 + y)] (by simp [Act.eval, Act.put]) rfl (newPl _ _ _ _ (by first | rfl | simp)) (cellPl _ _) (by omega) (by unfold maxLen; omega) (by omega) (by simp; omega) _ rfl ?_; intro g4 cap4 w4 hown4 hg4 hat4 hlt4)
            go_wp2
            go_roundw
            all_goals first
              | exact ⟨k + 1, by omega, by go_num, by rw [SN.out]; exact snocPl hown4, (Below.drew (HB.out.alloc hsz _)).grown hg4 (by simp; omega) (fun j hj => (HR.out.lt j hj).1)⟩
              | (simp [intOf]; omega)
              | exact ⟨⟨k + 1, by omega, by go_num, by rw [SN.out]; exact snocPl hown4, (Below.drew (HB.out.alloc hsz _)).grown hg4 (by simp; omega) (fun j hj => (HR.out.lt j hj).1)⟩, by simp [intOf]; omega⟩
          · obtain rfl : k = ps.length := by omega
            rw [ME.out] at hr
            have HR := Lib.hid hr
            clear hr hb
            obtain ⟨am, cm, em, _⟩ := prow_at HR.out
            subst em
            cases hm : okC M with
            | true =>
              go_wp2_with (first | (go_at_call 77; refine (l07Ok_any _ M _ (prow_at HR.out) (by omega)).mono ?_; rw [hm]; rintro e w5 ⟨rfl, hb5⟩; have HR5 := Lib.hid (prow_keep HR.out hb5); have HB5 := Lib.hid (HB.out.trans (hb5.mono hsz)); clear hb5))
              exact bodyPost_ret (v := .tuple #[.slice am M.length cm, .int .i64 0]) (by simp [results, Try.results33, go_sem]) rfl ⟨_, rfl, HR5.out, HB5.out⟩
            | false =>
              go_wp2_with (first | (go_at_call 77; refine (l07Ok_any _ M _ (prow_at HR.out) (by omega)).mono ?_; rw [hm]; rintro e w5 ⟨rfl, hb5⟩; have HB5 := Lib.hid (HB.out.trans (hb5.mono hsz)); clear hb5))
              all_goals exact bodyPost_ret (v := .tuple #[.slice none 0 0, .int .i64 5]) (by simp [results, Try.results33, go_sem]) rfl ⟨_, rfl, prow_nil _ _, HB5.out⟩
theorem inN_bool (ps : List Pl) (p : Pl) (k : Nat) : inN ps p (k + 1) = (inN ps p k ^^ hitB (pAt ps k) (pAt ps (k + 1)) p) := rfl
end Go.Proofs.Ytemhmejjmhbfdab.sines
