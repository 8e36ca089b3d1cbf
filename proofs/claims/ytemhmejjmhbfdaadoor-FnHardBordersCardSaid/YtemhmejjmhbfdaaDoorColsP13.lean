/- Hard borders: contract of the program. -/
import Derived.Test.YtemhmejjmhbfdaaDoorColsP10
import Derived.Test.YtemhmejjmhbfdaaDoorColsH
import Derived.Deep.RegionLaw
import Derived.Deep.RegionLawGrows
namespace Go.Proofs.YtemhmejjmhbfdaaDoor.sines
open Go.ChangeShapes Go.WideShapes Go.ChangeAt Go.RowKit Go.Proofs.YtemhmejjmhbfdaaDoor.spots Go.Proofs.YtemhmejjmhbfdaaDoor.irows Go.Proofs.YtemhmejjmhbfdaaDoor.pairsBorder
set_option linter.unusedSimpArgs false
set_option linter.unusedVariables false
theorem prow_none {w : World} {B : Nat} {v : Value} {ps : List (Int × Int)} (h : PRow w B v ps) : (ps = [] ∧ v = .slice none 0 0) ∨ ∃ g cp, v = .slice (some ⟨g, 0, none⟩) ps.length cp ∧ ps.length ≤ cp := by
  rcases h.2 with ⟨h1, h2⟩ | ⟨g, cap, cur, hv, hB, hg, hc, _⟩
  · exact .inl ⟨List.eq_nil_of_length_eq_zero h2, h1⟩
  · exact .inr ⟨g, cap, hv, hc⟩
set_option maxRecDepth 100000 in
set_option maxHeartbeats 4000000 in
theorem implHa_good (n : Int) (g cp B : Nat) (ps : List (Int × Int)) (w : World) (hv : PRow w B (.slice (some ⟨g, 0, none⟩) ps.length cp) ps) (hcp : ps.length ≤ cp) (hok : validC n ps = true) :
    Calls Tryd.prog 6 #[.int .i64 n, .slice (some ⟨g, 0, none⟩) ps.length cp] w fun e w' => ∃ r, e = .returned (.tuple #[r, .int .i64 0]) ∧ IRow w' w.heap.size r (hardL n ps ps.length) ∧ Below w.heap.size w w' := by
  obtain ⟨i0, hi, hz0, hz1, hz2⟩ := info_parts info_int
  obtain ⟨ip, hip, hpz0, hpz1, hpz2⟩ := info_parts info_pair
  obtain ⟨n0, n1, hl30, _⟩ := validC_facts hok
  have OK := Lib.hid (implVB_any n (.slice (some ⟨g, 0, none⟩) ps.length cp) ps w (prow_at hv) (by omega))
  rw [hok] at OK
  have HV := Lib.hid hv
  have HOK := Lib.hid hok
  have gl := prow_lt hv
  have LM := Lib.hid (fun W (hb : Below w.heap.size w W) => landMapOf_any n _ ps W (prow_at (prow_keep hv hb)) hok)
  have FC := Lib.hid (fun mv W hM => fewestColours_any mv n ps W hM hok)
  have HC := Lib.hid (show ∀ j x, (ints (flat ps))[j]? = some x → w.cell? ⟨g, j, none⟩ = some x from fun j x hx => prow_cellJ hv hx)
  obtain ⟨f1, f2, _⟩ := fewest_is hok
  obtain ⟨R, hR⟩ : ∃ R, Hid (fewest n ps = R) := ⟨_, Lib.hid rfl⟩
  rw [hR.out] at FC f1 f2
  have HB0 := Lib.hid (show ∀ k, hardB n ps k = decide (fewest n (delB ps k) ≤ ((R - 1).toNat : Int)) from fun k => by
    rw [hardB, hR.out, Bool.eq_iff_iff, decide_eq_true_eq, decide_eq_true_eq]; omega)
  have DL := Lib.hid (fun k (hk : k < ps.length) v W (hb : PAt W W.heap.size v (delB ps k)) => landMapOf_any n v (delB ps k) W hb (validC_del hok hk))
  have DE := Lib.hid (fun k (hk : k < ps.length) mv W hM => enough_few mv n (R - 1).toNat (delB ps k) W hM (validC_del hok hk) (by omega))
  have rw1 : IntKind.i64.wrap (R - 1) = ((R - 1).toNat : Int) := by rw [Int.toNat_of_nonneg (by omega)]; exact IntWalk.i64_in _ (by omega)
  have hl2 : (ps.length : Int) ≤ 30 := by omega
  have hcp2 : (ps.length : Int) ≤ (cp : Int) := by omega
  clear hok hv
  go_enter Tryd.func6, Tryd.ntmps6
  go_wp2_with fail
  refine OK.out.mono ?_
  rintro e w1 ⟨rfl, hb⟩
  have B1 := Lib.hid hb
  have LM1 := Lib.hid (LM.out w1 hb)
  clear hb
  go_wp2_with fail
  refine LM1.out.mono ?_
  rintro e w2 ⟨u, rfl, hm, hb2⟩
  have HM := Lib.hid (mown_mb hm)
  obtain ⟨gm, rfl, _⟩ := hm
  have B2 := Lib.hid (B1.out.trans (hb2.mono B1.out.size))
  clear hb2
  go_wp2_with fail
  refine (FC.out _ _ HM.out).mono ?_
  rintro e w3 ⟨rfl, hb3⟩
  have B3 := Lib.hid (B2.out.trans (hb3.mono B2.out.size))
  clear hb3
  generalize (R - 1).toNat = Q at *
  clear LM LM1 FC OK HM
  go_wp2
  go_loopw [7, 21] (fun u i wx => ∃ k : Nat, k ≤ ps.length ∧ i = .int .i64 (k : Int) ∧ IRow wx w.heap.size u (hardL n ps k) ∧ Below w.heap.size w wx) (fun _ i _ => ps.length - (intOf i).toNat)
  case atStart => exact ⟨0, Nat.zero_le _, rfl, by simpa [hardL] using irow_nil w3 _, B3.out⟩
  case round =>
    obtain ⟨k, hk, rfl, hr, hb⟩ := hrel
    have HR := Lib.hid hr
    have HB := Lib.hid hb
    clear hr
    by_cases hlt : k < ps.length
    · have hk0 : 0 ≤ (k : Int) := by omega
      have hk1 : (k : Int) < (ps.length : Int) := by omega
      have hkc : (k : Int) ≤ (cp : Int) := by omega
      have hkc2 : k ≤ cp := by omega
      have kw : IntKind.i64.wrap ((k : Int) + 1) = (k : Int) + 1 := IntWalk.i64_in _ (by omega)
      have HK := Lib.hid (HB0.out k)
      have NEWS1 := Lib.hid (show ∀ j x, (ints (flat (ps.take k)))[j]? = some x → wr.cell? ((⟨g, 0, none⟩ : Addr).add j) = some x from fun j x hx => by
        have h1 := (hb.cell (p := ⟨g, j, none⟩) gl).trans (HC.out j x (news_take hx))
        rw [add_plain', Nat.zero_add]
        exact h1)
      have szr := hb.size
      have UL := hardL_len n ps k
      obtain ⟨us, hus⟩ : ∃ us, Hid (hardL n ps k = us) := ⟨_, Lib.hid rfl⟩
      rw [hus.out] at HR UL
      obtain ⟨⟨au, cu, eu⟩, _⟩ := irow_shape HR.out
      subst eu
      have ul2 : us.length ≤ 30 := by omega
      clear UL
      by_cases hce : k + 1 < ps.length
      · have NEWS2 := Lib.hid (news2 HC.out gl hb hlt ((k + 1) * 2) (.inl rfl))
        clear hb
        have hk2 : 0 ≤ (k : Int) + 1 := by omega
        have hk3 : (k : Int) + 1 ≤ (ps.length : Int) := by omega
        have hcne : ¬ cp = k + 1 := by omega
        go_wp2
        go_region_law (refine step_append_grows rfl (.tmp 27) (.tmp 31) 24 rfl 58 ip (.agg #[.int .i64 0, .int .i64 0]) 2 16 Tryd.underlying24 hip hpz0 hpz1 hpz2 rfl (by decide) (some ⟨g, 0, none⟩) k k (ints (flat (ps.take k))) (by simp [Act.eval, Act.put]) (by simp) (by rw [ints_len, flat_len, List.length_take]; omega) (fun b hb => by cases hb; exact NEWS1.out) ⟨g, (k + 1) * 2, none⟩ (ps.length - (k + 1)) (cp - (k + 1)) (ints (flat (ps.drop (k + 1)))) (by simp [Act.eval, Act.put]) (by rw [ints_len, flat_len, List.length_drop]) NEWS2.out (ints_one _) (by omega) (by unfold maxLen; omega) (by omega) ?_; intro v4 w4 hown4 hg4)
        have PD := Lib.hid (show PAt w4 w4.heap.size v4 (delB ps k) from prow_at (B := wr.heap.size) (by
          unfold PRow
          rw [delB_len hlt, show ps.length - 1 = k + (ps.length - (k + 1)) by omega, delB, flat_append, ints_app]
          exact hown4))
        have B4 := Lib.hid ((Below.drew (Below.refl wr.heap.size wr)).grown hg4 (Nat.le_refl _) (by simp))
        clear hown4 hg4
        go_wp2_with fail
        refine (DL.out k hlt _ w4 PD.out).mono ?_
        rintro e w5 ⟨u5, rfl, hm5, hb5⟩
        have HM5 := Lib.hid (mown_mb hm5)
        obtain ⟨gm5, rfl, _⟩ := hm5
        have B5 := Lib.hid (B4.out.trans (hb5.mono B4.out.size))
        have DK := DE.out k hlt _ w5 HM5.out
        rw [← HK.out] at DK
        have DK' := Lib.hid DK
        clear hb5 DK
        go_wp2_with fail
        refine DK'.out.mono ?_
        rintro e w6 ⟨rfl, hb6⟩
        have B6 := Lib.hid (B5.out.trans (hb6.mono B5.out.size))
        have HR6 := Lib.hid (irow_keep HR.out B6.out)
        have HB6 := Lib.hid (HB.out.trans (B6.out.mono szr))
        have sz6 := HB6.out.size
        clear hb6
        cases hy : hardB n ps k with
        | true =>
          have SN := Lib.hid (hardL_yes hy)
          clear hy
          go_wp2_with (at_builtin; refine wpList_append_own _ rfl _ _ 27 rfl (w.heap.size) 2 i0 (.int .i64 0) 1 8 Tryd.underlying27 hi hz0 hz1 hz2 rfl (by decide) _ us.length _ rfl (HR6.out.alloc _) ⟨w6.heap.size, 0, none⟩ 1 1 [.int .i64 (k : Int)] rfl rfl (newI _ _ _ (by first | rfl | simp)) (cellI _) (by unfold maxLen; omega) (by omega) (by simp; omega) ?_; intro v7 w7 hown7 hg7 _)
          go_roundw
          case rel => exact ⟨k + 1, by omega, by go_num, by rw [SN.out, hus.out]; exact snocI hown7, (HB6.out.alloc sz6 _).grown hg7 (by simp; omega) (fun j hj => (HR6.out.lt j hj).1)⟩
          case measure => simp [intOf]; omega
        | false =>
          have SN := Lib.hid (hardL_no hy)
          clear hy
          go_wp2
          go_roundw
          case rel => exact ⟨k + 1, by omega, by go_num, by rw [SN.out, hus.out]; exact HR6.out, HB6.out⟩
          case measure => simp [intOf]; omega
      · have hlast : ps.length = k + 1 := by omega
        have PD0 : PAt wr.drew wr.drew.heap.size (.slice (some ⟨g, 0, none⟩) k k) (delB ps k) := by
          have hd : delB ps k = ps.take k := by rw [delB, List.drop_eq_nil_of_le (by omega), List.append_nil]
          have hlen : (ps.take k).length = k := by simp; omega
          rw [hd]
          refine ⟨some ⟨g, 0, none⟩, k, by rw [hlen], fun j hj => ⟨g, 0, rfl, Nat.lt_of_lt_of_le gl szr, ?_, ?_⟩⟩
          · have := NEWS1.out (j * 2) (.int .i64 (ps.take k)[j].1) (by simp [ints, (flat_at (ps.take k) j hj).1])
            rw [add_plain', Nat.zero_add] at this
            rw [Nat.zero_add]; exact this
          · have := NEWS1.out (j * 2 + 1) (.int .i64 (ps.take k)[j].2) (by simp [ints, (flat_at (ps.take k) j hj).2])
            rw [add_plain', Nat.zero_add] at this
            rw [Nat.zero_add]; exact this
        have PD := Lib.hid PD0
        have B4 := Lib.hid (Below.drew (Below.refl wr.heap.size wr))
        clear hb PD0
        have hk2 : 0 ≤ (k : Int) + 1 := by omega
        have hk3 : (k : Int) + 1 ≤ (ps.length : Int) := by omega
        have hm0 : ps.length - (k + 1) = 0 := by omega
        have hkk : (k : Int) ≤ (k : Int) + 1 := by omega
        have HLAST := Lib.hid hlast
        clear hlast
        by_cases hcp1 : cp = k + 1
        · have hcd : (cp = k + 1) = True := eq_true hcp1
          have hcm : cp - (k + 1) = 0 := by omega
          have HCP1 := Lib.hid hcp1
          clear hcp1
          go_wp2
          go_region_law (refine step_append_room rfl (.tmp 27) (.tmp 31) 24 rfl 58 ip 2 Tryd.underlying24 hip hpz1 g 0 k k (by simp [Act.eval, Act.put]) ⟨g, 0, none⟩ 0 0 [] (by simp [Act.eval, Act.put, hm0, hcd, hcm]) rfl (fun j u h => by simp at h) (fun u h => by simp at h) (by omega) (fun j hj => by simp at hj) ?_)
          (try rw [show wr.drew.setCells g (0 + k * 2) [] = wr.drew from rfl])
          generalize wr.drew = w4 at *
          go_wp2_with fail
          refine (DL.out k hlt _ w4 PD.out).mono ?_
          rintro e w5 ⟨u5, rfl, hm5, hb5⟩
          have HM5 := Lib.hid (mown_mb hm5)
          obtain ⟨gm5, rfl, _⟩ := hm5
          have B5 := Lib.hid (B4.out.trans (hb5.mono B4.out.size))
          have DK := DE.out k hlt _ w5 HM5.out
          rw [← HK.out] at DK
          have DK' := Lib.hid DK
          clear hb5 DK
          go_wp2_with fail
          refine DK'.out.mono ?_
          rintro e w6 ⟨rfl, hb6⟩
          have B6 := Lib.hid (B5.out.trans (hb6.mono B5.out.size))
          have HR6 := Lib.hid (irow_keep HR.out B6.out)
          have HB6 := Lib.hid (HB.out.trans (B6.out.mono szr))
          have sz6 := HB6.out.size
          clear hb6
          cases hy : hardB n ps k with
          | true =>
            have SN := Lib.hid (hardL_yes hy)
            clear hy
            go_wp2_with (at_builtin; refine wpList_append_own _ rfl _ _ 27 rfl (w.heap.size) 2 i0 (.int .i64 0) 1 8 Tryd.underlying27 hi hz0 hz1 hz2 rfl (by decide) _ us.length _ rfl (HR6.out.alloc _) ⟨w6.heap.size, 0, none⟩ 1 1 [.int .i64 (k : Int)] rfl rfl (newI _ _ _ (by first | rfl | simp)) (cellI _) (by unfold maxLen; omega) (by omega) (by simp; omega) ?_; intro v7 w7 hown7 hg7 _)
            go_roundw
            case rel => exact ⟨k + 1, by omega, by go_num, by rw [SN.out, hus.out]; exact snocI hown7, (HB6.out.alloc sz6 _).grown hg7 (by simp; omega) (fun j hj => (HR6.out.lt j hj).1)⟩
            case measure => simp [intOf]; omega
          | false =>
            have SN := Lib.hid (hardL_no hy)
            clear hy
            go_wp2
            go_roundw
            case rel => exact ⟨k + 1, by omega, by go_num, by rw [SN.out, hus.out]; exact HR6.out, HB6.out⟩
            case measure => simp [intOf]; omega
        · go_wp2
          go_region_law (refine step_append_room rfl (.tmp 27) (.tmp 31) 24 rfl 58 ip 2 Tryd.underlying24 hip hpz1 g 0 k k (by simp [Act.eval, Act.put]) ⟨g, (k + 1) * 2, none⟩ 0 (cp - (k + 1)) [] (by simp [Act.eval, Act.put, hm0, hcp1]) rfl (fun j u h => by simp at h) (fun u h => by simp at h) (by omega) (fun j hj => by simp at hj) ?_)
          (try rw [show wr.drew.setCells g (0 + k * 2) [] = wr.drew from rfl])
          generalize wr.drew = w4 at *
          go_wp2_with fail
          refine (DL.out k hlt _ w4 PD.out).mono ?_
          rintro e w5 ⟨u5, rfl, hm5, hb5⟩
          have HM5 := Lib.hid (mown_mb hm5)
          obtain ⟨gm5, rfl, _⟩ := hm5
          have B5 := Lib.hid (B4.out.trans (hb5.mono B4.out.size))
          have DK := DE.out k hlt _ w5 HM5.out
          rw [← HK.out] at DK
          have DK' := Lib.hid DK
          clear hb5 DK
          go_wp2_with fail
          refine DK'.out.mono ?_
          rintro e w6 ⟨rfl, hb6⟩
          have B6 := Lib.hid (B5.out.trans (hb6.mono B5.out.size))
          have HR6 := Lib.hid (irow_keep HR.out B6.out)
          have HB6 := Lib.hid (HB.out.trans (B6.out.mono szr))
          have sz6 := HB6.out.size
          clear hb6
          cases hy : hardB n ps k with
          | true =>
            have SN := Lib.hid (hardL_yes hy)
            clear hy
            go_wp2_with (at_builtin; refine wpList_append_own _ rfl _ _ 27 rfl (w.heap.size) 2 i0 (.int .i64 0) 1 8 Tryd.underlying27 hi hz0 hz1 hz2 rfl (by decide) _ us.length _ rfl (HR6.out.alloc _) ⟨w6.heap.size, 0, none⟩ 1 1 [.int .i64 (k : Int)] rfl rfl (newI _ _ _ (by first | rfl | simp)) (cellI _) (by unfold maxLen; omega) (by omega) (by simp; omega) ?_; intro v7 w7 hown7 hg7 _)
            go_roundw
            case rel => exact ⟨k + 1, by omega, by go_num, by rw [SN.out, hus.out]; exact snocI hown7, (HB6.out.alloc sz6 _).grown hg7 (by simp; omega) (fun j hj => (HR6.out.lt j hj).1)⟩
            case measure => simp [intOf]; omega
          | false =>
            have SN := Lib.hid (hardL_no hy)
            clear hy
            go_wp2
            go_roundw
            case rel => exact ⟨k + 1, by omega, by go_num, by rw [SN.out, hus.out]; exact HR6.out, HB6.out⟩
            case measure => simp [intOf]; omega
    · obtain rfl : k = ps.length := by omega
      clear hb
      obtain ⟨⟨au, cu, eu⟩, _⟩ := irow_shape HR.out
      subst eu
      go_wp2
      exact bodyPost_ret (v := .tuple #[.slice au (hardL n ps ps.length).length cu, .int .i64 0]) (by simp [results, Tryd.results6, go_sem]) rfl ⟨_, rfl, HR.out, HB.out⟩
set_option maxRecDepth 100000 in
set_option maxHeartbeats 2000000 in
theorem implHa_nil (n : Int) (w : World) (hok : validC n [] = true) :
    Calls Tryd.prog 6 #[.int .i64 n, .slice none 0 0] w fun e w' => ∃ r, e = .returned (.tuple #[r, .int .i64 0]) ∧ IRow w' w.heap.size r [] ∧ Below w.heap.size w w' := by
  have PN : ∀ W : World, PAt W W.heap.size (.slice none 0 0) [] := fun W => ⟨none, 0, rfl, fun k hk => by simp at hk⟩
  obtain ⟨n0, n1, _⟩ := validC_facts hok
  have OK := Lib.hid (implVB_any n (.slice none 0 0) [] w (PN w) (by simp))
  rw [hok] at OK
  have LM := Lib.hid (fun W => landMapOf_any n (.slice none 0 0) [] W (PN W) hok)
  have FC := Lib.hid (fun mv W hM => fewestColours_any mv n [] W hM hok)
  obtain ⟨f1, f2, _⟩ := fewest_is hok
  generalize fewest n [] = R at FC f1 f2
  clear PN hok
  go_enter Tryd.func6, Tryd.ntmps6
  go_wp2_with fail
  refine OK.out.mono ?_
  rintro e w1 ⟨rfl, hb⟩
  have B1 := Lib.hid hb
  clear hb
  go_wp2_with fail
  refine (LM.out w1).mono ?_
  rintro e w2 ⟨u, rfl, hm, hb2⟩
  have HM := Lib.hid (mown_mb hm)
  obtain ⟨gm, rfl, _⟩ := hm
  have B2 := Lib.hid (B1.out.trans (hb2.mono B1.out.size))
  clear hb2
  go_wp2_with fail
  refine (FC.out _ _ HM.out).mono ?_
  rintro e w3 ⟨rfl, hb3⟩
  have B3 := Lib.hid (B2.out.trans (hb3.mono B2.out.size))
  clear hb3
  go_wp2
  go_loopw [7, 21] (fun u i wx => u = .slice none 0 0 ∧ i = .int .i64 0 ∧ Below w.heap.size w wx) (fun _ _ _ => 0)
  case atStart => exact ⟨rfl, rfl, B3.out⟩
  case round =>
    obtain ⟨rfl, rfl, hb⟩ := hrel
    have HB := Lib.hid hb
    clear hb
    go_wp2
    exact bodyPost_ret (v := .tuple #[.slice none 0 0, .int .i64 0]) (by simp [results, Tryd.results6, go_sem]) rfl ⟨_, rfl, irow_nil _ _, HB.out⟩
set_option maxRecDepth 100000 in
set_option maxHeartbeats 1000000 in
theorem implHa_bad (n : Int) (v : Value) (ps : List (Int × Int)) (w : World) (hv : PAt w w.heap.size v ps) (hl : ps.length ≤ 1048576) (hok : validC n ps = false) :
    Calls Tryd.prog 6 #[.int .i64 n, v] w fun e w' => ∃ r, e = .returned (.tuple #[r, .int .i64 1]) ∧ IRow w' w.heap.size r [] ∧ Below w.heap.size w w' := by
  have OK := Lib.hid (implVB_any n v ps w hv hl)
  rw [hok] at OK
  obtain ⟨a, c, rfl, _⟩ := hv
  clear hok
  go_enter Tryd.func6, Tryd.ntmps6
  go_wp2_with fail
  refine OK.out.mono ?_
  rintro e w1 ⟨rfl, hb⟩
  have B1 := Lib.hid hb
  clear hb
  go_wp2
  exact bodyPost_ret (v := .tuple #[.slice none 0 0, .int .i64 1]) (by simp [results, Tryd.results6, go_sem]) rfl ⟨_, rfl, irow_nil _ _, B1.out⟩
theorem implHa_any (n : Int) (v : Value) (ps : List (Int × Int)) (w : World) {B : Nat} (hr : PRow w B v ps) (hl : ps.length ≤ 1048576) :
    Calls Tryd.prog 6 #[.int .i64 n, v] w fun e w' => ∃ r, e = .returned (.tuple #[r, .int .i64 (codeVc n ps)]) ∧ IRow w' w.heap.size r (valHa n ps) ∧ Below w.heap.size w w' := by
  cases h : validC n ps with
  | false =>
    rw [show codeVc n ps = 1 by simp [codeVc, h], show valHa n ps = [] by simp [valHa, h]]
    exact implHa_bad n v ps w (prow_at hr) hl h
  | true =>
    rw [show codeVc n ps = 0 by simp [codeVc, h], show valHa n ps = hardL n ps ps.length by simp [valHa, h]]
    rcases prow_none hr with ⟨rfl, rfl⟩ | ⟨g, cp, rfl, hcp⟩
    · rw [show hardL n [] ([] : List (Int × Int)).length = [] by simp [hardL]]
      exact implHa_nil n w h
    · exact implHa_good n g cp B ps w hr hcp h
end Go.Proofs.YtemhmejjmhbfdaaDoor.sines
