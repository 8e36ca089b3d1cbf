/- FnHardBorders answers true for every list of bytes, under the condition that the table of bits lies as its text lays it (the card ties it to that). -/
import Derived.Test.YtemhmejjmhbfdaaDoorDoorF
import Derived.Test.YtemhmejjmhbfdaaDoorBDraw
import Derived.Test.YtemhmejjmhbfdaaDoorColsP13
import Derived.Test.YtemhmejjmhbfdaaDoorColsP15
import Derived.Test.YtemhmejjmhbfdaaDoorColsQ
import Derived.Test.YtemhmejjmhbfdaaDoorColsT
namespace Go.Proofs.YtemhmejjmhbfdaaDoor.fnhardborders
open Go.ChangeShapes Go.WideShapes Go.ChangeAt Go.RowKit Go.Proofs.YtemhmejjmhbfdaaDoor.spots Go.Proofs.YtemhmejjmhbfdaaDoor.sines Go.Proofs.YtemhmejjmhbfdaaDoor.src Go.Proofs.YtemhmejjmhbfdaaDoor.a2 Go.Proofs.YtemhmejjmhbfdaaDoor.irows Go.Proofs.YtemhmejjmhbfdaaDoor.pairsBorder Go.Proofs.YtemhmejjmhbfdaaDoor.srcB Go.Proofs.YtemhmejjmhbfdaaDoor.rises
set_option linter.unusedSimpArgs false
set_option linter.unusedVariables false
theorem next_self {n : Int} {ps : List (Int × Int)} {a : Int} (hv : validC n ps = true) : a ∉ nextOf n ps a := fun h => by
  obtain ⟨o1, o2⟩ := okPs_of hv
  rw [nextOf, nextN_mem] at h
  have hb := h.2.2
  rw [nbr, List.any_eq_true] at hb
  obtain ⟨p, hp, hj⟩ := hb
  have := o1 p hp
  simp only [joins, Bool.or_eq_true, decide_eq_true_eq] at hj
  omega
theorem next_sum (n : Int) (ps : List (Int × Int)) (hn : n ≤ 10) : ∀ k : Nat, sumL (fun a => (nextOf n ps a).length) (landsL k) ≤ 10 * k
  | 0 => by simp [landsL, sumL]
  | k + 1 => by
    have := next_sum n ps hn k
    have h2 := nextN_len ps (k : Int) n.toNat
    rw [landsL_succ, sumL_app, sumL_cons, sumL_nil]
    show _ + ((nextN ps (k : Int) n.toNat).length + 0) ≤ _
    omega
theorem prow_room {w : World} {B : Nat} {a : Option Addr} {n c : Nat} {ps : List (Int × Int)} (h : PRow w B (.slice a n c) ps) (h0 : 0 < ps.length) : ∃ g, a = some ⟨g, 0, none⟩ ∧ ps.length ≤ c := by
  rcases h.2 with ⟨_, h1⟩ | ⟨g, cap, cur, hv, _, _, hle, _⟩
  · omega
  · cases hv; exact ⟨g, rfl, hle⟩
theorem bdN {B : Nat} {a w : World} (h : Below B a w) (q : Nat) : Below B a (w.drewN q) := ⟨h.os, h.tape, h.output, h.size, h.block⟩
set_option maxRecDepth 100000 in
set_option maxHeartbeats 4000000 in
theorem walk (a0 : Option Addr) (l0 c0 : Nat) (z0 : List Int) (w : World) (r0 : Go.Proofs.YtemhmejjmhbfdaaDoor.src.IsRow .u8 w a0 l0 c0 z0) (hL : laidMetH Tryd.prog Rows.fnHardBordersRow.laid w) :
    Calls Tryd.prog 3 #[.slice a0 l0 c0] w fun e w' => e = .returned (.bool true) ∧ Below w.heap.size w w' := by
  have hTB : TBl w := TBl_of_laid hL
  have TBW := Lib.hid (fun V (hb : Below w.heap.size w V) => TBl_below hTB hb (TBl_lt hTB))
  clear hL hTB
  have hl0 := row_len r0
  by_cases hlong : 3000 < l0
  · have hd : decide (3000 < l0 ∨ 3000 < 0) = true := decide_eq_true (.inl hlong)
    have R0 := Lib.hid r0
    clear r0
    go_enter Tryd.func3, Tryd.ntmps3
    go_wp2_with fail
    refine (a2Long_any _ _ _ _ _ _ _ hl0 (by decide)).mono ?_
    rw [hd]
    rintro e w' ⟨rfl, rfl⟩
    go_wp2
    go_ret
    exact ⟨rfl, Below.refl _ _⟩
  have hd : decide (3000 < l0 ∨ 3000 < 0) = false := decide_eq_false (by omega)
  have B0 := Lib.hid (bytes_of r0 (by omega) (fun b o v h => World.block_lt_of_cell? _ _ h))
  clear r0
  obtain ⟨i0, hi, hz0, hz1, hz2⟩ := info_parts info_int
  obtain ⟨ip, hip, hpz0, hpz1, hpz2⟩ := info_parts info_pair
  go_enter Tryd.func3, Tryd.ntmps3
  go_wp2_with fail
  refine (a2Long_any _ _ _ _ _ _ _ hl0 (by decide)).mono ?_
  rw [hd]
  rintro e w' ⟨rfl, rfl⟩
  clear hl0 hlong hd
  go_wp2_with fail
  refine (A2Lands_any w a0 l0 c0 B0.out).mono ?_
  rintro e w1 ⟨n, u, ps, rfl, n1, n6, hok, hl12, hr, hb⟩
  have HB1 := Lib.hid hb
  have R1 := Lib.hid hr
  have HOK := Lib.hid hok
  clear hb hr
  obtain ⟨au, cp, rfl⟩ : ∃ a c, u = .slice a ps.length c := by obtain ⟨a, c, e, _⟩ := prow_at R1.out; exact ⟨a, c, e⟩
  obtain ⟨N, rfl⟩ : ∃ N : Nat, n = (N : Int) := ⟨n.toNat, by omega⟩
  have eF : valFew (N : Int) ps = fewest (N : Int) ps := by simp [valFew, hok]
  have eC : codeVc (N : Int) ps = 0 := by simp [codeVc, hok]
  have eH : valHa (N : Int) ps = hardL (N : Int) ps ps.length := by simp [valHa, hok]
  have FD := Lib.hid (fun k (hk : k < ps.length) => fewest_del_le hok hk)
  have FU := Lib.hid (fun k (hk : k < ps.length) => fewest_le_del hok hk)
  have VD := Lib.hid (fun k (hk : k < ps.length) => validC_del hok hk)
  have HMM := Lib.hid (fun k (hk : k < ps.length) => hardL_mem (n := (N : Int)) (ps := ps) hk)
  have BT := Lib.hid (both_two hok)
  rw [Int.toNat_natCast] at BT
  obtain ⟨f1, f2, _, _⟩ := fewest_is hok
  have HL := hardL_len (N : Int) ps ps.length
  have RI := Lib.hid (hardL_rises (N : Int) ps ps.length)
  have HA := Lib.hid (implHa_any (N : Int) (.slice au ps.length cp) ps w1 R1.out (by omega))
  rw [eC, eH] at HA
  have FE := Lib.hid (fun W (h : PAt W W.heap.size (.slice au ps.length cp) ps) => implFew_any (N : Int) _ ps W h (by omega))
  rw [eC, eF] at FE
  have HD := Lib.hid (show ∀ k, hardB (N : Int) ps k = decide (fewest (N : Int) (delB ps k) < fewest (N : Int) ps) from fun k => rfl)
  clear eF eC eH
  generalize fewest (N : Int) ps = R at *
  obtain ⟨hs, hhs⟩ : ∃ hs, Hid (hardL (N : Int) ps ps.length = hs) := ⟨_, Lib.hid rfl⟩
  rw [hhs.out] at HL RI HA HMM
  have n3 : (ps.length : Int) ≤ 12 := by omega
  go_wp2_with fail
  refine HA.out.mono ?_
  rintro e w2 ⟨uh, rfl, hr, hb⟩
  have HB2 := Lib.hid (HB1.out.trans (hb.mono HB1.out.size))
  have R2 := Lib.hid (prow_keep R1.out hb)
  have H2 := Lib.hid hr
  obtain ⟨⟨ah, ch, rfl⟩, _⟩ := irow_shape hr
  clear hb hr HA
  go_wp2_with fail
  refine (FE.out w2 (prow_at R2.out)).mono ?_
  rintro e w3 ⟨rfl, hb⟩
  have HB3 := Lib.hid (HB2.out.trans (hb.mono HB2.out.size))
  have R3 := Lib.hid (prow_keep R2.out hb)
  have H3 := Lib.hid (irow_keep H2.out hb)
  clear hb FE
  go_wp2_with fail
  refine (a2Rises_yes _ _ _ _ w3 H3.out (by omega) RI.out).mono ?_
  rintro e w4 ⟨rfl, q, hw⟩
  have HB4 := Lib.hid (show Below w.heap.size w w4 by rw [hw]; exact bdN HB3.out q)
  have R4 := Lib.hid (show PRow w4 w.heap.size (.slice au ps.length cp) ps by rw [hw]; exact prow_keep R3.out (bdN (Below.refl w3.heap.size w3) q))
  have H4 := Lib.hid (show IRow w4 w1.heap.size (.slice ah hs.length ch) hs by rw [hw]; exact irow_keep H3.out (bdN (Below.refl w3.heap.size w3) q))
  clear hw
  go_wp2
  go_loopw [9] (fun i wx => ∃ k : Nat, k ≤ ps.length ∧ i = .int .i64 (k : Int) ∧ Below w4.heap.size w4 wx) (fun i _ => ps.length - (intOf i).toNat)
  case atStart => exact ⟨0, Nat.zero_le _, rfl, Below.refl _ _⟩
  case round =>
    obtain ⟨k, hk, rfl, hb⟩ := hrel
    have HB := Lib.hid hb
    by_cases hlt : k < ps.length
    · have R5 := Lib.hid (prow_keep R4.out hb)
      obtain ⟨g, ea, hcp⟩ := prow_room R4.out (show 0 < ps.length by omega)
      subst ea
      have gl := prow_lt R4.out
      have HC := Lib.hid (show ∀ j x, (ints (flat ps))[j]? = some x → w4.cell? ⟨g, j, none⟩ = some x from fun j x hx => prow_cellJ R4.out hx)
      have hk0 : 0 ≤ (k : Int) := by omega
      have hk1 : (k : Int) < (ps.length : Int) := by omega
      have hkc : (k : Int) ≤ (cp : Int) := by omega
      have hkc2 : k ≤ cp := by omega
      have hcp2 : (ps.length : Int) ≤ (cp : Int) := by omega
      have kw : IntKind.i64.wrap ((k : Int) + 1) = (k : Int) + 1 := IntWalk.i64_in _ (by omega)
      have FDk := FD.out k hlt
      have FUk := FU.out k hlt
      have MB := Lib.hid (show decide ((k : Int) ∈ hs) = decide (fewest (N : Int) (delB ps k) < R) by
        rw [← HD.out k, Bool.eq_iff_iff, decide_eq_true_eq]; exact HMM.out k hlt)
      have EF := Lib.hid (show valFew (N : Int) (delB ps k) = fewest (N : Int) (delB ps k) by simp [valFew, VD.out k hlt])
      have EC := Lib.hid (show codeVc (N : Int) (delB ps k) = 0 by simp [codeVc, VD.out k hlt])
      have LD : (delB ps k).length ≤ 1048576 := by rw [delB_len hlt]; omega
      have NEWS1 := Lib.hid (show ∀ j x, (ints (flat (ps.take k)))[j]? = some x → (wr.alloc (.cells #[] 58)).cell? ((⟨g, 0, none⟩ : Addr).add j) = some x from fun j x hx => by
        have h1 := (hb.cell (p := ⟨g, j, none⟩) gl).trans (HC.out j x (news_take hx))
        rw [add_plain', Nat.zero_add]
        exact (World.cell?_alloc_past _ _ _ (Nat.lt_of_lt_of_le gl hb.size)).trans h1)
      have szr := hb.size
      clear hb
      by_cases hce : cp = k + 1
      · have HPE := Lib.hid (show ps.length = k + 1 by omega)
        subst hce
        go_wp2_with (first | (at_builtin; refine wpList_append_own _ rfl _ _ 24 rfl (wr.heap.size) 58 ip (.agg #[.int .i64 0, .int .i64 0]) 2 16 Tryd.underlying24 hip hpz0 hpz1 hpz2 rfl (by decide) _ (0) _ rfl (brd_made wr wr.heap.size (Nat.le_refl _)) ⟨g, 0, none⟩ (k) (_) (ints (flat (ps.take k))) rfl (by rw [ints_len, flat_len, List.length_take]; omega) NEWS1.out (ints_one _) (by unfold maxLen; omega) (by omega) (by simp) ?_; intro v1 w1 hown1 hg1 _; have BW1 := Lib.hid (show Below wr.heap.size wr w1 from (((Below.refl _ _).alloc (Nat.le_refl _) (.cells #[] 58)).grown hg1 (by simp) (fun j hj => (World.ownsRow.lt (brd_made wr wr.heap.size (Nat.le_refl _)) j hj).1))); have NEWS2 := Lib.hid (news2 HC.out gl (HB.out.trans (BW1.out.mono szr)) hlt (0) (.inr HPE.out))) | (at_builtin; refine wpList_append_own _ rfl _ _ 24 rfl (wr.heap.size) 58 ip (.agg #[.int .i64 0, .int .i64 0]) 2 16 Tryd.underlying24 hip hpz0 hpz1 hpz2 rfl (by decide) _ (0 + k) _ rfl hown1 ⟨g, 0, none⟩ (0) (_) (ints (flat (ps.drop (k + 1)))) rfl (by rw [ints_len, flat_len, List.length_drop]; omega) NEWS2.out (ints_one _) (by unfold maxLen; omega) (by omega) (Nat.le_trans BW1.out.size (Nat.le_refl _)) ?_; intro v2 w5 hown2 hg2 _))
        have PD := Lib.hid (del_row hlt (show 0 = ps.length - (k + 1) by omega) hown2)
        have B5 := Lib.hid (BW1.out.grown hg2 BW1.out.size (fun j hj => (World.ownsRow.lt hown1 j hj).1))
        clear hown1 hown2 hg1 hg2
        have FW5 := Lib.hid (implFew_any (N : Int) v2 (delB ps k) w5 (prow_at PD.out) LD)
        rw [EC.out, EF.out] at FW5
        generalize fewest (N : Int) (delB ps k) = y at *
        have kw1 : IntKind.i64.wrap (R - 1) = R - 1 := IntWalk.i64_in _ (by omega)
        have d1 : decide (R < y) = false := by simp; omega
        have d2 : decide (y < R - 1) = false := by simp; omega
        have D1 := Lib.hid d1
        have D2 := Lib.hid d2
        have KW1 := Lib.hid kw1
        clear d1 d2 kw1
        refine FW5.out.mono ?_
        rintro e w6 ⟨rfl, hb6⟩
        have B6 := Lib.hid (B5.out.trans (hb6.mono B5.out.size))
        have HB6 := Lib.hid (HB.out.trans (B6.out.mono szr))
        have H6 := Lib.hid (irow_keep H4.out HB6.out)
        have HX := Lib.hid (a2Has_row _ _ hs (k : Int) w6 H6.out (by omega))
        rw [MB.out] at HX
        clear hb6
        cases hy : decide (y < R)
        all_goals
          rw [hy] at HX
          have kw1 := KW1.out
          have d1 := D1.out
          have d2 := D2.out
          go_wp2_with fail
          refine HX.out.mono ?_
          rintro e w7 ⟨rfl, hw7⟩
          subst hw7
          go_wp2
          go_roundw
          case rel => exact ⟨k + 1, by omega, by go_num, HB6.out⟩
          case measure => simp [intOf]; omega
      · go_wp2_with (first | (at_builtin; refine wpList_append_own _ rfl _ _ 24 rfl (wr.heap.size) 58 ip (.agg #[.int .i64 0, .int .i64 0]) 2 16 Tryd.underlying24 hip hpz0 hpz1 hpz2 rfl (by decide) _ (0) _ rfl (brd_made wr wr.heap.size (Nat.le_refl _)) ⟨g, 0, none⟩ (k) (_) (ints (flat (ps.take k))) rfl (by rw [ints_len, flat_len, List.length_take]; omega) NEWS1.out (ints_one _) (by unfold maxLen; omega) (by omega) (by simp) ?_; intro v1 w1 hown1 hg1 _; have BW1 := Lib.hid (show Below wr.heap.size wr w1 from (((Below.refl _ _).alloc (Nat.le_refl _) (.cells #[] 58)).grown hg1 (by simp) (fun j hj => (World.ownsRow.lt (brd_made wr wr.heap.size (Nat.le_refl _)) j hj).1))); have NEWS2 := Lib.hid (news2 HC.out gl (HB.out.trans (BW1.out.mono szr)) hlt ((k + 1) * 2) (.inl rfl))) | (at_builtin; refine wpList_append_own _ rfl _ _ 24 rfl (wr.heap.size) 58 ip (.agg #[.int .i64 0, .int .i64 0]) 2 16 Tryd.underlying24 hip hpz0 hpz1 hpz2 rfl (by decide) _ (0 + k) _ rfl hown1 ⟨g, (k + 1) * 2, none⟩ (ps.length - (k + 1)) (cp - (k + 1)) (ints (flat (ps.drop (k + 1)))) rfl (by rw [ints_len, flat_len, List.length_drop]) NEWS2.out (ints_one _) (by unfold maxLen; omega) (by omega) (Nat.le_trans BW1.out.size (Nat.le_refl _)) ?_; intro v2 w5 hown2 hg2 _))
        have PD := Lib.hid (del_row hlt (show ps.length - (k + 1) = ps.length - (k + 1) by omega) hown2)
        have B5 := Lib.hid (BW1.out.grown hg2 BW1.out.size (fun j hj => (World.ownsRow.lt hown1 j hj).1))
        clear hown1 hown2 hg1 hg2
        have FW5 := Lib.hid (implFew_any (N : Int) v2 (delB ps k) w5 (prow_at PD.out) LD)
        rw [EC.out, EF.out] at FW5
        generalize fewest (N : Int) (delB ps k) = y at *
        have kw1 : IntKind.i64.wrap (R - 1) = R - 1 := IntWalk.i64_in _ (by omega)
        have d1 : decide (R < y) = false := by simp; omega
        have d2 : decide (y < R - 1) = false := by simp; omega
        have D1 := Lib.hid d1
        have D2 := Lib.hid d2
        have KW1 := Lib.hid kw1
        clear d1 d2 kw1
        refine FW5.out.mono ?_
        rintro e w6 ⟨rfl, hb6⟩
        have B6 := Lib.hid (B5.out.trans (hb6.mono B5.out.size))
        have HB6 := Lib.hid (HB.out.trans (B6.out.mono szr))
        have H6 := Lib.hid (irow_keep H4.out HB6.out)
        have HX := Lib.hid (a2Has_row _ _ hs (k : Int) w6 H6.out (by omega))
        rw [MB.out] at HX
        clear hb6
        cases hy : decide (y < R)
        all_goals
          rw [hy] at HX
          have kw1 := KW1.out
          have d1 := D1.out
          have d2 := D2.out
          go_wp2_with fail
          refine HX.out.mono ?_
          rintro e w7 ⟨rfl, hw7⟩
          subst hw7
          go_wp2
          go_roundw
          case rel => exact ⟨k + 1, by omega, by go_num, HB6.out⟩
          case measure => simp [intOf]; omega
    · obtain rfl : k = ps.length := by omega
      clear hb
      go_wp2
      go_loopw [13, 14] (fun b l wx => ∃ k : Nat, k ≤ N ∧ l = .int .i64 (k : Int) ∧ b = .int .i64 ((sumL (fun a => (nextOf (N : Int) ps a).length) (landsL k) : Nat) : Int) ∧ Below w4.heap.size w4 wx) (fun _ l _ => N - (intOf l).toNat)
      case atStart => exact ⟨0, Nat.zero_le _, rfl, rfl, HB.out⟩
      case round =>
        obtain ⟨k, hk, rfl, rfl, hb⟩ := hrel
        have HB := Lib.hid hb
        by_cases hlt : k < N
        · have c1 : codeNb (N : Int) ps (k : Int) = 0 := by
            have hin : inB (k : Int) 0 ((N : Int) - 1) = true := by simp [inB]; omega
            rw [codeNb, if_pos HOK.out, if_pos hin]
          have v1 : valNb (N : Int) ps (k : Int) = nextOf (N : Int) ps (k : Int) := by rw [valNb, if_pos c1]
          have NB := Lib.hid (implNb_any (N : Int) (.slice au ps.length cp) ps (k : Int) wr (prow_at (prow_keep R4.out hb)) (by omega) (TBW.out wr (HB4.out.trans (hb.mono HB4.out.size))))
          rw [c1, v1] at NB
          have NL : (nextOf (N : Int) ps (k : Int)).length ≤ 10 := nextOf_len _ _ _ (by omega)
          have NR := Lib.hid (show RisesTo (nextOf (N : Int) ps (k : Int)) (N : Int) by
            have := nextN_rises ps (k : Int) N
            rwa [nextOf, Int.toNat_natCast])
          have NS := Lib.hid (show decide ((k : Int) ∈ nextOf (N : Int) ps (k : Int)) = false from decide_eq_false (next_self HOK.out))
          have SS := Lib.hid (show sumL (fun a => (nextOf (N : Int) ps a).length) (landsL (k + 1)) = sumL (fun a => (nextOf (N : Int) ps a).length) (landsL k) + (nextOf (N : Int) ps (k : Int)).length by
            rw [landsL_succ, sumL_app, sumL_cons, sumL_nil]; omega)
          have SB := next_sum (N : Int) ps (by omega) k
          have hk0 : 0 ≤ (k : Int) := by omega
          have hk1 : (k : Int) < (N : Int) := by omega
          have szr := hb.size
          clear hb c1 v1
          generalize nextOf (N : Int) ps (k : Int) = nx at *
          generalize sumL (fun a => (nextOf (N : Int) ps a).length) (landsL k) = S at *
          have kw : IntKind.i64.wrap ((S : Int) + (nx.length : Int)) = (S : Int) + (nx.length : Int) := IntWalk.i64_in _ (by omega)
          go_wp2_with fail
          refine NB.out.mono ?_
          rintro e w6 ⟨un, rfl, hrn, hbn⟩
          have HB6 := Lib.hid (HB.out.trans (hbn.mono szr))
          have N6 := Lib.hid hrn
          obtain ⟨⟨an, cn, rfl⟩, _⟩ := irow_shape hrn
          clear hrn hbn
          go_wp2_with fail
          refine (a2Rises_yes _ _ _ _ w6 N6.out (by omega) NR.out).mono ?_
          rintro e w7 ⟨rfl, q, hw⟩
          have HB7 := Lib.hid (show Below w4.heap.size w4 w7 by rw [hw]; exact bdN HB6.out q)
          have N7 := Lib.hid (show IRow w7 wr.heap.size (.slice an nx.length cn) nx by rw [hw]; exact irow_keep N6.out (bdN (Below.refl w6.heap.size w6) q))
          clear hw
          have HX := Lib.hid (a2Has_row _ _ nx (k : Int) w7 N7.out (by omega))
          rw [NS.out] at HX
          go_wp2_with fail
          refine HX.out.mono ?_
          rintro e w8 ⟨rfl, hw8⟩
          subst hw8
          go_wp2
          go_roundw
          case rel => exact ⟨k + 1, by omega, by go_num, by rw [SS.out, Int.natCast_add], HB7.out⟩
          case measure => simp [intOf]; omega
        · obtain rfl : k = N := by omega
          rw [BT.out]
          have kw : IntKind.i64.wrap (2 * (ps.length : Int)) = 2 * (ps.length : Int) := IntWalk.i64_in _ (by omega)
          clear hb
          go_wp2
          go_ret
          exact ⟨by simp, HB4.out.trans (HB.out.mono HB4.out.size)⟩

set_option maxRecDepth 100000 in
theorem lifted (os : Os) (started : os.Started) (H : Type) (enc : TypeId × Value → H) :
    ReturnsInHanded {} Tryd.checked os 3 .any (fun w args => (Rows.fnHardBordersSpec.pre enc Tryd.prog Tryd.f3 [] false w args ∧ laidMetH Tryd.prog Rows.fnHardBordersRow.laid w) ∧ sizedMet enc Tryd.prog Tryd.f3 (OpenSpec.ofChange Rows.fnHardBordersSpec) false w args)
      (Rows.fnHardBordersSpec.post enc Tryd.prog Tryd.f3 false true false false) := by
  refine returnsInHanded_of_change_and (C := Tryd.checked) (X := fun w _ => laidMetH Tryd.prog Rows.fnHardBordersRow.laid w) (fun _ _ _ hh h => h.of_heap hh) own started (by kernel_rfl) Tryd.func3
    (ChangeSpec.witness_shaped (enc := enc) (C := Tryd.checked) (os := os) (X := fun w _ => laidMetH Tryd.prog Rows.fnHardBordersRow.laid w) false (World.doorLaid Tryd.prog 19 os) #[.slice none 0 0] 8 rfl (door_shaped os _) (by kernel_rfl) (by kernel_rfl) (by kernel_rfl) (door_met0 os _)) ?_
  intro W base args ds gs before hval0 hW hcnd _ hL _
  have hval : ∀ (j : Nat) t v, Tryd.f3.params[j]? = some t → args[j]? = some v → Value.okWide Tryd.prog W .any base t v := hval0
  have hW' := hW
  obtain ⟨p, q, hA0, hV, hpq, hfz, hnd⟩ := hW
  have hA : DataW.TrodAll enc Tryd.prog W 0 (fun _ => true) true Tryd.f3.params.toList args.toList ds p := hA0
  rw [Tryd.params3] at hA hval
  obtain ⟨v0, vs0, d0, ds0, p0, q0, hargs, rfl, rfl, h0, r0⟩ := trodAll_cons hA
  obtain ⟨rfl, rfl, rfl⟩ := trodAll_nil r0
  obtain rfl : args = #[v0] := by cases args; simp_all
  obtain ⟨a0, len0, cap0, rfl⟩ := okWide_slice Tryd.underlying22 (hval 0 22 v0 rfl rfl)
  obtain ⟨z0, w0⟩ : ∃ zs, IsRow .u8 W a0 len0 cap0 zs := by
    obtain ⟨fuel, hf⟩ := h0
    rcases open_ints Tryd.underlying22 Tryd.underlying5 (by kernel_rfl) hf with ⟨hcs, _⟩ | ⟨x, l, c, zs, hcs, _, hl, hm, hz, _, hcell, hwz⟩
    · simp [Value.cells] at hcs
      obtain ⟨rfl, rfl, rfl⟩ := hcs
      exact ⟨[], .inl ⟨rfl, rfl, rfl, rfl⟩⟩
    · simp [Value.cells] at hcs
      obtain ⟨rfl, rfl, rfl⟩ := hcs
      exact ⟨zs, .inr ⟨_, rfl, hl, hm, by simpa using hz, hcell, hwz⟩⟩
  refine (walk a0 len0 cap0 z0 W w0 hL).mono fun e W' ⟨he, bel⟩ => ?_
  subst he
  exact ⟨_, rfl, post_of_law laidOut (by kernel_rfl) Tryd.underlying4 rfl rfl (fun ds h => by match ds, h with | [_], _ => rfl) hW' bel⟩

theorem holds : Rows.FnHardBordersSaid :=
  OpenClaim.holds_of_wide 3 Tryd.f3 rfl rfl rfl rfl rfl rfl rfl ⟨rfl, rfl, rfl, rfl, rfl⟩ rfl rfl rfl rfl rfl (by kernel_rfl) Tryd.func3 (by kernel_rfl)
    (of_decide_eq_true (by kernel_rfl)) (by unfold Func.isWrapper; first | (rw [if_pos (by decide +kernel)]; kernel_rfl) | (rw [if_neg (by decide +kernel)]; exact ⟨rfl, rfl⟩))
    (fun os started H enc _ => lifted os started H enc)

/-- No parameter wants a stand-in; what the card asks of the program's looks. -/
theorem plain (f : FuncId) (fn : Func) (hf : Tryd.pinned.checked.prog.funcNamed "loop.example/g01055/laws.FnHardBorders" = some f) (hfn : Tryd.pinned.checked.prog.funcs[f]? = some fn) :
    false = Tryd.pinned.checked.prog.looks [] ∧ ∀ (j : Nat) t, fn.params[j]? = some t → Tryd.pinned.checked.prog.wantsStandIn t = false := by
  obtain rfl : f = 3 := Option.some.inj ((show Tryd.prog.funcNamed "loop.example/g01055/laws.FnHardBorders" = some 3 by kernel_rfl).symm.trans hf) |>.symm
  obtain rfl : fn = Tryd.f3 := (Option.some.inj (Tryd.func3.symm.trans hfn)).symm
  refine ⟨door_looks, fun j t ht => ?_⟩
  have hall : (Tryd.f3.params.toList.all fun u => !Tryd.prog.wantsStandIn u) = true := by kernel_rfl
  have hm : t ∈ Tryd.f3.params.toList := by simpa using Array.mem_of_getElem? ht
  exact (show Tryd.prog.wantsStandIn t = false by simpa using List.all_eq_true.1 hall t hm)

/-- THE CARD. -/
theorem card : Rows.FnHardBordersCardSaid :=
  Claim7.holds_tied_plain_at .later [] _ _ _ _ holds (fun _ h => by cases h) (by kernel_rfl) (fun _ h => by cases h) fnHardBorders_row_tie rfl ⟨rfl, rfl⟩ door_main rfl plain (by kernel_rfl)
#print axioms card

end Go.Proofs.YtemhmejjmhbfdaaDoor.fnhardborders
