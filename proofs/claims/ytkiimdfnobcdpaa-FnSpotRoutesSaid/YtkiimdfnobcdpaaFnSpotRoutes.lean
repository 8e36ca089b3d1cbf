/- FnSpotRoutes answers true for every two lists of bytes. -/
import Derived.Test.YtkiimdfnobcdpaaSpotL
import Derived.Test.YtkiimdfnobcdpaaShortI
import Derived.Test.YtkiimdfnobcdpaaTable
namespace Go.Proofs.Ytkiimdfnobcdpaa.routes
open Go.ChangeShapes Go.WideShapes Go.ChangeAt Go.RowKit Go.Proofs.Ytkiimdfnobcdpaa.spots Go.Proofs.Ytkiimdfnobcdpaa.sines Go.Proofs.Ytkiimdfnobcdpaa.src Go.Proofs.Ytkiimdfnobcdpaa.a2 Go.Proofs.Ytkiimdfnobcdpaa.a2s Go.Proofs.Ytkiimdfnobcdpaa.irows Go.Proofs.Ytkiimdfnobcdpaa.pairs Go.Proofs.Ytkiimdfnobcdpaa.trows
set_option linter.unusedSimpArgs false

/-- Two numbers at the head of a block. -/
def TwoAt (W : World) (b : Nat) (x y : Int) : Prop := b < W.heap.size ∧ W.cell? ⟨b, 0, none⟩ = some (.int .i64 x) ∧ W.cell? ⟨b, 1, none⟩ = some (.int .i64 y)
theorem two_fresh (w : World) (x y : Int) (t : TypeId) : TwoAt (w.alloc (.cells #[.int .i64 x, .int .i64 y] t)) w.heap.size x y :=
  ⟨by simp, by rw [World.cell?_alloc_new]; rfl, by rw [World.cell?_alloc_new]; rfl⟩
theorem two_keep {W W' : World} {b : Nat} {x y : Int} (h : TwoAt W b x y) (hb : Below W.heap.size W W') : TwoAt W' b x y :=
  ⟨Nat.lt_of_lt_of_le h.1 hb.size, (hb.cell (p := ⟨b, 0, none⟩) h.1).trans h.2.1, (hb.cell (p := ⟨b, 1, none⟩) h.1).trans h.2.2⟩
theorem code_ok {ps : List (Int × Int)} {least most : Int} (h : okL ps = true) (h1 : (ps.length : Int) ≤ most) (h2 : least ≤ (ps.length : Int)) : codeL ps least most = 0 := by
  unfold codeL
  rw [if_pos h, if_neg (by omega), if_neg (by omega)]
theorem code_few {ps : List (Int × Int)} {least most : Int} (h : okL ps = true) (h1 : (ps.length : Int) ≤ most) (h2 : (ps.length : Int) < least) : codeL ps least most = 3 := by
  unfold codeL
  rw [if_pos h, if_neg (by omega), if_pos h2]
theorem specD_rel (a b c d : Int) (W0 w : World) (h : Below W0.heap.size W0 w) (ha : okB a b = true) (hc : okB c d = true) :
    Calls Try.prog 9 #[.agg #[.int .i64 a, .int .i64 b], .agg #[.int .i64 c, .int .i64 d]] w fun e w' => e = .returned (.tuple #[.int .i64 (distL a b c d), .int .i64 0]) ∧ Below W0.heap.size W0 w' := by
  refine (specDistanceOf_any a b c d w).mono ?_
  rw [show ansD a b c d (distL a b c d) = distL a b c d by simp [ansD, okTwo, ha, hc], show codeD a b c d = 0 by simp [codeD, okTwo, ha, hc]]
  rintro e w' ⟨rfl, hb⟩
  exact ⟨rfl, h.trans (hb.mono h.size)⟩
/-- The cells of a list of spots. -/
theorem pat_cells {w : World} {B n c : Nat} {a : Option Addr} {ps : List (Int × Int)} (h : PAt w B (.slice a n c) ps) : ∀ k, (h : k < ps.length) → ∃ b off, a = some ⟨b, off, none⟩ ∧ b < B ∧ w.cell? ⟨b, off + k * 2, none⟩ = some (.int .i64 ps[k].1) ∧ w.cell? ⟨b, off + k * 2 + 1, none⟩ = some (.int .i64 ps[k].2) := by
  obtain ⟨a2, c2, e, h⟩ := h
  simp at e
  obtain ⟨rfl, _, _⟩ := e
  exact h
/-- What is read of an order. -/
def OAt (w : World) (B : Nat) (v : Value) (os : List Nat) : Prop :=
  ∃ a c, v = .slice a os.length c ∧ os.length ≤ c ∧ ∀ k, k < os.length → ∃ g, a = some ⟨g, 0, none⟩ ∧ g < B ∧ w.cell? ⟨g, k, none⟩ = some (.int .i64 ((os.getD k 0 : Nat) : Int))
theorem oat_of {w : World} {B : Nat} {v : Value} {os : List Nat} (h : IRow w B v (nz os)) : OAt w w.heap.size v os := by
  obtain ⟨a, c, e, hc⟩ := irow_at' h
  rw [nz_len] at e
  refine ⟨a, c, e, ?_, fun k hk => ?_⟩
  · rcases h.2 with ⟨e1, e2⟩ | ⟨g, cap, cur, e1, _, _, h1, _⟩
    · rw [nz_len] at e2; omega
    · rw [e] at e1
      simp [nz_len] at e1 h1
      omega
  · obtain ⟨g, e1, _, e2, e3⟩ := hc k (by rw [nz_len]; exact hk)
    refine ⟨g, e1, e2, e3.trans ?_⟩
    simp [nz, hk]
/-- What the law asks of an order and of its length. -/
def OrdF (ps : List (Int × Int)) (os : List Nat) (T : Int) : Prop :=
  os.length = ps.length ∧ os.Nodup ∧ (∀ x ∈ os, x < ps.length) ∧ (0 < ps.length → os.getD 0 0 = 0 ∧ routeN (inOrder ps os) (ps.length - 1) = T ∧ T ≤ routeN ps (ps.length - 1)) ∧ (ps.length = 0 → T = 0)
theorem short_told {ps : List (Int × Int)} (hk : okL ps = true) (hl : ps.length ≤ 5) : ∃ os, shortV ps = nz os ∧ OrdF ps os (shortL ps) := by
  have hc : codeL ps 0 7 = 0 := code_ok hk (by omega) (by omega)
  by_cases h0 : 0 < ps.length
  · obtain ⟨e1, e2⟩ := short_yes hc h0
    obtain ⟨o1, o2, o3, o4⟩ := ordN_facts (dd ps) (n := ps.length) (by omega) h0
    refine ⟨ordN (dd ps) ps.length, e1, o1, o2, o3, fun _ => ⟨rfl, ?_, ?_⟩, fun h => by omega⟩
    · rw [e2]; exact route_told (by omega) h0
    · rw [e2]; exact route_plain (by omega) h0
  · obtain ⟨e1, e2⟩ := short_no (ps := ps) (fun h => h0 h.2)
    refine ⟨[], e1, by simp; omega, List.nodup_nil, fun x hx => by simp at hx, fun h => absurd h h0, fun _ => e2⟩
theorem a2Has_is (a : Option Addr) (c N : Nat) (zs : List Int) (n : Int) (b : Bool) (w : World) (hL : zs.length = N) (ha : ∀ k, (hk : k < zs.length) → ∃ g, a = some ⟨g, 0, none⟩ ∧ w.cell? ⟨g, k, none⟩ = some (.int .i64 zs[k])) (hn : N ≤ 1073741824) (hb : decide (n ∈ zs) = b) :
    Calls Try.prog 13 #[.slice a N c, .int .i64 n] w fun e w' => e = .returned (.bool b) ∧ w = w' := by
  subst hL hb
  exact a2Has_cells a c zs n w ha hn
set_option maxRecDepth 100000 in
set_option maxHeartbeats 16000000 in
theorem walk (a0 : Option Addr) (l0 c0 : Nat) (z0 : List Int) (a1 : Option Addr) (l1 c1 : Nat) (z1 : List Int) (w : World) (r0 : IsRow .u8 w a0 l0 c0 z0) (r1 : IsRow .u8 w a1 l1 c1 z1) :
    Calls Try.prog 3 #[.slice a0 l0 c0, .slice a1 l1 c1] w fun e w' => e = .returned (.bool true) ∧ Below w.heap.size w w' := by
  have hl0 := row_len r0
  have hl1 := row_len r1
  by_cases hlong : 3000 < l0 ∨ 3000 < l1
  · have hd : decide (3000 < l0 ∨ 3000 < l1) = true := decide_eq_true hlong
    clear r0 r1 hlong
    go_enter Try.func3, Try.ntmps3
    go_wp2_with fail
    refine (a2Long_any _ _ _ _ _ _ _ hl0 hl1).mono ?_
    rw [hd]
    rintro e w' ⟨rfl, rfl⟩
    go_wp2
    go_ret
    exact ⟨rfl, Below.refl _ _⟩
  have hd : decide (3000 < l0 ∨ 3000 < l1) = false := decide_eq_false hlong
  have B0 := Lib.hid (bytes_of r0 (by omega) (fun b o v h => World.block_lt_of_cell? _ _ h))
  have B1 := Lib.hid (bytes_of r1 (by omega) (fun b o v h => World.block_lt_of_cell? _ _ h))
  obtain ⟨i0, hi, hz0, hz1, hz2⟩ := info_parts info_pair
  clear r0 r1
  go_enter Try.func3, Try.ntmps3
  go_wp2_with fail
  refine (a2Long_any _ _ _ _ _ _ _ hl0 hl1).mono ?_
  rw [hd]
  rintro e w' ⟨rfl, rfl⟩
  clear hl0 hl1 hlong hd
  go_wp2_with fail
  refine (A2Spots_any w a0 l0 c0 B0.out).mono ?_
  rintro e w1 ⟨u, ps, rfl, hl, hk, hr, hb⟩
  have HK := Lib.hid hk
  have HW1 := Lib.hid hb
  have HV1 := Lib.hid (prow_at hr)
  obtain ⟨ar, c, rfl, hjunk⟩ := prow_at hr
  have C0 := Lib.hid (show codeL ps 0 12 = 0 from code_ok hk (by omega) (by omega))
  have C7 := Lib.hid (show codeL ps 0 7 = 0 from code_ok hk (by omega) (by omega))
  clear hk hr hb hjunk
  go_wp2_with fail
  refine (implTable_any _ ps _ HV1.out (by omega)).mono ?_
  rw [C0.out]
  rintro e w2 ⟨tv, rfl, hr, hb⟩
  have HW2 := Lib.hid (HW1.out.trans (hb.mono HW1.out.size))
  have HV2 := Lib.hid (pat_up (pat_keep HV1.out hb) hb.size)
  have HD2 := Lib.hid (dat_of (ps := ps) (by have h := trow_at hr; rw [show tabV ps = tabD ps by simp [tabV, C0.out]] at h; exact h))
  clear hb hr
  go_wp2_with fail
  refine (implShort_any _ ps _ HV2.out (by omega)).mono ?_
  obtain ⟨os, hos, hof⟩ := short_told HK.out hl
  rw [C7.out, hos]
  obtain ⟨T, hT⟩ : ∃ T, Hid (shortL ps = T) := ⟨_, Lib.hid rfl⟩
  rw [hT.out] at hof ⊢
  have OF := Lib.hid hof
  clear hof hos
  rintro e w3 ⟨ov, rfl, hr, hb⟩
  have HW3 := Lib.hid (HW2.out.trans (hb.mono HW2.out.size))
  have HV3 := Lib.hid (pat_up (pat_keep HV2.out hb) hb.size)
  have LC := Lib.hid (pat_cells HV3.out)
  obtain ⟨at_, ct, rfl, hdc⟩ := dat_up (dat_keep HD2.out hb) hb.size
  have DC := Lib.hid hdc
  obtain ⟨ao, co, eo, hco, hoc⟩ := oat_of hr
  rw [OF.out.1] at eo hco hoc
  subst eo
  have OC := Lib.hid hoc
  clear hb hr hdc hoc HD2 HV2 HV1
  go_wp2
  go_loopw [12] (fun i wr => ∃ k : Nat, k ≤ ps.length ∧ i = .int .i64 (k : Int) ∧ Below w3.heap.size w3 wr) (fun i _ => ps.length - (intOf i).toNat)
  case atStart => exact ⟨0, Nat.zero_le _, rfl, Below.refl _ _⟩
  case round =>
    obtain ⟨i, hik, rfl, hb⟩ := hrel
    obtain ⟨W4, rfl⟩ : ∃ W4, W4 = wr := ⟨wr, rfl⟩
    have HB := Lib.hid hb
    clear hb
    by_cases hlt : i < ps.length
    · have hi0 : 0 ≤ (i : Int) := by omega
      have hi1 : (i : Int) < (ps.length : Int) := by omega
      obtain ⟨tb, tr, cr, rfl, tbl, tc, trow⟩ := DC.out i hlt
      have tk := (HB.out.cell (p := ⟨tb, i, none⟩) tbl).trans tc
      have TROW := Lib.hid trow
      have TC := Lib.hid tc
      clear tc trow
      go_wp2
      go_loopw [13] (fun k wx => ∃ q : Nat, q ≤ ps.length ∧ k = .int .i64 (q : Int) ∧ Below w3.heap.size w3 wx) (fun k _ => ps.length - (intOf k).toNat)
      case atStart => exact ⟨0, Nat.zero_le _, rfl, HB.out⟩
      case round =>
        obtain ⟨q, hq, rfl, hb2⟩ := hrel
        have HB2 := Lib.hid hb2
        have hsz := hb2.size
        clear tk
        by_cases hlq : q < ps.length
        · have hq0 : 0 ≤ (q : Int) := by omega
          have hq1 : (q : Int) < (ps.length : Int) := by omega
          obtain ⟨tg, rfl, tgl, tcq⟩ := TROW.out q hlq
          obtain ⟨bb, off, rfl, hbs, c1, c2⟩ := LC.out i hlt
          obtain ⟨bb2, off2, e2, _, c3, c4⟩ := LC.out q hlq
          simp at e2
          obtain ⟨rfl, rfl⟩ := e2
          have hbw : bb < wr.heap.size := by omega
          have k1 := (hb2.cell (p := ⟨bb, off + i * 2, none⟩) hbs).trans c1
          have k2 := (hb2.cell (p := ⟨bb, off + i * 2 + 1, none⟩) hbs).trans c2
          have k3 := (hb2.cell (p := ⟨bb, off + q * 2, none⟩) hbs).trans c3
          have k4 := (hb2.cell (p := ⟨bb, off + q * 2 + 1, none⟩) hbs).trans c4
          have t1 := (hb2.cell (p := ⟨tb, i, none⟩) tbl).trans TC.out
          have t2 := (hb2.cell (p := ⟨tg, q, none⟩) tgl).trans tcq
          rw [dd_of hlt hlq] at t2
          have OK := okL_at HK.out i hlt
          have OM := okL_at HK.out q hlq
          clear c1 c2 c3 c4 hb2 tcq
          generalize ps[i] = x at k1 k2 OK t2
          generalize ps[q] = y at k3 k4 OM t2
          obtain ⟨x1, x2⟩ := x
          obtain ⟨y1, y2⟩ := y
          obtain ⟨d, hd⟩ : ∃ d, Hid (distL x1 x2 y1 y2 = d) := ⟨_, Lib.hid rfl⟩
          simp only at t2
          rw [hd.out] at t2
          have T1 := Lib.hid t1
          have T2 := Lib.hid t2
          clear t1 t2
          go_wp2_with fail
          go_region_held3 (fun W => W.cell? ⟨bb, off + i * 2, none⟩ = some (.int .i64 x1) ∧ W.cell? ⟨bb, off + i * 2 + 1, none⟩ = some (.int .i64 x2) ∧ W.cell? ⟨bb, off + q * 2, none⟩ = some (.int .i64 y1) ∧ W.cell? ⟨bb, off + q * 2 + 1, none⟩ = some (.int .i64 y2)) (first | exact ⟨k1, k2, k3, k4⟩ | exact ⟨n1, n2, n3, n4⟩ | (simp [go_sem]; first | exact ⟨k1, k2, k3, k4⟩ | exact ⟨n1, n2, n3, n4⟩)) (first | (go_at_call 9; refine (specD_rel _ _ _ _ wr _ (by repeat (first | assumption | exact Below.refl _ _ | refine Below.drew ?_ | refine bdq ?_ _ | refine Below.alloc ?_ (by first | exact Nat.le_refl _ | omega | (simp; done) | (simp; omega)) _ | refine Below.setCell ?_ (by first | exact Nat.le_refl _ | omega | (simp; done) | (simp; omega)) _)) (by assumption) (by assumption)).mono ?_; rw [hd.out]; rintro e w4 ⟨rfl, hb3⟩; have n1 := (hb3.cell (p := ⟨bb, off + i * 2, none⟩) hbw).trans k1; have n2 := (hb3.cell (p := ⟨bb, off + i * 2 + 1, none⟩) hbw).trans k2; have n3 := (hb3.cell (p := ⟨bb, off + q * 2, none⟩) hbw).trans k3; have n4 := (hb3.cell (p := ⟨bb, off + q * 2 + 1, none⟩) hbw).trans k4; skip))
          all_goals
            have m1 := (hb3.cell (p := ⟨tb, i, none⟩) (show tb < wr.heap.size by omega)).trans T1.out
            have m2 := (hb3.cell (p := ⟨tg, q, none⟩) (show tg < wr.heap.size by omega)).trans T2.out
            have HB3 := Lib.hid (HB2.out.trans (hb3.mono hsz))
            clear k1 k2 k3 k4 n1 n2 n3 n4 hb3
            go_wp2
            go_roundw
            case rel => exact ⟨q + 1, by omega, by go_num, (by first | exact HB3.out | exact bdq HB3.out _ | exact bdrew HB3.out)⟩
            case measure => simp [intOf]; omega
        · obtain rfl : q = ps.length := by omega
          go_wp2
          go_roundw
          case rel => exact ⟨i + 1, by omega, by go_num, HB2.out⟩
          case measure => simp [intOf]; omega
    · obtain rfl : i = ps.length := by omega
      have HWE := Lib.hid (HW3.out.trans (HB.out.mono HW3.out.size))
      go_wp2_with fail
      refine (A2Spot_any W4 a1 l1 c1 (bytes_up B1.out HWE.out)).mono ?_
      rintro e w5 ⟨x, y, rfl, hdr, hb⟩
      have HB5 := Lib.hid (HB.out.trans (hb.mono HB.out.size))
      have OKA := Lib.hid (draw_okB hdr)
      clear hb hdr HWE
      have BA := Lib.hid ((Below.refl w5.heap.size w5).alloc (Nat.le_refl _) (.cells #[.int .i64 x, .int .i64 y] 35))
      have AA := Lib.hid (two_fresh w5 x y 35)
      obtain ⟨WA, hWA⟩ : ∃ WA, Hid (w5.alloc (.cells #[.int .i64 x, .int .i64 y] 35) = WA) := ⟨_, Lib.hid rfl⟩
      rw [hWA.out] at BA AA
      have HBA := Lib.hid (HB5.out.trans (BA.out.mono HB5.out.size))
      go_wp2_with fail
      rw [hWA.out]
      refine (implNearest_any _ ps x y WA (pat_up (pat_keep HV3.out HBA.out) HBA.out.size) (by omega)).mono ?_
      rw [codeW_yes OKA.out]
      obtain ⟨N, hN⟩ : ∃ N, Hid (nearA ps x y = N) := ⟨_, Lib.hid rfl⟩
      obtain ⟨C, hC⟩ : ∃ C, Hid (codeL ps 1 12 = C) := ⟨_, Lib.hid rfl⟩
      rw [hN.out, hC.out]
      rintro e w6 ⟨rfl, hb⟩
      have HB6 := Lib.hid (HBA.out.trans (hb.mono HBA.out.size))
      have AA6 := Lib.hid (two_keep AA.out hb)
      clear hb
      obtain ⟨A, hA⟩ : ∃ A, Hid (w5.heap.size = A) := ⟨_, Lib.hid rfl⟩
      rw [hA.out] at AA6
      go_wp2_with fail
      rw [hA.out]
      refine (implMid_any _ ps w6 (pat_up (pat_keep HV3.out HB6.out) HB6.out.size) (by omega)).mono ?_
      obtain ⟨M, hM⟩ : ∃ M, Hid (mid1 ps = M) := ⟨_, Lib.hid rfl⟩
      obtain ⟨R, hR⟩ : ∃ R, Hid (mid2 ps = R) := ⟨_, Lib.hid rfl⟩
      rw [hM.out, hR.out, hC.out]
      rintro e w7 ⟨rfl, hb⟩
      have HB7 := Lib.hid (HB6.out.trans (hb.mono HB6.out.size))
      have AA7 := Lib.hid (two_keep AA6.out hb)
      clear hb
      have HWE := Lib.hid (HW3.out.trans (HB7.out.mono HW3.out.size))
      by_cases h0 : ps.length = 0
      · have e0 : ((ps.length : Int) == 0) = true := by simp [h0]
        obtain rfl : C = 3 := by rw [← hC.out]; exact code_few HK.out (by omega) (by omega)
        obtain rfl : T = 0 := OF.out.2.2.2.2 h0
        clear h0
        go_wp2
        go_ret
        exact ⟨rfl, HWE.out⟩
      have e0 : ((ps.length : Int) == 0) = false := by rw [beq_eq_false_iff_ne]; omega
      have hpos : 0 < ps.length := by omega
      obtain rfl : C = 0 := by rw [← hC.out]; exact code_ok HK.out (by omega) (by omega)
      clear h0
      have IL := Lib.hid (inOrder_len ps os)
      have OS := Lib.hid (OF.out.2.2.2.1 hpos)
      have OM := Lib.hid (show ∀ k, (h : k < ps.length) → os.getD k 0 < ps.length ∧ os.getD k 0 ∉ os.take k ∧ inOrder ps (os.take (k + 1)) = inOrder ps (os.take k) ++ [ps.getD (os.getD k 0) (0, 0)] from fun k h => by
        have h' : k < os.length := by rw [OF.out.1]; exact h
        have e1 : os.getD k 0 = os[k] := by simp [h']
        have e2 := OF.out.2.2.1 _ (List.getElem_mem h')
        refine ⟨by rw [e1]; exact e2, ?_, ?_⟩
        · rw [e1]
          intro hm
          obtain ⟨j, hj, e3⟩ := List.mem_take_iff_getElem.1 hm
          have := (List.pairwise_iff_getElem.1 OF.out.2.1) j k (by omega) h' (by omega)
          exact this e3
        · rw [e1, inOrder_snoc h' e2]
          simp [e2])
      go_wp2
      go_loopw [22, 23] (fun rv i wr => ∃ k : Nat, k ≤ ps.length ∧ i = .int .i64 (k : Int) ∧ PRow wr w7.heap.size rv (inOrder ps (os.take k)) ∧ Below w7.heap.size w7 wr) (fun _ i _ => ps.length - (intOf i).toNat)
      case atStart => exact ⟨0, Nat.zero_le _, rfl, by rw [List.take_zero]; exact World.ownsRow_made w7 #[] 0 (Nat.le_refl _) (by decide) rfl, (Below.refl _ _).alloc (Nat.le_refl _) _⟩
      case round =>
        obtain ⟨k, hk, rfl, hr, hb⟩ := hrel
        obtain ⟨W8, rfl⟩ : ∃ W8, W8 = wr := ⟨wr, rfl⟩
        have RB := Lib.hid (show W8.ownsRow w7.heap.size 35 2 _ (inOrder ps (os.take k)).length (ints (flat (inOrder ps (os.take k)))) from hr)
        have HB8 := Lib.hid (HB7.out.trans (hb.mono HB7.out.size))
        have HBR := Lib.hid hb
        have hz8 := hb.size
        clear hb hr
        by_cases hlt : k < ps.length
        · obtain ⟨og, rfl, ogl, oc⟩ := OC.out k hlt
          obtain ⟨m1, m2, m3⟩ := OM.out k hlt
          have oks := (HB8.out.cell (p := ⟨og, k, none⟩) ogl).trans oc
          have HAS := Lib.hid (show ∀ j, (hj : j < (nz (os.take k)).length) → ∃ g, some (⟨og, 0, none⟩ : Addr) = some ⟨g, 0, none⟩ ∧ W8.cell? ⟨g, j, none⟩ = some (.int .i64 (nz (os.take k))[j]) from fun j hj => by
            have hj' : j < k := by simp [nz] at hj; omega
            obtain ⟨g, e1, e2, e3⟩ := OC.out j (by omega)
            simp at e1
            subst e1
            refine ⟨og, rfl, ((HB8.out.cell (p := ⟨og, j, none⟩) e2).trans e3).trans ?_⟩
            have : j < os.length := by rw [OF.out.1]; omega
            simp [nz, this])
          have HASQ := Lib.hid (show ∀ q : Nat, ∀ j, (hj : j < (nz (os.take k)).length) → ∃ g, some (⟨og, 0, none⟩ : Addr) = some ⟨g, 0, none⟩ ∧ (W8.drewN q).cell? ⟨g, j, none⟩ = some (.int .i64 (nz (os.take k))[j]) from fun _ => HAS.out)
          have TL := Lib.hid (show (nz (os.take k)).length = k by have := OF.out.1; simp [nz]; omega)
          have IK := Lib.hid (show (inOrder ps (os.take k)).length ≤ 5 by rw [inOrder_len]; have := OF.out.1; simp; omega)
          have NM := Lib.hid (show decide (((os.getD k 0 : Nat) : Int) ∈ nz (os.take k)) = false from decide_eq_false fun h => by
            obtain ⟨j, hj, e⟩ := List.mem_map.1 h
            have : j = os.getD k 0 := by omega
            exact m2 (this ▸ hj))
          have INS := Lib.hid m3
          obtain ⟨p, hp⟩ : ∃ p, Hid (os.getD k 0 = p) := ⟨_, Lib.hid rfl⟩
          rw [hp.out] at oks m1 NM INS
          clear oc m2 m3
          obtain ⟨bb, off, rfl, hbs, c1, c2⟩ := LC.out p m1
          have q1 := (HB8.out.cell (p := ⟨bb, off + p * 2, none⟩) hbs).trans c1
          have q2 := (HB8.out.cell (p := ⟨bb, off + p * 2 + 1, none⟩) hbs).trans c2
          rw [show ps.getD p (0, 0) = ps[p] by simp [m1]] at INS
          clear c1 c2
          generalize ps[p] = x0 at q1 q2 INS
          obtain ⟨x1, x2⟩ := x0
          have hi0 : 0 ≤ (k : Int) := by omega
          have hi1 : (k : Int) < (ps.length : Int) := by omega
          have hi2 : (k : Int) ≤ (co : Int) := by omega
          have p0 : 0 ≤ (p : Int) := by omega
          have p1 : (p : Int) < (ps.length : Int) := by omega
          have d0 : decide ((p : Int) < 0) = false := decide_eq_false (by omega)
          have d1 : decide ((ps.length : Int) ≤ (p : Int)) = false := decide_eq_false (by omega)
          have d2 : decide (ps.length ≤ p) = false := decide_eq_false (by omega)
          have d3 : ¬ ps.length ≤ p := by omega
          have ik := IK.out
          go_wp2
          go_quiet ((go_at_call 13; exact Calls.quiet_of_same ((a2Has_is _ _ _ (nz (os.take k)) _ false _ TL.out (HASQ.out _) (by omega) NM.out).mono fun _ _ h => ⟨h.1, h.2.symm⟩)))
          go_wp2_with (at_builtin; refine wpList_append_own _ rfl _ _ 24 rfl w7.heap.size 35 i0 (.agg #[.int .i64 0, .int .i64 0]) 2 16 Try.underlying24 hi hz0 hz1 hz2 rfl (by decide) _ (inOrder ps (os.take k)).length _ rfl (RB.out.alloc _) ⟨W8.heap.size, 0, none⟩ 1 1 [.int .i64 x1, .int .i64 x2] rfl rfl (two_new _ _ _) (two_cell _ _) (by unfold maxLen; omega) (by omega) (by simp; omega) ?_; intro v6 w6b hown6 hg6 _)
          go_roundw
          case rel => exact ⟨k + 1, by omega, by go_num, by rw [INS.out]; exact prow_snoc hown6, ((bdq HBR.out nq).alloc hz8 _).grown hg6 (by simp; omega) (fun j hj => (RB.out.lt j hj).1)⟩
          case measure => simp [intOf]; omega
        · obtain rfl : k = ps.length := by omega
          have hR := RB.out
          rw [show os.take ps.length = os by rw [← OF.out.1]; exact List.take_length] at hR
          rw [IL.out] at hR
          have HR := Lib.hid (show PRow W8 w7.heap.size _ (inOrder ps os) from by unfold PRow; rw [IL.out]; exact hR)
          clear hR
          have OKO := Lib.hid (inOrder_ok HK.out OF.out.2.2.1)
          have IL2 := Lib.hid (show (inOrder ps os).length = ps.length by rw [IL.out]; exact OF.out.1)
          have RC := Lib.hid (show codeL (inOrder ps os) 0 12 = 0 from code_ok OKO.out (by rw [IL2.out]; omega) (by omega))
          have RA := Lib.hid (show routeA (inOrder ps os) = T by unfold routeA; rw [if_pos RC.out, IL2.out]; exact OS.out.2.1)
          obtain ⟨P, hP⟩ : ∃ P, Hid (routeN ps (ps.length - 1) = P) := ⟨_, Lib.hid rfl⟩
          have hTP : T ≤ P := by rw [← hP.out]; exact OS.out.2.2
          have RP := Lib.hid (show routeA ps = P by unfold routeA; rw [if_pos C0.out]; exact hP.out)
          have AA8 := Lib.hid (two_keep AA7.out HBR.out)
          go_wp2_with fail
          refine (implRoute_any _ (inOrder ps os) W8 (prow_at HR.out) (by rw [IL2.out]; omega)).mono ?_
          rw [RA.out, RC.out]
          rintro e w9 ⟨rfl, hb⟩
          have HB9 := Lib.hid (HB8.out.trans (hb.mono HB8.out.size))
          have AA9 := Lib.hid (two_keep AA8.out hb)
          clear hb
          go_wp2_with fail
          refine (implRoute_any _ ps w9 (pat_up (pat_keep HV3.out HB9.out) HB9.out.size) (by omega)).mono ?_
          rw [RP.out, C0.out]
          rintro e w10 ⟨rfl, hb⟩
          have HB10 := Lib.hid (HB9.out.trans (hb.mono HB9.out.size))
          have AA10 := Lib.hid (two_keep AA9.out hb)
          clear hb
          have ZL := Lib.hid (rowD_len ps x y)
          have ZA := Lib.hid (show ∀ j, (hj : j < ps.length) → at0 (rowD ps x y) j = distL ps[j].1 ps[j].2 x y from fun j hj => by
            rw [at0_of (by rw [rowD_len]; exact hj), rowD_at ps x y j hj, distL_sym])
          have NE := Lib.hid (show nearA ps x y = (fminL (rowD ps x y) : Int) by unfold nearA; rw [codeW_yes OKA.out, hC.out]; simp)
          obtain ⟨f, hf⟩ : ∃ f, Hid (fminL (rowD ps x y) = f) := ⟨_, Lib.hid rfl⟩
          have hfl : f < ps.length := by rw [← hf.out, ← ZL.out]; exact fminL_lt (by rw [ZL.out]; exact hpos)
          have FF := Lib.hid (show (∀ j, j < f → at0 (rowD ps x y) f < at0 (rowD ps x y) j) ∧ (∀ j, j < ps.length → at0 (rowD ps x y) f ≤ at0 (rowD ps x y) j) by
            rw [← hf.out]
            exact ⟨fun j hj => fmin_first _ _ j hj, fun j hj => fmin_le _ _ j (by rw [ZL.out]; exact hj)⟩)
          obtain rfl : N = (f : Int) := by rw [← hN.out, NE.out, hf.out]
          have ME := Lib.hid (show mid1 ps = (midN ps : Int) by unfold mid1; rw [if_pos hC.out])
          have RE := Lib.hid (show mid2 ps = mxD ps (midN ps) by unfold mid2; rw [if_pos hC.out])
          obtain ⟨m, hm⟩ : ∃ m, Hid (midN ps = m) := ⟨_, Lib.hid rfl⟩
          have hml : m < ps.length := by rw [← hm.out]; exact fmin_lt _ _ hpos
          have MLE := Lib.hid (show ∀ j, j < ps.length → mxD ps m ≤ mxD ps j by rw [← hm.out]; exact fun j hj => fmin_le (mxD ps) _ j hj)
          obtain rfl : M = (m : Int) := by rw [← hM.out, ME.out, hm.out]
          have RE2 := Lib.hid (show R = mxD ps m by rw [← hR.out, RE.out, hm.out])
          obtain ⟨og, rfl, ogl, oc⟩ := OC.out 0 hpos
          have ocz := (HB10.out.cell (p := ⟨og, 0, none⟩) ogl).trans oc
          rw [OS.out.1] at ocz
          obtain ⟨bb, off, rfl, hbs, c1, c2⟩ := LC.out f hfl
          have q1 := (HB10.out.cell (p := ⟨bb, off + f * 2, none⟩) hbs).trans c1
          have q2 := (HB10.out.cell (p := ⟨bb, off + f * 2 + 1, none⟩) hbs).trans c2
          have DF := Lib.hid (ZA.out f hfl)
          have OKF := okL_at HK.out f hfl
          clear c1 c2 oc
          generalize ps[f] = xf at q1 q2 DF OKF
          obtain ⟨f1, f2⟩ := xf
          have NH := Lib.hid (nearI_head (at0 (rowD ps x y)) f FF.out.1 ps.length hfl)
          obtain ⟨D, hD⟩ : ∃ D, Hid (at0 (rowD ps x y) f = D) := ⟨_, Lib.hid rfl⟩
          rw [hD.out] at FF DF NH
          have DF2 := Lib.hid (show distL f1 f2 x y = D from DF.out.symm)
          have DB := Lib.hid (show inB D 0 648000 = true by rw [← DF2.out]; have := distL_bounds f1 f2 x y; simp [inB]; omega)
          have OKX := OKA.out
          have e1 : decide (P < T) = false := decide_eq_false (by omega)
          have f3 : decide ((f : Int) < 0) = false := decide_eq_false (by omega)
          have f4 : decide (ps.length ≤ f) = false := decide_eq_false (by omega)
          have f5 : ¬ ps.length ≤ f := by omega
          have g3 : decide ((m : Int) < 0) = false := decide_eq_false (by omega)
          have g4 : decide (ps.length ≤ m) = false := decide_eq_false (by omega)
          have g5 : ¬ ps.length ≤ m := by omega
          have f6 : 0 ≤ (f : Int) := by omega
          have f7 : (f : Int) < (ps.length : Int) := by omega
          have l0' : 0 < (ps.length : Int) := by omega
          have a0' := AA10.out.2.1
          have a1' := AA10.out.2.2
          have hAw := AA10.out.1
          have hbw : bb < w10.heap.size := by have := HB10.out.size; omega
          go_wp2_with fail
          go_region_held3 (fun W => W.cell? ⟨bb, off + f * 2, none⟩ = some (.int .i64 f1) ∧ W.cell? ⟨bb, off + f * 2 + 1, none⟩ = some (.int .i64 f2) ∧ W.cell? ⟨A, 0, none⟩ = some (.int .i64 x) ∧ W.cell? ⟨A, 1, none⟩ = some (.int .i64 y)) (first | exact ⟨q1, q2, a0', a1'⟩ | exact ⟨n1, n2, n3, n4⟩ | (simp [go_sem]; first | exact ⟨q1, q2, a0', a1'⟩ | exact ⟨n1, n2, n3, n4⟩)) (first | (go_at_call 9; refine (specD_rel _ _ _ _ w10 _ (by repeat (first | assumption | exact Below.refl _ _ | refine Below.drew ?_ | refine bdq ?_ _ | refine Below.alloc ?_ (by first | exact Nat.le_refl _ | omega | (simp; done) | (simp; omega)) _ | refine Below.setCell ?_ (by first | exact Nat.le_refl _ | omega | (simp; done) | (simp; omega)) _)) (by assumption) (by assumption)).mono ?_; rw [DF2.out]; rintro e w11 ⟨rfl, hb3⟩; have n1 := (hb3.cell (p := ⟨bb, off + f * 2, none⟩) hbw).trans q1; have n2 := (hb3.cell (p := ⟨bb, off + f * 2 + 1, none⟩) hbw).trans q2; have n3 := (hb3.cell (p := ⟨A, 0, none⟩) hAw).trans a0'; have n4 := (hb3.cell (p := ⟨A, 1, none⟩) hAw).trans a1'; skip))
          have HB11 := Lib.hid (HB10.out.trans (hb3.mono HB10.out.size))
          have AA11 := Lib.hid (two_keep AA10.out hb3)
          clear q1 q2 a0' a1' n1 n2 n3 n4 hb3
          have a0' := AA11.out.2.1
          have a1' := AA11.out.2.2
          have CS := Lib.hid (show codeS ps x y D = 0 by unfold codeS; rw [codeW_yes OKA.out, if_pos C0.out, if_pos DB.out])
          obtain ⟨zs, hzs⟩ : ∃ zs, Hid (nearI (at0 (rowD ps x y)) D ps.length = zs) := ⟨_, Lib.hid rfl⟩
          have ZP := Lib.hid (show ∃ t, zs = (f : Int) :: t by rw [← hzs.out]; exact NH.out)
          have WV := Lib.hid (show withinV ps x y D = zs by unfold withinV; rw [if_pos CS.out]; exact hzs.out)
          have RI := Lib.hid (show RisesTo zs (ps.length : Int) by rw [← hzs.out]; exact nearI_rises _ _ _)
          have MEM := Lib.hid (show ∀ j : Nat, j < ps.length → ((j : Int) ∈ zs ↔ at0 (rowD ps x y) j = D) from fun j hj => by
            rw [← hzs.out, nearI_mem]
            have := FF.out.2 j hj
            omega)
          have ZN := Lib.hid (show zs.length ≤ 5 by rw [← hzs.out]; have := nearI_len (at0 (rowD ps x y)) D ps.length; omega)
          go_wp2_with fail
          refine (implWithin_any _ ps x y D w11 (pat_up (pat_keep HV3.out HB11.out) HB11.out.size) (by omega)).mono ?_
          rw [CS.out, WV.out]
          rintro e w12 ⟨iv, rfl, hr, hb⟩
          have HB12 := Lib.hid (HB11.out.trans (hb.mono HB11.out.size))
          have AA12 := Lib.hid (two_keep AA11.out hb)
          have IR := Lib.hid hr
          obtain ⟨ai, ci, hiv, hic⟩ := irow_at' hr
          obtain ⟨n2, hn2⟩ : ∃ n2, Hid (zs.length = n2) := ⟨_, Lib.hid rfl⟩
          rw [hn2.out] at hiv
          subst hiv
          have z0 : 0 < n2 := by
            rw [← hn2.out]
            obtain ⟨t, ht⟩ := ZP.out
            rw [ht]
            simp
          obtain ⟨ig, rfl, _, igl, ic0⟩ := hic 0 (by rw [hn2.out]; exact z0)
          have ICZ := Lib.hid (show w12.cell? ⟨ig, 0, none⟩ = some (.int .i64 (f : Int)) by
            rw [ic0]
            obtain ⟨t, ht⟩ := ZP.out
            simp [ht])
          have IC := Lib.hid hic
          clear hr hb hic ic0 a0' a1'
          go_wp2_with fail
          refine (a2Rises_yes _ _ zs (ps.length : Int) w12 IR.out (by have := ZN.out; omega) RI.out).mono ?_
          rintro e w13 ⟨rfl, q, rfl⟩
          have icz := ICZ.out
          have lz : ((n2 : Int) == 0) = false := by rw [beq_eq_false_iff_ne]; omega
          have lz2 : (n2 == 0) = false := by rw [beq_eq_false_iff_ne]; omega
          have lz3 : 0 < (n2 : Int) := by omega
          have lz4 : ¬ n2 = 0 := by omega
          go_wp2
          clear icz
          go_loopw [32, 33] (fun far i wr => ∃ k : Nat, k ≤ ps.length ∧ i = .int .i64 (k : Int) ∧ far = .int .i64 (maxG (mxD ps) k) ∧ Below w12.heap.size w12 wr) (fun _ i _ => ps.length - (intOf i).toNat)
          case atStart => exact ⟨0, Nat.zero_le _, rfl, rfl, bdq (Below.refl _ _) q⟩
          case round =>
            obtain ⟨k, hk, rfl, rfl, hb⟩ := hrel
            obtain ⟨W14, rfl⟩ : ∃ W14, W14 = wr := ⟨wr, rfl⟩
            have HBX := Lib.hid hb
            have HB14 := Lib.hid (HB12.out.trans (hb.mono HB12.out.size))
            have AA14 := Lib.hid (two_keep AA12.out hb)
            clear hb
            by_cases hlt : k < ps.length
            · have GS := Lib.hid (show maxG (mxD ps) (k + 1) = max (maxG (mxD ps) k) (mxD ps k) from rfl)
              obtain ⟨G, hG⟩ : ∃ G, Hid (maxG (mxD ps) k = G) := ⟨_, Lib.hid rfl⟩
              rw [hG.out] at GS ⊢
              obtain ⟨bb2, off2, e2, _, c1, c2⟩ := LC.out k hlt
              simp at e2
              obtain ⟨rfl, rfl⟩ := e2
              obtain ⟨tb, tr, cr, rfl, tbl, tc, trow⟩ := DC.out k hlt
              have TC := Lib.hid tc
              have TROW := Lib.hid trow
              have k1 := (HB14.out.cell (p := ⟨bb, off + k * 2, none⟩) hbs).trans c1
              have k2 := (HB14.out.cell (p := ⟨bb, off + k * 2 + 1, none⟩) hbs).trans c2
              have a0' := AA14.out.2.1
              have a1' := AA14.out.2.2
              have hAx := AA14.out.1
              have hbx : bb < W14.heap.size := by have := HB14.out.size; omega
              have DK := Lib.hid (ZA.out k hlt)
              have OKK := okL_at HK.out k hlt
              have MK := Lib.hid (MEM.out k hlt)
              have FK := FF.out.2 k hlt
              clear c1 c2 tc trow
              generalize ps[k] = xk at k1 k2 DK OKK
              obtain ⟨x1, x2⟩ := xk
              obtain ⟨dk, hdk⟩ : ∃ dk, Hid (at0 (rowD ps x y) k = dk) := ⟨_, Lib.hid rfl⟩
              rw [hdk.out] at DK MK FK
              have DK2 := Lib.hid (show distL x1 x2 x y = dk from DK.out.symm)
              have FK2 : decide (dk < D) = false := decide_eq_false (by omega)
              have i0' : 0 ≤ (k : Int) := by omega
              have i1' : (k : Int) < (ps.length : Int) := by omega
              clear DK
              go_wp2_with fail
              go_region_held3 (fun W => W.cell? ⟨bb, off + k * 2, none⟩ = some (.int .i64 x1) ∧ W.cell? ⟨bb, off + k * 2 + 1, none⟩ = some (.int .i64 x2) ∧ W.cell? ⟨A, 0, none⟩ = some (.int .i64 x) ∧ W.cell? ⟨A, 1, none⟩ = some (.int .i64 y)) (first | exact ⟨k1, k2, a0', a1'⟩ | exact ⟨n1, n2, n3, n4⟩ | (simp [go_sem]; first | exact ⟨k1, k2, a0', a1'⟩ | exact ⟨n1, n2, n3, n4⟩)) (first | (go_at_call 9; refine (specD_rel _ _ _ _ W14 _ (by repeat (first | assumption | exact Below.refl _ _ | refine Below.drew ?_ | refine bdq ?_ _ | refine Below.alloc ?_ (by first | exact Nat.le_refl _ | omega | (simp; done) | (simp; omega)) _ | refine Below.setCell ?_ (by first | exact Nat.le_refl _ | omega | (simp; done) | (simp; omega)) _)) (by assumption) (by assumption)).mono ?_; rw [DK2.out]; rintro e w15 ⟨rfl, hb3⟩; have n1 := (hb3.cell (p := ⟨bb, off + k * 2, none⟩) hbx).trans k1; have n2 := (hb3.cell (p := ⟨bb, off + k * 2 + 1, none⟩) hbx).trans k2; have n3 := (hb3.cell (p := ⟨A, 0, none⟩) hAx).trans a0'; have n4 := (hb3.cell (p := ⟨A, 1, none⟩) hAx).trans a1'; skip))
              have HB15 := Lib.hid (HB14.out.trans (hb3.mono HB14.out.size))
              have HBX15 := Lib.hid (HBX.out.trans (hb3.mono HBX.out.size))
              clear k1 k2 a0' a1' n1 n2 n3 n4 hb3
              have tk := (HB15.out.cell (p := ⟨tb, k, none⟩) tbl).trans TC.out
              have ICW := Lib.hid (show ∀ j, (hj : j < zs.length) → ∃ g, some (⟨ig, 0, none⟩ : Addr) = some ⟨g, 0, none⟩ ∧ w15.cell? ⟨g, j, none⟩ = some (.int .i64 zs[j]) from fun j hj => by
                obtain ⟨g, e1, _, e2, e3⟩ := IC.out j hj
                exact ⟨g, e1, (HBX15.out.cell (p := ⟨g, j, none⟩) e2).trans e3⟩)
              go_wp2
              go_loopw [36, 37] (fun most i wx => ∃ q : Nat, q ≤ ps.length ∧ i = .int .i64 (q : Int) ∧ most = .int .i64 (maxG (dd ps k) q) ∧ w15 = wx) (fun _ i _ => ps.length - (intOf i).toNat)
              case atStart => exact ⟨0, Nat.zero_le _, rfl, rfl, rfl⟩
              case round =>
                obtain ⟨q, hq, rfl, rfl, rfl⟩ := hrel
                by_cases hlq : q < ps.length
                · obtain ⟨tg, rfl, tgl, tcq⟩ := TROW.out q hlq
                  have t2 := (HB15.out.cell (p := ⟨tg, q, none⟩) tgl).trans tcq
                  have MS := Lib.hid (show maxG (dd ps k) (q + 1) = max (maxG (dd ps k) q) (dd ps k q) from rfl)
                  obtain ⟨s, hs⟩ : ∃ s, Hid (maxG (dd ps k) q = s) := ⟨_, Lib.hid rfl⟩
                  rw [hs.out] at MS ⊢
                  clear tcq
                  generalize dd ps k q = z at t2 MS
                  have j0' : 0 ≤ (q : Int) := by omega
                  have j1' : (q : Int) < (ps.length : Int) := by omega
                  go_wp2
                  go_roundw
                  case rel => exact ⟨q + 1, by omega, by go_num, by rw [MS.out], by first | rfl | trivial⟩
                  case measure => simp [intOf]; omega
                · obtain rfl : q = ps.length := by omega
                  have MXE := Lib.hid (show maxG (dd ps k) ps.length = mxD ps k from rfl)
                  rw [MXE.out]
                  have RL := MLE.out k hlt
                  obtain ⟨mk, hmk⟩ : ∃ mk, Hid (mxD ps k = mk) := ⟨_, Lib.hid rfl⟩
                  rw [hmk.out] at GS RL ⊢
                  rw [← RE2.out] at RL
                  have RL2 : decide (mk < R) = false := decide_eq_false (by omega)
                  have KM := Lib.hid (show k = m → mk = R from fun h => by rw [← hmk.out, h]; exact RE2.out.symm)
                  clear tk RL FK
                  by_cases hmem : dk = D
                  · have eqb : (dk == D) = true := by simp [hmem]
                    have NMK := Lib.hid (show decide ((k : Int) ∈ zs) = true from decide_eq_true (MK.out.2 hmem))
                    clear hmem
                    by_cases hkm : k = m
                    · obtain rfl := hkm
                      obtain rfl := KM.out rfl
                      go_wp2_with fail
                      refine (a2Has_is _ _ _ zs (k : Int) true _ hn2.out ICW.out (by have := hn2.out; have := ZN.out; omega) NMK.out).mono ?_
                      rintro e w' ⟨rfl, rfl⟩
                      go_wp2
                      go_roundw
                      case rel => exact ⟨k + 1, by omega, by go_num, by rw [GS.out], HBX15.out⟩
                      case measure => simp [intOf]; omega
                    · have km1 : ((k : Int) == (m : Int)) = false := by rw [beq_eq_false_iff_ne]; omega
                      have km2 : (k == m) = false := by rw [beq_eq_false_iff_ne]; exact hkm
                      clear hkm
                      go_wp2_with fail
                      refine (a2Has_is _ _ _ zs (k : Int) true _ hn2.out ICW.out (by have := hn2.out; have := ZN.out; omega) NMK.out).mono ?_
                      rintro e w' ⟨rfl, rfl⟩
                      go_wp2
                      go_roundw
                      case rel => exact ⟨k + 1, by omega, by go_num, by rw [GS.out], HBX15.out⟩
                      case measure => simp [intOf]; omega
                  · have eqb : (dk == D) = false := by rw [beq_eq_false_iff_ne]; exact hmem
                    have NMK := Lib.hid (show decide ((k : Int) ∈ zs) = false from decide_eq_false (fun h => hmem (MK.out.1 h)))
                    clear hmem
                    by_cases hkm : k = m
                    · obtain rfl := hkm
                      obtain rfl := KM.out rfl
                      go_wp2_with fail
                      refine (a2Has_is _ _ _ zs (k : Int) false _ hn2.out ICW.out (by have := hn2.out; have := ZN.out; omega) NMK.out).mono ?_
                      rintro e w' ⟨rfl, rfl⟩
                      go_wp2
                      go_roundw
                      case rel => exact ⟨k + 1, by omega, by go_num, by rw [GS.out], HBX15.out⟩
                      case measure => simp [intOf]; omega
                    · have km1 : ((k : Int) == (m : Int)) = false := by rw [beq_eq_false_iff_ne]; omega
                      have km2 : (k == m) = false := by rw [beq_eq_false_iff_ne]; exact hkm
                      clear hkm
                      go_wp2_with fail
                      refine (a2Has_is _ _ _ zs (k : Int) false _ hn2.out ICW.out (by have := hn2.out; have := ZN.out; omega) NMK.out).mono ?_
                      rintro e w' ⟨rfl, rfl⟩
                      go_wp2
                      go_roundw
                      case rel => exact ⟨k + 1, by omega, by go_num, by rw [GS.out], HBX15.out⟩
                      case measure => simp [intOf]; omega
            · obtain rfl : k = ps.length := by omega
              have HWE := Lib.hid (HW3.out.trans (HB14.out.mono HW3.out.size))
              obtain ⟨G, hG⟩ : ∃ G, Hid (maxG (mxD ps) ps.length = G) := ⟨_, Lib.hid rfl⟩
              rw [hG.out]
              by_cases h2 : ps.length < 2
              · have CF := Lib.hid (show codeL ps 2 12 = 3 from code_few HK.out (by omega) (by omega))
                obtain ⟨F1, hF1⟩ : ∃ F1, Hid (far1 ps = F1) := ⟨_, Lib.hid rfl⟩
                obtain ⟨F2, hF2⟩ : ∃ F2, Hid (far2 ps = F2) := ⟨_, Lib.hid rfl⟩
                have s1 : (ps.length : Int) < 2 := by omega
                have s2 : decide ((ps.length : Int) < 2) = true := decide_eq_true s1
                go_wp2_with fail
                refine (implFar_any _ ps W14 (pat_up (pat_keep HV3.out HB14.out) HB14.out.size) (by omega)).mono ?_
                rw [CF.out, hF1.out, hF2.out]
                rintro e w16 ⟨rfl, hb⟩
                have HWF := Lib.hid (HWE.out.trans (hb.mono HWE.out.size))
                clear hb h2
                go_wp2
                go_ret
                exact ⟨rfl, HWF.out⟩
              · have h2' : 2 ≤ ps.length := by omega
                have CF := Lib.hid (show codeL ps 2 12 = 0 from code_ok HK.out (by omega) (by omega))
                obtain ⟨l1, l2⟩ := outF_lt ps h2' ps.length (Nat.le_refl _)
                have FG := Lib.hid (far_great h2')
                have F1 := Lib.hid (show far1 ps = ((farP ps).1 : Int) by simp [far1, CF.out])
                have F2 := Lib.hid (show far2 ps = ((farP ps).2 : Int) by simp [far2, CF.out])
                obtain ⟨p1, hp1⟩ : ∃ p, Hid ((farP ps).1 = p) := ⟨_, Lib.hid rfl⟩
                obtain ⟨p2, hp2⟩ : ∃ p, Hid ((farP ps).2 = p) := ⟨_, Lib.hid rfl⟩
                have m1 : p1 < p2 := by rw [← hp1.out, ← hp2.out]; exact l1
                have m2 : p2 < ps.length := by rw [← hp2.out]; exact l2
                rw [hp1.out] at F1 FG
                rw [hp2.out] at F2 FG
                rw [hG.out] at FG
                have s1 : ¬ (ps.length : Int) < 2 := by omega
                have s2 : decide ((ps.length : Int) < 2) = false := decide_eq_false s1
                clear l1 l2
                go_wp2_with fail
                refine (implFar_any _ ps W14 (pat_up (pat_keep HV3.out HB14.out) HB14.out.size) (by omega)).mono ?_
                rw [CF.out, F1.out, F2.out]
                rintro e w16 ⟨rfl, hb⟩
                have HWF := Lib.hid (HWE.out.trans (hb.mono HWE.out.size))
                have HB16 := Lib.hid (HB14.out.trans (hb.mono HB14.out.size))
                obtain ⟨tb, tr, cr, rfl, tbl, tc, trow⟩ := DC.out p1 (by omega)
                obtain ⟨tg, rfl, tgl, tcq⟩ := trow p2 m2
                rw [FG.out] at tcq
                have t1 := (HB16.out.cell (p := ⟨tb, p1, none⟩) tbl).trans tc
                have t2 := (HB16.out.cell (p := ⟨tg, p2, none⟩) tgl).trans tcq
                have m3 : (p1 : Int) < (p2 : Int) := by omega
                have m4 : (p2 : Int) < (ps.length : Int) := by omega
                have m5 : 0 ≤ (p1 : Int) := by omega
                have m6 : 0 ≤ (p2 : Int) := by omega
                have m7 : (p1 : Int) < (ps.length : Int) := by omega
                have m8 : decide (p1 < p2) = true := decide_eq_true m1
                have m9 : decide (p2 < ps.length) = true := decide_eq_true m2
                clear hb h2 tc trow tcq
                go_wp2
                go_ret
                exact ⟨rfl, HWF.out⟩

set_option maxRecDepth 100000 in
theorem lifted (os : Os) (started : os.Started) (H : Type) (enc : TypeId × Value → H) :
    ReturnsInHanded {} Try.checked os 3 .any (Rows.fnSpotRoutesSpec.pre6 enc Try.prog Try.f3 Rows.fnSpotRoutesRow.domain false) (Rows.fnSpotRoutesSpec.post enc Try.prog Try.f3 false true false false) := by
  refine returnsInHanded_of_change (C := Try.checked) own started (by kernel_rfl) Try.func3
    (ChangeSpec.witness6 (enc := enc) (C := Try.checked) false ⟨#[], #[.slice none 0 0, .slice none 0 0], []⟩ 8 (by kernel_rfl) (by kernel_rfl) (by kernel_rfl) (by kernel_rfl)) ?_
  intro W base args ds gs before hval0 hW hcnd _
  have hval : ∀ (j : Nat) t v, Try.f3.params[j]? = some t → args[j]? = some v → Value.okWide Try.prog W .any base t v := hval0
  have hW' := hW
  obtain ⟨p, q, hA0, hV, hpq, hfz, hnd⟩ := hW
  have hA : DataW.TrodAll enc Try.prog W 0 (fun _ => true) true Try.f3.params.toList args.toList ds p := hA0
  rw [Try.params3] at hA hval
  obtain ⟨v0, vs0, d0, ds0, p0, q0, hargs, rfl, rfl, h0, r0⟩ := trodAll_cons hA
  obtain ⟨v1, vs1, d1, ds1, p1, q1, rfl, rfl, rfl, h1, r1⟩ := trodAll_cons r0
  obtain ⟨rfl, rfl, rfl⟩ := trodAll_nil r1
  obtain rfl : args = #[v0, v1] := by cases args; simp_all
  obtain ⟨a0, len0, cap0, rfl⟩ := okWide_slice Try.underlying22 (hval 0 22 v0 rfl rfl)
  obtain ⟨z0, w0⟩ : ∃ zs, IsRow .u8 W a0 len0 cap0 zs := by
    obtain ⟨fuel, hf⟩ := h0
    rcases open_ints Try.underlying22 Try.underlying5 (by kernel_rfl) hf with ⟨hcs, _⟩ | ⟨x, l, c, zs, hcs, _, hl, hm, hz, _, hcell, hwz⟩
    · simp [Value.cells] at hcs
      obtain ⟨rfl, rfl, rfl⟩ := hcs
      exact ⟨[], .inl ⟨rfl, rfl, rfl, rfl⟩⟩
    · simp [Value.cells] at hcs
      obtain ⟨rfl, rfl, rfl⟩ := hcs
      exact ⟨zs, .inr ⟨_, rfl, hl, hm, by simpa using hz, hcell, hwz⟩⟩
  obtain ⟨a1, len1, cap1, rfl⟩ := okWide_slice Try.underlying22 (hval 1 22 v1 rfl rfl)
  obtain ⟨z1, w1⟩ : ∃ zs, IsRow .u8 W a1 len1 cap1 zs := by
    obtain ⟨fuel, hf⟩ := h1
    rcases open_ints Try.underlying22 Try.underlying5 (by kernel_rfl) hf with ⟨hcs, _⟩ | ⟨x, l, c, zs, hcs, _, hl, hm, hz, _, hcell, hwz⟩
    · simp [Value.cells] at hcs
      obtain ⟨rfl, rfl, rfl⟩ := hcs
      exact ⟨[], .inl ⟨rfl, rfl, rfl, rfl⟩⟩
    · simp [Value.cells] at hcs
      obtain ⟨rfl, rfl, rfl⟩ := hcs
      exact ⟨zs, .inr ⟨_, rfl, hl, hm, by simpa using hz, hcell, hwz⟩⟩
  refine (walk a0 len0 cap0 z0 a1 len1 cap1 z1 W w0 w1).mono fun e W' ⟨he, bel⟩ => ?_
  subst he
  exact ⟨_, rfl, post_of_law laidOut (by kernel_rfl) Try.underlying4 rfl rfl (fun ds h => by match ds, h with | [_, _], _ => rfl) hW' bel⟩

theorem holds : Rows.FnSpotRoutesSaid :=
  OpenClaim.holds_of_wide 3 Try.f3 rfl rfl rfl rfl rfl rfl rfl ⟨rfl, rfl, rfl, rfl, rfl⟩ rfl rfl rfl rfl rfl (by kernel_rfl) Try.func3 (by kernel_rfl)
    (of_decide_eq_true (by kernel_rfl)) (by unfold Func.isWrapper; first | (rw [if_pos (by decide +kernel)]; kernel_rfl) | (rw [if_neg (by decide +kernel)]; exact ⟨rfl, rfl⟩))
    (fun os started H enc _ => lifted os started H enc)
#print axioms holds

end Go.Proofs.Ytkiimdfnobcdpaa.routes
