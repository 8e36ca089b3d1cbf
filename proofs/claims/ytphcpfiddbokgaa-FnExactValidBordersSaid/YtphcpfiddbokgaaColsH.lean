/- The model's hard borders: contract. -/
import Derived.Test.YtphcpfiddbokgaaColsG2
namespace Go.Proofs.Ytphcpfiddbokgaa.sines
open Go.ChangeShapes Go.WideShapes Go.ChangeAt Go.RowKit Go.Proofs.Ytphcpfiddbokgaa.spots Go.Proofs.Ytphcpfiddbokgaa.irows Go.Proofs.Ytphcpfiddbokgaa.pairsBorder
set_option linter.unusedSimpArgs false
set_option linter.unusedVariables false

/-- The borders without one of them. -/
def delB (ps : List (Int × Int)) (i : Nat) : List (Int × Int) := ps.take i ++ ps.drop (i + 1)
theorem delB_len {ps : List (Int × Int)} {i : Nat} (h : i < ps.length) : (delB ps i).length = ps.length - 1 := by simp [delB]; omega
theorem delB_at {ps : List (Int × Int)} {i j : Nat} (h : i < ps.length) (hj : j < ps.length - 1) : bAt (delB ps i) j = bAt ps (if j < i then j else j + 1) := by
  unfold bAt delB
  rw [List.getD_eq_getElem?_getD, List.getD_eq_getElem?_getD, List.getElem?_append, List.length_take, Nat.min_eq_left (Nat.le_of_lt h), List.getElem?_take, List.getElem?_drop]
  by_cases e : j < i
  · simp [e]
  · rw [if_neg e, if_neg e, show i + 1 + (j - i) = j + 1 by omega]
theorem validC_del {n : Int} {ps : List (Int × Int)} {i : Nat} (h : validC n ps = true) (hi : i < ps.length) : validC n (delB ps i) = true := by
  obtain ⟨h1, h2, h3⟩ := validC_iff.1 h
  rw [validC_iff, delB_len hi]
  refine ⟨h1, fun j hj => ?_, by omega⟩
  rw [delB_at hi hj]
  have hb : (if j < i then j else j + 1) < ps.length := by split <;> omega
  refine ⟨(h2 _ hb).1, fun k hk => ?_⟩
  rw [delB_at hi (by omega)]
  exact (h2 _ hb).2 _ (by split <;> split <;> omega)
def hardB (n : Int) (ps : List (Int × Int)) (i : Nat) : Bool := decide (fewest n (delB ps i) < fewest n ps)
def hardL (n : Int) (ps : List (Int × Int)) (k : Nat) : List Int := ((List.range k).filter (hardB n ps)).map Int.ofNat
theorem hardL_no {n : Int} {ps : List (Int × Int)} {k : Nat} (h : hardB n ps k = false) : hardL n ps (k + 1) = hardL n ps k := by
  simp [hardL, List.range_succ, List.filter_append, h]
theorem hardL_yes {n : Int} {ps : List (Int × Int)} {k : Nat} (h : hardB n ps k = true) : hardL n ps (k + 1) = hardL n ps k ++ [(k : Int)] := by
  simp [hardL, List.range_succ, List.filter_append, h]
theorem hardL_len (n : Int) (ps : List (Int × Int)) (k : Nat) : (hardL n ps k).length ≤ k := by
  have := List.length_filter_le (hardB n ps) (List.range k)
  simpa [hardL] using this
def valHa (n : Int) (ps : List (Int × Int)) : List Int := if validC n ps = true then hardL n ps ps.length else []
theorem valHa_len (n : Int) (ps : List (Int × Int)) : (valHa n ps).length ≤ 30 := by
  unfold valHa
  split
  · rename_i g
    exact Nat.le_trans (hardL_len _ _ _) (validC_facts g).2.2.1
  · simp
theorem prow_cellJ {w : World} {B g c : Nat} {ps : List (Int × Int)} (h : PRow w B (.slice (some ⟨g, 0, none⟩) ps.length c) ps) {j : Nat} {x : Value} (hx : (ints (flat ps))[j]? = some x) : w.cell? ⟨g, j, none⟩ = some x := by
  obtain ⟨hj, _⟩ := List.getElem?_eq_some_iff.1 hx
  rw [ints_len, flat_len] at hj
  rw [World.ownsRow.cellAt h j hj, hx]
theorem flat_take (ps : List (Int × Int)) (i : Nat) : flat ps = flat (ps.take i) ++ flat (ps.drop i) := by rw [← flat_append, List.take_append_drop]
theorem ints_app (xs ys : List Int) : ints (xs ++ ys) = ints xs ++ ints ys := by simp [ints]
theorem news_take {ps : List (Int × Int)} {i j : Nat} {x : Value} (hx : (ints (flat (ps.take i)))[j]? = some x) : (ints (flat ps))[j]? = some x := by
  obtain ⟨hj, _⟩ := List.getElem?_eq_some_iff.1 hx
  rw [flat_take ps i, ints_app, List.getElem?_append_left hj]; exact hx
theorem news_drop {ps : List (Int × Int)} {i j : Nat} {x : Value} (hi : i ≤ ps.length) (hx : (ints (flat (ps.drop i)))[j]? = some x) : (ints (flat ps))[i * 2 + j]? = some x := by
  have hl : (ints (flat (ps.take i))).length = i * 2 := by rw [ints_len, flat_len, List.length_take]; omega
  rw [flat_take ps i, ints_app, List.getElem?_append_right (by omega), hl, Nat.add_sub_cancel_left]; exact hx
theorem news2 {w W : World} {g k : Nat} {ps : List (Int × Int)} (hc : ∀ j x, (ints (flat ps))[j]? = some x → w.cell? ⟨g, j, none⟩ = some x) (gl : g < w.heap.size) (hb : Below w.heap.size w W) (hk : k < ps.length) (off : Nat) (ho : off = (k + 1) * 2 ∨ ps.length = k + 1) : ∀ j x, (ints (flat (ps.drop (k + 1))))[j]? = some x → W.cell? ((⟨g, off, none⟩ : Addr).add j) = some x := by
  intro j x hx
  rcases ho with rfl | e
  · rw [add_plain']
    exact (hb.cell (p := ⟨g, (k + 1) * 2 + j, none⟩) gl).trans (hc _ x (news_drop (by omega) hx))
  · rw [List.drop_eq_nil_of_le (by omega)] at hx
    simp [flat, ints] at hx
theorem del_row {w : World} {B k : Nat} {v : Value} {ps : List (Int × Int)} {m : Nat} (hk : k < ps.length) (hm : m = ps.length - (k + 1)) (h : w.ownsRow B 43 2 v (0 + k + m) ((ints (flat []) ++ ints (flat (ps.take k))) ++ ints (flat (ps.drop (k + 1))))) : PRow w B v (delB ps k) := by
  unfold PRow
  rw [delB_len hk, show ps.length - 1 = 0 + k + m by omega, delB, flat_append, ints_app]
  exact h
theorem brd_made (w : World) (B : Nat) (h : B ≤ w.heap.size) : PRow (w.alloc (.cells #[] 43)) B (.slice (some ⟨w.heap.size, 0, none⟩) 0 0) [] := World.ownsRow_made w #[] 0 h (by decide) rfl
theorem prow_lt {w : World} {B g c n : Nat} {ps : List (Int × Int)} (h : PRow w B (.slice (some ⟨g, 0, none⟩) n c) ps) : g < w.heap.size := (World.ownsRow.lt h g rfl).2

set_option maxRecDepth 100000 in
set_option maxHeartbeats 4000000 in
theorem specHa_good (n : Int) (g cp B : Nat) (ps : List (Int × Int)) (w : World) (hv : PRow w B (.slice (some ⟨g, 0, none⟩) ps.length cp) ps) (hcp : ps.length ≤ cp) (hok : validC n ps = true) :
    Calls Try.prog 21 #[.int .i64 n, .slice (some ⟨g, 0, none⟩) ps.length cp] w fun e w' => ∃ r, e = .returned (.tuple #[r, .int .i64 0]) ∧ IRow w' w.heap.size r (hardL n ps ps.length) ∧ Below w.heap.size w w' := by
  obtain ⟨i0, hi, hz0, hz1, hz2⟩ := info_parts info_int
  obtain ⟨ip, hip, hpz0, hpz1, hpz2⟩ := info_parts info_pair
  obtain ⟨n0, n1, hl30, _⟩ := validC_facts hok
  have OK := Lib.hid (l09Ok_any n (.slice (some ⟨g, 0, none⟩) ps.length cp) ps w (prow_at hv) (by omega))
  rw [hok] at OK
  have HV := Lib.hid hv
  have HOK := Lib.hid hok
  have gl := prow_lt hv
  have FW := Lib.hid (fun W (hW : PAt W W.heap.size (.slice (some ⟨g, 0, none⟩) ps.length cp) ps) => l09Fewest_any n _ ps W hW hok)
  have HC := Lib.hid (show ∀ j x, (ints (flat ps))[j]? = some x → w.cell? ⟨g, j, none⟩ = some x from fun j x hx => prow_cellJ hv hx)
  obtain ⟨R, hR⟩ : ∃ R, Hid (fewest n ps = R) := ⟨_, Lib.hid rfl⟩
  rw [hR.out] at FW
  have HB0 := Lib.hid (show ∀ k, hardB n ps k = decide (fewest n (delB ps k) < R) from fun k => by rw [← hR.out]; rfl)
  have hl2 : (ps.length : Int) ≤ 30 := by omega
  have hcp2 : (ps.length : Int) ≤ (cp : Int) := by omega
  clear hok hv
  go_enter Try.func21, Try.ntmps21
  go_wp2_with fail
  refine OK.out.mono ?_
  rintro e w1 ⟨rfl, hb⟩
  have B1 := Lib.hid hb
  have FW1 := Lib.hid (FW.out w1 (prow_at (prow_keep HV.out hb)))
  go_wp2_with fail
  refine FW1.out.mono ?_
  rintro e w2 ⟨rfl, hb2⟩
  have B2 := Lib.hid (B1.out.trans (hb2.mono B1.out.size))
  clear hb hb2
  go_wp2
  go_loopw [7, 8] (fun u i wx => ∃ k : Nat, k ≤ ps.length ∧ i = .int .i64 (k : Int) ∧ IRow wx w.heap.size u (hardL n ps k) ∧ Below w.heap.size w wx) (fun _ i _ => ps.length - (intOf i).toNat)
  case atStart => exact ⟨0, Nat.zero_le _, rfl, irow_made w2 _ B2.out.size, B2.out.alloc B2.out.size _⟩
  case round =>
    obtain ⟨k, hk, rfl, hr, hb⟩ := hrel
    have HR := Lib.hid hr
    have HB := Lib.hid hb
    clear hr
    by_cases hlt : k < ps.length
    · have hk0 : 0 ≤ (k : Int) := by omega
      have hk1 : (k : Int) < (ps.length : Int) := by omega
      have hkc : (k : Int) ≤ (cp : Int) := by omega
      have hkc2 : k ≤ cp := by omega
      have kw : IntKind.i64.wrap ((k : Int) + 1) = (k : Int) + 1 := IntWalk.i64_in _ (by omega)
      have VD := Lib.hid (validC_del HOK.out hlt)
      have HK := Lib.hid (HB0.out k)
      have NEWS1 := Lib.hid (show ∀ j x, (ints (flat (ps.take k)))[j]? = some x → (wr.alloc (.cells #[] 43)).cell? ((⟨g, 0, none⟩ : Addr).add j) = some x from fun j x hx => by
        have h1 := (hb.cell (p := ⟨g, j, none⟩) gl).trans (HC.out j x (news_take hx))
        rw [add_plain', Nat.zero_add]
        exact (World.cell?_alloc_past _ _ _ (Nat.lt_of_lt_of_le gl hb.size)).trans h1)
      have szr := hb.size
      clear hb
      have UL := hardL_len n ps k
      obtain ⟨us, hus⟩ : ∃ us, Hid (hardL n ps k = us) := ⟨_, Lib.hid rfl⟩
      rw [hus.out] at HR UL
      obtain ⟨⟨au, cu, eu⟩, _⟩ := irow_shape HR.out
      subst eu
      have ul2 : us.length ≤ 30 := by omega
      clear UL
      by_cases hce : cp = k + 1
      · have HPE := Lib.hid (show ps.length = k + 1 by omega)
        subst hce
        go_wp2_with (first | (at_builtin; refine wpList_append_own _ rfl _ _ 25 rfl (wr.heap.size) 43 ip (.agg #[.int .i64 0, .int .i64 0]) 2 16 Try.underlying25 hip hpz0 hpz1 hpz2 rfl (by decide) _ (0) _ rfl (brd_made wr wr.heap.size (Nat.le_refl _)) ⟨g, 0, none⟩ (k) (_) (ints (flat (ps.take k))) rfl (by rw [ints_len, flat_len, List.length_take]; omega) NEWS1.out (ints_one _) (by unfold maxLen; omega) (by omega) (by simp) ?_; intro v1 w1 hown1 hg1 _; have BW1 := Lib.hid (show Below wr.heap.size wr w1 from (((Below.refl _ _).alloc (Nat.le_refl _) (.cells #[] 43)).grown hg1 (by simp) (fun j hj => (World.ownsRow.lt (brd_made wr wr.heap.size (Nat.le_refl _)) j hj).1))); have NEWS2 := Lib.hid (news2 HC.out gl (HB.out.trans (BW1.out.mono szr)) hlt (0) (.inr HPE.out))) | (at_builtin; refine wpList_append_own _ rfl _ _ 25 rfl (wr.heap.size) 43 ip (.agg #[.int .i64 0, .int .i64 0]) 2 16 Try.underlying25 hip hpz0 hpz1 hpz2 rfl (by decide) _ (0 + k) _ rfl hown1 ⟨g, 0, none⟩ (0) (_) (ints (flat (ps.drop (k + 1)))) rfl (by rw [ints_len, flat_len, List.length_drop]; omega) NEWS2.out (ints_one _) (by unfold maxLen; omega) (by omega) (Nat.le_trans BW1.out.size (Nat.le_refl _)) ?_; intro v2 w5 hown2 hg2 _))
        have PD := Lib.hid (del_row hlt (show 0 = ps.length - (k + 1) by omega) hown2)
        have B5 := Lib.hid (BW1.out.grown hg2 BW1.out.size (fun j hj => (World.ownsRow.lt hown1 j hj).1))
        clear hown1 hown2 hg1 hg2
        have FD := Lib.hid (l09Fewest_any n v2 (delB ps k) w5 (prow_at PD.out) VD.out)
        generalize fewest n (delB ps k) = y at FD HK
        refine FD.out.mono ?_
        rintro e w6 ⟨rfl, hb6⟩
        have B6 := Lib.hid (B5.out.trans (hb6.mono B5.out.size))
        have HR6 := Lib.hid (irow_keep HR.out B6.out)
        have HB6 := Lib.hid (HB.out.trans (B6.out.mono szr))
        have sz6 := HB6.out.size
        clear hb6
        by_cases hy : y < R
        · have SN := Lib.hid (hardL_yes (HK.out.trans (by simpa using hy)))
          go_wp2_with (at_builtin; refine wpList_append_own _ rfl _ _ 29 rfl (w.heap.size) 2 i0 (.int .i64 0) 1 8 Try.underlying29 hi hz0 hz1 hz2 rfl (by decide) _ us.length _ rfl (HR6.out.alloc _) ⟨w6.heap.size, 0, none⟩ 1 1 [.int .i64 (k : Int)] rfl rfl (newI _ _ _ (by first | rfl | simp)) (cellI _) (by unfold maxLen; omega) (by omega) (by simp; omega) ?_; intro v7 w7 hown7 hg7 _)
          go_roundw
          case rel => exact ⟨k + 1, by omega, by go_num, by rw [SN.out, hus.out]; exact snocI hown7, (HB6.out.alloc sz6 _).grown hg7 (by simp; omega) (fun j hj => (HR6.out.lt j hj).1)⟩
          case measure => simp [intOf]; omega
        · have SN := Lib.hid (hardL_no (HK.out.trans (by simpa using hy)))
          go_wp2
          go_roundw
          case rel => exact ⟨k + 1, by omega, by go_num, by rw [SN.out, hus.out]; exact HR6.out, HB6.out⟩
          case measure => simp [intOf]; omega
      · go_wp2_with (first | (at_builtin; refine wpList_append_own _ rfl _ _ 25 rfl (wr.heap.size) 43 ip (.agg #[.int .i64 0, .int .i64 0]) 2 16 Try.underlying25 hip hpz0 hpz1 hpz2 rfl (by decide) _ (0) _ rfl (brd_made wr wr.heap.size (Nat.le_refl _)) ⟨g, 0, none⟩ (k) (_) (ints (flat (ps.take k))) rfl (by rw [ints_len, flat_len, List.length_take]; omega) NEWS1.out (ints_one _) (by unfold maxLen; omega) (by omega) (by simp) ?_; intro v1 w1 hown1 hg1 _; have BW1 := Lib.hid (show Below wr.heap.size wr w1 from (((Below.refl _ _).alloc (Nat.le_refl _) (.cells #[] 43)).grown hg1 (by simp) (fun j hj => (World.ownsRow.lt (brd_made wr wr.heap.size (Nat.le_refl _)) j hj).1))); have NEWS2 := Lib.hid (news2 HC.out gl (HB.out.trans (BW1.out.mono szr)) hlt ((k + 1) * 2) (.inl rfl))) | (at_builtin; refine wpList_append_own _ rfl _ _ 25 rfl (wr.heap.size) 43 ip (.agg #[.int .i64 0, .int .i64 0]) 2 16 Try.underlying25 hip hpz0 hpz1 hpz2 rfl (by decide) _ (0 + k) _ rfl hown1 ⟨g, (k + 1) * 2, none⟩ (ps.length - (k + 1)) (cp - (k + 1)) (ints (flat (ps.drop (k + 1)))) rfl (by rw [ints_len, flat_len, List.length_drop]) NEWS2.out (ints_one _) (by unfold maxLen; omega) (by omega) (Nat.le_trans BW1.out.size (Nat.le_refl _)) ?_; intro v2 w5 hown2 hg2 _))
        have PD := Lib.hid (del_row hlt (show ps.length - (k + 1) = ps.length - (k + 1) by omega) hown2)
        have B5 := Lib.hid (BW1.out.grown hg2 BW1.out.size (fun j hj => (World.ownsRow.lt hown1 j hj).1))
        clear hown1 hown2 hg1 hg2
        have FD := Lib.hid (l09Fewest_any n v2 (delB ps k) w5 (prow_at PD.out) VD.out)
        generalize fewest n (delB ps k) = y at FD HK
        refine FD.out.mono ?_
        rintro e w6 ⟨rfl, hb6⟩
        have B6 := Lib.hid (B5.out.trans (hb6.mono B5.out.size))
        have HR6 := Lib.hid (irow_keep HR.out B6.out)
        have HB6 := Lib.hid (HB.out.trans (B6.out.mono szr))
        have sz6 := HB6.out.size
        clear hb6
        by_cases hy : y < R
        · have SN := Lib.hid (hardL_yes (HK.out.trans (by simpa using hy)))
          go_wp2_with (at_builtin; refine wpList_append_own _ rfl _ _ 29 rfl (w.heap.size) 2 i0 (.int .i64 0) 1 8 Try.underlying29 hi hz0 hz1 hz2 rfl (by decide) _ us.length _ rfl (HR6.out.alloc _) ⟨w6.heap.size, 0, none⟩ 1 1 [.int .i64 (k : Int)] rfl rfl (newI _ _ _ (by first | rfl | simp)) (cellI _) (by unfold maxLen; omega) (by omega) (by simp; omega) ?_; intro v7 w7 hown7 hg7 _)
          go_roundw
          case rel => exact ⟨k + 1, by omega, by go_num, by rw [SN.out, hus.out]; exact snocI hown7, (HB6.out.alloc sz6 _).grown hg7 (by simp; omega) (fun j hj => (HR6.out.lt j hj).1)⟩
          case measure => simp [intOf]; omega
        · have SN := Lib.hid (hardL_no (HK.out.trans (by simpa using hy)))
          go_wp2
          go_roundw
          case rel => exact ⟨k + 1, by omega, by go_num, by rw [SN.out, hus.out]; exact HR6.out, HB6.out⟩
          case measure => simp [intOf]; omega
    · obtain rfl : k = ps.length := by omega
      obtain ⟨⟨au, cu, eu⟩, _⟩ := irow_shape HR.out
      subst eu
      clear hb
      go_wp2
      exact bodyPost_ret (v := .tuple #[.slice au (hardL n ps ps.length).length cu, .int .i64 0]) (by simp [results, Try.results21, go_sem]) rfl ⟨_, rfl, HR.out, HB.out⟩

set_option maxRecDepth 100000 in
set_option maxHeartbeats 1000000 in
theorem specHa_none (n : Int) (w : World) (hok : validC n [] = true) :
    Calls Try.prog 21 #[.int .i64 n, .slice none 0 0] w fun e w' => ∃ r, e = .returned (.tuple #[r, .int .i64 0]) ∧ IRow w' w.heap.size r (hardL n [] 0) ∧ Below w.heap.size w w' := by
  have HV : ∀ W : World, PAt W W.heap.size (.slice none 0 0) [] := fun W => ⟨none, 0, rfl, fun k hk => by simp at hk⟩
  have OK := Lib.hid (l09Ok_any n (.slice none 0 0) [] w (HV w) (by simp))
  rw [hok] at OK
  have FW := Lib.hid (fun W => l09Fewest_any n _ [] W (HV W) hok)
  generalize fewest n [] = R at FW
  clear hok HV
  go_enter Try.func21, Try.ntmps21
  go_wp2_with fail
  refine OK.out.mono ?_
  rintro e w1 ⟨rfl, hb⟩
  have B1 := Lib.hid hb
  go_wp2_with fail
  refine (FW.out w1).mono ?_
  rintro e w2 ⟨rfl, hb2⟩
  have B2 := Lib.hid (B1.out.trans (hb2.mono B1.out.size))
  clear hb hb2
  go_wp2
  go_loopw [7, 8] (fun u i wx => u = .slice (some ⟨w2.heap.size, 0, none⟩) 0 0 ∧ i = .int .i64 0 ∧ wx = w2.alloc (.cells #[] 2)) (fun _ _ _ => 0)
  case atStart => exact ⟨rfl, rfl, rfl⟩
  case round =>
    obtain ⟨rfl, rfl, rfl⟩ := hrel
    go_wp2
    exact bodyPost_ret (v := .tuple #[.slice (some ⟨w2.heap.size, 0, none⟩) 0 0, .int .i64 0]) (by simp [results, Try.results21, go_sem]) rfl ⟨_, rfl, irow_made w2 _ B2.out.size, B2.out.alloc B2.out.size _⟩
set_option maxRecDepth 100000 in
set_option maxHeartbeats 1000000 in
theorem specHa_any (n : Int) (v : Value) (ps : List (Int × Int)) (w : World) {B : Nat} (hr : PRow w B v ps) (hl : ps.length ≤ 1048576) :
    Calls Try.prog 21 #[.int .i64 n, v] w fun e w' => ∃ r, e = .returned (.tuple #[r, .int .i64 (codeVc n ps)]) ∧ IRow w' w.heap.size r (valHa n ps) ∧ Below w.heap.size w w' := by
  cases hk : validC n ps with
  | true =>
    rw [show codeVc n ps = 0 by simp [codeVc, hk], show valHa n ps = hardL n ps ps.length by simp [valHa, hk]]
    have h0 := hr
    rcases hr.2 with ⟨hv, h1⟩ | ⟨g, cap, cur, hv, hB, hc, hle, _⟩
    · subst hv
      have : ps = [] := List.eq_nil_of_length_eq_zero h1
      subst this
      exact specHa_none n w hk
    · subst hv
      exact specHa_good n g cap B ps w h0 hle hk
  | false =>
    rw [show codeVc n ps = 1 by simp [codeVc, hk], show valHa n ps = [] by simp [valHa, hk]]
    have OK := Lib.hid (l09Ok_any n v ps w (prow_at hr) hl)
    rw [hk] at OK
    obtain ⟨ap, cp, rfl, _⟩ := prow_at hr
    clear hk hr
    go_enter Try.func21, Try.ntmps21
    go_wp2_with fail
    refine OK.out.mono ?_
    rintro e w1 ⟨rfl, hb⟩
    go_wp2
    exact bodyPost_ret (v := .tuple #[.slice none 0 0, .int .i64 1]) (by simp [results, Try.results21, go_sem]) rfl ⟨_, rfl, irow_nil _ _, hb⟩
end Go.Proofs.Ytphcpfiddbokgaa.sines
