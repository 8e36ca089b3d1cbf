/- FnAngles answers true for every two lists of bytes. -/
import Derived.Test.YtbnihalbepffoaaTurns
import Derived.Test.YtbnihalbepffoaaDraw
namespace Go.Proofs.Ytbnihalbepffoaa.angles
open Go.ChangeShapes Go.WideShapes Go.ChangeAt Go.RowKit Go.Proofs.Ytbnihalbepffoaa.spots Go.Proofs.Ytbnihalbepffoaa.src

theorem bcell {W w1 : World} (hb : Below W.heap.size W w1) : (∀ b o, b < W.heap.size → w1.cell? ⟨b, o, none⟩ = W.cell? ⟨b, o, none⟩) ∧ (∀ b o, b < W.heap.size → w1.frozen? ⟨b, o, none⟩ = W.frozen? ⟨b, o, none⟩) :=
  ⟨fun b o h => hb.cell (p := ⟨b, o, none⟩) h, fun b o h => hb.frozen (p := ⟨b, o, none⟩) h⟩
theorem WrapLon_yes (n : Int) (w : World) (h1 : -1000000000 ≤ n) (h2 : n ≤ 1000000000) :
    Calls Try.prog 11 #[.int .i64 n] w fun e w' => e = .returned (.tuple #[.int .i64 (wrapL n), .int .i64 0]) ∧ w = w' := by
  have h : angB n = true := by simp [angB, h1, h2]
  go_enter Try.func11, Try.ntmps11
  go_wp2_with (first | (go_at_call 33; refine (isAngle_any _ _).mono ?_; rintro e w' ⟨rfl, rfl⟩) | (go_at_call 34; refine (wrap_any _ _ (by omega) (by omega)).mono ?_; rintro e w' ⟨rfl, rfl⟩))
  go_ret2
  exact ⟨rfl, rfl⟩
theorem LonDifference_yes (a b : Int) (w : World) (h1 : -1000000000 ≤ a) (h2 : a ≤ 1000000000) (h3 : -1000000000 ≤ b) (h4 : b ≤ 1000000000) :
    Calls Try.prog 12 #[.int .i64 a, .int .i64 b] w fun e w' => e = .returned (.tuple #[.int .i64 (wrapL (b - a)), .int .i64 0]) ∧ w = w' := by
  have ha : angB a = true := by simp [angB, h1, h2]
  have hb : angB b = true := by simp [angB, h3, h4]
  go_enter Try.func12, Try.ntmps12
  go_wp2_with (first | (go_at_call 33; refine (isAngle_any _ _).mono ?_; rintro e w' ⟨rfl, rfl⟩) | (go_at_call 34; refine (wrap_any _ _ (by omega) (by omega)).mono ?_; rintro e w' ⟨rfl, rfl⟩))
  go_ret2
  exact ⟨rfl, rfl⟩
theorem wrapL_lo (n : Int) : -648000 ≤ wrapL n := by unfold wrapL; omega
theorem wrapL_hi (n : Int) : wrapL n < 648000 := by unfold wrapL; omega
theorem wrapL_mod (n : Int) : (wrapL n - n).tmod 1296000 = 0 := by
  have h : (1296000 : Int) ∣ wrapL n - n := by unfold wrapL; omega
  exact Int.tmod_eq_zero_of_dvd h
theorem wrapL_turn (n : Int) : wrapL (n + 1296000) = wrapL n := by unfold wrapL; omega
theorem wrapL_sum (a b : Int) : wrapL (a + wrapL (b - a)) = wrapL b := by unfold wrapL; omega
theorem wrapL_back (y b : Int) (h1 : -648000 ≤ y) (h2 : y ≤ 647999) : wrapL (wrapL (y + b) + -b) = y := by unfold wrapL; omega
theorem wrapL_twice (y : Int) (h1 : -648000 ≤ y) (h2 : y ≤ 647999) : wrapL (wrapL (y + 648000) + 648000) = y := by unfold wrapL; omega
theorem ok_wrap {x : Int} (n : Int) (h1 : -324000 ≤ x) (h2 : x ≤ 324000) : okB x (wrapL n) = true := by
  have h3 := wrapL_lo n
  have h4 := wrapL_hi n
  simp [okB, h1, h2, h3]; omega
set_option maxRecDepth 100000 in
set_option maxHeartbeats 1000000 in
theorem A2Spot_any (w : World) (a : Option Addr) (len cap : Nat) (hb : Bytes w a len w.heap.size) :
    Calls Try.prog 13 #[.slice a len cap] w fun e w' => ∃ x y, e = .returned (.agg #[.int .i64 x, .int .i64 y]) ∧ Drawn x y ∧ Below w.heap.size w w' := by
  have HB := Lib.hid hb
  clear hb
  go_enter Try.func13, Try.ntmps13
  go_wp2_with fail
  refine (l00From_any _ a len cap).mono ?_
  rintro e w' ⟨rfl, rfl⟩
  go_wp2_with fail
  have hb2 : Bytes (w.alloc (.cells #[.int .i64 0, .int .i64 0] 29)) a len (w.heap.size + 1) := by
    obtain ⟨h1, h2, h3⟩ := HB.out
    refine ⟨h1, by simp, fun i hi => ?_⟩
    obtain ⟨b, off, z, e, hlt, hz, h4⟩ := h3 i hi
    exact ⟨b, off, z, e, by omega, by rw [World.cell?_alloc_past _ _ _ hlt]; exact hz, h4⟩
  refine (l02Draw_any _ (w.heap.size + 1) a len cap 0 (by simpa using src_start (w.alloc (.cells #[.int .i64 0, .int .i64 0] 29)) a len cap) (by decide) (bytes_below hb2 ((Below.refl _ _).alloc (by simp) _)) (by simp)).mono ?_
  rintro e w1 ⟨x, y, rfl, hd, _, hg⟩
  have R : w1.heap[w.heap.size]? = some (.cells #[.int .i64 0, .int .i64 0] 29 (0, 0)) := by
    rw [hg.block w.heap.size (by simp; omega) (by simp), Below.heap_alloc _ _ _ (by simp)]
    exact heap_alloc_new w _
  have r0 := cell_of_block R 0
  have r1 := cell_of_block R 1
  have f0 := frozen_plain R 0
  have f1 := frozen_plain R 1
  simp only [List.getElem?_toArray, List.getElem?_cons_zero, List.getElem?_cons_succ] at r0 r1
  have HG := Lib.hid hg
  have HD := Lib.hid hd
  clear R hg hb2 hd
  go_wp2
  exact bodyPost_ret (v := .agg #[.int .i64 x, .int .i64 y]) (by simp [results, Try.results13, go_sem, r0, r1]) rfl ⟨_, _, rfl, HD.out, ((((((Below.refl _ _).alloc (Nat.le_refl _) _).alloc (by simp) _).grown HG.out (by simp; omega) (fun k hk => by obtain rfl := Option.some.inj hk; omega))).setCell (Nat.le_refl _) _).setCell (Nat.le_refl _) _⟩
set_option maxHeartbeats 400000 in
theorem a2Long_any (a0 : Option Addr) (l0 c0 : Nat) (a1 : Option Addr) (l1 c1 : Nat) (w : World) (h0 : l0 ≤ maxLen) (h1 : l1 ≤ maxLen) :
    Calls Try.prog 9 #[.slice a0 l0 c0, .slice a1 l1 c1] w fun e w' => e = .returned (.bool (decide (3000 < l0 ∨ 3000 < l1))) ∧ w = w' := by
  unfold maxLen at h0 h1
  by_cases h : 3000 < l0
  · have h' : 3000 < (l0 : Int) := by omega
    go_enter Try.func9, Try.ntmps9
    go_wp2
    go_ret
    exact ⟨ret_bool (by simp [h]), rfl⟩
  · have h' : (l0 : Int) ≤ 3000 := by omega
    go_enter Try.func9, Try.ntmps9
    go_wp2
    all_goals (go_ret; exact ⟨ret_bool (by rw [Bool.eq_iff_iff]; simp; omega), rfl⟩)
theorem bytes_of {w : World} {a : Option Addr} {len cap : Nat} {zs : List Int} (h : IsRow .u8 w a len cap zs) (hl : len ≤ 3000) (hw : ∀ b o v, w.cell? ⟨b, o, none⟩ = some v → b < w.heap.size) : Bytes w a len w.heap.size := by
  refine ⟨by omega, Nat.le_refl _, fun i hi => ?_⟩
  rcases h with ⟨_, rfl, _⟩ | ⟨x, rfl, h1, h2, h3, h4, h5⟩
  · omega
  · obtain ⟨b, off, spot⟩ := x
    have hc := h4 i (by omega)
    have hspot : spot = none := by simpa [Addr.add] using World.cell?_spot (h4 0 (by omega))
    subst hspot
    have hc0 : w.cell? ⟨b, off + i, none⟩ = some (.int .u8 (zs.getD i 0)) := by
      rcases Nat.eq_zero_or_pos i with rfl | hi0
      · simpa [Addr.add] using hc
      · have : ¬ i = 0 := by omega
        simpa [Addr.add, this] using hc
    have hz : zs.getD i 0 ∈ zs := by
      have : i < zs.length := by omega
      simp [List.getD, this]
    have hwf := h5 _ hz
    simp [Lit.wf, IntKind.min, IntKind.max, IntKind.signed, IntKind.bits] at hwf
    exact ⟨b, off, _, rfl, hw _ _ _ hc0, hc0, by simpa using hwf.1, by simpa using hwf.2⟩
theorem row_len {w : World} {a : Option Addr} {len cap : Nat} {zs : List Int} (h : IsRow .u8 w a len cap zs) : len ≤ maxLen := by
  rcases h with ⟨_, rfl, _⟩ | ⟨x, rfl, h1, h2, _⟩
  · exact Nat.zero_le _
  · omega
theorem bytes_up {w w1 : World} {a : Option Addr} {len B : Nat} (h : Bytes w a len B) (hb : Below B w w1) : Bytes w1 a len w1.heap.size := by
  obtain ⟨h1, h2, h3⟩ := bytes_below h hb
  exact ⟨h1, Nat.le_refl _, fun i hi => by obtain ⟨b, off, z, e, hlt, h4⟩ := h3 i hi; exact ⟨b, off, z, e, by omega, h4⟩⟩
set_option maxRecDepth 100000 in
set_option maxHeartbeats 4000000 in
theorem walk (a0 : Option Addr) (l0 c0 : Nat) (z0 : List Int) (a1 : Option Addr) (l1 c1 : Nat) (z1 : List Int) (w : World) (r0 : IsRow .u8 w a0 l0 c0 z0) (r1 : IsRow .u8 w a1 l1 c1 z1) :
    Calls Try.prog 3 #[.slice a0 l0 c0, .slice a1 l1 c1] w fun e w' => e = .returned (.bool true) ∧ Below w.heap.size w w' := by
  have M0 := Lib.hid (row_len r0)
  have M1 := Lib.hid (row_len r1)
  by_cases hl : 3000 < l0 ∨ 3000 < l1
  · have hd : decide (3000 < l0 ∨ 3000 < l1) = true := by simpa using hl
    have HD := Lib.hid hd
    clear r0 r1 hl
    go_enter Try.func3, Try.ntmps3
    go_wp2_with fail
    refine (a2Long_any a0 l0 c0 a1 l1 c1 w M0.out M1.out).mono ?_
    rw [HD.out]
    rintro e w' ⟨rfl, rfl⟩
    go_wp2
    go_ret
    exact ⟨rfl, Below.refl _ _⟩
  have HD := Lib.hid (show decide (3000 < l0 ∨ 3000 < l1) = false by simpa using hl)
  have B0 := Lib.hid (bytes_of r0 (by omega) (fun b o v h => World.block_lt_of_cell? w _ h))
  have B1 := Lib.hid (bytes_of r1 (by omega) (fun b o v h => World.block_lt_of_cell? w _ h))
  clear r0 r1 hl
  go_enter Try.func3, Try.ntmps3
  go_wp2_with fail
  refine (a2Long_any a0 l0 c0 a1 l1 c1 w M0.out M1.out).mono ?_
  rw [HD.out]
  rintro e w' ⟨rfl, rfl⟩
  go_wp2_with fail
  refine (A2Angle_any w a0 l0 c0 B0.out).mono ?_
  rintro e w1 ⟨a, rfl, ha1, ha2, hb1⟩
  have HB1 := Lib.hid hb1
  clear hb1
  go_wp2_with fail
  refine (A2Angle_any w1 a1 l1 c1 (bytes_up B1.out HB1.out)).mono ?_
  rintro e w2 ⟨b, rfl, hb1, hb2, hbw2⟩
  have HB2 := Lib.hid (HB1.out.trans (hbw2.mono HB1.out.size))
  clear hbw2
  have x1 := wrapL_lo a
  have x2 := wrapL_hi a
  have d1 := wrapL_lo (b - a)
  have d2 := wrapL_hi (b - a)
  have e1 : ((wrapL a - a).tmod 1296000 != 0) = false := by rw [wrapL_mod]; rfl
  have e2 : (wrapL (a + 1296000) != wrapL a) = false := by rw [wrapL_turn]; simp
  have e3 : (wrapL (a + wrapL (b - a)) != wrapL b) = false := by rw [wrapL_sum]; simp
  go_wp2_with (first | (go_at_call 11; refine (WrapLon_yes _ _ (by omega) (by omega)).mono ?_; rintro e w' ⟨rfl, rfl⟩) | (go_at_call 12; refine (LonDifference_yes _ _ _ (by omega) (by omega) (by omega) (by omega)).mono ?_; rintro e w' ⟨rfl, rfl⟩))
  refine (A2Spot_any w2 a0 l0 c0 (bytes_up B0.out HB2.out)).mono ?_
  rintro e w3 ⟨x, y, rfl, hd, hbw3⟩
  have HB3 := Lib.hid (HB2.out.trans (hbw3.mono HB2.out.size))
  obtain ⟨p1, p2, p3, p4⟩ := hd
  clear hbw3 e1 e2 e3 x1 x2 d1 d2
  have okp : okB x y = true := by simp [okB, p1, p2, p3, p4]
  have angb : angB b = true := by simp [angB]; omega
  have angn : angB (-b) = true := by simp [angB]; omega
  have OKP := Lib.hid okp
  have ANB := Lib.hid angb
  have ANN := Lib.hid angn
  have OKQ := Lib.hid (ok_wrap (y + b) p1 p2)
  have OKU := Lib.hid (ok_wrap (x := -x) (y + 648000) (by omega) (by omega))
  have b1 : (wrapL (wrapL (y + b) + -b) == y) = true := by rw [wrapL_back y b p3 p4]; simp
  have b2 : (wrapL (wrapL (y + 648000) + 648000) == y) = true := by rw [wrapL_twice y p3 p4]; simp
  have BB1 := Lib.hid (wrapL_back y b p3 p4)
  have BB2 := Lib.hid (wrapL_twice y p3 p4)
  clear okp angb angn b1 b2
  go_wp2_with fail
  refine (implTurn_yes x y b _ OKP.out ANB.out).mono ?_
  rintro e w4 ⟨rfl, hbw4⟩
  obtain ⟨hc4, hf4⟩ := bcell hbw4
  have hz4 := hbw4.size
  simp at hz4
  have q34 : w3.heap.size < w4.heap.size := by omega
  have nb : IntKind.i64.wrap (-b) = -b := IntWalk.i64_in _ (by omega)
  go_wp2_with fail
  refine (implTurn_yes x (wrapL (y + b)) (-b) _ OKQ.out ANN.out).mono ?_
  rw [BB1.out]
  rintro e w5 ⟨rfl, hbw5⟩
  obtain ⟨hc5, hf5⟩ := bcell hbw5
  have hz5 := hbw5.size
  simp at hz5
  have q35 : w3.heap.size < w5.heap.size := by omega
  have q45 : w4.heap.size < w5.heap.size := by omega
  go_wp2_with fail
  refine (implAnti_yes x y _ OKP.out).mono ?_
  rintro e w6 ⟨rfl, hbw6⟩
  obtain ⟨hc6, hf6⟩ := bcell hbw6
  have hz6 := hbw6.size
  simp at hz6
  have q36 : w3.heap.size < w6.heap.size := by omega
  have q46 : w4.heap.size < w6.heap.size := by omega
  have q56 : w5.heap.size < w6.heap.size := by omega
  go_wp2_with fail
  refine (implAnti_yes (-x) (wrapL (y + 648000)) _ OKU.out).mono ?_
  rw [BB2.out, Int.neg_neg]
  rintro e w7 ⟨rfl, hbw7⟩
  obtain ⟨hc7, hf7⟩ := bcell hbw7
  have hz7 := hbw7.size
  simp at hz7
  have q37 : w3.heap.size < w7.heap.size := by omega
  have q47 : w4.heap.size < w7.heap.size := by omega
  have q57 : w5.heap.size < w7.heap.size := by omega
  have q67 : w6.heap.size < w7.heap.size := by omega
  have g3_1 : w3.heap.size < w7.heap.size + 1 := by omega
  have g3_2 : w3.heap.size < w7.heap.size + 1 + 1 := by omega
  have g3_3 : w3.heap.size < w7.heap.size + 1 + 1 + 1 := by omega
  have g3_4 : w3.heap.size < w7.heap.size + 1 + 1 + 1 + 1 := by omega
  have g3_5 : w3.heap.size < w7.heap.size + 1 + 1 + 1 + 1 + 1 := by omega
  have g4_1 : w4.heap.size < w7.heap.size + 1 := by omega
  have g4_2 : w4.heap.size < w7.heap.size + 1 + 1 := by omega
  have g4_3 : w4.heap.size < w7.heap.size + 1 + 1 + 1 := by omega
  have g4_4 : w4.heap.size < w7.heap.size + 1 + 1 + 1 + 1 := by omega
  have g4_5 : w4.heap.size < w7.heap.size + 1 + 1 + 1 + 1 + 1 := by omega
  have g5_1 : w5.heap.size < w7.heap.size + 1 := by omega
  have g5_2 : w5.heap.size < w7.heap.size + 1 + 1 := by omega
  have g5_3 : w5.heap.size < w7.heap.size + 1 + 1 + 1 := by omega
  have g5_4 : w5.heap.size < w7.heap.size + 1 + 1 + 1 + 1 := by omega
  have g5_5 : w5.heap.size < w7.heap.size + 1 + 1 + 1 + 1 + 1 := by omega
  have g6_1 : w6.heap.size < w7.heap.size + 1 := by omega
  have g6_2 : w6.heap.size < w7.heap.size + 1 + 1 := by omega
  have g6_3 : w6.heap.size < w7.heap.size + 1 + 1 + 1 := by omega
  have g6_4 : w6.heap.size < w7.heap.size + 1 + 1 + 1 + 1 := by omega
  have g6_5 : w6.heap.size < w7.heap.size + 1 + 1 + 1 + 1 + 1 := by omega
  have g7_1 : w7.heap.size < w7.heap.size + 1 := by omega
  have g7_2 : w7.heap.size < w7.heap.size + 1 + 1 := by omega
  have g7_3 : w7.heap.size < w7.heap.size + 1 + 1 + 1 := by omega
  have g7_4 : w7.heap.size < w7.heap.size + 1 + 1 + 1 + 1 := by omega
  have g7_5 : w7.heap.size < w7.heap.size + 1 + 1 + 1 + 1 + 1 := by omega
  have V1 := OKQ.out
  have V2 := OKU.out
  go_wp2_with (go_at_call 16; refine (specValidSpot_any _ _ _).mono ?_; rintro e w' ⟨rfl, o1, o2, rfl⟩)
  go_ret
  have hS := HB3.out.size
  have hA4 : Below w.heap.size w w4 := Below.trans (by repeat (first | exact HB3.out | refine Below.drew ?_ | refine Below.alloc ?_ (by first | omega | (simp; done) | (simp; omega)) _ | refine Below.setCell ?_ (by simp) _)) (hbw4.mono (by have := HB3.out.size; simp; omega))
  have hA5 : Below w.heap.size w w5 := Below.trans (by repeat (first | exact hA4 | refine Below.drew ?_ | refine Below.alloc ?_ (by first | omega | (simp; done) | (simp; omega)) _ | refine Below.setCell ?_ (by simp) _)) (hbw5.mono (by have := HB3.out.size; simp; omega))
  have hA6 : Below w.heap.size w w6 := Below.trans (by repeat (first | exact hA5 | refine Below.drew ?_ | refine Below.alloc ?_ (by first | omega | (simp; done) | (simp; omega)) _ | refine Below.setCell ?_ (by simp) _)) (hbw6.mono (by have := HB3.out.size; simp; omega))
  have hA7 : Below w.heap.size w w7 := Below.trans (by repeat (first | exact hA6 | refine Below.drew ?_ | refine Below.alloc ?_ (by first | omega | (simp; done) | (simp; omega)) _ | refine Below.setCell ?_ (by simp) _)) (hbw7.mono (by have := HB3.out.size; simp; omega))
  exact ⟨rfl, by repeat (first | exact hA7 | refine Below.drew ?_ | refine Below.alloc ?_ (by first | omega | (simp; done) | (simp; omega)) _ | refine Below.setCell ?_ (by simp) _)⟩

set_option maxRecDepth 100000 in
theorem lifted (os : Os) (started : os.Started) (H : Type) (enc : TypeId × Value → H) :
    ReturnsInHanded {} Try.checked os 3 .any (Rows.fnAnglesSpec.pre6 enc Try.prog Try.f3 Rows.fnAnglesRow.domain false) (Rows.fnAnglesSpec.post enc Try.prog Try.f3 false true false false) := by
  refine returnsInHanded_of_change (C := Try.checked) own started (by kernel_rfl) Try.func3
    (ChangeSpec.witness6 (enc := enc) (C := Try.checked) false ⟨#[], #[.slice none 0 0, .slice none 0 0], []⟩ 8 (by kernel_rfl) (by kernel_rfl) (by kernel_rfl) (by kernel_rfl)) ?_
  intro W base args ds gs before hval0 hW hcnd _
  have hval : ∀ (j : Nat) t v, Try.f3.params[j]? = some t → args[j]? = some v → Value.okWide Try.prog W .any base t v := hval0
  have hW' := hW
  obtain ⟨p, q, hA0, hV, hpq, hfz, hnd⟩ := hW
  have hA : DataW.TrodAll enc Try.prog W 0 (fun _ => true) true Try.f3.params.toList args.toList ds p := hA0
  rw [Try.params3] at hA hval
  obtain ⟨v0, vs0, d0, ds0, p0, q0, hargs, rfl, rfl, h0, r0⟩ := trodAll_cons hA
  obtain ⟨v1, vs1, d1, ds1, p1, q1, rfl, rfl, rfl, h1, r1⟩ := trodAll_cons r0
  obtain ⟨rfl, rfl, rfl⟩ := trodAll_nil r1
  obtain rfl : args = #[v0, v1] := by cases args; simp_all
  obtain ⟨a0, len0, cap0, rfl⟩ := okWide_slice Try.underlying22 (hval 0 22 v0 rfl rfl)
  obtain ⟨z0, w0⟩ : ∃ zs, IsRow .u8 W a0 len0 cap0 zs := by
    obtain ⟨fuel, hf⟩ := h0
    rcases open_ints Try.underlying22 Try.underlying5 (by kernel_rfl) hf with ⟨hcs, _⟩ | ⟨x, l, c, zs, hcs, _, hl, hm, hz, _, hcell, hwz⟩
    · simp [Value.cells] at hcs
      obtain ⟨rfl, rfl, rfl⟩ := hcs
      exact ⟨[], .inl ⟨rfl, rfl, rfl, rfl⟩⟩
    · simp [Value.cells] at hcs
      obtain ⟨rfl, rfl, rfl⟩ := hcs
      exact ⟨zs, .inr ⟨_, rfl, hl, hm, by simpa using hz, hcell, hwz⟩⟩
  obtain ⟨a1, len1, cap1, rfl⟩ := okWide_slice Try.underlying22 (hval 1 22 v1 rfl rfl)
  obtain ⟨z1, w1⟩ : ∃ zs, IsRow .u8 W a1 len1 cap1 zs := by
    obtain ⟨fuel, hf⟩ := h1
    rcases open_ints Try.underlying22 Try.underlying5 (by kernel_rfl) hf with ⟨hcs, _⟩ | ⟨x, l, c, zs, hcs, _, hl, hm, hz, _, hcell, hwz⟩
    · simp [Value.cells] at hcs
      obtain ⟨rfl, rfl, rfl⟩ := hcs
      exact ⟨[], .inl ⟨rfl, rfl, rfl, rfl⟩⟩
    · simp [Value.cells] at hcs
      obtain ⟨rfl, rfl, rfl⟩ := hcs
      exact ⟨zs, .inr ⟨_, rfl, hl, hm, by simpa using hz, hcell, hwz⟩⟩
  refine (walk a0 len0 cap0 z0 a1 len1 cap1 z1 W w0 w1).mono fun e W' ⟨he, bel⟩ => ?_
  subst he
  exact ⟨_, rfl, post_of_law laidOut (by kernel_rfl) Try.underlying4 rfl rfl (fun ds h => by match ds, h with | [_, _], _ => rfl) hW' bel⟩

theorem holds : Rows.FnAnglesSaid :=
  OpenClaim.holds_of_wide 3 Try.f3 rfl rfl rfl rfl rfl rfl rfl ⟨rfl, rfl, rfl, rfl, rfl⟩ rfl rfl rfl rfl rfl (by kernel_rfl) Try.func3 (by kernel_rfl)
    (of_decide_eq_true (by kernel_rfl)) (by unfold Func.isWrapper; first | (rw [if_pos (by decide +kernel)]; kernel_rfl) | (rw [if_neg (by decide +kernel)]; exact ⟨rfl, rfl⟩))
    (fun os started H enc _ => lifted os started H enc)
#print axioms holds

end Go.Proofs.Ytbnihalbepffoaa.angles
