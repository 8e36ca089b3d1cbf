/- FnClosing answers true for every list of bytes, under the condition that the program's table lies as its text lays it (the card ties it to that). -/
import Derived.Test.YteeikkakibifpaaDoorDoorF
import Derived.Test.YteeikkakibifpaaDoorIterW
import Derived.Test.YteeikkakibifpaaDoorPaper
import Derived.Test.YteeikkakibifpaaDoorGDraw
import Derived.Test.YteeikkakibifpaaDoorF6
namespace Go.Proofs.YteeikkakibifpaaDoor.closing
open Go.ChangeShapes Go.WideShapes Go.ChangeAt Go.RowKit Go.Proofs.YteeikkakibifpaaDoor.spots Go.Proofs.YteeikkakibifpaaDoor.sines Go.Proofs.YteeikkakibifpaaDoor.src Go.Proofs.YteeikkakibifpaaDoor.a2

theorem absI_nonneg (n : Int) : 0 ≤ absI n := by simp only [absI]; split <;> omega
theorem codeP_ok {g a l : Int} (h : goreB g = true) (a1 : 1 ≤ a) (a2 : a ≤ 1000000) (l1 : -324000 ≤ l) (l2 : l ≤ 324000) : codeP g a l = 0 := by
  simp [codeP, codeG, h, inB, a1, a2, l1, l2]
/-- The closing error is small against the number of gores. -/
theorem close_small (g a l : Int) : codeP g a l ≠ 0 ∨ (codeP g a l = 0 ∧ 2 * absI (ansG (codeP g a l) (closeE g a l)) ≤ g + 2 ∧ 0 ≤ ansG (codeP g a l) (gpart g a l) ∧ -1000000 ≤ ansG (codeP g a l) (closeE g a l) ∧ ansG (codeP g a l) (closeE g a l) ≤ 1000000 ∧ 6 ≤ g ∧ g ≤ 48) := by
  by_cases h : codeP g a l = 0
  · right
    obtain ⟨hg, a1, a2, l1, l2⟩ := codeP_yes h
    obtain ⟨g1, g2, _⟩ := goreB_facts hg
    obtain ⟨c1, c2⟩ := closeE_bounds (a := a) (l := l) g1 g2
    obtain ⟨p1, p2⟩ := gpart_bounds (p := g) (by omega) a1 a2 l1 l2
    rw [h, ansG_ok, ansG_ok]
    refine ⟨rfl, ?_, p1, by omega, by omega, g1, g2⟩
    simp only [absI]; split <;> omega
  · exact .inl h
/-- The worst one is that of a parallel, and not less than that of the equator. -/
theorem worst_facts (g a d lat err : Int) (h1 : ansG (codeT g a d) ((worstN g a d (stepsN d) : Int) * d) = lat) (h2 : ansG (codeT g a d) (closeE g a ((worstN g a d (stepsN d) : Int) * d)) = err) :
    codeT g a d ≠ 0 ∨ (codeT g a d = 0 ∧ codeP g a lat = 0 ∧ ansG (codeP g a lat) (closeE g a lat) = err ∧ codeP g a 0 = 0 ∧ ∃ f, ansG (codeP g a 0) (closeE g a 0) = f ∧ absI f ≤ absI err ∧ -1000000 ≤ f ∧ f ≤ 1000000 ∧ -1000000 ≤ err ∧ err ≤ 1000000) := by
  by_cases h : codeT g a d = 0
  · right
    obtain ⟨hg, a1, a2, d1, d2⟩ := codeT_yes h
    obtain ⟨g1, g2, _⟩ := goreB_facts hg
    rw [h, ansG_ok] at h1 h2
    obtain ⟨m, hm⟩ : ∃ m, stepsN d = m + 1 := ⟨_, rfl⟩
    have hl := worstN_lt g a d m
    rw [← hm] at hl
    have hlt : worstN g a d (stepsN d) < stepsN d := by omega
    have hle := (stepsN_iff (d := d) (by omega)).2 hlt
    have h0 : 0 ≤ (worstN g a d (stepsN d) : Int) * d := Int.mul_nonneg (by omega) (by omega)
    rw [h1] at hle h0 h2
    have hf := worstN_first g a d (stepsN d)
    rw [h1, h2] at hf
    obtain ⟨c1, c2⟩ := closeE_bounds (a := a) (l := 0) g1 g2
    obtain ⟨c3, c4⟩ := closeE_bounds (a := a) (l := lat) g1 g2
    rw [h2] at c3 c4
    have e1 := codeP_ok hg a1 a2 (show -324000 ≤ lat by omega) hle
    have e2 := codeP_ok hg a1 a2 (show (-324000 : Int) ≤ 0 by omega) (by omega)
    refine ⟨h, e1, by rw [e1, ansG_ok]; exact h2, e2, _, rfl, ?_, ?_, ?_, by omega, by omega⟩
    · rw [e2, ansG_ok]; exact hf
    · rw [e2, ansG_ok]; omega
    · rw [e2, ansG_ok]; omega
  · exact .inl h
/-- The fewest gores are narrow enough. -/
theorem few_facts (a p r : Int) (h1 : fewV a p = r) : fewC a p ≠ 0 ∨ (fewC a p = 0 ∧ codeP r a 0 = 0 ∧ ∃ q, ansG (codeP r a 0) (gpart r a 0) = q ∧ q ≤ p) := by
  by_cases h : codeF a p = 0
  · obtain ⟨a1, a2, p1, p2⟩ := codeF_yes h
    cases hk : fewG a p with
    | none => exact .inl (by rw [(few_none h hk).1]; decide)
    | some n =>
      obtain ⟨e1, e2⟩ := few_some h hk
      rw [e2] at h1
      subst h1
      obtain ⟨m1, m2⟩ := fewG_mem hk
      have e3 := codeP_ok (goreB_mem.2 m1) a1 a2 (show (-324000 : Int) ≤ 0 by omega) (by omega)
      exact .inr ⟨e1, e3, _, rfl, by rw [e3, ansG_ok]; exact m2⟩
  · exact .inl (by rw [(few_bad h).1]; decide)
/-- No more sheets than gores. -/
theorem sheet_facts (g a p v : Int) (h1 : sheV g a p = v) : sheC g a p ≠ 0 ∨ (sheC g a p = 0 ∧ 1 ≤ v ∧ v ≤ g) := by
  by_cases h : codeS g a p = 0
  · by_cases k : p < equW g a
    · exact .inl (by rw [(she_full h k).1]; decide)
    · obtain ⟨e1, e2⟩ := she_ok h k
      have hh : goreB g = true ∧ 1 ≤ a ∧ a ≤ 1000000 ∧ 1 ≤ p ∧ p ≤ 100000 := by
        cases h1 : goreB g <;> cases x : inB a 1 1000000 <;> cases y : inB p 1 100000 <;> simp [codeS, codeG, h1, x, y] at h
        obtain ⟨a1, a2⟩ := inB_of x
        obtain ⟨l1, l2⟩ := inB_of y
        exact ⟨rfl, a1, a2, l1, l2⟩
      obtain ⟨hg, a1, a2, p1, p2⟩ := hh
      obtain ⟨g1, g2, _⟩ := goreB_facts hg
      obtain ⟨s1, s2, s3, s4, s5, _⟩ := sheets_facts (a := a) g1 g2 a1 a2 p1 p2
      rw [h1] at e2
      generalize eachW g a p = E at *
      have E1 : 1 ≤ E := by
        have : ¬ E = 0 := fun e => k (s5.1 e)
        omega
      have q1 : 1 ≤ (g + E - 1) / E := by rw [Int.le_ediv_iff_mul_le (by omega)]; omega
      have q2 : (g + E - 1) / E ≤ g := by
        have h3 : (g + E - 1) / E < g + 1 := by
          rw [Int.ediv_lt_iff_lt_mul (by omega)]
          have := Int.mul_le_mul_of_nonneg_left E1 (show 0 ≤ g by omega)
          rw [Int.add_mul]; omega
        omega
      exact .inr ⟨e1, by omega, by omega⟩
  · refine .inl ?_
    have : sheC g a p = codeS g a p := (she_bad h).1
    rw [this]; exact h

set_option maxRecDepth 100000 in
set_option maxHeartbeats 4000000 in
theorem walk (a0 : Option Addr) (l0 c0 : Nat) (z0 : List Int) (w : World) (r0 : Go.Proofs.YteeikkakibifpaaDoor.src.IsRow .u8 w a0 l0 c0 z0) (hL : laidMetH Tryd.prog Rows.fnClosingRow.laid w) :
    Calls Tryd.prog 4 #[.slice a0 l0 c0] w fun e w' => e = .returned (.bool true) ∧ Below w.heap.size w w' := by
  have hG : GV w := GV_of_laid hL
  have hl0 := row_len r0
  clear hL
  by_cases hlong : 4096 < l0
  · have hd : decide (4096 < l0) = true := decide_eq_true hlong
    have R0 := Lib.hid r0
    clear r0
    go_enter Tryd.func4, Tryd.ntmps4
    go_wp2_with (go_at_call 16; refine (f6big_any _ _ _ _ hl0).mono ?_; rintro e w' ⟨rfl, rfl⟩; rw [hd])
    go_ret
    exact ⟨rfl, Below.refl _ _⟩
  have hd : decide (4096 < l0) = false := decide_eq_false hlong
  have B0 := Lib.hid (bytes_of r0 (by omega) (fun b o v h => World.block_lt_of_cell? _ _ h))
  have HG := Lib.hid hG
  clear r0 hG
  go_enter Tryd.func4, Tryd.ntmps4
  go_wp2_with (go_at_call 16; refine (f6big_any _ _ _ _ hl0).mono ?_; rintro e w' ⟨rfl, rfl⟩; rw [hd])
  go_wp2_with fail
  refine (DrawClosingAt_any w a0 l0 c0 B0.out).mono ?_
  rintro e w1 ⟨g, a, l, rfl, hb⟩
  have HB1 := Lib.hid hb
  clear hb
  obtain ⟨C, hC⟩ : ∃ x, Hid (codeP g a l = x) := ⟨_, Lib.hid rfl⟩
  obtain ⟨V, hV⟩ : ∃ x, Hid (ansG C (closeE g a l) = x) := ⟨_, Lib.hid rfl⟩
  obtain ⟨U, hU⟩ : ∃ x, Hid (ansG C (gpart g a l) = x) := ⟨_, Lib.hid rfl⟩
  have F1 := close_small g a l
  rw [hC.out, hV.out, hU.out] at F1
  have HF1 := Lib.hid F1
  clear F1
  go_wp2_with fail
  refine (implClosingAt_any g a l w1 (GV_keep HG.out HB1.out)).mono ?_
  rintro e w' ⟨rfl, rfl⟩
  rw [hC.out, hV.out]
  go_wp2_with fail
  refine (specClosingAt_any g a l w1).mono ?_
  rintro e w' ⟨rfl, rfl⟩
  rw [hC.out, hV.out]
  go_wp2_with fail
  refine (DrawWorstClosing_any w1 a0 l0 c0 (bytes_up B0.out HB1.out)).mono ?_
  rintro e w2 ⟨g2, a2, d2, rfl, hb⟩
  have HB2 := Lib.hid (HB1.out.trans (hb.mono HB1.out.size))
  clear hb
  obtain ⟨C2, hC2⟩ : ∃ x, Hid (codeT g2 a2 d2 = x) := ⟨_, Lib.hid rfl⟩
  obtain ⟨V2, hV2⟩ : ∃ x, Hid (ansG C2 ((worstN g2 a2 d2 (stepsN d2) : Int) * d2) = x) := ⟨_, Lib.hid rfl⟩
  obtain ⟨U2, hU2⟩ : ∃ x, Hid (ansG C2 (closeE g2 a2 ((worstN g2 a2 d2 (stepsN d2) : Int) * d2)) = x) := ⟨_, Lib.hid rfl⟩
  have F2 := worst_facts g2 a2 d2 V2 U2 (by rw [hC2.out]; exact hV2.out) (by rw [hC2.out]; exact hU2.out)
  rw [hC2.out] at F2
  have HF2 := Lib.hid F2
  clear F2
  go_wp2_with fail
  refine (implWorstClosing_any g2 a2 d2 w2 (GV_keep HG.out HB2.out)).mono ?_
  rintro e w3 ⟨rfl, hb⟩
  rw [hC2.out, hV2.out, hU2.out]
  have HB3 := Lib.hid (HB2.out.trans (hb.mono HB2.out.size))
  clear hb
  go_wp2_with fail
  refine (specWorstClosing_any g2 a2 d2 w3).mono ?_
  rintro e w' ⟨rfl, rfl⟩
  rw [hC2.out, hV2.out, hU2.out]
  go_wp2_with fail
  refine (DrawFewestGores_any w3 a0 l0 c0 (bytes_up B0.out HB3.out)).mono ?_
  rintro e w4 ⟨a3, p3, rfl, hb⟩
  have HB4 := Lib.hid (HB3.out.trans (hb.mono HB3.out.size))
  clear hb
  obtain ⟨C3, hC3⟩ : ∃ x, Hid (fewC a3 p3 = x) := ⟨_, Lib.hid rfl⟩
  obtain ⟨V3, hV3⟩ : ∃ x, Hid (fewV a3 p3 = x) := ⟨_, Lib.hid rfl⟩
  have F3 := few_facts a3 p3 V3 hV3.out
  rw [hC3.out] at F3
  have HF3 := Lib.hid F3
  clear F3
  go_wp2_with fail
  refine (implFewestGores_any a3 p3 w4 (GV_keep HG.out HB4.out)).mono ?_
  rintro e w' ⟨rfl, rfl⟩
  rw [hC3.out, hV3.out]
  go_wp2_with fail
  refine (specFewestGores_any a3 p3 w4).mono ?_
  rintro e w' ⟨rfl, rfl⟩
  rw [hC3.out, hV3.out]
  go_wp2_with fail
  refine (DrawSheetsForGores_any w4 a0 l0 c0 (bytes_up B0.out HB4.out)).mono ?_
  rintro e w5 ⟨g4, a4, p4, rfl, hb⟩
  have HB5 := Lib.hid (HB4.out.trans (hb.mono HB4.out.size))
  clear hb
  obtain ⟨C4, hC4⟩ : ∃ x, Hid (sheC g4 a4 p4 = x) := ⟨_, Lib.hid rfl⟩
  obtain ⟨V4, hV4⟩ : ∃ x, Hid (sheV g4 a4 p4 = x) := ⟨_, Lib.hid rfl⟩
  have F4 := sheet_facts g4 a4 p4 V4 hV4.out
  rw [hC4.out] at F4
  have HF4 := Lib.hid F4
  clear F4
  go_wp2_with fail
  refine (implSheets_any g4 a4 p4 w5 (GV_keep HG.out HB5.out)).mono ?_
  rintro e w' ⟨rfl, rfl⟩
  rw [hC4.out, hV4.out]
  go_wp2_with fail
  refine (specSheets_any g4 a4 p4 w5).mono ?_
  rintro e w' ⟨rfl, rfl⟩
  rw [hC4.out, hV4.out]
  go_wp2_with fail
  refine (implGoreWidth_any g a l w5 (GV_keep HG.out HB5.out)).mono ?_
  rintro e w' ⟨rfl, rfl⟩
  rw [hC.out, hU.out]
  go_wp2_with fail
  refine (specGoreWidth_any g a l w5).mono ?_
  rintro e w' ⟨rfl, rfl⟩
  rw [hC.out, hU.out]
  have HG5 := Lib.hid (GV_keep HG.out HB5.out)
  rcases HF2.out with hw | ⟨hw, m1, m2, m3, fst, m4, m5, m6, m7, m8, m9⟩
  · have u1 : (C2 == 0) = false := by simpa using hw
    clear hw
    rcases HF3.out with hx | ⟨hx, k1, q, k2, k3⟩
    · have v1 : (C3 == 0) = false := by simpa using hx
      clear hx
      rcases HF4.out with hy | ⟨hy, s1, s2⟩
      · have y1 : (C4 == 0) = false := by simpa using hy
        clear hy
        rcases HF1.out with hz | ⟨hz, b1, b2, b3, b4, b5, b6⟩
        · have x1 : (C == 0) = false := by simpa using hz
          have x2 : (C != 0) = true := by simpa using hz
          clear hz
          go_wp2_with fail
          go_ret
          exact ⟨rfl, HB5.out⟩
        · have x1 : (C == 0) = true := by simpa using hz
          have x2 : (C != 0) = false := by simpa using hz
          clear hz
          go_wp2_with (go_at_call 35; refine (f6abs_any V _ (by omega) (by omega)).mono ?_; rintro e w' ⟨rfl, rfl⟩; have b7 := absI_nonneg V; generalize absI V = m at *)
          go_ret
          exact ⟨rfl, HB5.out⟩
      · have y1 : (C4 == 0) = true := by simpa using hy
        clear hy
        rcases HF1.out with hz | ⟨hz, b1, b2, b3, b4, b5, b6⟩
        · have x1 : (C == 0) = false := by simpa using hz
          have x2 : (C != 0) = true := by simpa using hz
          clear hz
          go_wp2_with fail
          go_ret
          exact ⟨rfl, HB5.out⟩
        · have x1 : (C == 0) = true := by simpa using hz
          have x2 : (C != 0) = false := by simpa using hz
          clear hz
          go_wp2_with (go_at_call 35; refine (f6abs_any V _ (by omega) (by omega)).mono ?_; rintro e w' ⟨rfl, rfl⟩; have b7 := absI_nonneg V; generalize absI V = m at *)
          go_ret
          exact ⟨rfl, HB5.out⟩
    · have v1 : (C3 == 0) = true := by simpa using hx
      have K1 := Lib.hid k1
      have K2 := Lib.hid (show ansG 0 (gpart V3 a3 0) = q by rw [k1] at k2; exact k2)
      clear hx k1 k2
      go_wp2_with fail
      refine (implGoreWidth_any V3 a3 0 w5 HG5.out).mono ?_
      rintro e w' ⟨rfl, rfl⟩
      rw [K1.out, K2.out]
      rcases HF4.out with hy | ⟨hy, s1, s2⟩
      · have y1 : (C4 == 0) = false := by simpa using hy
        clear hy
        rcases HF1.out with hz | ⟨hz, b1, b2, b3, b4, b5, b6⟩
        · have x1 : (C == 0) = false := by simpa using hz
          have x2 : (C != 0) = true := by simpa using hz
          clear hz
          go_wp2_with fail
          go_ret
          exact ⟨rfl, HB5.out⟩
        · have x1 : (C == 0) = true := by simpa using hz
          have x2 : (C != 0) = false := by simpa using hz
          clear hz
          go_wp2_with (go_at_call 35; refine (f6abs_any V _ (by omega) (by omega)).mono ?_; rintro e w' ⟨rfl, rfl⟩; have b7 := absI_nonneg V; generalize absI V = m at *)
          go_ret
          exact ⟨rfl, HB5.out⟩
      · have y1 : (C4 == 0) = true := by simpa using hy
        clear hy
        rcases HF1.out with hz | ⟨hz, b1, b2, b3, b4, b5, b6⟩
        · have x1 : (C == 0) = false := by simpa using hz
          have x2 : (C != 0) = true := by simpa using hz
          clear hz
          go_wp2_with fail
          go_ret
          exact ⟨rfl, HB5.out⟩
        · have x1 : (C == 0) = true := by simpa using hz
          have x2 : (C != 0) = false := by simpa using hz
          clear hz
          go_wp2_with (go_at_call 35; refine (f6abs_any V _ (by omega) (by omega)).mono ?_; rintro e w' ⟨rfl, rfl⟩; have b7 := absI_nonneg V; generalize absI V = m at *)
          go_ret
          exact ⟨rfl, HB5.out⟩
  · have u1 : (C2 == 0) = true := by simpa using hw
    have M1 := Lib.hid m1
    have M2 := Lib.hid (show ansG 0 (closeE g2 a2 V2) = U2 by rw [m1] at m2; exact m2)
    have M3 := Lib.hid m3
    have M4 := Lib.hid (show ansG 0 (closeE g2 a2 0) = fst by rw [m3] at m4; exact m4)
    obtain ⟨n1, hn1⟩ : ∃ x, Hid (absI fst = x) := ⟨_, Lib.hid rfl⟩
    obtain ⟨n2, hn2⟩ : ∃ x, Hid (absI U2 = x) := ⟨_, Lib.hid rfl⟩
    rw [hn1.out, hn2.out] at m5
    clear hw m1 m2 m3 m4
    go_wp2_with fail
    refine (implClosingAt_any g2 a2 V2 w5 HG5.out).mono ?_
    rintro e w' ⟨rfl, rfl⟩
    rw [M1.out, M2.out]
    go_wp2_with fail
    refine (implClosingAt_any g2 a2 0 w5 HG5.out).mono ?_
    rintro e w' ⟨rfl, rfl⟩
    rw [M3.out, M4.out]
    go_wp2_with fail
    refine (f6abs_any fst _ (by omega) (by omega)).mono ?_
    rintro e w' ⟨rfl, rfl⟩
    rw [hn1.out]
    go_wp2_with fail
    refine (f6abs_any U2 _ (by omega) (by omega)).mono ?_
    rintro e w' ⟨rfl, rfl⟩
    rw [hn2.out]
    rcases HF3.out with hx | ⟨hx, k1, q, k2, k3⟩
    · have v1 : (C3 == 0) = false := by simpa using hx
      clear hx
      rcases HF4.out with hy | ⟨hy, s1, s2⟩
      · have y1 : (C4 == 0) = false := by simpa using hy
        clear hy
        rcases HF1.out with hz | ⟨hz, b1, b2, b3, b4, b5, b6⟩
        · have x1 : (C == 0) = false := by simpa using hz
          have x2 : (C != 0) = true := by simpa using hz
          clear hz
          go_wp2_with fail
          go_ret
          exact ⟨rfl, HB5.out⟩
        · have x1 : (C == 0) = true := by simpa using hz
          have x2 : (C != 0) = false := by simpa using hz
          clear hz
          go_wp2_with (go_at_call 35; refine (f6abs_any V _ (by omega) (by omega)).mono ?_; rintro e w' ⟨rfl, rfl⟩; have b7 := absI_nonneg V; generalize absI V = m at *)
          go_ret
          exact ⟨rfl, HB5.out⟩
      · have y1 : (C4 == 0) = true := by simpa using hy
        clear hy
        rcases HF1.out with hz | ⟨hz, b1, b2, b3, b4, b5, b6⟩
        · have x1 : (C == 0) = false := by simpa using hz
          have x2 : (C != 0) = true := by simpa using hz
          clear hz
          go_wp2_with fail
          go_ret
          exact ⟨rfl, HB5.out⟩
        · have x1 : (C == 0) = true := by simpa using hz
          have x2 : (C != 0) = false := by simpa using hz
          clear hz
          go_wp2_with (go_at_call 35; refine (f6abs_any V _ (by omega) (by omega)).mono ?_; rintro e w' ⟨rfl, rfl⟩; have b7 := absI_nonneg V; generalize absI V = m at *)
          go_ret
          exact ⟨rfl, HB5.out⟩
    · have v1 : (C3 == 0) = true := by simpa using hx
      have K1 := Lib.hid k1
      have K2 := Lib.hid (show ansG 0 (gpart V3 a3 0) = q by rw [k1] at k2; exact k2)
      clear hx k1 k2
      go_wp2_with fail
      refine (implGoreWidth_any V3 a3 0 w5 HG5.out).mono ?_
      rintro e w' ⟨rfl, rfl⟩
      rw [K1.out, K2.out]
      rcases HF4.out with hy | ⟨hy, s1, s2⟩
      · have y1 : (C4 == 0) = false := by simpa using hy
        clear hy
        rcases HF1.out with hz | ⟨hz, b1, b2, b3, b4, b5, b6⟩
        · have x1 : (C == 0) = false := by simpa using hz
          have x2 : (C != 0) = true := by simpa using hz
          clear hz
          go_wp2_with fail
          go_ret
          exact ⟨rfl, HB5.out⟩
        · have x1 : (C == 0) = true := by simpa using hz
          have x2 : (C != 0) = false := by simpa using hz
          clear hz
          go_wp2_with (go_at_call 35; refine (f6abs_any V _ (by omega) (by omega)).mono ?_; rintro e w' ⟨rfl, rfl⟩; have b7 := absI_nonneg V; generalize absI V = m at *)
          go_ret
          exact ⟨rfl, HB5.out⟩
      · have y1 : (C4 == 0) = true := by simpa using hy
        clear hy
        rcases HF1.out with hz | ⟨hz, b1, b2, b3, b4, b5, b6⟩
        · have x1 : (C == 0) = false := by simpa using hz
          have x2 : (C != 0) = true := by simpa using hz
          clear hz
          go_wp2_with fail
          go_ret
          exact ⟨rfl, HB5.out⟩
        · have x1 : (C == 0) = true := by simpa using hz
          have x2 : (C != 0) = false := by simpa using hz
          clear hz
          go_wp2_with (go_at_call 35; refine (f6abs_any V _ (by omega) (by omega)).mono ?_; rintro e w' ⟨rfl, rfl⟩; have b7 := absI_nonneg V; generalize absI V = m at *)
          go_ret
          exact ⟨rfl, HB5.out⟩

set_option maxRecDepth 100000 in
theorem lifted (os : Os) (started : os.Started) (H : Type) (enc : TypeId × Value → H) :
    ReturnsInHanded {} Tryd.checked os 4 .any (fun w args => (Rows.fnClosingSpec.pre enc Tryd.prog Tryd.f4 [] false w args ∧ laidMetH Tryd.prog Rows.fnClosingRow.laid w) ∧ sizedMet enc Tryd.prog Tryd.f4 (OpenSpec.ofChange Rows.fnClosingSpec) false w args)
      (Rows.fnClosingSpec.post enc Tryd.prog Tryd.f4 false true false false) := by
  refine returnsInHanded_of_change_and (C := Tryd.checked) (X := fun w _ => laidMetH Tryd.prog Rows.fnClosingRow.laid w) (fun _ _ _ hh h => h.of_heap hh) own started (by kernel_rfl) Tryd.func4
    (ChangeSpec.witness_shaped (enc := enc) (C := Tryd.checked) (os := os) (X := fun w _ => laidMetH Tryd.prog Rows.fnClosingRow.laid w) false (World.doorLaid Tryd.prog 14 os) #[.slice none 0 0] 8 rfl (door_shaped os _) (by kernel_rfl) (by kernel_rfl) (by kernel_rfl) (door_met0 os _)) ?_
  intro W base args ds gs before hval0 hW hcnd _ hL _
  have hval : ∀ (j : Nat) t v, Tryd.f4.params[j]? = some t → args[j]? = some v → Value.okWide Tryd.prog W .any base t v := hval0
  have hW' := hW
  obtain ⟨p, q, hA0, hV, hpq, hfz, hnd⟩ := hW
  have hA : DataW.TrodAll enc Tryd.prog W 0 (fun _ => true) true Tryd.f4.params.toList args.toList ds p := hA0
  rw [Tryd.params4] at hA hval
  obtain ⟨v0, vs0, d0, ds0, p0, q0, hargs, rfl, rfl, h0, r0⟩ := trodAll_cons hA
  obtain ⟨rfl, rfl, rfl⟩ := trodAll_nil r0
  obtain rfl : args = #[v0] := by cases args; simp_all
  obtain ⟨a0, len0, cap0, rfl⟩ := okWide_slice Tryd.underlying22 (hval 0 22 v0 rfl rfl)
  obtain ⟨z0, w0⟩ : ∃ zs, IsRow .u8 W a0 len0 cap0 zs := by
    obtain ⟨fuel, hf⟩ := h0
    rcases open_ints Tryd.underlying22 Tryd.underlying5 (by kernel_rfl) hf with ⟨hcs, _⟩ | ⟨x, l, c, zs, hcs, _, hl, hm, hz, _, hcell, hwz⟩
    · simp [Value.cells] at hcs
      obtain ⟨rfl, rfl, rfl⟩ := hcs
      exact ⟨[], .inl ⟨rfl, rfl, rfl, rfl⟩⟩
    · simp [Value.cells] at hcs
      obtain ⟨rfl, rfl, rfl⟩ := hcs
      exact ⟨zs, .inr ⟨_, rfl, hl, hm, by simpa using hz, hcell, hwz⟩⟩
  refine (walk a0 len0 cap0 z0 W w0 hL).mono fun e W' ⟨he, bel⟩ => ?_
  subst he
  exact ⟨_, rfl, post_of_law_vars laidOut (by kernel_rfl) (by kernel_rfl) Tryd.underlying4 rfl (fun ds gs h g => by match ds, gs, h, g with | [_], [_], _, _ => rfl) hW' bel⟩

theorem holds : Rows.FnClosingSaid :=
  OpenClaim.holds_of_wide 4 Tryd.f4 rfl rfl rfl rfl rfl rfl rfl ⟨rfl, rfl, rfl, rfl, rfl⟩ rfl rfl rfl rfl rfl (by kernel_rfl) Tryd.func4 (by kernel_rfl)
    (of_decide_eq_true (by kernel_rfl)) (by unfold Func.isWrapper; first | (rw [if_pos (by decide +kernel)]; kernel_rfl) | (rw [if_neg (by decide +kernel)]; exact ⟨rfl, rfl⟩))
    (fun os started H enc _ => lifted os started H enc)

/-- No parameter wants a stand-in; what the card asks of the program's looks. -/
theorem plain (f : FuncId) (fn : Func) (hf : Tryd.pinned.checked.prog.funcNamed "loop.example/g01055/laws.FnClosing" = some f) (hfn : Tryd.pinned.checked.prog.funcs[f]? = some fn) :
    false = Tryd.pinned.checked.prog.looks [] ∧ ∀ (j : Nat) t, fn.params[j]? = some t → Tryd.pinned.checked.prog.wantsStandIn t = false := by
  obtain rfl : f = 4 := Option.some.inj ((show Tryd.prog.funcNamed "loop.example/g01055/laws.FnClosing" = some 4 by kernel_rfl).symm.trans hf) |>.symm
  obtain rfl : fn = Tryd.f4 := (Option.some.inj (Tryd.func4.symm.trans hfn)).symm
  refine ⟨door_looks, fun j t ht => ?_⟩
  have hall : (Tryd.f4.params.toList.all fun u => !Tryd.prog.wantsStandIn u) = true := by kernel_rfl
  have hm : t ∈ Tryd.f4.params.toList := by simpa using Array.mem_of_getElem? ht
  exact (show Tryd.prog.wantsStandIn t = false by simpa using List.all_eq_true.1 hall t hm)

/-- THE CARD. -/
theorem card : Rows.FnClosingCardSaid :=
  Claim7.holds_tied_plain_at .later [] _ _ _ _ holds (fun _ h => by cases h) (by kernel_rfl) (fun _ h => by cases h) fnClosing_row_tie rfl ⟨rfl, rfl⟩ door_main rfl plain (by kernel_rfl)
#print axioms card

end Go.Proofs.YteeikkakibifpaaDoor.closing
