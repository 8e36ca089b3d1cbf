/- The program's codes of a grid and a land, and CellsOf: contracts. -/
import Derived.Test.YtpekchihdmhkkaaGridI4
namespace Go.Proofs.Ytpekchihdmhkkaa.stab
open Go.ChangeShapes Go.WideShapes Go.ChangeAt Go.RowKit Go.Proofs.Ytpekchihdmhkkaa.split Go.Proofs.Ytpekchihdmhkkaa.sines Go.Proofs.Ytpekchihdmhkkaa.names
set_option linter.unusedSimpArgs false
set_option linter.unusedVariables false

set_option maxHeartbeats 400000 in
theorem isLetter_any (s : ByteArray) (w : World) (hs : s.size ≤ 1048576) :
    Calls Try.prog 78 #[.string s] w fun e w' => e = .returned (.bool (isL s)) ∧ w' = w := by
  have hs2 : (s.size : Int) ≤ 1048576 := by omega
  by_cases h1 : s.size = 1
  · have h1a : ((s.size : Int) == 1) = true := by simp [h1]
    have hp : 0 < s.size := by omega
    have hp2 : (0 : Int) < (s.size : Int) := by omega
    have e : isL s = smB (s[0].toNat : Int) := by unfold isL; rw [bAt_eq hp, smB_small]; simp [h1]
    rw [e]
    have HH := Lib.hid h1
    have hw32 : wrap32 ((s[0].toNat : Nat) : Int) = (s[0].toNat : Int) := by
      have h := UInt8.toNat_lt s[0]
      unfold wrap32
      omega
    clear h1
    obtain ⟨R, hR⟩ : ∃ R, Hid (smB (s[0].toNat : Int) = R) := ⟨_, Lib.hid rfl⟩
    rw [hR.out]
    go_enter Try.func78, Try.ntmps78
    go_wp2_with fail
    refine (isSmallLetter_any _ _).mono ?_
    rw [hw32, hR.out]
    rintro e w' ⟨rfl, rfl⟩
    go_wp2
    go_ret
    exact ⟨rfl, rfl⟩
  · have h1a : ((s.size : Int) == 1) = false := by simp; omega
    rw [isL_size h1]
    clear h1
    go_enter Try.func78, Try.ntmps78
    go_wp2
    go_ret
    exact ⟨rfl, rfl⟩
def landK (ps : List ByteArray) (land : ByteArray) (b : Bool) : Int :=
  if okG ps = true then (if (isL land && b) = true then (if 0 < (cellsG ps).count (bAt land 0) then 0 else 3) else 2) else 1
theorem landK_true (ps : List ByteArray) (land : ByteArray) : landK ps land true = codeG ps land := by
  unfold landK codeG
  rw [Bool.and_true]
set_option maxRecDepth 100000 in
set_option maxHeartbeats 2000000 in
theorem landCode_any (v : Value) (ps : List ByteArray) (land : ByteArray) (b : Bool) (w : World) (hv : SAt w w.heap.size v ps) (hl : ps.length ≤ 1048576) (hr : ∀ i, i < ps.length → (sAt ps i).size ≤ 1048576) (hs : land.size ≤ 1048576) :
    Calls Try.prog 49 #[v, .string land, .bool b] w fun e w' => e = .returned (.int .i64 (landK ps land b)) ∧ Below w.heap.size w w' := by
  have VG := Lib.hid (implValidGrid_any v ps w hv hl hr)
  have HV := Lib.hid hv
  have IL := Lib.hid (fun W => isLetter_any land W hs)
  have hs2 : (land.size : Int) ≤ 1048576 := by omega
  obtain ⟨ar, c, rfl, _⟩ := hv
  clear hl hr
  by_cases h : okG ps = true ∧ (isL land && b) = true
  · obtain ⟨h1, h2⟩ := h
    have hLb : isL land = true ∧ b = true := by simpa using h2
    have hz := (isL_of hLb.1).1
    have hp : 0 < land.size := by omega
    have hp2 : (0 : Int) < (land.size : Int) := by omega
    have EK : landK ps land b = if 0 < (cellsG ps).count (bAt land 0) then 0 else 3 := by unfold landK; rw [if_pos h1, if_pos h2]
    rw [EK, bAt_eq hp]
    rw [h1] at VG
    rw [hLb.1] at IL
    obtain ⟨_, rfl⟩ := hLb
    have HG := Lib.hid (fun W (h : Below w.heap.size w W) => gridOf_any (.slice ar ps.length c) ps _ W (sat_up (sat_keep HV.out h) h.size) (grid_of h1))
    have CO := Lib.hid (fun W g cap n (hc : BCells W W.heap.size g (cellsG ps)) => cellsOf_any g cap n (cellsG ps) land[0] W hc)
    obtain ⟨C, hC⟩ : ∃ C, Hid ((cellsG ps).count land[0] = C) := ⟨_, Lib.hid rfl⟩
    rw [hC.out] at CO ⊢
    generalize cellsG ps = cs at HG CO
    generalize (sAt ps 0).size = n at HG
    have CO2 := Lib.hid (fun W => codeOf_any true true W)
    simp only [Bool.true_eq_false, if_false] at CO2
    clear h1 h2 EK hz
    have cases0 : (0 < C ∧ ((C : Int) == 0) = false) ∨ (C = 0) := by
      by_cases h : 0 < C
      · exact .inl ⟨h, by simp; omega⟩
      · exact .inr (by omega)
    rcases cases0 with ⟨h0, h0a⟩ | rfl
    · rw [if_pos h0]
      go_enter Try.func49, Try.ntmps49
      go_wp2_with fail
      refine VG.out.mono ?_
      rintro e w1 ⟨rfl, hb1⟩
      have HB1 := Lib.hid hb1
      clear hb1
      go_wp2_with fail
      refine (IL.out _).mono ?_
      rintro e w' ⟨rfl, rfl⟩
      go_wp2_with fail
      refine (CO2.out _).mono ?_
      rintro e w2 ⟨rfl, rfl⟩
      go_wp2_with fail
      go_region_with (first | (go_at_call 45; refine (HG.out _ (by repeat (first | exact HB1.out | refine Below.drew ?_ | refine bdr ?_ _))).mono ?_; rintro e w3 ⟨g, cap, rfl, _, _, hc, hb3⟩; have HC3 := Lib.hid hc; have HB3 := Lib.hid (show Below w2.heap.size w2 w3 from by first | exact hb3 | exact (Below.refl _ w2).drew.trans hb3); clear hc hb3) | (go_at_call 50; refine (CO.out _ _ _ _ HC3.out).mono ?_; rintro e w4 ⟨rfl, hb4⟩; have HB4 := Lib.hid hb4; clear hb4))
      all_goals go_wp2
      all_goals go_ret
      all_goals exact ⟨rfl, HB1.out.trans ((HB3.out.trans (HB4.out.mono HB3.out.size)).mono HB1.out.size)⟩
    · rw [if_neg (Nat.lt_irrefl 0)]
      go_enter Try.func49, Try.ntmps49
      go_wp2_with fail
      refine VG.out.mono ?_
      rintro e w1 ⟨rfl, hb1⟩
      have HB1 := Lib.hid hb1
      clear hb1
      go_wp2_with fail
      refine (IL.out _).mono ?_
      rintro e w' ⟨rfl, rfl⟩
      go_wp2_with fail
      refine (CO2.out _).mono ?_
      rintro e w2 ⟨rfl, rfl⟩
      go_wp2_with fail
      go_region_with (first | (go_at_call 45; refine (HG.out _ (by repeat (first | exact HB1.out | refine Below.drew ?_ | refine bdr ?_ _))).mono ?_; rintro e w3 ⟨g, cap, rfl, _, _, hc, hb3⟩; have HC3 := Lib.hid hc; have HB3 := Lib.hid (show Below w2.heap.size w2 w3 from by first | exact hb3 | exact (Below.refl _ w2).drew.trans hb3); clear hc hb3) | (go_at_call 50; refine (CO.out _ _ _ _ HC3.out).mono ?_; rintro e w4 ⟨rfl, hb4⟩; have HB4 := Lib.hid hb4; clear hb4))
      all_goals go_wp2
      all_goals go_ret
      all_goals exact ⟨rfl, HB1.out.trans ((HB3.out.trans (HB4.out.mono HB3.out.size)).mono HB1.out.size)⟩
  · have EK : ∃ k : Int, k ≠ 0 ∧ landK ps land b = k ∧ (if okG ps = false then 1 else if (isL land && b) = false then 2 else 0) = k := by
      unfold landK
      cases h1 : okG ps
      · exact ⟨1, by decide, by simp, by simp⟩
      · cases h2 : (isL land && b)
        · exact ⟨2, by decide, by simp, by simp⟩
        · exact absurd ⟨h1, h2⟩ h
    obtain ⟨k, hk, e1, e2⟩ := EK
    have CO2 := Lib.hid (fun W => codeOf_any (okG ps) (isL land && b) W)
    rw [e2] at CO2
    rw [e1]
    have hk0 : (k == 0) = false := by simpa using hk
    clear e1 e2 h hk
    generalize okG ps = o1 at VG CO2
    generalize isL land = o2 at IL CO2
    go_enter Try.func49, Try.ntmps49
    go_wp2_with fail
    refine VG.out.mono ?_
    rintro e w1 ⟨rfl, hb1⟩
    have HB1 := Lib.hid hb1
    clear hb1
    cases o2 with
    | false =>
      rw [Bool.false_and] at CO2
      go_wp2_with fail
      refine (IL.out _).mono ?_
      rintro e w' ⟨rfl, rfl⟩
      go_wp2_with fail
      refine (CO2.out _).mono ?_
      rintro e w2 ⟨rfl, rfl⟩
      go_wp2_with fail
      go_quiet (fail)
      go_wp2
      go_ret
      exact ⟨rfl, bdr HB1.out _⟩
    | true =>
      rw [Bool.true_and] at CO2
      go_wp2_with fail
      refine (IL.out _).mono ?_
      rintro e w' ⟨rfl, rfl⟩
      go_wp2_with fail
      refine (CO2.out _).mono ?_
      rintro e w2 ⟨rfl, rfl⟩
      go_wp2_with fail
      go_quiet (fail)
      go_wp2
      go_ret
      exact ⟨rfl, bdr HB1.out _⟩
set_option maxHeartbeats 1000000 in
theorem implCellsOf_any (v : Value) (ps : List ByteArray) (land : ByteArray) (w : World) (hv : SAt w w.heap.size v ps) (hl : ps.length ≤ 1048576) (hr : ∀ i, i < ps.length → (sAt ps i).size ≤ 1048576) (hs : land.size ≤ 1048576) :
    Calls Try.prog 21 #[v, .string land] w fun e w' => e = .returned (.tuple #[.int .i64 (valCells ps land), .int .i64 (codeG ps land)]) ∧ Below w.heap.size w w' := by
  have CD := Lib.hid (landCode_any v ps land true w hv hl hr hs)
  rw [landK_true] at CD
  have HV := Lib.hid hv
  have hs2 : (land.size : Int) ≤ 1048576 := by omega
  obtain ⟨ar, c, rfl, _⟩ := hv
  clear hl hr
  unfold valCells
  by_cases h : codeG ps land = 0
  · obtain ⟨g1, g2, _⟩ := codeG_zero h
    obtain ⟨h1, _⟩ := isL_of g2
    have hp : 0 < land.size := by omega
    have hp2 : (0 : Int) < (land.size : Int) := by omega
    rw [if_pos h, bAt_eq hp, h]
    rw [h] at CD
    have HG := Lib.hid (fun W (h : Below w.heap.size w W) => gridOf_any (.slice ar ps.length c) ps _ W (sat_up (sat_keep HV.out h) h.size) (grid_of g1))
    have CO := Lib.hid (fun W g cap n (hc : BCells W W.heap.size g (cellsG ps)) => cellsOf_any g cap n (cellsG ps) land[0] W hc)
    obtain ⟨C, hC⟩ : ∃ C, Hid ((cellsG ps).count land[0] = C) := ⟨_, Lib.hid rfl⟩
    rw [hC.out] at CO ⊢
    generalize cellsG ps = cs at HG CO
    generalize (sAt ps 0).size = n at HG
    clear h g1 g2 h1
    go_enter Try.func21, Try.ntmps21
    go_wp2_with fail
    refine CD.out.mono ?_
    rintro e w1 ⟨rfl, hb1⟩
    have HB1 := Lib.hid hb1
    clear hb1
    go_wp2_with fail
    go_region_with (first | (go_at_call 45; refine (HG.out _ (by repeat (first | exact HB1.out | refine Below.drew ?_ | refine bdr ?_ _))).mono ?_; rintro e w3 ⟨g, cap, rfl, _, _, hc, hb3⟩; have HC3 := Lib.hid hc; have HB3 := Lib.hid (show Below w1.heap.size w1 w3 from by first | exact hb3 | exact (Below.refl _ w1).drew.trans hb3); clear hc hb3) | (go_at_call 50; refine (CO.out _ _ _ _ HC3.out).mono ?_; rintro e w4 ⟨rfl, hb4⟩; have HB4 := Lib.hid hb4; clear hb4))
    all_goals go_wp2
    all_goals exact bodyPost_ret (v := .tuple #[.int .i64 (C : Int), .int .i64 0]) (by simp [results, Try.results21, go_sem]) rfl ⟨rfl, HB1.out.trans ((HB3.out.trans (HB4.out.mono HB3.out.size)).mono HB1.out.size)⟩
  · rw [if_neg h]
    have h2 : (codeG ps land != 0) = true := by simpa using h
    generalize codeG ps land = cd at CD h2 ⊢
    clear h
    go_enter Try.func21, Try.ntmps21
    go_wp2_with fail
    refine CD.out.mono ?_
    rintro e w1 ⟨rfl, hb1⟩
    have HB1 := Lib.hid hb1
    clear hb1
    go_wp2
    exact bodyPost_ret (v := .tuple #[.int .i64 0, .int .i64 cd]) (by simp [results, Try.results21, go_sem]) rfl ⟨rfl, HB1.out⟩
end Go.Proofs.Ytpekchihdmhkkaa.stab
