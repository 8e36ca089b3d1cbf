/- UnderCap of the program: contract. -/
import Derived.Test.YtiemealkdgnhcaaCapsI2
import Derived.Maps.AppendAt
namespace Go.Proofs.Ytiemealkdgnhcaa.sines
open Go.ChangeShapes Go.WideShapes Go.ChangeAt Go.RowKit Go.Proofs.Ytiemealkdgnhcaa.spots Go.Proofs.Ytiemealkdgnhcaa.irows Go.Proofs.Ytiemealkdgnhcaa.pairs
set_option linter.unusedSimpArgs false
set_option linter.unusedVariables false

theorem codeU_D {a r : Int} {ps : List (Int × Int)} (h : okL ps = true) : codeU a r ps = codeD a r (decide ((ps.length : Int) ≤ 100)) := by
  rw [codeU_ok h]
  by_cases k : 100 < ps.length
  · rw [if_pos (.inr k), show decide ((ps.length : Int) ≤ 100) = false by simp; omega, codeD_false]
  · rw [show decide ((ps.length : Int) ≤ 100) = true by simp; omega, codeD_true]
    by_cases j : codeR a r = 2
    · rw [if_pos (.inl j), j]
    · rw [if_neg (by omega)]
set_option maxRecDepth 100000 in
set_option maxHeartbeats 4000000 in
theorem implUnderCap_any (a r : Int) (v : Value) (ps : List (Int × Int)) (w : World) (hv : PAt w w.heap.size v ps) (hl : ps.length ≤ 1048576) :
    Calls Try.prog 26 #[.int .i64 a, .int .i64 r, v] w fun e w' => ∃ u, e = .returned (.tuple #[u, .int .i64 (codeU a r ps)]) ∧ IRow w' w.heap.size u (underL a r ps) ∧ Below w.heap.size w w' := by
  obtain ⟨i0, hi, hz0, hz1, hz2⟩ := info_parts info_int
  have HV := Lib.hid hv
  obtain ⟨ar, c, rfl, hcl⟩ := hv
  have HCL := Lib.hid hcl
  clear hcl
  obtain ⟨CU, hCU⟩ : ∃ C, Hid (codeU a r ps = C) := ⟨_, Lib.hid rfl⟩
  obtain ⟨us, HU⟩ : ∃ us, Hid (underL a r ps = us) := ⟨_, Lib.hid rfl⟩
  have hl2 : (ps.length : Int) ≤ 1048576 := by omega
  rw [hCU.out, HU.out]
  cases hok : okL ps with
  | false =>
    obtain rfl : CU = 1 := by rw [← hCU.out, codeU_no hok]
    obtain rfl : us = [] := by rw [← HU.out]; exact underL_bad (by rw [hCU.out]; decide)
    go_enter Try.func26, Try.ntmps26
    go_wp2_with fail
    refine (areSpots_any _ ps _ HV.out hl).mono ?_
    rw [hok]
    rintro e w1 ⟨rfl, hb1⟩
    have HB1 := Lib.hid hb1
    clear hb1
    go_wp2
    exact bodyPost_ret (v := .tuple #[.slice none 0 0, .int .i64 1]) (by simp [results, Try.results26, go_sem]) rfl ⟨_, rfl, irow_nil _ _, HB1.out⟩
  | true =>
    have DC := Lib.hid (fun w => discCode_any a r (decide ((ps.length : Int) ≤ 100)) w)
    rw [← codeU_D hok, hCU.out] at DC
    obtain ⟨bl, hbl⟩ : ∃ bl, Hid (decide ((ps.length : Int) ≤ 100) = bl) := ⟨_, Lib.hid rfl⟩
    have CR := Lib.hid (codeU_of (a := a) (r := r) (ps := ps))
    go_enter Try.func26, Try.ntmps26
    go_wp2_with fail
    refine (areSpots_any _ ps _ HV.out hl).mono ?_
    rw [hok]
    rintro e w1 ⟨rfl, hb1⟩
    have HB1 := Lib.hid hb1
    have hsz1 := hb1.size
    clear hb1
    obtain ⟨W0, hW0⟩ : ∃ w0, Hid (w1.alloc (.cells #[.int .i64 a, .int .i64 r] 61) = w0) := ⟨_, Lib.hid rfl⟩
    have B0 := Lib.hid (show Below w.heap.size w W0 by rw [← hW0.out]; exact HB1.out.alloc hsz1 _)
    have z0 : w1.heap.size < W0.heap.size := by rw [← hW0.out]; simp
    have c0 : W0.cell? ⟨w1.heap.size, 0, none⟩ = some (.int .i64 a) := by rw [← hW0.out]; simp
    have c1 : W0.cell? ⟨w1.heap.size, 1, none⟩ = some (.int .i64 r) := by rw [← hW0.out]; simp
    by_cases h0 : CU = 0
    · subst h0
      obtain ⟨_, hR, hl100⟩ := CR.out hCU.out
      obtain ⟨a1, a2, r1, r2, r3⟩ := codeR_of hR
      have CV := Lib.hid (fun p q w => covers_any a r p q w a1 a2 r1 r2 r3)
      have UE : us = underK (edgeC a r) ps ps.length := by rw [← HU.out]; unfold underL; rw [if_pos hCU.out]
      generalize edgeC a r = E at CV UE
      have HUE := Lib.hid UE
      clear UE a1 a2 r1 r2 r3 hR CR
      go_wp2_with (first | (go_at_call 59; (try rw [hW0.out]); refine (DC.out _).mono ?_; rintro e w2 ⟨rfl, hb2⟩; have B2 := Lib.hid (B0.out.trans (hb2.mono B0.out.size)); have n0 := (hb2.cell (p := ⟨w1.heap.size, 0, none⟩) z0).trans c0; have n1 := (hb2.cell (p := ⟨w1.heap.size, 1, none⟩) z0).trans c1; have z2 := hb2.size; clear hb2))
      go_loopw [10, 29] (fun u i wx => ∃ k : Nat, k ≤ ps.length ∧ i = .int .i64 (k : Int) ∧ IRow wx w2.heap.size u (underK E ps k) ∧ Below w2.heap.size w2 wx) (fun _ i _ => ps.length - (intOf i).toNat)
      case atStart => exact ⟨0, Nat.zero_le _, rfl, irow_nil _ _, Below.refl _ _⟩
      case round =>
        obtain ⟨k, hk, rfl, hr, hb⟩ := hrel
        have HR := Lib.hid hr
        have HB := Lib.hid hb
        have hsz := hb.size
        have NL := underK_len E ps k
        have d0 := (hb.cell (p := ⟨w1.heap.size, 0, none⟩) (by simp; omega)).trans n0
        have d1 := (hb.cell (p := ⟨w1.heap.size, 1, none⟩) (by simp; omega)).trans n1
        by_cases hlt : k < ps.length
        · obtain ⟨bb, off, rfl, hbs, e1, e2⟩ := HCL.out k hlt
          have k1 := ((B2.out.trans (hb.mono B2.out.size)).cell (p := ⟨bb, off + k * 2, none⟩) hbs).trans e1
          have k2 := ((B2.out.trans (hb.mono B2.out.size)).cell (p := ⟨bb, off + k * 2 + 1, none⟩) hbs).trans e2
          have hk0 : 0 ≤ (k : Int) := by omega
          have hk1 : (k : Int) < (ps.length : Int) := by omega
          have US := Lib.hid (underK_at (E := E) hlt)
          obtain ⟨ns, hns⟩ : ∃ ns, Hid (underK E ps k = ns) := ⟨_, Lib.hid rfl⟩
          rw [hns.out] at NL HR US
          clear e1 e2 hr hb
          generalize ps[k] = x at k1 k2 US
          obtain ⟨x1, x2⟩ := x
          simp only at k1 k2 US
          have C2 := Lib.hid (fun w => CV.out x1 x2 w)
          have hwx : w1.heap.size < wr.heap.size := by omega
          have g0 : (wr.alloc (.cells #[.int .i64 x1, .int .i64 x2] 35)).cell? ⟨w1.heap.size, 0, none⟩ = some (.int .i64 a) := by rw [World.cell?_alloc_past _ _ _ (by simpa using hwx)]; exact d0
          have g1 : (wr.alloc (.cells #[.int .i64 x1, .int .i64 x2] 35)).cell? ⟨w1.heap.size, 1, none⟩ = some (.int .i64 r) := by rw [World.cell?_alloc_past _ _ _ (by simpa using hwx)]; exact d1
          by_cases hE2 : E ≤ x1
          · have SM := Lib.hid (show underK E ps (k + 1) = ns ++ [(k : Int)] by rw [US.out, if_pos hE2])
            rw [show decide (E ≤ x1) = true by simpa using hE2] at C2
            clear US
            go_wp2_with fail
            refine (C2.out _).mono ?_
            rintro e w4 ⟨rfl, hb4⟩
            have HB4 := Lib.hid ((Below.alloc HB.out hsz _).trans (hb4.mono (by simp; omega)))
            have R4 := Lib.hid (irow_keep HR.out (((Below.refl wr.heap.size wr).alloc (Nat.le_refl _) _).trans (hb4.mono (by simp))))
            have z4 := HB4.out.size
            clear hb4
            go_wp2_with (at_builtin; refine wpList_append_own _ rfl _ _ 27 rfl (w2.heap.size) 2 i0 (.int .i64 0) 1 8 Try.underlying27 hi hz0 hz1 hz2 rfl (by decide) _ ns.length _ rfl (R4.out.alloc _) ⟨w4.heap.size, 0, none⟩ 1 1 [.int .i64 ((k : Int))] rfl rfl (newK _ _ _ (by first | rfl | simp)) (cellK _) (by unfold maxLen; omega) (by omega) (by simp; omega) ?_; intro v4 w5 hown1 hg1 _)
            go_roundw
            case rel => exact ⟨k + 1, by omega, by go_num, by rw [SM.out]; exact snocK hown1, (HB4.out.alloc z4 _).grown hg1 (by simp; omega) (fun j hj => (R4.out.lt j hj).1)⟩
            case measure => simp [intOf]; omega
          · have SM := Lib.hid (show underK E ps (k + 1) = ns by rw [US.out, if_neg hE2])
            rw [show decide (E ≤ x1) = false by simpa using hE2] at C2
            clear US
            go_wp2_with fail
            refine (C2.out _).mono ?_
            rintro e w4 ⟨rfl, hb4⟩
            have HB4 := Lib.hid ((Below.alloc HB.out hsz _).trans (hb4.mono (by simp; omega)))
            have R4 := Lib.hid (irow_keep HR.out (((Below.refl wr.heap.size wr).alloc (Nat.le_refl _) _).trans (hb4.mono (by simp))))
            clear hb4
            go_wp2
            go_roundw
            case rel => exact ⟨k + 1, by omega, by go_num, by rw [SM.out]; exact R4.out, HB4.out⟩
            case measure => simp [intOf]; omega
        · obtain rfl : k = ps.length := by omega
          clear hr hb
          go_wp2
          exact bodyPost_ret (v := .tuple #[u10, .int .i64 0]) (by simp [results, Try.results26, go_sem]) rfl ⟨_, rfl, by rw [HUE.out]; exact irow_up HR.out (by have := B2.out.size; omega), B2.out.trans (HB.out.mono B2.out.size)⟩
    · obtain rfl : us = [] := by rw [← HU.out]; exact underL_bad (by rw [hCU.out]; exact h0)
      have e0 : (CU != 0) = true := by simpa using h0
      clear h0 CR
      go_wp2_with (first | (go_at_call 59; (try rw [hW0.out]); refine (DC.out _).mono ?_; rintro e w2 ⟨rfl, hb2⟩; have B2 := Lib.hid (B0.out.trans (hb2.mono B0.out.size)); clear hb2))
      exact bodyPost_ret (v := .tuple #[.slice none 0 0, .int .i64 CU]) (by simp [results, Try.results26, go_sem]) rfl ⟨_, rfl, irow_nil _ _, B2.out⟩

end Go.Proofs.Ytiemealkdgnhcaa.sines
