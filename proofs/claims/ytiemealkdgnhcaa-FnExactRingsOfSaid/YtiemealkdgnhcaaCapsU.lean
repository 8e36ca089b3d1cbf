/- The places under a cap, of the model: contract. -/
import Derived.Test.YtiemealkdgnhcaaCapsL
namespace Go.Proofs.Ytiemealkdgnhcaa.sines
open Go.ChangeShapes Go.WideShapes Go.ChangeAt Go.RowKit Go.Proofs.Ytiemealkdgnhcaa.spots Go.Proofs.Ytiemealkdgnhcaa.irows Go.Proofs.Ytiemealkdgnhcaa.pairs
set_option linter.unusedSimpArgs false
set_option linter.unusedVariables false

/-- Which code the model tells, once all places are looked at. -/
theorem codeU_ok {a r : Int} {ps : List (Int × Int)} (h : okL ps = true) : codeU a r ps = if codeR a r = 2 ∨ 100 < ps.length then 2 else codeR a r := by simp [codeU, h]
theorem codeU_no {a r : Int} {ps : List (Int × Int)} (h : okL ps = false) : codeU a r ps = 1 := by simp [codeU, h]
theorem underK_at {E : Int} {ps : List (Int × Int)} {k : Nat} (h : k < ps.length) : underK E ps (k + 1) = if E ≤ ps[k].1 then underK E ps k ++ [(k : Int)] else underK E ps k := by
  have e : ps.getD k (0, 0) = ps[k] := by simp [h]
  rw [underK, e]
set_option maxRecDepth 100000 in
set_option maxHeartbeats 4000000 in
theorem specUnderCap_any (a r : Int) (v : Value) (ps : List (Int × Int)) (w : World) (hv : PAt w w.heap.size v ps) (hl : ps.length ≤ 1048576) :
    Calls Try.prog 27 #[.int .i64 a, .int .i64 r, v] w fun e w' => ∃ u, e = .returned (.tuple #[u, .int .i64 (codeU a r ps)]) ∧ IRow w' w.heap.size u (underL a r ps) ∧ Below w.heap.size w w' := by
  obtain ⟨i0, hi, hz0, hz1, hz2⟩ := info_parts info_int
  obtain ⟨ar, c, rfl, hcl⟩ := hv
  have HCL := Lib.hid hcl
  obtain ⟨R, hR⟩ : ∃ R, Hid (codeR a r = R) := ⟨_, Lib.hid rfl⟩
  obtain ⟨CU, hCU⟩ : ∃ C, Hid (codeU a r ps = C) := ⟨_, Lib.hid rfl⟩
  obtain ⟨us, HU⟩ : ∃ us, Hid (underL a r ps = us) := ⟨_, Lib.hid rfl⟩
  have hl2 : (ps.length : Int) ≤ 1048576 := by omega
  rw [hCU.out, HU.out]
  clear hcl
  go_enter Try.func27, Try.ntmps27
  go_wp2
  go_loopw [8] (fun i wr => ∃ k : Nat, k ≤ ps.length ∧ i = .int .i64 (k : Int) ∧ (∀ j, (hj : j < ps.length) → j < k → okB ps[j].1 ps[j].2 = true) ∧ Below w.heap.size w wr) (fun i _ => ps.length - (intOf i).toNat)
  case atStart => exact ⟨0, Nat.zero_le _, rfl, fun j _ h => by omega, Below.refl _ _⟩
  case round =>
    obtain ⟨k, hk, rfl, ha, hb⟩ := hrel
    have HA := Lib.hid ha
    have HB := Lib.hid hb
    have hsz := hb.size
    by_cases hlt : k < ps.length
    · obtain ⟨bb, off, rfl, hbs, c1, c2⟩ := HCL.out k hlt
      have k1 := (hb.cell (p := ⟨bb, off + k * 2, none⟩) hbs).trans c1
      have k2 := (hb.cell (p := ⟨bb, off + k * 2 + 1, none⟩) hbs).trans c2
      have hk0 : 0 ≤ (k : Int) := by omega
      have hk1 : (k : Int) < (ps.length : Int) := by omega
      have NX := Lib.hid (show okB ps[k].1 ps[k].2 = true → ∀ j, (hj : j < ps.length) → j < k + 1 → okB ps[j].1 ps[j].2 = true from fun h j hj hjk => by
        by_cases e : j = k
        · subst e; exact h
        · exact HA.out j hj (by omega))
      have NO := Lib.hid (fun h => okL_not k hlt h)
      clear c1 c2 ha hb
      generalize ps[k] = x at k1 k2 NX NO
      obtain ⟨x1, x2⟩ := x
      cases hok : okB x1 x2 with
      | false =>
        have LN := Lib.hid (codeU_no (a := a) (r := r) (NO.out hok))
        obtain rfl : CU = 1 := by rw [← hCU.out, LN.out]
        have UB := Lib.hid (underL_bad (a := a) (r := r) (ps := ps) (by rw [hCU.out]; decide))
        obtain rfl : us = [] := by rw [← HU.out]; exact UB.out
        go_wp2_with fail
        refine (l02Ok_any _ _ _).mono ?_
        rw [hok]
        rintro e w' ⟨rfl, o1, rfl⟩
        go_wp2
        exact bodyPost_ret (v := .tuple #[.slice none 0 0, .int .i64 1]) (by simp [results, Try.results27, go_sem]) rfl ⟨_, rfl, irow_nil _ _, HB.out.alloc hsz _⟩
      | true =>
        have NY := Lib.hid (NX.out hok)
        go_wp2_with fail
        refine (l02Ok_any _ _ _).mono ?_
        rw [hok]
        rintro e w' ⟨rfl, o1, rfl⟩
        go_wp2
        go_roundw
        case rel => exact ⟨k + 1, by omega, by go_num, NY.out, HB.out.alloc hsz _⟩
        case measure => simp [intOf]; omega
    · obtain rfl : k = ps.length := by omega
      have OKL := Lib.hid (okL_of fun j hj => HA.out j hj hj)
      have CE := Lib.hid (codeU_ok (a := a) (r := r) OKL.out)
      obtain ⟨W1, rfl⟩ : ∃ W1, W1 = wr := ⟨wr, rfl⟩
      clear ha hb
      by_cases h2 : R = 2
      · obtain rfl : CU = 2 := by rw [← hCU.out, CE.out, hR.out, if_pos (.inl h2)]
        have UB := Lib.hid (underL_bad (a := a) (r := r) (ps := ps) (by rw [hCU.out]; decide))
        obtain rfl : us = [] := by rw [← HU.out]; exact UB.out
        subst h2
        go_wp2_with fail
        refine (l06Radius_any _ _ _).mono ?_
        rw [hR.out]
        rintro e w' ⟨rfl, rfl⟩
        go_wp2
        exact bodyPost_ret (v := .tuple #[.slice none 0 0, .int .i64 2]) (by simp [results, Try.results27, go_sem]) rfl ⟨_, rfl, irow_nil _ _, HB.out⟩
      have e2 : (R == 2) = false := by simpa using h2
      by_cases h100 : 100 < ps.length
      · obtain rfl : CU = 2 := by rw [← hCU.out, CE.out, if_pos (.inr h100)]
        have UB := Lib.hid (underL_bad (a := a) (r := r) (ps := ps) (by rw [hCU.out]; decide))
        obtain rfl : us = [] := by rw [← HU.out]; exact UB.out
        have h100' : 100 < (ps.length : Int) := by omega
        go_wp2_with fail
        refine (l06Radius_any _ _ _).mono ?_
        rw [hR.out]
        rintro e w' ⟨rfl, rfl⟩
        go_wp2
        exact bodyPost_ret (v := .tuple #[.slice none 0 0, .int .i64 2]) (by simp [results, Try.results27, go_sem]) rfl ⟨_, rfl, irow_nil _ _, HB.out⟩
      have h100' : ¬ 100 < (ps.length : Int) := by omega
      obtain rfl : CU = R := by rw [← hCU.out, CE.out, hR.out, if_neg (by omega)]
      by_cases h0 : CU = 0
      · subst h0
        obtain ⟨a1, a2, r1, r2, r3⟩ := codeR_of hR.out
        have UL := Lib.hid (show underL a r ps = underK (edgeC a r) ps ps.length by unfold underL; rw [if_pos hCU.out])
        have ED := Lib.hid (fun w => l06Edge_any a r w a1 a2 r1 r2 r3)
        obtain ⟨E, hE⟩ : ∃ E, Hid (edgeC a r = E) := ⟨_, Lib.hid rfl⟩
        rw [hE.out] at ED UL
        have UE := Lib.hid (show us = underK E ps ps.length by rw [← HU.out]; exact UL.out)
        clear h2 h100 a1 a2 r1 r2 r3
        go_wp2_with fail
        refine (l06Radius_any _ _ _).mono ?_
        rw [hR.out]
        rintro e w' ⟨rfl, rfl⟩
        go_wp2
        go_loopw [10, 11] (fun u i wx => ∃ k : Nat, k ≤ ps.length ∧ i = .int .i64 (k : Int) ∧ IRow wx W1.heap.size u (underK E ps k) ∧ Below W1.heap.size W1 wx) (fun _ i _ => ps.length - (intOf i).toNat)
        case atStart => exact ⟨0, Nat.zero_le _, rfl, irow_madeK _ _ (Nat.le_refl _), (Below.refl _ _).alloc (Nat.le_refl _) _⟩
        case round =>
          obtain ⟨k, hk, rfl, hr, hb⟩ := hrel
          have HR := Lib.hid hr
          have HB2 := Lib.hid hb
          have hsz2 := hb.size
          have NL := underK_len E ps k
          by_cases hlt : k < ps.length
          · obtain ⟨bb, off, rfl, hbs, c1, c2⟩ := HCL.out k hlt
            have k1 := ((HB.out.trans (hb.mono hsz)).cell (p := ⟨bb, off + k * 2, none⟩) hbs).trans c1
            have hk0 : 0 ≤ (k : Int) := by omega
            have hk1 : (k : Int) < (ps.length : Int) := by omega
            have US := Lib.hid (underK_at (E := E) hlt)
            obtain ⟨ns, hns⟩ : ∃ ns, Hid (underK E ps k = ns) := ⟨_, Lib.hid rfl⟩
            rw [hns.out] at NL HR US
            clear c1 c2 hr hb
            generalize ps[k] = x at k1 US
            obtain ⟨x1, x2⟩ := x
            simp only at k1 US
            by_cases hE2 : E ≤ x1
            · have SM := Lib.hid (show underK E ps (k + 1) = ns ++ [(k : Int)] by rw [US.out, if_pos hE2])
              clear US
              go_wp2
              go_quiet ((go_at_call 62; exact Calls.quiet_of_same ((ED.out _).mono fun _ _ h => ⟨h.1, h.2.symm⟩)))
              go_wp2_with (at_builtin; refine wpList_append_own _ rfl _ _ 27 rfl (W1.heap.size) 2 i0 (.int .i64 0) 1 8 Try.underlying27 hi hz0 hz1 hz2 rfl (by decide) _ ns.length _ rfl (HR.out.alloc _) ⟨wr.heap.size, 0, none⟩ 1 1 [.int .i64 ((k : Int))] rfl rfl (newK _ _ _ (by first | rfl | simp)) (cellK _) (by unfold maxLen; omega) (by omega) (by simp; omega) ?_; intro v4 w4 hown1 hg1 _)
              go_roundw
              case rel => exact ⟨k + 1, by omega, by go_num, by rw [SM.out]; exact snocK hown1, ((bdk HB2.out nq).alloc hsz2 _).grown hg1 (by simp; omega) (fun j hj => (HR.out.lt j hj).1)⟩
              case measure => simp [intOf]; omega
            · have SM := Lib.hid (show underK E ps (k + 1) = ns by rw [US.out, if_neg hE2])
              clear US
              go_wp2
              go_quiet ((go_at_call 62; exact Calls.quiet_of_same ((ED.out _).mono fun _ _ h => ⟨h.1, h.2.symm⟩)))
              go_wp2
              go_roundw
              case rel => exact ⟨k + 1, by omega, by go_num, by rw [SM.out]; exact irow_keep HR.out (bdk (Below.refl _ _) nq), bdk HB2.out nq⟩
              case measure => simp [intOf]; omega
          · obtain rfl : k = ps.length := by omega
            clear hr hb
            go_wp2
            exact bodyPost_ret (v := .tuple #[u10, .int .i64 0]) (by simp [results, Try.results27, go_sem]) rfl ⟨_, rfl, by rw [UE.out]; exact irow_up HR.out hsz, HB.out.trans (HB2.out.mono hsz)⟩
      · have UB := Lib.hid (underL_bad (a := a) (r := r) (ps := ps) (by rw [hCU.out]; exact h0))
        obtain rfl : us = [] := by rw [← HU.out]; exact UB.out
        have e0 : (CU != 0) = true := by simpa using h0
        go_wp2_with fail
        refine (l06Radius_any _ _ _).mono ?_
        rw [hR.out]
        rintro e w' ⟨rfl, rfl⟩
        go_wp2
        exact bodyPost_ret (v := .tuple #[.slice none 0 0, .int .i64 CU]) (by simp [results, Try.results27, go_sem]) rfl ⟨_, rfl, irow_nil _ _, HB.out⟩
end Go.Proofs.Ytiemealkdgnhcaa.sines
