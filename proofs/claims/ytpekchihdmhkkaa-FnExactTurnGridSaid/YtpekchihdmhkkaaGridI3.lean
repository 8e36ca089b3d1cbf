/- The program's turned grids: contract. -/
import Derived.Test.YtpekchihdmhkkaaGridI2
import Derived.Test.YtpekchihdmhkkaaGridS3
namespace Go.Proofs.Ytpekchihdmhkkaa.stab
open Go.ChangeShapes Go.WideShapes Go.ChangeAt Go.RowKit Go.Proofs.Ytpekchihdmhkkaa.split Go.Proofs.Ytpekchihdmhkkaa.sines Go.Proofs.Ytpekchihdmhkkaa.names
set_option linter.unusedSimpArgs false
set_option linter.unusedVariables false

theorem codeTG_eq (ps : List ByteArray) (cells : Int) : (if okG ps = false then 1 else if inB cells (-1000) 1000 = false then 2 else 0) = codeTG ps cells := by
  unfold codeTG
  cases okG ps <;> cases inB cells (-1000) 1000 <;> rfl
set_option maxRecDepth 100000 in
set_option maxHeartbeats 4000000 in
theorem implTurnGrid_any (v : Value) (ps : List ByteArray) (cells : Int) (w : World) (hv : SAt w w.heap.size v ps) (hl : ps.length ≤ 1048576) (hr : ∀ i, i < ps.length → (sAt ps i).size ≤ 1048576) :
    Calls Try.prog 33 #[v, .int .i64 cells] w fun e w' => ∃ r, e = .returned (.tuple #[r, .int .i64 (codeTG ps cells)]) ∧ SRow w' w.heap.size r (valTG ps cells) ∧ Below w.heap.size w w' := by
  have VG := Lib.hid (implValidGrid_any v ps w hv hl hr)
  have CO := Lib.hid (fun W => codeOf_any (okG ps) (inB cells (-1000) 1000) W)
  rw [codeTG_eq] at CO
  have HV := Lib.hid hv
  obtain ⟨ar, c, rfl, _, hcl⟩ := hv
  have HCL := Lib.hid hcl
  clear hl hr hcl
  by_cases h0 : okTG ps cells = true
  · have h0' : okG ps = true ∧ inB cells (-1000) 1000 = true := by simpa [okTG] using h0
    have g := grid_of h0'.1
    have hc := inB_of h0'.2
    have EC : codeTG ps cells = 0 := by unfold codeTG; rw [if_pos h0'.1, if_pos h0'.2]
    unfold valTG
    rw [EC] at CO ⊢
    rw [if_pos h0]
    have hpN : 0 < ps.length := g.m1
    have hm2 := g.m2
    have hn1 := g.n1
    have hn2 := g.n2
    have HS := Lib.hid g.size
    obtain ⟨b0, off0, rfl, hb0, z0⟩ := HCL.out 0 (by omega)
    rw [Nat.add_zero] at z0
    have ETG := Lib.hid (show (ps.map fun s => cutAt s (fromTG (wideG ps) cells)) = rowS ps.length fun i => cutAt (sAt ps i) (fromTG (wideG ps) cells) from by
      have e := rowS_sAt ps
      unfold rowS at e ⊢
      have e2 : (ps.map fun s => cutAt s (fromTG (wideG ps) cells)) = ((List.range ps.length).map (sAt ps)).map fun s => cutAt s (fromTG (wideG ps) cells) := by rw [e]
      rw [e2, List.map_map]
      rfl)
    rw [ETG.out]
    unfold wideG
    obtain ⟨n, hn⟩ : ∃ n, Hid ((sAt ps 0).size = n) := ⟨_, Lib.hid rfl⟩
    rw [hn.out] at HS hn1 hn2
    have hzn : ((sAt ps 0).size : Int) = (n : Int) := by rw [hn.out]
    rw [hn.out]
    generalize sAt ps 0 = s0 at z0 hzn
    have hp0 : (0 : Int) < (ps.length : Int) := by omega
    have hml : (ps.length : Int) ≤ 16 := by omega
    have hn1i : (0 : Int) < (n : Int) := by omega
    have hn2i : (n : Int) ≤ 32 := by omega
    obtain ⟨a, ha⟩ : ∃ a, Hid (fromTG n cells = a) := ⟨_, Lib.hid rfl⟩
    rw [ha.out]
    have e1 := Int.emod_nonneg (-cells) (show (n : Int) ≠ 0 by omega)
    have e2 := Int.emod_lt_of_pos (-cells) hn1i
    have haI : (-cells) % (n : Int) = (a : Int) := by rw [← ha.out]; unfold fromTG; omega
    have han : (a : Int) < (n : Int) := by omega
    have hdiv : -cells - (-cells) / (n : Int) * (n : Int) = (a : Int) := by
      have := Int.mul_ediv_add_emod (-cells) (n : Int)
      rw [Int.mul_comm] at this
      omega
    have HD := Lib.hid hdiv
    have hneg : IntKind.i64.wrap (-cells) = -cells := IntWalk.i64_in _ (by omega)
    have hwa : IntKind.i64.wrap (a : Int) = (a : Int) := IntWalk.i64_in _ (by omega)
    have hwm : IntKind.i64.wrap ((-cells) / (n : Int) * (n : Int)) = (-cells) / (n : Int) * (n : Int) := IntWalk.i64_in _ (by omega)
    have FQ := Lib.hid (fun W => floorQuotient_any (-cells) (n : Int) W hn1i (by omega) (by omega) (by omega))
    rw [h0'.2] at CO
    have HIN := Lib.hid h0'.2
    generalize okG ps = o1 at VG CO
    clear h0'
    obtain ⟨i0, hi, hz0, hz1, hz2⟩ := info_partsT info_str2
    clear g EC h0 ETG e1 e2 haI
    go_enter Try.func33, Try.ntmps33
    go_wp2_with fail
    refine VG.out.mono ?_
    rintro e w1 ⟨rfl, hb1⟩
    have HB1 := Lib.hid hb1
    have u0 := (hb1.cell (p := ⟨b0, off0, none⟩) hb0).trans z0
    have hz1w := hb1.size
    clear hb1 z0
    go_wp2_with fail
    refine (within_any _ _ _ _).mono ?_
    rw [HIN.out]
    rintro e w' ⟨rfl, rfl⟩
    go_wp2_with fail
    refine (CO.out _).mono ?_
    rintro e w' ⟨rfl, rfl⟩
    obtain ⟨w2, hmk1, hown1, hg1⟩ := run_make_full (P := Try.prog) (w := w') w'.heap.size 22 9 i0 (.string ByteArray.empty) 1 Try.underlying22 hi hz0 hz1 .i64 .i64 ps.length (by rw [hz2]; omega) (by unfold maxLen; omega) (by simp)
    have R1 := Lib.hid (rowT_start hown1)
    have B1 := Lib.hid (show Below w'.heap.size w' w2 from (Below.refl _ _).grown hg1 (by simp) (by simp))
    clear hown1 hg1
    go_wp2_with fail
    refine (FQ.out _).mono ?_
    rintro e w'' ⟨rfl, rfl⟩
    go_wp2
    clear hmk1 hdiv hneg hwm u0
    obtain ⟨wb, hwb⟩ : ∃ x, Hid (x = w') := ⟨_, Lib.hid rfl⟩
    go_loopw [38] (fun i wr => ∃ k : Nat, k ≤ ps.length ∧ i = .int .i64 (k : Int) ∧ RowT wr w'.heap.size w'.heap.size ps.length (fun j => if j < k then cutAt (sAt ps j) a else ByteArray.empty) ∧ Below w'.heap.size w' wr) (fun i _ => ps.length - (intOf i).toNat)
    case atStart => exact ⟨0, Nat.zero_le _, rfl, rowT_congr R1.out (fun j _ => by simp), B1.out⟩
    case round =>
      obtain ⟨k, hk, rfl, hr, hb⟩ := hrel
      have HR := Lib.hid hr
      have HB := Lib.hid hb
      by_cases hlt : k < ps.length
      · obtain ⟨bb, off, e1, hbs, c1⟩ := HCL.out k hlt
        obtain ⟨rfl, rfl⟩ : b0 = bb ∧ off0 = off := by simpa using e1
        have hbw : b0 < w'.heap.size := by omega
        have u1 := (hb.cell (p := ⟨b0, off0 + k, none⟩) hbw).trans ((HB1.out.cell (p := ⟨b0, off0 + k, none⟩) hbs).trans c1)
        obtain ⟨ck, fk⟩ := rowT_cell HR.out (k := k) hlt
        rw [if_neg (by omega)] at ck
        have hk0 : 0 ≤ (k : Int) := by omega
        have hk1 : (k : Int) < (ps.length : Int) := by omega
        have hsz := HS.out k hlt
        have ST := Lib.hid (show ∀ V : World, RowT V w'.heap.size w'.heap.size ps.length (fun j => if j < k then cutAt (sAt ps j) a else ByteArray.empty) → RowT (V.setCell ⟨w'.heap.size, k, none⟩ (.string (cutAt (sAt ps k) a))) w'.heap.size w'.heap.size ps.length (fun j => if j < k + 1 then cutAt (sAt ps j) a else ByteArray.empty) from fun V hV => rowT_congr (rowT_store hV (k := k) hlt (cutAt (sAt ps k) a)) (fun j _ => by
          by_cases e : j = k
          · subst e; simp
          · by_cases e2 : j < k
            · simp [e, e2, show j < k + 1 by omega]
            · simp [e, e2, show ¬ j < k + 1 by omega]))
        generalize sAt ps k = s at u1 hsz ST
        have ha1 : a ≤ s.size := by omega
        have ha2 : (a : Int) ≤ (s.size : Int) := by omega
        have hlim : s.size ≤ 32 := by omega
        have hov2 : ¬ 9223372036854775807 < s.size - a + min a s.size := by omega
        have hov3 : ¬ 9223372036854775807 < s.size - a + a := by omega
        have hov4 : ¬ 9223372036854775807 < s.size := by omega
        have hcat : s.extract a s.size ++ s.extract 0 a = cutAt s a := rfl
        have HSS := Lib.hid hsz
        have ck2 : wr.drew.cell? ⟨w'.heap.size, k, none⟩ = some (.string ByteArray.empty) := ck
        have fk2 : wr.drew.frozen? ⟨w'.heap.size, k, none⟩ = false := fk
        have HR2 := Lib.hid (show RowT wr.drew w'.heap.size w'.heap.size ps.length _ from srow_heap HR.out rfl)
        have HB2 := Lib.hid (show Below w'.heap.size w' wr.drew from HB.out.drew)
        clear hr hb c1 e1 hsz
        go_wp2_with fail
        go_still_tail 10, (by kernel_rfl)
        change wpList _ _ _ _ _ wr.drew
        clear ck fk u1
        generalize wr.drew = V' at *
        go_wp2
        try simp only [hcat]
        go_roundw
        case rel => exact ⟨k + 1, by omega, by go_num, ST.out _ HR2.out, HB2.out.setCell (p := ⟨w'.heap.size, k, none⟩) (Nat.le_refl _) _⟩
        case measure => simp [intOf]; omega
      · obtain rfl : k = ps.length := by omega
        have HE := Lib.hid (show SRow wr w'.heap.size (.slice (some ⟨w'.heap.size, 0, none⟩) ps.length ps.length) (rowS ps.length fun i => cutAt (sAt ps i) a) from by
          have := rowT_congr (f' := fun i => cutAt (sAt ps i) a) hr (fun j hj => by simp [hj])
          exact this)
        clear hr hb
        go_wp2
        exact bodyPost_ret (v := .tuple #[.slice (some ⟨w'.heap.size, 0, none⟩) ps.length ps.length, .int .i64 0]) (by simp [results, Try.results33, go_sem]) rfl ⟨_, rfl, srow_up HE.out hz1w, HB1.out.trans (HB.out.mono hz1w)⟩
  · have EC : (codeTG ps cells != 0) = true := by
      unfold codeTG okTG at *
      cases o1 : okG ps <;> cases o2 : inB cells (-1000) 1000 <;> simp_all
    unfold valTG
    rw [if_neg h0]
    generalize codeTG ps cells = cd at CO EC ⊢
    obtain ⟨o2, ho2⟩ : ∃ o, Hid (inB cells (-1000) 1000 = o) := ⟨_, Lib.hid rfl⟩
    rw [ho2.out] at CO
    generalize okG ps = o1 at VG CO
    clear h0
    go_enter Try.func33, Try.ntmps33
    go_wp2_with fail
    refine VG.out.mono ?_
    rintro e w1 ⟨rfl, hb1⟩
    have HB1 := Lib.hid hb1
    clear hb1
    go_wp2_with fail
    refine (within_any _ _ _ _).mono ?_
    rw [ho2.out]
    rintro e w' ⟨rfl, rfl⟩
    go_wp2_with fail
    refine (CO.out _).mono ?_
    rintro e w' ⟨rfl, rfl⟩
    go_wp2
    exact bodyPost_ret (v := .tuple #[.slice none 0 0, .int .i64 cd]) (by simp [results, Try.results33, go_sem]) rfl ⟨_, rfl, ⟨rfl, .inl ⟨rfl, rfl⟩⟩, HB1.out⟩
end Go.Proofs.Ytpekchihdmhkkaa.stab
