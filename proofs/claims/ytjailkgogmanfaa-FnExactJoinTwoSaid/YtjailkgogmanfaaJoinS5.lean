/- The model's two chains joined: contract. -/
import Derived.Test.YtjailkgogmanfaaJoinS3
namespace Go.Proofs.Ytjailkgogmanfaa.sines
open Go.ChangeShapes Go.WideShapes Go.ChangeAt Go.RowKit Go.Proofs.Ytjailkgogmanfaa.spots Go.Proofs.Ytjailkgogmanfaa.irows Go.Proofs.Ytjailkgogmanfaa.pairsPlace
set_option linter.unusedSimpArgs false
set_option linter.unusedVariables false

set_option maxRecDepth 100000 in
set_option maxHeartbeats 2000000 in
theorem specJoinTwo_any (v u : Value) (ps qs : List (Int × Int)) (w : World) (hv : PAt w w.heap.size v ps) (hu : PAt w w.heap.size u qs) (hcv : CapOk v) (hcu : CapOk u) (hl : ps.length ≤ 1048576) (hm : qs.length ≤ 1048576) :
    Calls Try.prog 22 #[v, u] w fun e w' => ∃ r, e = .returned (.tuple #[r, .int .i64 (codeJ2 ps qs)]) ∧ PRow w' w.heap.size r (joinV ps qs) ∧ Below w.heap.size w w' := by
  have OK1 := Lib.hid (fun W (hb : Below w.heap.size w W) => l07Ok_any v ps W (pat_up (pat_keep hv hb) hb.size) hl)
  have OK2 := Lib.hid (fun W (hb : Below w.heap.size w W) => l07Ok_any u qs W (pat_up (pat_keep hu hb) hb.size) hm)
  have CL1 := Lib.hid (fun W (hb : Below w.heap.size w W) => l10Closed_any v ps W (pat_up (pat_keep hv hb) hb.size) hl)
  have CL2 := Lib.hid (fun W (hb : Below w.heap.size w W) => l10Closed_any u qs W (pat_up (pat_keep hu hb) hb.size) hm)
  have JO := Lib.hid (fun (h1 : okC ps = true) (h2 : okC qs = true) W (hb : Below w.heap.size w W) => l10Join_any v u ps qs W (pat_up (pat_keep hv hb) hb.size) (pat_up (pat_keep hu hb) hb.size) (okC_of h1).1 (okC_of h2).1 (okC_of h1).2.1 (okC_of h2).2.1 hcv hcu)
  obtain ⟨av, cv, rfl, _⟩ := hv
  obtain ⟨au, cu, rfl, _⟩ := hu
  have B0 := Lib.hid (Below.refl w.heap.size w)
  cases h1 : okC ps with
  | false =>
    rw [show codeJ2 ps qs = 1 by simp [codeJ2, h1], show joinV ps qs = [] by simp [joinV, h1]]
    rw [h1] at OK1
    clear hcv hcu
    go_enter Try.func22, Try.ntmps22
    go_wp2_with fail
    refine (OK1.out _ B0.out).mono ?_
    rintro e w1 ⟨rfl, hb⟩
    go_wp2
    exact bodyPost_ret (v := .tuple #[.slice none 0 0, .int .i64 1]) (by simp [results, Try.results22, go_sem]) rfl ⟨_, rfl, prow_nil _ _, hb⟩
  | true =>
    rw [h1] at OK1
    cases h2 : okC qs with
    | false =>
      rw [show codeJ2 ps qs = 1 by simp [codeJ2, h1, h2], show joinV ps qs = [] by simp [joinV, h1, h2]]
      rw [h2] at OK2
      clear hcv hcu
      go_enter Try.func22, Try.ntmps22
      go_wp2_with fail
      refine (OK1.out _ B0.out).mono ?_
      rintro e w1 ⟨rfl, hb⟩
      have B1 := Lib.hid hb
      clear hb
      go_wp2_with fail
      refine (OK2.out _ B1.out).mono ?_
      rintro e w2 ⟨rfl, hb⟩
      have B2 := Lib.hid (B1.out.trans (hb.mono B1.out.size))
      clear hb
      go_wp2
      exact bodyPost_ret (v := .tuple #[.slice none 0 0, .int .i64 1]) (by simp [results, Try.results22, go_sem]) rfl ⟨_, rfl, prow_nil _ _, B2.out⟩
    | true =>
      rw [h2] at OK2
      have JOk := Lib.hid (JO.out h1 h2)
      rw [show codeJ2 ps qs = codeJ ps qs by simp [codeJ2, h1, h2], show joinV ps qs = joinR ps qs by simp [joinV, h1, h2]]
      have EC := Lib.hid (show codeJ ps qs = if (closedB ps || closedB qs) = true then 6 else match joinO ps qs with | none => 10 | some x => if okC x = true then 0 else 5 from rfl)
      have ER := Lib.hid (show joinR ps qs = if codeJ ps qs = 0 then (joinO ps qs).getD [] else [] from rfl)
      obtain ⟨C, hC⟩ : ∃ C, Hid (codeJ ps qs = C) := ⟨_, Lib.hid rfl⟩
      obtain ⟨R, hR⟩ : ∃ R, Hid (joinR ps qs = R) := ⟨_, Lib.hid rfl⟩
      rw [hC.out] at EC ER ⊢
      rw [hR.out] at ER ⊢
      clear hcv hcu hC hR JO
      cases k1 : closedB ps with
      | true =>
        rw [k1] at CL1 EC
        obtain rfl : C = 6 := by simpa using EC.out
        obtain rfl : R = [] := by simpa using ER.out
        clear EC ER
        go_enter Try.func22, Try.ntmps22
        go_wp2_with fail
        refine (OK1.out _ B0.out).mono ?_
        rintro e w1 ⟨rfl, hb⟩
        have B1 := Lib.hid hb
        clear hb
        go_wp2_with fail
        refine (OK2.out _ B1.out).mono ?_
        rintro e w2 ⟨rfl, hb⟩
        have B2 := Lib.hid (B1.out.trans (hb.mono B1.out.size))
        clear hb
        go_wp2_with fail
        refine (CL1.out _ B2.out).mono ?_
        rintro e w3 ⟨rfl, hb⟩
        have B3 := Lib.hid (B2.out.trans (hb.mono B2.out.size))
        clear hb
        go_wp2
        exact bodyPost_ret (v := .tuple #[.slice none 0 0, .int .i64 6]) (by simp [results, Try.results22, go_sem]) rfl ⟨_, rfl, prow_nil _ _, B3.out⟩
      | false =>
        rw [k1] at CL1 EC
        cases k2 : closedB qs with
        | true =>
          rw [k2] at CL2 EC
          obtain rfl : C = 6 := by simpa using EC.out
          obtain rfl : R = [] := by simpa using ER.out
          clear EC ER
          go_enter Try.func22, Try.ntmps22
          go_wp2_with fail
          refine (OK1.out _ B0.out).mono ?_
          rintro e w1 ⟨rfl, hb⟩
          have B1 := Lib.hid hb
          clear hb
          go_wp2_with fail
          refine (OK2.out _ B1.out).mono ?_
          rintro e w2 ⟨rfl, hb⟩
          have B2 := Lib.hid (B1.out.trans (hb.mono B1.out.size))
          clear hb
          go_wp2_with fail
          refine (CL1.out _ B2.out).mono ?_
          rintro e w3 ⟨rfl, hb⟩
          have B3 := Lib.hid (B2.out.trans (hb.mono B2.out.size))
          clear hb
          go_wp2_with fail
          refine (CL2.out _ B3.out).mono ?_
          rintro e w4 ⟨rfl, hb⟩
          have B4 := Lib.hid (B3.out.trans (hb.mono B3.out.size))
          clear hb
          go_wp2
          exact bodyPost_ret (v := .tuple #[.slice none 0 0, .int .i64 6]) (by simp [results, Try.results22, go_sem]) rfl ⟨_, rfl, prow_nil _ _, B4.out⟩
        | false =>
          rw [k2] at CL2 EC
          cases kj : joinO ps qs with
          | none =>
            rw [kj] at EC JOk
            obtain rfl : C = 10 := by simpa using EC.out
            obtain rfl : R = [] := by simpa using ER.out
            simp only [Option.isSome_none, Option.getD_none] at JOk
            clear EC ER
            go_enter Try.func22, Try.ntmps22
            go_wp2_with fail
            refine (OK1.out _ B0.out).mono ?_
            rintro e w1 ⟨rfl, hb⟩
            have B1 := Lib.hid hb
            clear hb
            go_wp2_with fail
            refine (OK2.out _ B1.out).mono ?_
            rintro e w2 ⟨rfl, hb⟩
            have B2 := Lib.hid (B1.out.trans (hb.mono B1.out.size))
            clear hb
            go_wp2_with fail
            refine (CL1.out _ B2.out).mono ?_
            rintro e w3 ⟨rfl, hb⟩
            have B3 := Lib.hid (B2.out.trans (hb.mono B2.out.size))
            clear hb
            go_wp2_with fail
            refine (CL2.out _ B3.out).mono ?_
            rintro e w4 ⟨rfl, hb⟩
            have B4 := Lib.hid (B3.out.trans (hb.mono B3.out.size))
            clear hb
            go_wp2_with fail
            refine (JOk.out _ B4.out).mono ?_
            rintro e w5 ⟨r, rfl, hr, hb⟩
            have B5 := Lib.hid (B4.out.trans (hb.mono B4.out.size))
            obtain ⟨ar, cr, er, _⟩ := prow_at hr
            subst er
            clear hb hr
            go_wp2
            exact bodyPost_ret (v := .tuple #[.slice none 0 0, .int .i64 10]) (by simp [results, Try.results22, go_sem]) rfl ⟨_, rfl, prow_nil _ _, B5.out⟩
          | some x =>
            rw [kj] at EC JOk ER
            simp only [Option.isSome_some, Option.getD_some] at JOk ER
            have hx : x.length ≤ 48 := by
              have := joinO_len (a := ps) (b := qs) (by have := (okC_of h1).1; omega) (by have := (okC_of h2).1; omega) kj
              have := (okC_of h1).2.1
              have := (okC_of h2).2.1
              omega
            have EX := Lib.hid (show C = if okC x = true then 0 else 5 by simpa using EC.out)
            clear EC
            obtain ⟨bx, hbx⟩ : ∃ b, Hid (okC x = b) := ⟨_, Lib.hid rfl⟩
            rw [hbx.out] at EX
            cases bx with
            | true =>
              obtain rfl : C = 0 := by simpa using EX.out
              obtain rfl : R = x := by simpa using ER.out
              clear EX ER
              go_enter Try.func22, Try.ntmps22
              go_wp2_with fail
              refine (OK1.out _ B0.out).mono ?_
              rintro e w1 ⟨rfl, hb⟩
              have B1 := Lib.hid hb
              clear hb
              go_wp2_with fail
              refine (OK2.out _ B1.out).mono ?_
              rintro e w2 ⟨rfl, hb⟩
              have B2 := Lib.hid (B1.out.trans (hb.mono B1.out.size))
              clear hb
              go_wp2_with fail
              refine (CL1.out _ B2.out).mono ?_
              rintro e w3 ⟨rfl, hb⟩
              have B3 := Lib.hid (B2.out.trans (hb.mono B2.out.size))
              clear hb
              go_wp2_with fail
              refine (CL2.out _ B3.out).mono ?_
              rintro e w4 ⟨rfl, hb⟩
              have B4 := Lib.hid (B3.out.trans (hb.mono B3.out.size))
              clear hb
              go_wp2_with fail
              refine (JOk.out _ B4.out).mono ?_
              rintro e w5 ⟨r, rfl, hr, hb⟩
              have B5 := Lib.hid (B4.out.trans (hb.mono B4.out.size))
              have HR := Lib.hid (prow_up hr B4.out.size)
              have PR := Lib.hid (prow_at hr)
              obtain ⟨ar, cr, er, _⟩ := prow_at hr
              subst er
              clear hb hr
              go_wp2_with fail
              refine (l07Ok_any _ _ _ PR.out (by omega)).mono ?_
              rw [hbx.out]
              rintro e w6 ⟨rfl, hb⟩
              have B6 := Lib.hid (B5.out.trans (hb.mono B5.out.size))
              have HR6 := Lib.hid (prow_keep HR.out hb)
              clear hb
              go_wp2
              exact bodyPost_ret (v := .tuple #[.slice ar R.length cr, .int .i64 0]) (by simp [results, Try.results22, go_sem]) rfl ⟨_, rfl, HR6.out, B6.out⟩
            | false =>
              obtain rfl : C = 5 := by simpa using EX.out
              obtain rfl : R = [] := by simpa using ER.out
              clear EX ER
              go_enter Try.func22, Try.ntmps22
              go_wp2_with fail
              refine (OK1.out _ B0.out).mono ?_
              rintro e w1 ⟨rfl, hb⟩
              have B1 := Lib.hid hb
              clear hb
              go_wp2_with fail
              refine (OK2.out _ B1.out).mono ?_
              rintro e w2 ⟨rfl, hb⟩
              have B2 := Lib.hid (B1.out.trans (hb.mono B1.out.size))
              clear hb
              go_wp2_with fail
              refine (CL1.out _ B2.out).mono ?_
              rintro e w3 ⟨rfl, hb⟩
              have B3 := Lib.hid (B2.out.trans (hb.mono B2.out.size))
              clear hb
              go_wp2_with fail
              refine (CL2.out _ B3.out).mono ?_
              rintro e w4 ⟨rfl, hb⟩
              have B4 := Lib.hid (B3.out.trans (hb.mono B3.out.size))
              clear hb
              go_wp2_with fail
              refine (JOk.out _ B4.out).mono ?_
              rintro e w5 ⟨r, rfl, hr, hb⟩
              have B5 := Lib.hid (B4.out.trans (hb.mono B4.out.size))
              have PR := Lib.hid (prow_at hr)
              obtain ⟨ar, cr, er, _⟩ := prow_at hr
              subst er
              clear hb hr
              go_wp2_with fail
              refine (l07Ok_any _ _ _ PR.out (by omega)).mono ?_
              rw [hbx.out]
              rintro e w6 ⟨rfl, hb⟩
              have B6 := Lib.hid (B5.out.trans (hb.mono B5.out.size))
              clear hb
              go_wp2
              exact bodyPost_ret (v := .tuple #[.slice none 0 0, .int .i64 5]) (by simp [results, Try.results22, go_sem]) rfl ⟨_, rfl, prow_nil _ _, B6.out⟩
end Go.Proofs.Ytjailkgogmanfaa.sines
