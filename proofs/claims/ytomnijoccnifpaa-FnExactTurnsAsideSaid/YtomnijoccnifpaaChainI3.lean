/- The program's chains: sides. -/
import Derived.Test.YtomnijoccnifpaaChainI2
import Derived.Test.YtomnijoccnifpaaChainS6
namespace Go.Proofs.Ytomnijoccnifpaa.sines
open Go.ChangeShapes Go.WideShapes Go.ChangeAt Go.RowKit Go.Proofs.Ytomnijoccnifpaa.spots Go.Proofs.Ytomnijoccnifpaa.irows Go.Proofs.Ytomnijoccnifpaa.pairsPlace
set_option linter.unusedSimpArgs false
set_option linter.unusedVariables false

set_option maxRecDepth 100000 in
set_option maxHeartbeats 4000000 in
theorem implTurnsAside_any (v : Value) (ps : List (Int × Int)) (w : World) (hv : PAt w w.heap.size v ps) (hl : ps.length ≤ 1048576) :
    Calls Try.prog 15 #[v] w fun e w' => e = .returned (.tuple #[.int .i64 (leftV ps), .int .i64 (rightV ps), .int .i64 (code1 ps)]) ∧ Below w.heap.size w w' := by
  have HV := Lib.hid hv
  obtain ⟨ar, c, rfl, hcl⟩ := hv
  have HCL := Lib.hid hcl
  clear hcl
  cases hok : okC ps with
  | false =>
    rw [show code1 ps = 1 by simp [code1, hok], show leftV ps = 0 by simp [leftV, hok], show rightV ps = 0 by simp [rightV, hok]]
    go_enter Try.func15, Try.ntmps15
    go_wp2_with (first | (go_at_call 19; refine (implValidChain_any _ ps _ HV.out hl).mono ?_; rw [hok]; rintro e w1 ⟨rfl, hb⟩))
    exact bodyPost_ret (v := .tuple #[.int .i64 0, .int .i64 0, .int .i64 1]) (by simp [results, Try.results15, go_sem]) rfl ⟨rfl, hb⟩
  | true =>
    rw [show code1 ps = 0 by simp [code1, hok], show leftV ps = (leftN ps ps.length : Int) by simp [leftV, hok], show rightV ps = (rightN ps ps.length : Int) by simp [rightV, hok]]
    obtain ⟨q1, q2, q3⟩ := okC_of hok
    have HO := Lib.hid q3
    clear q3
    have hl2 : (ps.length : Int) ≤ 24 := by omega
    have hl3 : 2 ≤ (ps.length : Int) := by omega
    obtain ⟨z, hz⟩ : ∃ z : Nat, Hid (ps.length - 1 = z) := ⟨_, Lib.hid rfl⟩
    have ez : (ps.length : Int) - 1 = (z : Int) := by have := hz.out; omega
    have kz : IntKind.i64.wrap (z : Int) = (z : Int) := IntWalk.i64_in _ (by omega)
    have hz0 : 0 ≤ (z : Int) := by omega
    have hz1 : (z : Int) < (ps.length : Int) := by omega
    have hp0 : (0 : Int) < (ps.length : Int) := by omega
    have hpn : 0 < ps.length := by omega
    obtain ⟨bb, off, ra, hbs, a1, a2⟩ := HCL.out 0 (by omega)
    subst ra
    obtain ⟨bz, oz, rz, hbz, b1, b2⟩ := HCL.out z (by omega)
    simp only [Option.some.injEq, Addr.mk.injEq, and_true] at rz
    obtain ⟨rfl, rfl⟩ := rz
    rw [pat_of (by omega)] at a1 a2 b1 b2
    simp only [Nat.zero_mul, Nat.add_zero] at a1 a2
    have ok0 := HO.out 0 (by omega)
    have okz := HO.out z (by omega)
    have LS := Lib.hid (fun k (h : k < ps.length) => leftN_succ (ps := ps) h)
    have RS := Lib.hid (fun k (h : k < ps.length) => rightN_succ (ps := ps) h)
    rw [hz.out] at LS RS
    go_enter Try.func15, Try.ntmps15
    go_wp2_with (first | (go_at_call 19; refine (implValidChain_any _ ps _ HV.out hl).mono ?_; rw [hok]; rintro e w1 ⟨rfl, hb⟩; have HB1 := Lib.hid hb; clear hb))
    go_loopw [5, 6, 15] (fun x y i wr => ∃ k l r : Nat, k ≤ ps.length ∧ i = .int .i64 (k : Int) ∧ leftN ps k = l ∧ rightN ps k = r ∧ l ≤ k ∧ r ≤ k ∧ x = .int .i64 (l : Int) ∧ y = .int .i64 (r : Int) ∧ Below w.heap.size w wr) (fun _ _ i _ => ps.length - (intOf i).toNat)
    case atStart => exact ⟨0, 0, 0, Nat.zero_le _, rfl, rfl, rfl, Nat.le_refl _, Nat.le_refl _, rfl, rfl, HB1.out⟩
    case round =>
      obtain ⟨k, l, r, hk, rfl, hL, hR, hlk, hrk, rfl, rfl, hb⟩ := hrel
      have HB := Lib.hid hb
      have HLL := Lib.hid hL
      have HRR := Lib.hid hR
      have hsz := hb.size
      clear hL hR
      by_cases hlt : k < ps.length
      · obtain ⟨bk, ok, rk, hbk, c1, c2⟩ := HCL.out k hlt
        simp only [Option.some.injEq, Addr.mk.injEq, and_true] at rk
        obtain ⟨rfl, rfl⟩ := rk
        rw [pat_of hlt] at c1 c2
        have u1 := (hb.cell (p := ⟨bb, off, none⟩) hbs).trans a1
        have u2 := (hb.cell (p := ⟨bb, off + 1, none⟩) hbs).trans a2
        have u3 := (hb.cell (p := ⟨bb, off + z * 2, none⟩) hbs).trans b1
        have u4 := (hb.cell (p := ⟨bb, off + z * 2 + 1, none⟩) hbs).trans b2
        have u5 := (hb.cell (p := ⟨bb, off + k * 2, none⟩) hbs).trans c1
        have u6 := (hb.cell (p := ⟨bb, off + k * 2 + 1, none⟩) hbs).trans c2
        have hbw : bb < wr.heap.size := by omega
        have hk0 : 0 ≤ (k : Int) := by omega
        have hk1 : (k : Int) < (ps.length : Int) := by omega
        have okk := HO.out k hlt
        have CR := Lib.hid (fun W0 W hw => sideOf_rel (pAt ps 0).1 (pAt ps 0).2 (pAt ps z).1 (pAt ps z).2 (pAt ps k).1 (pAt ps k).2 W0 W hw ok0 okz okk)
        have eC : crossI ((pAt ps 0).1, (pAt ps 0).2) ((pAt ps z).1, (pAt ps z).2) ((pAt ps k).1, (pAt ps k).2) = crossI (pAt ps 0) (pAt ps z) (pAt ps k) := rfl
        rw [eC] at CR
        have L1 := Lib.hid (LS.out k hlt)
        have R1 := Lib.hid (RS.out k hlt)
        have kl : IntKind.i64.wrap ((l : Int) + 1) = (l : Int) + 1 := IntWalk.i64_in _ (by omega)
        have kr : IntKind.i64.wrap ((r : Int) + 1) = (r : Int) + 1 := IntWalk.i64_in _ (by omega)
        clear hb c1 c2 eC
        generalize crossI (pAt ps 0) (pAt ps z) (pAt ps k) = C at CR L1 R1
        generalize (pAt ps 0).1 = x1 at u1 CR
        generalize (pAt ps 0).2 = x2 at u2 CR
        generalize (pAt ps z).1 = y1 at u3 CR
        generalize (pAt ps z).2 = y2 at u4 CR
        generalize (pAt ps k).1 = z1 at u5 CR
        generalize (pAt ps k).2 = z2 at u6 CR
        rw [HLL.out] at L1
        rw [HRR.out] at R1
        rcases Int.lt_trichotomy C 0 with hC | hC | hC
        · have hC1 : ¬ 0 < C := by omega
          have E1 := Lib.hid (show leftN ps (k + 1) = l by rw [L1.out, if_neg hC1, Nat.add_zero])
          have E2 := Lib.hid (show rightN ps (k + 1) = r + 1 by rw [R1.out, if_pos hC])
          have nz : wr.heap.size < (wr.alloc (.cells #[.int .i64 z1, .int .i64 z2] 31)).heap.size := by simp
          have hbx : bb < (wr.alloc (.cells #[.int .i64 z1, .int .i64 z2] 31)).heap.size := by simp; omega
          have B5 := Lib.hid ((Below.refl wr.heap.size wr).alloc (Nat.le_refl _) (.cells #[.int .i64 z1, .int .i64 z2] 31))
          have m1 := (B5.out.cell (p := ⟨bb, off, none⟩) hbw).trans u1
          have m2 := (B5.out.cell (p := ⟨bb, off + 1, none⟩) hbw).trans u2
          have m3 := (B5.out.cell (p := ⟨bb, off + z * 2, none⟩) hbw).trans u3
          have m4 := (B5.out.cell (p := ⟨bb, off + z * 2 + 1, none⟩) hbw).trans u4
          have m5 : (wr.alloc (.cells #[.int .i64 z1, .int .i64 z2] 31)).cell? ⟨wr.heap.size, 0, none⟩ = some (.int .i64 z1) := by simp
          have m6 : (wr.alloc (.cells #[.int .i64 z1, .int .i64 z2] 31)).cell? ⟨wr.heap.size, 1, none⟩ = some (.int .i64 z2) := by simp
          go_wp2_with fail
          go_region_held3 (fun W => W.cell? ⟨bb, off, none⟩ = some (.int .i64 x1) ∧ W.cell? ⟨bb, off + 1, none⟩ = some (.int .i64 x2) ∧ W.cell? ⟨bb, off + z * 2, none⟩ = some (.int .i64 y1) ∧ W.cell? ⟨bb, off + z * 2 + 1, none⟩ = some (.int .i64 y2) ∧ W.cell? ⟨wr.heap.size, 0, none⟩ = some (.int .i64 z1) ∧ W.cell? ⟨wr.heap.size, 1, none⟩ = some (.int .i64 z2)) (first | exact ⟨m1, m2, m3, m4, m5, m6⟩ | exact ⟨n1, n2, n3, n4, n5, n6⟩ | (simp [go_sem]; first | exact ⟨m1, m2, m3, m4, m5, m6⟩ | exact ⟨n1, n2, n3, n4, n5, n6⟩)) (first | (go_at_call 40; refine (CR.out (wr.alloc (.cells #[.int .i64 z1, .int .i64 z2] 31)) _ (by repeat (first | assumption | exact Below.refl _ _ | refine Below.drew ?_ | refine bdP ?_ _))).mono ?_; rintro e w2 ⟨rfl, hb2⟩; have n1 := (hb2.cell (p := ⟨bb, off, none⟩) hbx).trans m1; have n2 := (hb2.cell (p := ⟨bb, off + 1, none⟩) hbx).trans m2; have n3 := (hb2.cell (p := ⟨bb, off + z * 2, none⟩) hbx).trans m3; have n4 := (hb2.cell (p := ⟨bb, off + z * 2 + 1, none⟩) hbx).trans m4; have n5 := (hb2.cell (p := ⟨wr.heap.size, 0, none⟩) nz).trans m5; have n6 := (hb2.cell (p := ⟨wr.heap.size, 1, none⟩) nz).trans m6))
          all_goals
            have HB2 := Lib.hid ((HB.out.trans (B5.out.mono hsz)).trans (hb2.mono (by simp; omega)))
            clear hb2
            go_wp2
            go_roundw
            case rel => exact ⟨k + 1, l, r + 1, by omega, by go_num, E1.out, E2.out, by omega, by omega, rfl, by go_num, (by first | exact HB2.out | exact bdP HB2.out _ | exact bdrew HB2.out)⟩
            case measure => simp [intOf]; omega
        · have hC1 : ¬ 0 < C := by omega
          have hC2 : ¬ C < 0 := by omega
          have E1 := Lib.hid (show leftN ps (k + 1) = l by rw [L1.out, if_neg hC1, Nat.add_zero])
          have E2 := Lib.hid (show rightN ps (k + 1) = r by rw [R1.out, if_neg hC2, Nat.add_zero])
          subst hC
          have nz : wr.heap.size < (wr.alloc (.cells #[.int .i64 z1, .int .i64 z2] 31)).heap.size := by simp
          have hbx : bb < (wr.alloc (.cells #[.int .i64 z1, .int .i64 z2] 31)).heap.size := by simp; omega
          have B5 := Lib.hid ((Below.refl wr.heap.size wr).alloc (Nat.le_refl _) (.cells #[.int .i64 z1, .int .i64 z2] 31))
          have m1 := (B5.out.cell (p := ⟨bb, off, none⟩) hbw).trans u1
          have m2 := (B5.out.cell (p := ⟨bb, off + 1, none⟩) hbw).trans u2
          have m3 := (B5.out.cell (p := ⟨bb, off + z * 2, none⟩) hbw).trans u3
          have m4 := (B5.out.cell (p := ⟨bb, off + z * 2 + 1, none⟩) hbw).trans u4
          have m5 : (wr.alloc (.cells #[.int .i64 z1, .int .i64 z2] 31)).cell? ⟨wr.heap.size, 0, none⟩ = some (.int .i64 z1) := by simp
          have m6 : (wr.alloc (.cells #[.int .i64 z1, .int .i64 z2] 31)).cell? ⟨wr.heap.size, 1, none⟩ = some (.int .i64 z2) := by simp
          go_wp2_with fail
          go_region_held3 (fun W => W.cell? ⟨bb, off, none⟩ = some (.int .i64 x1) ∧ W.cell? ⟨bb, off + 1, none⟩ = some (.int .i64 x2) ∧ W.cell? ⟨bb, off + z * 2, none⟩ = some (.int .i64 y1) ∧ W.cell? ⟨bb, off + z * 2 + 1, none⟩ = some (.int .i64 y2) ∧ W.cell? ⟨wr.heap.size, 0, none⟩ = some (.int .i64 z1) ∧ W.cell? ⟨wr.heap.size, 1, none⟩ = some (.int .i64 z2)) (first | exact ⟨m1, m2, m3, m4, m5, m6⟩ | exact ⟨n1, n2, n3, n4, n5, n6⟩ | (simp [go_sem]; first | exact ⟨m1, m2, m3, m4, m5, m6⟩ | exact ⟨n1, n2, n3, n4, n5, n6⟩)) (first | (go_at_call 40; refine (CR.out (wr.alloc (.cells #[.int .i64 z1, .int .i64 z2] 31)) _ (by repeat (first | assumption | exact Below.refl _ _ | refine Below.drew ?_ | refine bdP ?_ _))).mono ?_; rintro e w2 ⟨rfl, hb2⟩; have n1 := (hb2.cell (p := ⟨bb, off, none⟩) hbx).trans m1; have n2 := (hb2.cell (p := ⟨bb, off + 1, none⟩) hbx).trans m2; have n3 := (hb2.cell (p := ⟨bb, off + z * 2, none⟩) hbx).trans m3; have n4 := (hb2.cell (p := ⟨bb, off + z * 2 + 1, none⟩) hbx).trans m4; have n5 := (hb2.cell (p := ⟨wr.heap.size, 0, none⟩) nz).trans m5; have n6 := (hb2.cell (p := ⟨wr.heap.size, 1, none⟩) nz).trans m6))
          all_goals
            have HB2 := Lib.hid ((HB.out.trans (B5.out.mono hsz)).trans (hb2.mono (by simp; omega)))
            clear hb2
            go_wp2
            go_roundw
            case rel => exact ⟨k + 1, l, r, by omega, by go_num, E1.out, E2.out, by omega, by omega, rfl, rfl, (by first | exact HB2.out | exact bdP HB2.out _ | exact bdrew HB2.out)⟩
            case measure => simp [intOf]; omega
        · have hC2 : ¬ C < 0 := by omega
          have E1 := Lib.hid (show leftN ps (k + 1) = l + 1 by rw [L1.out, if_pos hC])
          have E2 := Lib.hid (show rightN ps (k + 1) = r by rw [R1.out, if_neg hC2, Nat.add_zero])
          have nz : wr.heap.size < (wr.alloc (.cells #[.int .i64 z1, .int .i64 z2] 31)).heap.size := by simp
          have hbx : bb < (wr.alloc (.cells #[.int .i64 z1, .int .i64 z2] 31)).heap.size := by simp; omega
          have B5 := Lib.hid ((Below.refl wr.heap.size wr).alloc (Nat.le_refl _) (.cells #[.int .i64 z1, .int .i64 z2] 31))
          have m1 := (B5.out.cell (p := ⟨bb, off, none⟩) hbw).trans u1
          have m2 := (B5.out.cell (p := ⟨bb, off + 1, none⟩) hbw).trans u2
          have m3 := (B5.out.cell (p := ⟨bb, off + z * 2, none⟩) hbw).trans u3
          have m4 := (B5.out.cell (p := ⟨bb, off + z * 2 + 1, none⟩) hbw).trans u4
          have m5 : (wr.alloc (.cells #[.int .i64 z1, .int .i64 z2] 31)).cell? ⟨wr.heap.size, 0, none⟩ = some (.int .i64 z1) := by simp
          have m6 : (wr.alloc (.cells #[.int .i64 z1, .int .i64 z2] 31)).cell? ⟨wr.heap.size, 1, none⟩ = some (.int .i64 z2) := by simp
          go_wp2_with fail
          go_region_held3 (fun W => W.cell? ⟨bb, off, none⟩ = some (.int .i64 x1) ∧ W.cell? ⟨bb, off + 1, none⟩ = some (.int .i64 x2) ∧ W.cell? ⟨bb, off + z * 2, none⟩ = some (.int .i64 y1) ∧ W.cell? ⟨bb, off + z * 2 + 1, none⟩ = some (.int .i64 y2) ∧ W.cell? ⟨wr.heap.size, 0, none⟩ = some (.int .i64 z1) ∧ W.cell? ⟨wr.heap.size, 1, none⟩ = some (.int .i64 z2)) (first | exact ⟨m1, m2, m3, m4, m5, m6⟩ | exact ⟨n1, n2, n3, n4, n5, n6⟩ | (simp [go_sem]; first | exact ⟨m1, m2, m3, m4, m5, m6⟩ | exact ⟨n1, n2, n3, n4, n5, n6⟩)) (first | (go_at_call 40; refine (CR.out (wr.alloc (.cells #[.int .i64 z1, .int .i64 z2] 31)) _ (by repeat (first | assumption | exact Below.refl _ _ | refine Below.drew ?_ | refine bdP ?_ _))).mono ?_; rintro e w2 ⟨rfl, hb2⟩; have n1 := (hb2.cell (p := ⟨bb, off, none⟩) hbx).trans m1; have n2 := (hb2.cell (p := ⟨bb, off + 1, none⟩) hbx).trans m2; have n3 := (hb2.cell (p := ⟨bb, off + z * 2, none⟩) hbx).trans m3; have n4 := (hb2.cell (p := ⟨bb, off + z * 2 + 1, none⟩) hbx).trans m4; have n5 := (hb2.cell (p := ⟨wr.heap.size, 0, none⟩) nz).trans m5; have n6 := (hb2.cell (p := ⟨wr.heap.size, 1, none⟩) nz).trans m6))
          all_goals
            have HB2 := Lib.hid ((HB.out.trans (B5.out.mono hsz)).trans (hb2.mono (by simp; omega)))
            clear hb2
            go_wp2
            go_roundw
            case rel => exact ⟨k + 1, l + 1, r, by omega, by go_num, E1.out, E2.out, by omega, by omega, by go_num, rfl, (by first | exact HB2.out | exact bdP HB2.out _ | exact bdrew HB2.out)⟩
            case measure => simp [intOf]; omega
      · obtain rfl : k = ps.length := by omega
        go_wp2
        exact bodyPost_ret (v := .tuple #[.int .i64 (l : Int), .int .i64 (r : Int), .int .i64 0]) (by simp [results, Try.results15, go_sem]) rfl ⟨ret3 (by rw [HLL.out]) (by rw [HRR.out]) rfl, HB.out⟩
end Go.Proofs.Ytomnijoccnifpaa.sines
