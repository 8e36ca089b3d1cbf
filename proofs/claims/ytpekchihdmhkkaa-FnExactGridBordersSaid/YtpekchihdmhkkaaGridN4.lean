/- The program's coasts: contracts. -/
import Derived.Test.YtpekchihdmhkkaaGridC
import Derived.Test.YtpekchihdmhkkaaGridI5
namespace Go.Proofs.Ytpekchihdmhkkaa.stab
open Go.ChangeShapes Go.WideShapes Go.ChangeAt Go.RowKit Go.Proofs.Ytpekchihdmhkkaa.split Go.Proofs.Ytpekchihdmhkkaa.sines Go.Proofs.Ytpekchihdmhkkaa.names
set_option linter.unusedSimpArgs false
set_option linter.unusedVariables false

theorem jrow_at {w : World} {B : Nat} {v : Value} {zs : List Nat} (h : JRow w B v zs) : ∃ a c, v = .slice a zs.length c ∧ ∀ k, k < zs.length → ∃ g, a = some ⟨g, 0, none⟩ ∧ g < w.heap.size ∧ w.cell? ⟨g, k, none⟩ = some (.int .i64 (zs.getD k 0 : Int)) := by
  rcases jrow_form h with ⟨rfl, rfl⟩ | ⟨g, c, rfl, _, hg, _, hc⟩
  · exact ⟨none, 0, rfl, fun k hk => by simp at hk⟩
  · refine ⟨_, _, rfl, fun k hk => ⟨g, rfl, hg, ?_⟩⟩
    have := hc k (.int .i64 (zs.getD k 0 : Int)) (by simp [jints, hk])
    rw [add_plain', Nat.zero_add] at this
    exact this
set_option maxRecDepth 100000 in
set_option maxHeartbeats 4000000 in
theorem coastOf_any (g cap n : Nat) (cs : List UInt8) (b : UInt8) (w : World) (hc : BCells w w.heap.size g cs) (hL : cs.length ≤ 512) (hn1 : 1 ≤ n) (hn2 : n ≤ 32)
    (hne : ∀ c, c < cs.length → 0 < (onS cs.length n c).length + (ovC n c).length) (hlt : ∀ c, c < cs.length → ∀ z ∈ nbrs cs.length n c, z < cs.length) :
    Calls Try.prog 60 #[.agg #[.slice (some ⟨g, 0, none⟩) cs.length cap, .int .i64 (n : Int)], .int .u8 (b.toNat : Int)] w fun e w' => e = .returned (.int .i64 (coastCells cs cs.length n b cs.length : Int)) ∧ Below w.heap.size w w' := by
  have HC := Lib.hid hc
  have NB := Lib.hid (fun c (h : c < cs.length) W => neighbours_any (some ⟨g, 0, none⟩) cs.length cap n c W hL hn1 hn2 h (hne c h))
  have HLT := Lib.hid hlt
  have CL := Lib.hid (fun c => coastCells_le cs cs.length n b c)
  have CS := Lib.hid (show ∀ c, coastCells cs cs.length n b (c + 1) = coastCells cs cs.length n b c + (if cs.getD c 0 = b then seaSum cs (nbrs cs.length n c) else 0) from fun c => rfl)
  have hLi : (cs.length : Int) ≤ 512 := by omega
  have r0 : (w.alloc (.cells #[.slice (some ⟨g, 0, none⟩) cs.length cap, .int .i64 (n : Int)] 45)).cell? ⟨w.heap.size, 0, none⟩ = some (.slice (some ⟨g, 0, none⟩) cs.length cap) := by simp [go_sem]
  have r1 : (w.alloc (.cells #[.slice (some ⟨g, 0, none⟩) cs.length cap, .int .i64 (n : Int)] 45)).cell? ⟨w.heap.size, 1, none⟩ = some (.int .i64 (n : Int)) := by simp [go_sem]
  have BW := Lib.hid (show Below w.heap.size w (w.alloc (.cells #[.slice (some ⟨g, 0, none⟩) cs.length cap, .int .i64 (n : Int)] 45)) from (Below.refl _ _).alloc (Nat.le_refl _) _)
  have hsB : w.heap.size < (w.alloc (.cells #[.slice (some ⟨g, 0, none⟩) cs.length cap, .int .i64 (n : Int)] 45)).heap.size := by simp
  obtain ⟨W0, hW0⟩ : ∃ W, Hid (w.alloc (.cells #[.slice (some ⟨g, 0, none⟩) cs.length cap, .int .i64 (n : Int)] 45) = W) := ⟨_, Lib.hid rfl⟩
  rw [hW0.out] at r0 r1 BW hsB
  have HC0 := Lib.hid (bcells_up (bcells_keep HC.out BW.out) BW.out.size)
  have R0 := Lib.hid r0
  have R1 := Lib.hid r1
  obtain ⟨N, hN⟩ : ∃ N, Hid (cs.length = N) := ⟨_, Lib.hid rfl⟩
  clear hne hlt hc
  go_enter Try.func60, Try.ntmps60
  go_wp2_with fail
  rw [hW0.out]
  clear r0 r1
  go_loopw [5, 13] (fun s i wr => ∃ c : Nat, c ≤ cs.length ∧ i = .int .i64 (c : Int) ∧ s = .int .i64 (coastCells cs cs.length n b c : Int) ∧ Below W0.heap.size W0 wr) (fun _ i _ => cs.length - (intOf i).toNat)
  case atStart => exact ⟨0, Nat.zero_le _, rfl, rfl, Below.refl _ _⟩
  case round =>
    obtain ⟨c, hk, rfl, rfl, hb⟩ := hrel
    have HB := Lib.hid hb
    by_cases hlt : c < cs.length
    · have u1 := (hb.cell (p := ⟨g, c, none⟩) HC0.out.1).trans (HC0.out.2 c hlt)
      have hk0 : 0 ≤ (c : Int) := by omega
      have hk1 : (c : Int) < (cs.length : Int) := by omega
      have d0 := (hb.cell (p := ⟨w.heap.size, 0, none⟩) hsB).trans R0.out
      have d1 := (hb.cell (p := ⟨w.heap.size, 1, none⟩) hsB).trans R1.out
      have hcl := CL.out c
      have SUC := Lib.hid (CS.out c)
      obtain ⟨K, hK⟩ : ∃ K, Hid (coastCells cs cs.length n b c = K) := ⟨_, Lib.hid rfl⟩
      rw [hK.out] at hcl SUC ⊢
      have hKi : (K : Int) ≤ 3072 := by omega
      obtain ⟨x, hx⟩ : ∃ x, Hid (cs.getD c 0 = x) := ⟨_, Lib.hid rfl⟩
      rw [hx.out] at u1 SUC
      clear hb hcl
      by_cases he : x = b
      · have he2 : ((x.toNat : Int) != (b.toNat : Int)) = false := by simp [he]
        have SUY := Lib.hid (show coastCells cs cs.length n b (c + 1) = K + seaSum cs (nbrs cs.length n c) by rw [SUC.out, if_pos he])
        have NBC := Lib.hid (NB.out c hlt wr)
        have LT := Lib.hid (HLT.out c hlt)
        have l6 := nbrs_len cs.length n c
        obtain ⟨zs, hzs⟩ : ∃ zs, Hid (nbrs cs.length n c = zs) := ⟨_, Lib.hid rfl⟩
        rw [hzs.out] at NBC LT SUY l6
        clear he
        go_wp2_with fail
        refine NBC.out.mono ?_
        rintro e w1 ⟨v1, rfl, hr1, hb1⟩
        have HB1 := Lib.hid (HB.out.trans (hb1.mono HB.out.size))
        obtain ⟨a1, c1, rfl, hcell⟩ := jrow_at hr1
        have HCL := Lib.hid hcell
        clear hb1 hr1 hcell u1 d0 d1
        have hz6 : (zs.length : Int) ≤ 6 := by omega
        go_wp2
        go_loopw [5, 25] (fun s i wr2 => ∃ k : Nat, k ≤ zs.length ∧ i = .int .i64 (k : Int) ∧ s = .int .i64 ((K : Int) + (seaSum cs (zs.take k) : Int)) ∧ w1 = wr2) (fun _ i _ => zs.length - (intOf i).toNat)
        case atStart => exact ⟨0, Nat.zero_le _, rfl, by simp [seaSum_nil], rfl⟩
        case round =>
          obtain ⟨k, hkz, rfl, rfl, hw⟩ := hrel
          subst hw
          by_cases hlz : k < zs.length
          · obtain ⟨g1, rfl, hg1, c2⟩ := HCL.out k hlz
            have hz0 : 0 ≤ (k : Int) := by omega
            have hz1 : (k : Int) < (zs.length : Int) := by omega
            have ST := Lib.hid (seaSum_step cs zs k hlz)
            have hzl : zs.getD k 0 < cs.length := LT.out _ (by simp [hlz])
            have hsl : seaSum cs (zs.take k) ≤ 6 := Nat.le_trans (seaSum_le cs _) (by simp; omega)
            obtain ⟨z, hz⟩ : ∃ z, Hid (zs.getD k 0 = z) := ⟨_, Lib.hid rfl⟩
            rw [hz.out] at ST c2 hzl
            obtain ⟨S, hS⟩ : ∃ S, Hid (seaSum cs (zs.take k) = S) := ⟨_, Lib.hid rfl⟩
            rw [hS.out] at ST hsl ⊢
            have u2 := (HB1.out.cell (p := ⟨g, z, none⟩) HC0.out.1).trans (HC0.out.2 z hzl)
            have e0 := (HB1.out.cell (p := ⟨w.heap.size, 0, none⟩) hsB).trans R0.out
            have hy0 : 0 ≤ (z : Int) := by omega
            have hy1 : (z : Int) < (cs.length : Int) := by omega
            obtain ⟨y, hy⟩ : ∃ y, Hid (cs.getD z 0 = y) := ⟨_, Lib.hid rfl⟩
            rw [hy.out] at ST u2
            have kw : IntKind.i64.wrap ((K : Int) + (S : Int) + 1) = (K : Int) + (S : Int) + 1 := IntWalk.i64_in _ (by omega)
            by_cases h46 : y = 46
            · have h46b : ((y.toNat : Int) == 46) = true := by rw [h46]; rfl
              have E2 := Lib.hid (show seaSum cs (zs.take (k + 1)) = S + 1 by rw [ST.out, h46]; rfl)
              clear h46 hzl hsl
              go_wp2
              go_roundw
              case rel => exact ⟨k + 1, by omega, by go_num, by rw [E2.out]; go_num, by trivial⟩
              case measure => simp [intOf]; omega
            · have h46b : ((y.toNat : Int) == 46) = false := by
                simp only [beq_eq_false_iff_ne]
                exact fun e => h46 (UInt8.toNat_inj.1 (by have : y.toNat = 46 := by omega
                                                          rw [this]; rfl))
              have E2 := Lib.hid (show seaSum cs (zs.take (k + 1)) = S by rw [ST.out]; unfold seaN; rw [if_neg h46]; rfl)
              clear h46 hzl hsl
              go_wp2
              go_roundw
              case rel => exact ⟨k + 1, by omega, by go_num, by rw [E2.out], by trivial⟩
              case measure => simp [intOf]; omega
          · obtain rfl : k = zs.length := by omega
            have E3 := Lib.hid (show (K : Int) + (seaSum cs (zs.take zs.length) : Int) = (coastCells cs cs.length n b (c + 1) : Int) by rw [SUY.out, List.take_length]; omega)
            rw [E3.out]
            go_wp2
            go_roundw
            case rel => exact ⟨c + 1, by omega, by go_num, rfl, HB1.out⟩
            case measure => simp [intOf]; omega
      · have he2 : ((x.toNat : Int) != (b.toNat : Int)) = true := by
          simp only [bne_iff_ne]
          exact fun e => he (UInt8.toNat_inj.1 (by omega))
        have SUN := Lib.hid (show coastCells cs cs.length n b (c + 1) = K by rw [SUC.out, if_neg he, Nat.add_zero])
        clear he
        go_wp2
        go_roundw
        case rel => exact ⟨c + 1, by omega, by go_num, by rw [SUN.out], HB.out⟩
        case measure => simp [intOf]; omega
    · obtain rfl : c = cs.length := by omega
      go_wp2
      go_ret
      exact ⟨rfl, BW.out.trans (HB.out.mono BW.out.size)⟩
set_option maxHeartbeats 1000000 in
theorem implCoastOf_any (v : Value) (ps : List ByteArray) (land : ByteArray) (w : World) (hv : SAt w w.heap.size v ps) (hl : ps.length ≤ 1048576) (hr : ∀ i, i < ps.length → (sAt ps i).size ≤ 1048576) (hs : land.size ≤ 1048576) :
    Calls Try.prog 31 #[v, .string land] w fun e w' => e = .returned (.tuple #[.int .i64 (valCoast ps land), .int .i64 (codeG ps land)]) ∧ Below w.heap.size w w' := by
  have CD := Lib.hid (landCode_any v ps land true w hv hl hr hs)
  rw [landK_true] at CD
  have HV := Lib.hid hv
  have hs2 : (land.size : Int) ≤ 1048576 := by omega
  obtain ⟨ar, c, rfl, _⟩ := hv
  clear hl hr
  unfold valCoast wideG'
  by_cases h : codeG ps land = 0
  · obtain ⟨g1, g2, _⟩ := codeG_zero h
    obtain ⟨h1, _⟩ := isL_of g2
    have hp : 0 < land.size := by omega
    have hp2 : (0 : Int) < (land.size : Int) := by omega
    rw [if_pos h, bAt_eq hp, h]
    rw [h] at CD
    have gg := grid_of g1
    have HG := Lib.hid (fun W (h : Below w.heap.size w W) => gridOf_any (.slice ar ps.length c) ps _ W (sat_up (sat_keep HV.out h) h.size) gg)
    have CO := Lib.hid (fun W g cap (hc : BCells W W.heap.size g (cellsG ps)) => coastOf_any g cap (sAt ps 0).size (cellsG ps) land[0] W hc gg.len_le gg.n1 gg.n2 (fun c hc => by
      rw [gg.len] at hc ⊢
      have e := Nat.div_add_mod c (sAt ps 0).size
      rw [Nat.mul_comm] at e
      rw [← e]
      exact nbrs_ne (Nat.div_lt_of_lt_mul (by rw [Nat.mul_comm]; exact hc)) (Nat.mod_lt _ gg.n1)) (fun c hc => by
      rw [gg.len] at hc ⊢
      have e := Nat.div_add_mod c (sAt ps 0).size
      rw [Nat.mul_comm] at e
      rw [← e]
      exact nbrs_lt (Nat.div_lt_of_lt_mul (by rw [Nat.mul_comm]; exact hc)) (Nat.mod_lt _ gg.n1)))
    rw [coast_all gg] at CO
    obtain ⟨C, hC⟩ : ∃ C, Hid (coastG ps (sAt ps 0).size land[0] = C) := ⟨_, Lib.hid rfl⟩
    rw [hC.out] at CO ⊢
    generalize cellsG ps = cs at HG CO
    generalize (sAt ps 0).size = n at HG CO
    clear h g1 g2 h1 gg hC
    go_enter Try.func31, Try.ntmps31
    go_wp2_with fail
    refine CD.out.mono ?_
    rintro e w1 ⟨rfl, hb1⟩
    have HB1 := Lib.hid hb1
    clear hb1
    go_wp2_with fail
    go_region_with (first | (go_at_call 45; refine (HG.out _ (by repeat (first | exact HB1.out | refine Below.drew ?_ | refine bdr ?_ _))).mono ?_; rintro e w3 ⟨g, cap, rfl, _, _, hc, hb3⟩; have HC3 := Lib.hid hc; have HB3 := Lib.hid (show Below w1.heap.size w1 w3 from by first | exact hb3 | exact (Below.refl _ w1).drew.trans hb3); clear hc hb3) | (go_at_call 60; refine (CO.out _ _ _ HC3.out).mono ?_; rintro e w4 ⟨rfl, hb4⟩; have HB4 := Lib.hid hb4; clear hb4))
    all_goals go_wp2
    all_goals exact bodyPost_ret (v := .tuple #[.int .i64 (C : Int), .int .i64 0]) (by simp [results, Try.results31, go_sem]) rfl ⟨rfl, HB1.out.trans ((HB3.out.trans (HB4.out.mono HB3.out.size)).mono HB1.out.size)⟩
  · rw [if_neg h]
    have h2 : (codeG ps land != 0) = true := by simpa using h
    generalize codeG ps land = cd at CD h2 ⊢
    clear h
    go_enter Try.func31, Try.ntmps31
    go_wp2_with fail
    refine CD.out.mono ?_
    rintro e w1 ⟨rfl, hb1⟩
    have HB1 := Lib.hid hb1
    clear hb1
    go_wp2
    exact bodyPost_ret (v := .tuple #[.int .i64 0, .int .i64 cd]) (by simp [results, Try.results31, go_sem]) rfl ⟨rfl, HB1.out⟩
end Go.Proofs.Ytpekchihdmhkkaa.stab
