/- The program's neighbours of lands: contract. -/
import Derived.Test.YtpekchihdmhkkaaGridB3
import Derived.Test.YtpekchihdmhkkaaGridN4
import Derived.Test.YtpekchihdmhkkaaGridI2
import Derived.Deep.Cut
import Derived.Deep.CutRange
namespace Go.Proofs.Ytpekchihdmhkkaa.stab
open Go.ChangeShapes Go.WideShapes Go.ChangeAt Go.RowKit Go.Maps Go.Sort Go.Shelf Go.Proofs.Ytpekchihdmhkkaa.split Go.Proofs.Ytpekchihdmhkkaa.sines Go.Proofs.Ytpekchihdmhkkaa.names
set_option linter.unusedSimpArgs false
set_option linter.unusedVariables false

theorem ownsMap_below {H : Type} {P : Program} {k : TypeId} {R : Value → Option (DataW H × List MemPlace)} {w w' : World} {b n : Nat} {D : DataW H} (h : w.ownsMap P k R b n D) (hb : Below w.heap.size w w') : w'.ownsMap P k R b n D := by
  have hl := h.lt
  obtain ⟨es, clock, h1, F, hs, hD⟩ := h
  exact ⟨es, clock, (hb.block b hl).trans h1, F, hs, hD⟩
def condP (x y : UInt8) : Bool := decide ((x ≠ 46 ∧ y ≠ 46) ∧ x < y)
theorem keyP_cond (x y : UInt8) : keyP x y = if condP x y = true then [[x, y]] else [] := by
  unfold keyP condP
  by_cases h : (x ≠ 46 ∧ y ≠ 46) ∧ x < y
  · rw [if_pos h, if_pos (decide_eq_true h)]
  · rw [if_neg h, if_neg (by rw [decide_eq_false h]; simp)]
theorem sea_int (x : UInt8) : ((x.toNat : Int) != 46) = decide (x ≠ 46) := by
  by_cases h : x = 46
  · subst h; decide
  · rw [decide_eq_true h]
    simp only [bne_iff_ne]
    exact fun e => h (UInt8.toNat_inj.1 (by have : x.toNat = 46 := by omega
                                            rw [this]; rfl))
theorem condP_int (x y : UInt8) : condP x y = ((((x.toNat : Int) != 46) && ((y.toNat : Int) != 46)) && decide ((x.toNat : Int) < (y.toNat : Int))) := by
  rw [sea_int, sea_int]
  unfold condP
  have : (x < y) ↔ ((x.toNat : Int) < (y.toNat : Int)) := by rw [UInt8.lt_iff_toNat_lt]; omega
  simp only [Bool.decide_and, this]
set_option maxRecDepth 100000 in
set_option maxHeartbeats 8000000 in
theorem implGridBorders_any (v : Value) (ps : List ByteArray) (w : World) (hv : SAt w w.heap.size v ps) (hl : ps.length ≤ 1048576) (hr : ∀ i, i < ps.length → (sAt ps i).size ≤ 1048576) :
    Calls Try.prog 23 #[v] w fun e w' => ∃ r, e = .returned (.tuple #[r, .int .i64 (codeBo ps)]) ∧ SRow w' w.heap.size r (valBo ps) ∧ Below w.heap.size w w' := by
  have OK := Lib.hid (implValidGrid_any v ps w hv hl hr)
  have HV := Lib.hid hv
  obtain ⟨ar, c, rfl, _, hcl⟩ := hv
  clear hl hr hcl
  unfold valBo codeBo
  cases h : okG ps with
  | false =>
    rw [h] at OK
    go_enter Try.func23, Try.ntmps23
    go_wp2_with fail
    refine OK.out.mono ?_
    rintro e w1 ⟨rfl, hb⟩
    go_wp2
    exact bodyPost_ret (v := .tuple #[.slice none 0 0, .int .i64 1]) (by simp [results, Try.results23, go_sem]) rfl ⟨_, rfl, ⟨rfl, .inl ⟨rfl, rfl⟩⟩, hb⟩
  | true =>
    rw [h] at OK
    have gg := grid_of h
    simp only [if_true]
    have HG := Lib.hid (fun W (h : Below w.heap.size w W) => gridOf_any (.slice ar ps.length c) ps _ W (sat_up (sat_keep HV.out h) h.size) gg)
    have SO := Lib.hid (fun b nn W ks (hown : W.ownsMap Try.prog 9 (plainElem Try.prog 4) b nn (setS ks)) hk hm => sortedS_any b nn ks (bordersG ps) W hown hk (bordersG_sorted ps) hm)
    have KA := Lib.hid (fun z => (keys_are gg z).symm)
    have hLE := gg.len_le
    have hn1 := gg.n1
    have hn2 := gg.n2
    have hNE : ∀ c, c < (cellsG ps).length → 0 < (onS (cellsG ps).length (sAt ps 0).size c).length + (ovC (sAt ps 0).size c).length := fun c hc => by
      rw [gg.len] at hc ⊢
      have e := Nat.div_add_mod c (sAt ps 0).size
      rw [Nat.mul_comm] at e
      rw [← e]
      exact nbrs_ne (Nat.div_lt_of_lt_mul (by rw [Nat.mul_comm]; exact hc)) (Nat.mod_lt _ gg.n1)
    have hLT : ∀ c, c < (cellsG ps).length → ∀ z ∈ nbrs (cellsG ps).length (sAt ps 0).size c, z < (cellsG ps).length := fun c hc => by
      rw [gg.len] at hc ⊢
      have e := Nat.div_add_mod c (sAt ps 0).size
      rw [Nat.mul_comm] at e
      rw [← e]
      exact nbrs_lt (Nat.div_lt_of_lt_mul (by rw [Nat.mul_comm]; exact hc)) (Nat.mod_lt _ gg.n1)
    generalize bordersG ps = qs at SO KA ⊢
    generalize cellsG ps = cs at HG KA hLE hNE hLT
    generalize (sAt ps 0).size = n at HG KA hn1 hn2 hNE hLT
    have NB := Lib.hid (fun g cap c (h : c < cs.length) W => neighbours_any (some ⟨g, 0, none⟩) cs.length cap n c W hLE hn1 hn2 h (hNE c h))
    have HLT := Lib.hid hLT
    have KL := Lib.hid (fun c => keysC_len cs cs.length n c)
    have KS := Lib.hid (show ∀ c, keysC cs cs.length n (c + 1) = keysC cs cs.length n c ++ keysZ cs (cs.getD c 0) (nbrs cs.length n c) from fun c => rfl)
    have hLi : (cs.length : Int) ≤ 512 := by omega
    have hmm := @run_makeMap Try.prog
    clear h gg hNE hLT
    go_enter Try.func23, Try.ntmps23
    go_wp2_with fail
    refine OK.out.mono ?_
    rintro e w1 ⟨rfl, hb1⟩
    have HB1 := Lib.hid hb1
    clear hb1
    go_wp2_with fail
    refine (HG.out _ HB1.out).mono ?_
    rintro e w3 ⟨g, cap, rfl, _, _, hc, hb3⟩
    have HC := Lib.hid hc
    have HB3 := Lib.hid (HB1.out.trans (hb3.mono HB1.out.size))
    clear hb3 hc
    have r0 : (w3.alloc (.cells #[.slice (some ⟨g, 0, none⟩) cs.length cap, .int .i64 (n : Int)] 45)).cell? ⟨w3.heap.size, 0, none⟩ = some (.slice (some ⟨g, 0, none⟩) cs.length cap) := by simp [go_sem]
    have r1 : (w3.alloc (.cells #[.slice (some ⟨g, 0, none⟩) cs.length cap, .int .i64 (n : Int)] 45)).cell? ⟨w3.heap.size, 1, none⟩ = some (.int .i64 (n : Int)) := by simp [go_sem]
    have BW := Lib.hid (show Below w3.heap.size w3 (w3.alloc (.cells #[.slice (some ⟨g, 0, none⟩) cs.length cap, .int .i64 (n : Int)] 45)) from (Below.refl _ _).alloc (Nat.le_refl _) _)
    have hsB : w3.heap.size < (w3.alloc (.cells #[.slice (some ⟨g, 0, none⟩) cs.length cap, .int .i64 (n : Int)] 45)).heap.size := by simp
    have hsB2 : (w3.alloc (.cells #[.slice (some ⟨g, 0, none⟩) cs.length cap, .int .i64 (n : Int)] 45)).heap.size = w3.heap.size + 1 := by simp
    obtain ⟨W0, hW0⟩ : ∃ W, Hid (w3.alloc (.cells #[.slice (some ⟨g, 0, none⟩) cs.length cap, .int .i64 (n : Int)] 45) = W) := ⟨_, Lib.hid rfl⟩
    rw [hW0.out] at r0 r1 BW hsB hsB2
    have HC0 := Lib.hid (bcells_up (bcells_keep HC.out BW.out) BW.out.size)
    have R0 := Lib.hid r0
    have R1 := Lib.hid r1
    have HB0 := Lib.hid (HB3.out.trans (BW.out.mono HB3.out.size))
    go_wp2_with fail
    rw [hW0.out]
    clear r0 r1 hmm
    obtain ⟨mB, hmB⟩ : ∃ m, w3.heap.size + 1 = m := ⟨_, rfl⟩
    rw [hmB] at hsB2
    rw [hmB]
    have hMade : (W0.alloc (.map #[] 0)).ownsMap Try.prog 9 (plainElem Try.prog 4) mB (keysC cs cs.length n 0).length (setS (keysC cs cs.length n 0)) := by
      rw [← hsB2]
      exact World.ownsMap_made W0 _ _ _
    go_loopw [20] (fun i wr => ∃ c : Nat, c ≤ cs.length ∧ i = .int .i64 (c : Int) ∧ wr.ownsMap Try.prog 9 (plainElem Try.prog 4) mB (keysC cs cs.length n c).length (setS (keysC cs cs.length n c)) ∧ Below W0.heap.size W0 wr) (fun i _ => cs.length - (intOf i).toNat)
    case atStart => exact ⟨0, Nat.zero_le _, rfl, hMade, (Below.refl _ _).alloc (Nat.le_refl _) _⟩
    case round =>
      obtain ⟨c, hk, rfl, hown, hb⟩ := hrel
      have HO := Lib.hid hown
      have HB := Lib.hid hb
      have hszr := hb.size
      clear hown
      by_cases hlt : c < cs.length
      · have u1 := (hb.cell (p := ⟨g, c, none⟩) HC0.out.1).trans (HC0.out.2 c hlt)
        have hk0 : 0 ≤ (c : Int) := by omega
        have hk1 : (c : Int) < (cs.length : Int) := by omega
        have d0 := (hb.cell (p := ⟨w3.heap.size, 0, none⟩) hsB).trans R0.out
        have d1 := (hb.cell (p := ⟨w3.heap.size, 1, none⟩) hsB).trans R1.out
        have KSC := Lib.hid (KS.out c)
        have hcl := KL.out c
        have NBC := Lib.hid (NB.out g cap c hlt wr)
        have LT := Lib.hid (HLT.out c hlt)
        have l6 := nbrs_len cs.length n c
        obtain ⟨zs, hzs⟩ : ∃ zs, Hid (nbrs cs.length n c = zs) := ⟨_, Lib.hid rfl⟩
        rw [hzs.out] at NBC LT KSC l6
        obtain ⟨K, hK⟩ : ∃ K, Hid (keysC cs cs.length n c = K) := ⟨_, Lib.hid rfl⟩
        rw [hK.out] at hcl KSC HO
        obtain ⟨x, hx⟩ : ∃ x, Hid (cs.getD c 0 = x) := ⟨_, Lib.hid rfl⟩
        rw [hx.out] at u1 KSC
        have hK3 : K.length ≤ 3072 := by omega
        clear hb hcl
        go_wp2_with fail
        refine NBC.out.mono ?_
        rintro e w1' ⟨v1, rfl, hr1, hb1⟩
        have HBr := Lib.hid hb1
        have HB1' := Lib.hid (HB.out.trans (hb1.mono HB.out.size))
        have HO1 := Lib.hid (ownsMap_below HO.out hb1)
        obtain ⟨a1, c1, rfl, hcell⟩ := jrow_at hr1
        have HCL := Lib.hid hcell
        have HJ := Lib.hid hr1
        have hlo := HO.out.lt
        clear hb1 hr1 hcell u1 d0 d1
        have hz6 : (zs.length : Int) ≤ 6 := by omega
        have NEB := Lib.hid (show ∀ k, k < zs.length → ∃ g1, a1 = some ⟨g1, 0, none⟩ ∧ g1 < w1'.heap.size ∧ g1 ≠ mB ∧ w1'.cell? ⟨g1, k, none⟩ = some (.int .i64 (zs.getD k 0 : Int)) from fun k hk => by
          obtain ⟨g1, e1, e2, e3⟩ := HCL.out k hk
          rcases jrow_form HJ.out with ⟨h1, h2⟩ | ⟨g2, c2, h1, h2, _⟩
          · have h1a : a1 = none := by simp at h1; exact h1.1
            rw [h1a] at e1; cases e1
          · cases h1
            obtain rfl : g2 = g1 := by simpa using e1
            exact ⟨g2, rfl, e2, by omega, e3⟩)
        go_wp2
        go_loopw [29] (fun i wr2 => ∃ k : Nat, k ≤ zs.length ∧ i = .int .i64 (k : Int) ∧ wr2.ownsMap Try.prog 9 (plainElem Try.prog 4) mB (K ++ keysZ cs x (zs.take k)).length (setS (K ++ keysZ cs x (zs.take k))) ∧ w1'.grownBy wr2 (some mB)) (fun i _ => zs.length - (intOf i).toNat)
        case atStart =>
          refine ⟨0, Nat.zero_le _, rfl, ?_, World.grownBy.refl _ _⟩
          rw [List.take_zero, keysZ_nil, List.append_nil]
          exact HO1.out
        case round =>
          obtain ⟨k, hkz, rfl, hown2, hgr⟩ := hrel
          have HO2 := Lib.hid hown2
          have HGR := Lib.hid hgr
          have hb2 : Below W0.heap.size W0 wr := HB1'.out.grown hgr HB1'.out.size (fun j hj => by cases hj; omega)
          have HB2 := Lib.hid hb2
          clear hown2
          by_cases hlz : k < zs.length
          · obtain ⟨g1, rfl, hg1, hgm, e2⟩ := NEB.out k hlz
            have hz0 : 0 ≤ (k : Int) := by omega
            have hz1 : (k : Int) < (zs.length : Int) := by omega
            have ST := Lib.hid (keysZ_step cs x zs k hlz)
            have hzl : zs.getD k 0 < cs.length := LT.out _ (by simp [hlz])
            have hkl := keysZ_len cs x (zs.take k)
            have hkl2 : (zs.take k).length ≤ 6 := by simp; omega
            have u2 := hgr.cell e2 (by simpa using hgm)
            obtain ⟨z, hz⟩ : ∃ z, Hid (zs.getD k 0 = z) := ⟨_, Lib.hid rfl⟩
            rw [hz.out] at ST u2 hzl
            have u3 := (hb2.cell (p := ⟨g, z, none⟩) HC0.out.1).trans (HC0.out.2 z hzl)
            have f0 := (hb2.cell (p := ⟨w3.heap.size, 0, none⟩) hsB).trans R0.out
            have hy0 : 0 ≤ (z : Int) := by omega
            have hy1 : (z : Int) < (cs.length : Int) := by omega
            obtain ⟨y, hy⟩ : ∃ y, Hid (cs.getD z 0 = y) := ⟨_, Lib.hid rfl⟩
            rw [hy.out] at ST u3
            rw [keyP_cond] at ST
            have PI := Lib.hid (condP_int x y)
            obtain ⟨P, hP⟩ : ∃ P, Hid (condP x y = P) := ⟨_, Lib.hid rfl⟩
            rw [hP.out] at ST PI
            obtain ⟨KZ, hKZ⟩ : ∃ Z, Hid (K ++ keysZ cs x (zs.take k) = Z) := ⟨_, Lib.hid rfl⟩
            have hKZl : KZ.length ≤ 3078 := by rw [← hKZ.out, List.length_append]; omega
            rw [hKZ.out] at HO2
            clear hkl hkl2 hb2 hgr e2 hzl
            go_upto_region 12 with fail
            go_cut [48] from 30 to 54 (fun b wx => b = .bool P ∧ wr = wx)
            case first =>
              obtain ⟨e1, h1⟩ : ∃ e, ((x.toNat : Int) != 46) = e := ⟨_, rfl⟩
              obtain ⟨e2, h2⟩ : ∃ e, ((y.toNat : Int) != 46) = e := ⟨_, rfl⟩
              by_cases h3 : (x.toNat : Int) < (y.toNat : Int)
              · have PC := Lib.hid (show P = ((e1 && e2) && true) by rw [PI.out, h1, h2, decide_eq_true h3])
                cases e1 <;> cases e2
                all_goals go_wp2
                all_goals go_meet
                all_goals exact ⟨by rw [PC.out]; rfl, rfl⟩
              · have PC := Lib.hid (show P = ((e1 && e2) && false) by rw [PI.out, h1, h2, decide_eq_false h3])
                cases e1 <;> cases e2
                all_goals go_wp2
                all_goals go_meet
                all_goals exact ⟨by rw [PC.out]; rfl, rfl⟩
            case rest =>
              obtain ⟨e5, hw⟩ := hcut
              subst e5
              subst hw
              cases P with
              | false =>
                have SN := Lib.hid (show K ++ keysZ cs x (zs.take (k + 1)) = KZ by rw [ST.out, ← List.append_assoc, hKZ.out]; simp)
                go_wp2
                go_roundw
                case rel => exact ⟨k + 1, by omega, by go_num, by rw [SN.out]; exact HO2.out, HGR.out⟩
                case measure => simp [intOf]; omega
              | true =>
                have SN := Lib.hid (show K ++ keysZ cs x (zs.take (k + 1)) = KZ ++ [[x, y]] by rw [ST.out, ← List.append_assoc, hKZ.out]; simp)
                have hcv : (convert 43 9 (.slice (some ⟨wr.heap.size, 0, none⟩) 2 2)).run Try.prog (wr.alloc (.cells #[.int .u8 (x.toNat : Int), .int .u8 (y.toNat : Int)] 5)) = .ok (.string ⟨[x, y].toArray⟩) (wr.alloc (.cells #[.int .u8 (x.toNat : Int), .int .u8 (y.toNat : Int)] 5)) :=
                  run_convert_bytes_back _ 43 9 5 ⟨wr.heap.size, 0, none⟩ 2 [x, y] Try.underlying43 Try.underlying5 Try.underlying9 (fun j hj => by
                    match j, hj with
                    | 0, _ => simp [Addr.add]
                    | 1, _ => simp [Addr.add])
                have hkey : keyOf Try.prog 9 (.string ⟨[x, y].toArray⟩) = some (.string [x, y]) := WideMaps.keyOf_string_mk (P := Try.prog) Try.underlying9 (s := ⟨[x, y].toArray⟩) (by show (2 : Nat) ≤ maxLen; unfold maxLen; omega)
                go_wp2_with (first | (at_mapUpdate; refine wpList_mapUpdate_own _ rfl _ _ _ 53 rfl 9 4 (Maps.string_keyed Try.underlying9) Try.underlying53 _ mB KZ.length (setS KZ) rfl (HO2.out.alloc _) (by unfold maxLen; omega) _ _ _ rfl rfl hkey (.lit (.bool true)) [] (plainElem_bool Try.underlying4 true) ?_; intro w4 hown4 hgrow4))
                go_roundw
                case rel => exact ⟨k + 1, by omega, by go_num, by rw [SN.out, setS_snoc, List.length_append]; exact hown4, (HGR.out.trans (World.grownBy_alloc _ _ _)).trans hgrow4⟩
                case measure => simp [intOf]; omega
          · obtain rfl : k = zs.length := by omega
            have E3 := Lib.hid (show K ++ keysZ cs x (zs.take zs.length) = keysC cs cs.length n (c + 1) by rw [KSC.out, List.take_length])
            rw [E3.out] at HO2
            go_wp2
            go_roundw
            case rel => exact ⟨c + 1, by omega, by go_num, HO2.out, HB2.out⟩
            case measure => simp [intOf]; omega
      · obtain rfl : c = cs.length := by omega
        have hK3 : (keysC cs cs.length n cs.length).length ≤ 1000000 := by have := KL.out cs.length; omega
        clear hb
        go_wp2_with (first | (go_at_call 54; refine (keysS_any _ _).mono ?_; rintro e w' ⟨rfl, rfl⟩) | (go_at_call 53; refine (SO.out mB _ wr _ HO.out hK3 KA.out).mono ?_; rintro e w5 ⟨u, rfl, hrow, hb5⟩; have R5 := Lib.hid hrow; have HB5 := Lib.hid (HB.out.trans (hb5.mono hszr)); clear hrow hb5))
        exact bodyPost_ret (v := .tuple #[u, .int .i64 0]) (by simp [results, Try.results23, go_sem]) rfl ⟨_, rfl, srow_up R5.out (Nat.le_trans HB0.out.size hszr), HB0.out.trans (HB5.out.mono HB0.out.size)⟩
end Go.Proofs.Ytpekchihdmhkkaa.stab
