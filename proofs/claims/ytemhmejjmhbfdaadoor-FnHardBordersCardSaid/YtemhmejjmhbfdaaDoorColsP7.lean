/- The recursion over paintings: contract of the program. -/
import Derived.Test.YtemhmejjmhbfdaaDoorColsP6
namespace Go.Proofs.YtemhmejjmhbfdaaDoor.sines
open Go.ChangeShapes Go.WideShapes Go.ChangeAt Go.RowKit Go.Shelf Go.Proofs.YtemhmejjmhbfdaaDoor.spots Go.Proofs.YtemhmejjmhbfdaaDoor.irows Go.Proofs.YtemhmejjmhbfdaaDoor.pairsBorder
attribute [local go_sem] Oper.semAt_some
set_option linter.unusedSimpArgs false
set_option linter.unusedVariables false
theorem cell_heap9 {W : World} {n : Nat} {cs : Array Value} {T : TypeId} (h : W.heap[n]? = some (.cells cs T (0, 0))) (i : Nat) : W.cell? ⟨n, i, none⟩ = cs[i]? := by simp [World.cell?, h]
theorem room_wide (k : Nat) : Fence.wide.room k := fun d h => by cases h
theorem RoundIn.anyDepth9 {m m' : Nat} {P : Program} {l : Nat} {f : FuncId} {tmps : Array Value} {assign body : Code} {w : World} {R : Ending → World → Prop}
    (h : RoundIn Fence.wide m P l f tmps assign body w R) : RoundIn Fence.wide m' P l f tmps assign body w R := ⟨h.1, fun c cs _ => h.2 c cs (room_wide _)⟩
theorem YieldAt.anyDepth9 {m : Nat} (m' : Nat) {P : Program} {l : Nat} {args : Array Value} {W : World} {R : Ending → World → Prop} (h : YieldAt Fence.wide m P l args W R) : YieldAt Fence.wide m' P l args W R := by
  obtain ⟨fn, tmps, assign, body, hy, hR⟩ := h
  exact ⟨fn, tmps, assign, body, hy, RoundIn.anyDepth9 hR⟩
set_option maxRecDepth 100000 in
set_option maxHeartbeats 4000000 in
theorem paint_in (l gg NN E L m : Nat) (mv : Value) (ps : List (Int × Int)) (J Jx : List (List Int) → World → Prop) (habs : ∀ s W W', J s W → Below W.heap.size W W' → J s W') (ho : okPs ps) (hE : E ≤ L) (hL : L ≤ 10) (hm : m ≤ 10)
    (hY : ∀ mm pre x W, usedL x ≤ m → J pre W → pre.length < NN → YieldAt Fence.wide mm Tryd.prog l #[encL x] W fun e W' =>
      (e = .returned (.bool true) ∧ J (pre ++ [x]) W' ∧ KpX gg W W') ∨ (e = .returned (.bool false) ∧ Jx (pre ++ [x]) W')) :
    ∀ (r nn : Nat) (cs : List Int) (pre : List (List Int)) (W : World), cs.length + r = E → (∀ d ∈ cs, 0 ≤ d) → usedL cs ≤ m → MBl W gg mv L (maskN ps) → gg < W.heap.size → J pre W → pre.length + (canon ps m r cs).length ≤ NN →
      CallsIn Fence.wide nn Tryd.prog 33 #[mv, encL cs, .int .i64 (cs.length : Int), .int .i64 (E : Int), .int .i64 (m : Int), .func (.yield l) #[] #[]] W fun e W' =>
        (e = .returned (.bool true) ∧ J (pre ++ canon ps m r cs) W' ∧ KpX gg W W') ∨ (e = .returned (.bool false) ∧ ∃ q, q <+: canon ps m r cs ∧ Jx (pre ++ q) W') := by
  have hdd : ∀ k : Nat, (Fence.wide.depth.isSome = true → 1 ≤ k) := fun k h => by cases h
  intro r
  induction r with
  | zero =>
    intro nn cs pre W hr h0 hu hM hB hJ hN
    have hr' : cs.length = E := by omega
    subst hr'
    have BB := Lib.hid ((Below.refl W.heap.size W).alloc (Nat.le_refl _) (.cells (rowP (usedL cs) (setsL cs)) 70))
    have hJ1 := habs _ _ _ hJ BB.out
    have hy0 := hY (nn - 1) pre cs _ hu hJ1 (by simp [canon] at hN; omega)
    simp only [canon]
    obtain ⟨g, rfl, _⟩ := hM
    clear hY habs hJ hJ1
    unfold encL encP at hy0 ⊢
    unfold rowP at hy0 ⊢
    obtain ⟨fn, tmps, assign, body, hy, hR⟩ := hy0
    refine callsIn_of_wp Tryd.func33 rfl trivial ?_ rfl
    simp only [Tryd.ntmps33, List.size_toArray, List.length_cons, List.length_nil, Nat.reduceAdd, Nat.reduceSub, Array.replicate_succ, Array.replicate_zero, List.push_toArray, List.append_toArray, List.nil_append, List.cons_append]
    gi_wp2_with ((try refine ⟨hdd _, ?_⟩); refine hR.mono ?_; clear hR; rintro e W2 (⟨rfl, hJ2, hk2⟩ | ⟨rfl, hx2⟩))
    · go_ret
      exact .inl ⟨rfl, hJ2, kpX_t (kpX_of BB.out) hk2⟩
    · go_ret
      exact .inr ⟨rfl, [cs], List.prefix_rfl, hx2⟩
  | succ r ih =>
    intro nn cs pre W hr h0 hu hM hB hJ hN
    have hlt : cs.length < E := by omega
    have BB := Lib.hid ((Below.refl W.heap.size W).alloc (Nat.le_refl _) (.cells (rowP (usedL cs) (setsL cs)) 70))
    have hJ1 := Lib.hid (habs _ _ _ hJ BB.out)
    have hblk : (W.alloc (.cells (rowP (usedL cs) (setsL cs)) 70)).heap[W.heap.size]? = some (.cells (rowP (usedL cs) (setsL cs)) 70 (0, 0)) := heap_alloc_new W _
    obtain ⟨K, hK⟩ : ∃ K, Hid (min (usedL cs + 1) m = K) := ⟨_, Lib.hid rfl⟩
    have hKm : K ≤ m := by rw [← hK.out]; exact Nat.min_le_right _ _
    have CA := Lib.hid (show canonK ps m r cs K = canon ps m (r + 1) cs by rw [← hK.out]; exact canonK_all ps m r cs)
    have MH := Lib.hid (fun (k : Nat) (hk : k < K) V (hV : KpX gg W V) => by
      have := mayHave_any mv L (maskN ps) (usedL cs) (setsL cs) cs.length k V (mbl_at (mbl_keep hM hV)) (by omega) hL (by omega) (setsL_lt (by omega) k) (nbM_lt _ _ _)
      rw [free_bits ho (by omega) k] at this
      exact this)
    have PW := Lib.hid (fun (k : Nat) (hk : k < K) V => paintWith_any (usedL cs) (setsL cs) cs.length k V (by omega) (fun j => setsL_lt (by omega) j) (by omega) (by omega))
    have IH := Lib.hid (fun (k : Nat) (hk : k < K) (hf : freeC ps cs (k : Int) = true) V (hV : KpX gg W V) (hJV : J (pre ++ canonK ps m r cs k) V) => by
      have e : canonK ps m r cs (k + 1) = canonK ps m r cs k ++ canon ps m r (cs ++ [(k : Int)]) := by rw [canonK_succ, if_pos hf]
      have hl : (canonK ps m r cs (k + 1)).length ≤ (canonK ps m r cs K).length := (canonK_pre (by omega)).length_le
      rw [CA.out] at hl
      have e2 := congrArg List.length e
      rw [List.length_append] at e2
      have := ih (nn - 1) (cs ++ [(k : Int)]) (pre ++ canonK ps m r cs k) V (by simp; omega) (fun d hd => by
        rcases List.mem_append.1 hd with h | h
        · exact h0 d h
        · simp at h; omega) (by rw [usedL_snoc]; omega) (mbl_keep hM hV) (Nat.lt_of_lt_of_le hB hV.1) hJV (by rw [List.length_append]; omega)
      rw [enc_snoc, List.append_assoc, ← e, show ((cs ++ [(k : Int)]).length : Int) = (cs.length : Int) + 1 by simp] at this
      exact this)
    have UP := Lib.hid (fun (k : Nat) (hk : k < K) (hf : freeC ps cs (k : Int) = true) (q : List (List Int)) (hq : q <+: canon ps m r (cs ++ [(k : Int)])) => show canonK ps m r cs k ++ q <+: canon ps m (r + 1) cs from by
      rw [← CA.out]
      refine List.IsPrefix.trans ?_ (canonK_pre (show k + 1 ≤ K by omega))
      rw [canonK_succ, if_pos hf]
      exact (List.prefix_append_right_inj _).2 hq)
    have NF := Lib.hid (fun (k : Nat) (hf : freeC ps cs (k : Int) = false) => show canonK ps m r cs (k + 1) = canonK ps m r cs k by rw [canonK_succ, hf]; simp)
    have kw : IntKind.i64.wrap ((cs.length : Int) + 1) = (cs.length : Int) + 1 := IntWalk.i64_in _ (by omega)
    have uw : IntKind.i64.wrap ((usedL cs : Int) + 1) = (usedL cs : Int) + 1 := IntWalk.i64_in _ (by omega)
    have hne : ((cs.length : Int) == (E : Int)) = false := by simp; omega
    have KI := Lib.hid (show ((usedL cs : Int) + 1 ≤ (m : Int) → (usedL cs : Int) + 1 = (K : Int)) ∧ (¬ (usedL cs : Int) + 1 ≤ (m : Int) → (m : Int) = (K : Int)) by
      have := hK.out; omega)
    have hM2 := Lib.hid hM
    obtain ⟨g, rfl, _⟩ := hM
    clear hY ih hJ hN hne
    obtain ⟨PV, hPV⟩ : ∃ PV : Nat → Value, ∀ k, encP (max (usedL cs) (k + 1)) (updS (setsL cs) k cs.length) = PV k := ⟨_, fun k => rfl⟩
    simp only [hPV] at PW IH
    unfold encL
    unfold encP at MH PW ⊢
    unfold rowP at MH PW BB hJ1 hblk ⊢
    generalize hS : setsL cs = S at *
    generalize S 0 = s0 at *
    generalize S 1 = s1 at *
    generalize S 2 = s2 at *
    generalize S 3 = s3 at *
    generalize S 4 = s4 at *
    generalize S 5 = s5 at *
    generalize S 6 = s6 at *
    generalize S 7 = s7 at *
    generalize S 8 = s8 at *
    generalize S 9 = s9 at *
    clear hPV hS
    generalize hU : usedL cs = U at *
    clear hU hK h0
    have hU2 : (U : Int) ≤ 10 := by omega
    have hm2 : (m : Int) ≤ 10 := by omega
    refine callsIn_of_wp Tryd.func33 rfl trivial ?_ rfl
    simp only [Tryd.ntmps33, List.size_toArray, List.length_cons, List.length_nil, Nat.reduceAdd, Nat.reduceSub, Array.replicate_succ, Array.replicate_zero, List.push_toArray, List.append_toArray, List.nil_append, List.cons_append]
    have hne : ((cs.length : Int) == (E : Int)) = false := by simp; omega
    have KC := Lib.hid hblk
    have C0 := Lib.hid (show canonK ps m r cs 0 = [] by simp [canonK])
    generalize canonK ps m r cs = CK at *
    generalize canon ps m (r + 1) cs = CR at *
    have HAB := Lib.hid habs
    have FR : ∀ (k : Nat), freeC ps cs (k : Int) = false ∨ freeC ps cs (k : Int) = true := fun k => by cases freeC ps cs (k : Int) <;> simp
    clear hblk habs hM2
    rcases Int.lt_trichotomy ((U : Int) + 1) (m : Int) with h3 | h3 | h3
    case' inl =>
      gi_wp2
      rw [show (U : Int) + 1 = (K : Int) by have := KI.out; omega]
    case' inr.inl =>
      gi_wp2
      (try rw [show (U : Int) + 1 = (m : Int) by omega])
      obtain rfl : K = m := by have := KI.out; omega
    case' inr.inr =>
      gi_wp2
      obtain rfl : K = m := by have := KI.out; omega
    all_goals
      clear KI
      gi_loopw [25] (fun i wr => ∃ k : Nat, k ≤ K ∧ i = .int .i64 (k : Int) ∧ J (pre ++ CK k) wr ∧ KpX gg W wr ∧ wr.heap[W.heap.size]? = some (.cells #[.int .i64 (U : Int), .int .u64 (s0 : Int), .int .u64 (s1 : Int), .int .u64 (s2 : Int), .int .u64 (s3 : Int), .int .u64 (s4 : Int), .int .u64 (s5 : Int), .int .u64 (s6 : Int), .int .u64 (s7 : Int), .int .u64 (s8 : Int), .int .u64 (s9 : Int)] 70 (0, 0))) (fun i _ => K - (intOf i).toNat)
      case atStart => exact ⟨0, Nat.zero_le _, rfl, by rw [C0.out, List.append_nil]; exact hJ1.out, kpX_of BB.out, KC.out⟩
      case round =>
        obtain ⟨k, hk, rfl, hj, hkp, hbw⟩ := hrel
        have HJ := Lib.hid hj
        have HK := Lib.hid hkp
        have HBW := Lib.hid hbw
        have hgw : W.heap.size < wr.heap.size := (Array.getElem?_eq_some_iff.1 hbw).1
        by_cases hlk : k < K
        · have hk0 : 0 ≤ (k : Int) := by omega
          have hk1 : (k : Int) < (K : Int) := by omega
          have k10' : (k : Int) < 10 := by omega
          have k0 := cell_heap9 hbw 0
          have k1 := cell_heap9 hbw 1
          have k2 := cell_heap9 hbw 2
          have k3 := cell_heap9 hbw 3
          have k4 := cell_heap9 hbw 4
          have k5 := cell_heap9 hbw 5
          have k6 := cell_heap9 hbw 6
          have k7 := cell_heap9 hbw 7
          have k8 := cell_heap9 hbw 8
          have k9 := cell_heap9 hbw 9
          have k10 := cell_heap9 hbw 10
          clear hbw hj hkp
          rcases FR k with hf | hf
          · have MK := MH.out k hlk wr HK.out
            rw [hf] at MK
            have MK' := Lib.hid MK
            clear MK
            have CN := Lib.hid (NF.out k hf)
            gi_wp2_with fail
            refine ⟨trivial, hdd _, (callsIn_wide.2 MK'.out).mono ?_⟩
            rintro e w1 ⟨rfl, hb1⟩
            have HB1 := Lib.hid hb1
            clear hb1 hf
            gi_wp2
            refine ⟨trivial, ?_⟩
            gi_wp2
            refine ⟨trivial, ?_⟩
            gi_wp2
            go_roundw
            case rel => exact ⟨k + 1, by omega, by go_num, by rw [CN.out]; exact HAB.out _ _ _ HJ.out HB1.out, kpX_t HK.out (kpX_of HB1.out), by rw [HB1.out.block _ hgw]; exact HBW.out⟩
            case measure => simp [intOf]; omega
          · have MK := MH.out k hlk wr HK.out
            rw [hf] at MK
            have MK' := Lib.hid MK
            clear MK
            have IK := Lib.hid (IH.out k hlk hf)
            have UK := Lib.hid (UP.out k hlk hf)
            gi_wp2_with fail
            refine ⟨trivial, hdd _, (callsIn_wide.2 MK'.out).mono ?_⟩
            rintro e w1 ⟨rfl, hb1⟩
            have HB1 := Lib.hid hb1
            have hbw1 : w1.heap[W.heap.size]? = some _ := (HB1.out.block _ hgw).trans HBW.out
            clear k0 k1 k2 k3 k4 k5 k6 k7 k8 k9 k10
            have k0 := cell_heap9 hbw1 0
            have k1 := cell_heap9 hbw1 1
            have k2 := cell_heap9 hbw1 2
            have k3 := cell_heap9 hbw1 3
            have k4 := cell_heap9 hbw1 4
            have k5 := cell_heap9 hbw1 5
            have k6 := cell_heap9 hbw1 6
            have k7 := cell_heap9 hbw1 7
            have k8 := cell_heap9 hbw1 8
            have k9 := cell_heap9 hbw1 9
            have k10 := cell_heap9 hbw1 10
            clear hb1 hf hbw1
            gi_wp2_with fail
            refine ⟨trivial, hdd _, (callsIn_wide.2 (PW.out k hlk w1)).mono ?_⟩
            rintro e w2 ⟨rfl, hb2⟩
            have HB2 := Lib.hid (HB1.out.trans (hb2.mono HB1.out.size))
            clear k0 k1 k2 k3 k4 k5 k6 k7 k8 k9 k10 hb2
            gi_wp2_with fail
            refine ⟨trivial, hdd _, (IK.out w2 (kpX_t HK.out (kpX_of HB2.out)) (HAB.out _ _ _ HJ.out HB2.out)).mono ?_⟩
            rintro e w3 (⟨rfl, hj3, hk3⟩ | ⟨rfl, q, hq, hx3⟩)
            · have HJ3 := Lib.hid hj3
              have HK3 := Lib.hid (kpX_t (kpX_of HB2.out) hk3)
              clear hj3 hk3
              gi_wp2
              go_roundw
              case rel => exact ⟨k + 1, by omega, by go_num, HJ3.out, kpX_t HK.out HK3.out, HK3.out.2 _ _ _ _ (by omega) HBW.out⟩
              case measure => simp [intOf]; omega
            · have HQ := Lib.hid hq
              have HX := Lib.hid hx3
              clear hq hx3
              gi_wp2
              go_ret
              exact .inr ⟨rfl, _, UK.out q HQ.out, by rw [← List.append_assoc]; exact HX.out⟩
        · obtain rfl : k = K := by omega
          clear hbw hj hkp
          gi_wp2
          go_ret
          exact .inl ⟨rfl, by rw [← CA.out]; exact HJ.out, HK.out⟩
end Go.Proofs.YtemhmejjmhbfdaaDoor.sines
