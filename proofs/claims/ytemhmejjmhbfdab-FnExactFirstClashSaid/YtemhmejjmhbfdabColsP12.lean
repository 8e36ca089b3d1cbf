/- The number of colours: contract of the program. -/
import Derived.Test.YtemhmejjmhbfdabColsP11
import Derived.Test.YtemhmejjmhbfdabColsK2
import Derived.Deep.RegionWith
namespace Go.Proofs.Ytemhmejjmhbfdab.sines
open Go.ChangeShapes Go.WideShapes Go.ChangeAt Go.RowKit Go.Shelf Go.Proofs.Ytemhmejjmhbfdab.spots Go.Proofs.Ytemhmejjmhbfdab.irows Go.Proofs.Ytemhmejjmhbfdab.pairsBorder
attribute [local go_sem] Oper.semAt_some
set_option linter.unusedSimpArgs false
set_option linter.unusedVariables false
theorem cells_kept {A C : World} {row : Option Nat} {B b0 : Nat} {cs : Array Value} {t : TypeId} (h : A.heap[B]? = some (.cells cs t (0, 0))) (hg : A.grownBy C row) (hr : ∀ r, row = some r → b0 ≤ r ∧ ∃ o : Obj, A.heap[r]? = some o ∧ o.isCells = false) : C.heap[B]? = some (.cells cs t (0, 0)) := by
  refine (hg.block B (Array.getElem?_eq_some_iff.1 h).1 (fun e => ?_)).trans h
  obtain ⟨_, o, h1, h2⟩ := hr B e.symm
  rw [h] at h1; cases h1; simp [Obj.isCells] at h2
theorem kpX_set {g : Nat} (W : World) (v : Value) : KpX g W (W.setCell ⟨g, 0, none⟩ v) :=
  ⟨by simp, fun i cs t fr hi hc => by rw [← hc]; exact heap_setCell_other W ⟨g, 0, none⟩ i v hi⟩
theorem sum_bound {m : Nat} (hm : m ≤ 6) : ∀ pre : List { x : List Int // usedL x ≤ m }, sumL (fun x => fallN m (usedL x.1)) pre ≤ 720 * pre.length
  | [] => by simp [sumL]
  | x :: pre => by
    have := sum_bound hm pre
    have := fallN_le hm (usedL x.1) x.2
    rw [sumL_cons, List.length_cons]; omega
theorem canon_bound {ps : List (Int × Int)} {m r : Nat} (hm : m ≤ 6) (hr : r ≤ 10) : (canon ps m r []).length ≤ 60466176 := by
  have h1 := canon_len ps m r []
  have h2 : m ^ r ≤ 6 ^ r := Nat.pow_le_pow_left hm r
  have h3 : 6 ^ r ≤ 6 ^ 10 := Nat.pow_le_pow_right (by omega) hr
  have : (6 : Nat) ^ 10 = 60466176 := by decide
  omega
theorem sum_pre {xs ys : List (List Int)} {f : List Int → Nat} (h : xs <+: ys) : sumL f xs ≤ sumL f ys := by
  obtain ⟨t, rfl⟩ := h
  rw [sumL_app]; omega
theorem count_few {n : Int} {ps : List (Int × Int)} {m : Int} (h : validC n ps = true) (m1 : m ≤ 6) : countC n ps m ≤ 282475249 := by
  obtain ⟨h1, h2⟩ := okPs_of h
  obtain ⟨n0, n1, _⟩ := validC_facts h
  rw [← waysC_all (fun p hp => ⟨(h1 p hp).1, (h1 p hp).2, h2 p hp⟩) m]
  exact ways_bound (by omega) (by omega)
set_option maxRecDepth 100000 in
set_option maxHeartbeats 2000000 in
theorem implCo_bad (n : Int) (v : Value) (ps : List (Int × Int)) (m : Int) (w : World) (hv : PAt w w.heap.size v ps) (hl : ps.length ≤ 1048576) (hc : codeMc n ps m ≠ 0) :
    Calls Try.prog 26 #[.int .i64 n, v, .int .i64 m] w fun e w' => e = .returned (.tuple #[.int .i64 0, .int .i64 (codeMc n ps m)]) ∧ Below w.heap.size w w' := by
  have BB := Lib.hid ((Below.refl w.heap.size w).alloc (Nat.le_refl _) (.cells #[.int .i64 m] 2))
  have CD := Lib.hid (fun b => bordersCode_any n v ps b (w.alloc (.cells #[.int .i64 m] 2)) (pat_up (pat_keep hv BB.out) BB.out.size) hl)
  have E := Lib.hid (show codeMc n ps m = (if validC n ps = true then (if inB m 1 6 = true then 0 else 2) else 1) from rfl)
  rw [E.out] at hc ⊢
  obtain ⟨a, c, rfl, _⟩ := hv
  clear E
  generalize validC n ps = R at CD hc ⊢
  cases hi : inB m 1 6 <;> cases R <;> rw [hi] at hc <;> simp only [Bool.false_eq_true, if_false, if_true] at hc ⊢
  case' true.true => exact absurd rfl hc
  all_goals
    go_enter Try.func26, Try.ntmps26
    go_wp2_with (go_at_call 66; refine (within_any _ _ _ _).mono ?_; rw [hi]; rintro e w' ⟨rfl, rfl⟩)
    refine (CD.out _).mono ?_
    rintro e w1 ⟨rfl, hb⟩
    have HB := Lib.hid (BB.out.trans (hb.mono BB.out.size))
    clear hb
    go_wp2
    first | exact bodyPost_ret (v := .tuple #[.int .i64 0, .int .i64 1]) (by simp [results, Try.results26, go_sem]) rfl ⟨rfl, HB.out⟩ | exact bodyPost_ret (v := .tuple #[.int .i64 0, .int .i64 2]) (by simp [results, Try.results26, go_sem]) rfl ⟨rfl, HB.out⟩
set_option maxRecDepth 100000 in
set_option maxHeartbeats 4000000 in
theorem implCo_good (N M : Nat) (v : Value) (ps : List (Int × Int)) (w : World) (hv : PAt w w.heap.size v ps) (hl : ps.length ≤ 1048576) (hok : validC (N : Int) ps = true) (m0 : 1 ≤ M) (m1 : M ≤ 6) :
    Calls Try.prog 26 #[.int .i64 (N : Int), v, .int .i64 (M : Int)] w fun e w' => e = .returned (.tuple #[.int .i64 ((countC (N : Int) ps (M : Int) : Nat) : Int), .int .i64 0]) ∧ Below w.heap.size w w' := by
  obtain ⟨n0, n1, _⟩ := validC_facts hok
  have HC := Lib.hid (countC_canon hok (M : Int))
  rw [Int.toNat_natCast, Int.toNat_natCast] at HC
  have hi : inB (M : Int) 1 6 = true := by simp [inB]; omega
  have BB := Lib.hid ((Below.refl w.heap.size w).alloc (Nat.le_refl _) (.cells #[.int .i64 (M : Int)] 2))
  have CD := Lib.hid (bordersCode_any N v ps true (w.alloc (.cells #[.int .i64 (M : Int)] 2)) (pat_up (pat_keep hv BB.out) BB.out.size) hl)
  rw [hok] at CD
  simp only [if_true] at CD
  have LM := Lib.hid (fun W (hb : Below w.heap.size w W) => landMapOf_any (N : Int) v ps W (pat_up (pat_keep hv hb) hb.size) hok)
  rw [Int.toNat_natCast] at LM
  have ho := (okPs_of hok).1
  obtain ⟨a, c, rfl, _⟩ := hv
  refine (callsIn_wide (n := 5)).1 ?_
  refine callsIn_of_wp_marks Try.func26 rfl trivial ?_ rfl
  simp only [Try.ntmps26, List.size_toArray, List.length_cons, List.length_nil, Nat.reduceAdd, Nat.reduceSub, Array.replicate_succ, Array.replicate_zero, List.push_toArray, List.append_toArray, List.nil_append, List.cons_append]
  refine wpIn_wide.2 ?_
  go_wp2_with (go_at_call 66; refine (within_any _ _ _ _).mono ?_; rw [hi]; rintro e w' ⟨rfl, rfl⟩)
  have bM := Lib.hid (Boxed.new w 2 (.int .i64 (M : Int)))
  generalize w.alloc (.cells #[.int .i64 (M : Int)] 2) = wL at *
  refine CD.out.mono ?_
  rintro e w1 ⟨rfl, hb⟩
  have B1 := Lib.hid (BB.out.trans (hb.mono BB.out.size))
  have b1 := Lib.hid (show Boxed w1 w.heap.size 2 (.int .i64 (M : Int)) from bM.out.kept (grown_of hb) (by simp))
  clear hb hi CD BB bM
  go_wp2_with fail
  have B2 := Lib.hid (B1.out.alloc B1.out.size (.cells #[.int .i64 0] 2))
  have bM := Lib.hid (b1.out.alloc (.cells #[.int .i64 0] 2))
  have bW := Lib.hid (Boxed.new w1 2 (.int .i64 0))
  have gw1 : w.heap.size < w1.heap.size := b1.out.lt
  generalize w1.alloc (.cells #[.int .i64 0] 2) = W2 at *
  generalize w1.heap.size = gw at *
  have c1 := bM.out.cell
  replace c1 : W2.drew.cell? ⟨w.heap.size, 0, none⟩ = some (.int .i64 (M : Int)) := c1
  have L2 := Lib.hid (LM.out W2.drew (Below.drew B2.out))
  clear LM
  refine Code.wp_mono (Q := fun e a' w' => match e with
    | Exit.normal => ∃ gm b : Nat, (W2.heap.size ≤ gm ∧ MB w' (.slice (some ⟨gm, 0, none⟩) N N) N (maskN ps) ∧ PBox w' b (.slice (some ⟨gm, 0, none⟩) N N) [] N M ∧ gm < b ∧ Below W2.heap.size W2 w') ∧
        a' = { tmps := #[.int .i64 (N : Int), .slice a ps.length c, .int .i64 (M : Int), undef, undef, .pointer (some ⟨w.heap.size, 0, none⟩), .int .i64 0, .int .i64 0, .int .i64 0, .pointer (some ⟨gw, 0, none⟩), undef, .int .i64 (N : Int), .slice a ps.length c, .int .i64 (M : Int), .bool true, .int .i64 0, .int .i64 0, .bool false, undef, .int .i64 (N : Int), .slice a ps.length c, .slice (some ⟨gm, 0, none⟩) N N, .int .i64 (N : Int), .int .i64 (M : Int), .func (.func 118) #[] (itP b), undef, undef, undef, undef, undef, undef, undef], defers := [] }
    | _ => False) ?hq ?h
  case h =>
    go_region_with (first
      | (go_at_call 67; refine L2.out.mono ?_; rintro e w3 ⟨u, rfl, hm3, hb3⟩; obtain ⟨gm, rfl, hg3, hm3⟩ := hm3; have c3 := (hb3.cell (p := ⟨w.heap.size, 0, none⟩) (World.block_lt_of_cell? _ _ c1)).trans c1)
      | (go_at_call 68; refine (paintings_any gm N N M _).mono ?_; rintro e w4 ⟨rfl, hp4, hb4⟩))
    all_goals exact ⟨gm, w3.heap.size, ⟨hg3, mb_keep ⟨gm, rfl, hm3⟩ hb4, hp4, by obtain ⟨cs, t, h, _⟩ := hm3; exact (Array.getElem?_eq_some_iff.1 h).1, (Below.drew (Below.refl _ _)).trans (hb3.trans (hb4.mono hb3.size))⟩, rfl⟩
  case hq =>
    intro e a' w4 h4
    cases e with
    | normal =>
      obtain ⟨gm, b, ⟨hg4, hm4, hp4, hgb, hb4⟩, rfl⟩ := h4
      have hN10 : N ≤ 10 := by omega
      have CB := Lib.hid (canon_bound (ps := ps) m1 hN10)
      have bM4 := Lib.hid (show Boxed w4 w.heap.size 2 (.int .i64 (M : Int)) from bM.out.kept (grown_of hb4) (by simp))
      have bW4 := Lib.hid (show Boxed w4 gw 2 (.int .i64 0) from bW.out.kept (grown_of hb4) (by simp))
      have B4 := Lib.hid (B2.out.trans (hb4.mono B2.out.size))
      have gw4 : gw < w4.heap.size := bW4.out.lt
      have gmw : gw ≠ gm := by have := bW.out.lt; omega
      have MB4 := Lib.hid (show MBl w4 gw (.slice (some ⟨gm, 0, none⟩) N N) N (maskN ps) by
        obtain ⟨gm', e, cs, t, h1, h2⟩ := hm4
        simp at e
        subst e
        exact ⟨gm, rfl, fun h => gmw h.symm, cs, t, h1, h2⟩)
      have HP4 := Lib.hid hp4
      have RN := Lib.hid (fun (x : { x : List Int // usedL x ≤ M }) W => renamings_any (usedL x.1) M (setsL x.1) W x.2 m1)
      clear hp4 hm4 hb4 bM bW B2 c1 L2
      go_wp2
      refine (wpIn_wide (n := 5)).1 ?_
      refine' wpIn_rangeFunc_ownH (F := Fence.wide) (n := 5) rfl (by omega) (gf := 118) (lb := itP b) rfl trivial (enters_of Try.func118 (by kernel_rfl) rfl)
        (paints_stopsU (5 - 1) b gw N N M N (.slice (some ⟨gm, 0, none⟩) N N) [] ps ho (Nat.le_refl _) hN10 (by omega) (by simp) (by simp) (by simp [usedL]) w4 HP4.out MB4.out gw4) kpX_t kpX_b (Below.refl _ _) (fun _ => rfl)
        (fun pre W => (Boxed W w.heap.size 2 (.int .i64 (M : Int)) ∧ Boxed W gw 2 (.int .i64 ((sumL (fun x => fallN M (usedL x.1)) pre : Nat) : Int))) ∧ Below w.heap.size w W)
        (fun _ _ _ => False)
        (OwnFrom.and (Own.from (fun s A B row hs hg hr => ⟨boxed_own w.heap.size 2 (fun _ : List { x : List Int // usedL x ≤ M } => Value.int .i64 (M : Int)) s A B row hs.1 hg hr, boxed_own gw 2 (fun pre : List { x : List Int // usedL x ≤ M } => Value.int .i64 ((sumL (fun x => fallN M (usedL x.1)) pre : Nat) : Int)) s A B row hs.2 hg hr⟩) _) (ownFrom_below (Nat.le_refl _) (by have := B4.out.size; omega)))
        (fun _ _ _ _ _ hs _ _ => hs)
        ⟨⟨bM4.out, by simpa [sumL] using bW4.out⟩, B4.out⟩
        (fun x a' W => ∃ Bx : Nat, gw < Bx ∧ W.heap[Bx]? = some (.cells (rowP (usedL x.1) (setsL x.1)) 112 (0, 0)) ∧ a' = { tmps := #[.int .i64 (N : Int), .slice a ps.length c, .int .i64 (M : Int), undef, undef, .pointer (some ⟨w.heap.size, 0, none⟩), .int .i64 0, .int .i64 0, .int .i64 0, .pointer (some ⟨gw, 0, none⟩), .pointer (some ⟨Bx, 0, none⟩), .int .i64 (N : Int), .slice a ps.length c, .int .i64 (M : Int), .bool true, .int .i64 0, .int .i64 0, .bool false, undef, .int .i64 (N : Int), .slice a ps.length c, .slice (some ⟨gm, 0, none⟩) N N, .int .i64 (N : Int), .int .i64 (M : Int), .func (.func 118) #[] (itP b), encL x.1, undef, undef, undef, undef, undef, undef], defers := [] })
        (fun x a' s A B row hs hg hr => by
          obtain ⟨Bx, h1, h2, h3⟩ := hs
          exact ⟨Bx, h1, cells_kept h2 hg hr, h3⟩)
        ?assign ?body ?done ?stop
      case assign =>
        rintro l pre x W K ⟨⟨hM, hV⟩, hB⟩ hK
        have hK' := hK _ _ ((KeepsOthers.alloc W (.cells (rowP (usedL x.1) (setsL x.1)) 112)).from _) (kpX_of ((Below.refl _ _).alloc (Nat.le_refl _) _)) ⟨⟨hM.alloc _, hV.alloc _⟩, hB.alloc hB.size _⟩ ⟨W.heap.size, hV.lt, heap_alloc_new W _, rfl⟩
        clear hK
        unfold encL encP at hK' ⊢
        unfold rowP at hK' ⊢
        gi_wp2
        exact hK'
      case body =>
        rintro l pre x a' W hl hlr ⟨⟨hM, hV⟩, hB⟩ ⟨Bx, hBx, bX, rfl⟩ hlt
        have hd : 1 ≤ 5 - 1 - 1 := by omega
        have hmx : Try.prog.follows .mixedOrders = true := by kernel_rfl
        have SB := sum_bound m1 pre
        have FB := fallN_le m1 (usedL x.1) x.2
        have CB' := CB.out
        have kw : IntKind.i64.wrap (((sumL (fun x => fallN M (usedL x.1)) pre : Nat) : Int) + (fallN M (usedL x.1) : Int)) = ((sumL (fun x => fallN M (usedL x.1)) pre : Nat) : Int) + (fallN M (usedL x.1) : Int) := IntWalk.i64_in _ (by omega)
        have SN := Lib.hid (show sumL (fun x => fallN M (usedL x.1)) (pre ++ [x]) = sumL (fun x => fallN M (usedL x.1)) pre + fallN M (usedL x.1) by rw [sumL_app, sumL_cons, sumL_nil]; omega)
        have RX := Lib.hid (RN.out x)
        have HM := Lib.hid hM
        have HV := Lib.hid hV
        have HB := Lib.hid hB
        have cM := hM.cell
        have cV := hV.cell
        have fV := hV.frozen
        clear CB' hM hV hB hlr
        unfold encL encP at *
        unfold rowP at *
        have k0 := cell_heap9 bX 0
        have k1 := cell_heap9 bX 1
        have k2 := cell_heap9 bX 2
        have k3 := cell_heap9 bX 3
        have k4 := cell_heap9 bX 4
        have k5 := cell_heap9 bX 5
        have k6 := cell_heap9 bX 6
        have k7 := cell_heap9 bX 7
        have k8 := cell_heap9 bX 8
        have k9 := cell_heap9 bX 9
        have k10 := cell_heap9 bX 10
        clear bX
        generalize sumL (fun x => fallN M (usedL x.1)) pre = S at *
        generalize fallN M (usedL x.1) = FX at *
        gi_wp2
        gi_region_with_o (refine ⟨trivial, ?_⟩; gi_at_call 69; refine (CallsIn.inRound l (callsIn_wide.2 (RX.out _))).mono ?_; rintro e w5 ⟨rfl, hb5⟩; have v5 := Boxed.kept (show Boxed W.drew gw 2 _ from HV.out) (grown_of hb5) (by simp); have c5 := v5.cell; have f5 := v5.frozen)
        all_goals
          have m5 : Boxed w5 w.heap.size 2 (.int .i64 (M : Int)) := Boxed.kept (show Boxed W.drew w.heap.size 2 _ from HM.out) (grown_of hb5) (by simp)
          have b5 : Below w.heap.size w w5 := (Below.drew HB.out).trans (hb5.mono HB.out.size)
          have kw5 : KpX gw W w5 := kpX_t (kpX_of (Below.drew (Below.refl _ W))) (kpX_of hb5)
          have ko5 : KeepsOthers W w5 := (KeepsOthers.drew W).trans (KeepsOthers.of_grownBy (grown_of hb5) (by simp))
          have post : KeepsFrom w4.heap.size W (w5.setCell ⟨gw, 0, none⟩ (.int .i64 ((S : Int) + (FX : Int)))) ∧ KpX gw W (w5.setCell ⟨gw, 0, none⟩ (.int .i64 ((S : Int) + (FX : Int)))) ∧ ((Boxed (w5.setCell ⟨gw, 0, none⟩ (.int .i64 ((S : Int) + (FX : Int)))) w.heap.size 2 (.int .i64 (M : Int)) ∧ Boxed (w5.setCell ⟨gw, 0, none⟩ (.int .i64 ((S : Int) + (FX : Int)))) gw 2 (.int .i64 ((sumL (fun x : { x : List Int // usedL x ≤ M } => fallN M (usedL x.1)) (pre ++ [x]) : Nat) : Int))) ∧ Below w.heap.size w (w5.setCell ⟨gw, 0, none⟩ (.int .i64 ((S : Int) + (FX : Int))))) := by
            refine ⟨(ko5.trans (KeepsOthers.setCell _ _ _)).from _, kpX_t kw5 (kpX_set _ _), ⟨(heap_setCell_other w5 ⟨gw, 0, none⟩ w.heap.size _ (by simp; omega)).trans m5, ?_⟩, b5.setCell (p := ⟨gw, 0, none⟩) (by simp; omega) _⟩
            rw [SN.out, Int.natCast_add]
            exact v5.set _
          exact post
      case done =>
        rintro D ys W hD hys ⟨⟨hM, hV⟩, hB⟩ hK
        have e : sumL (fun x : { x : List Int // usedL x ≤ M } => fallN M (usedL x.1)) ys = countC (N : Int) ps (M : Int) := by
          rw [← HC.out, ← hys, sumL_map]
        rw [e] at hV
        have hc := hV.cell
        have HE := Lib.hid e
        clear e
        go_wp2
        refine ⟨by simp, .inl ⟨_, _, rfl, run_takeDeferred hK, ?_⟩⟩
        refine ⟨.tuple #[.int .i64 ((countC (N : Int) ps (M : Int) : Nat) : Int), .int .i64 0], ?_, rfl, hB.trans (belowK_b (w := w4) (by have := B4.out.size; omega) W D _ _ hD hK rfl rfl)⟩
        simp [results, Try.results26, go_sem]
      case stop =>
        rintro D c pre W hD hpre hh
        exact hh.elim
    | _ => exact h4.elim
theorem implCo_any (n : Int) (v : Value) (ps : List (Int × Int)) (m : Int) (w : World) (hv : PAt w w.heap.size v ps) (hl : ps.length ≤ 1048576) :
    Calls Try.prog 26 #[.int .i64 n, v, .int .i64 m] w fun e w' => e = .returned (.tuple #[.int .i64 (valCo n ps m), .int .i64 (codeMc n ps m)]) ∧ Below w.heap.size w w' := by
  by_cases hc : codeMc n ps m = 0
  · obtain ⟨hok, m0, m1⟩ := codeMc_of hc
    obtain ⟨n0, n1, _⟩ := validC_facts hok
    obtain ⟨N, rfl⟩ : ∃ N : Nat, n = (N : Int) := ⟨n.toNat, by omega⟩
    obtain ⟨M, rfl⟩ : ∃ M : Nat, m = (M : Int) := ⟨m.toNat, by omega⟩
    rw [valCo, if_pos hc, hc]
    exact implCo_good N M v ps w hv hl hok (by omega) (by omega)
  · rw [valCo, if_neg hc]
    exact implCo_bad n v ps m w hv hl hc
end Go.Proofs.Ytemhmejjmhbfdab.sines
