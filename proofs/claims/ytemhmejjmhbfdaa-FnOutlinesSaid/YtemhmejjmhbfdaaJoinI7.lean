/- Points inside a closed chain: contracts of the program. -/
import Derived.Test.YtemhmejjmhbfdaaJoinI3
import Derived.Test.YtemhmejjmhbfdaaChainI2
import Derived.Deep.RegionHeld3
namespace Go.Proofs.Ytemhmejjmhbfdaa.sines
open Go.ChangeShapes Go.WideShapes Go.ChangeAt Go.RowKit Go.Shelf Go.Proofs.Ytemhmejjmhbfdaa.spots Go.Proofs.Ytemhmejjmhbfdaa.irows Go.Proofs.Ytemhmejjmhbfdaa.pairsPlace
attribute [local go_sem] Oper.semAt_some
set_option linter.unusedSimpArgs false
set_option linter.unusedVariables false

theorem op_round {P : Program} {n l : Nat} {o : Oper} {a : Act} {w : World} {K : Act → World → Prop} {Q : Exit → Act → World → Prop} (hd : ∀ c, o.op ≠ .defer c) (h : o.wp P a w K Q) : o.wpIn (Fence.wide.inRound l) n P a w K Q := by
  unfold Oper.wpIn
  refine ⟨fun _ _ => trivial, ?_⟩
  rw [show (Fence.wide.inRound l).round = some l from rfl, Oper.semAt_some l _ _ hd]
  unfold Oper.wp at h
  cases e : (execOp a.eval o).run P w with
  | ok x w' =>
    rw [e] at h
    cases x with
    | value v => exact h
    | skip => exact h
    | defer d => exact h
    | enter f args => exact ⟨(fun h0 => by cases h0), CallsIn.inRound l (callsIn_wide.2 h)⟩
    | row r args => exact ⟨(fun h0 => by cases h0), fun c cs _ => by
        obtain ⟨v, w2, r1, s1⟩ := h c cs
        exact ⟨v, w2, r1, stepsIn_wide.2 s1⟩⟩
    | _ => exact h.elim
  | halt x w' =>
    rw [e] at h
    cases x <;> exact h
theorem any_round {P : Program} {n l : Nat} {md : Region.Mode} {ops : Array Oper} {Q : Exit → Act → World → Prop} (hQ : ¬ LetsOut Q) (hd : ∀ (i : Nat) (o : Oper), ops[i]? = some o → ∀ c, o.op ≠ .defer c) :
    ∀ (fuel : Nat) (listed : Array Bool) (a : Act) (w : World), wpAny P md ops Q fuel listed a w → wpAnyIn (Fence.wide.inRound l) n P md ops Q fuel listed a w
  | 0, _, _, _, h => h
  | fuel + 1, listed, a, w, h => ⟨h.1, fun i hi => by
    have h2 := h.2 i hi
    unfold wpOp at h2
    unfold wpOpIn
    cases e : ops[i]? with
    | none =>
      rw [e] at h2
      exact any_round hQ hd fuel _ _ _ h2
    | some o =>
      rw [e] at h2
      simp only at h2 ⊢
      split
      · rename_i hw
        rw [if_pos hw] at h2
        rcases h2 with h2 | h2
        · exact op_round (hd i o e) (Oper.wp_mono (fun a' w' h' => any_round hQ hd fuel _ a' w' h') h2)
        · exact absurd h2.2 hQ
      · rename_i hw
        rw [if_neg hw] at h2
        exact ⟨fun _ _ => trivial, any_round hQ hd fuel _ _ _ h2⟩⟩
theorem region_round {P : Program} {n l id : Nat} {ops : Array Oper} {Q : Exit → Act → World → Prop} {a : Act} {w : World} (S : World → Prop) (hm : P.follows .mixedOrders = true) (hQ : ¬ LetsOut Q) (hd : ∀ (i : Nat) (o : Oper), ops[i]? = some o → ∀ c, o.op ≠ .defer c)
    (h : wpAnyH P .any ops Q S ops.size (Array.replicate ops.size false) a w.drew) : (Code.region id ops true).wpIn (Fence.wide.inRound l) n P Q a w :=
  wpIn_region_any hm (any_round hQ hd _ _ _ _ (wpAny_of_held _ _ _ _ h))
/-- What an edge counts. -/
def windE (a b p : Pl) : Int := if ¬ p.2 < a.2 ∧ p.2 < b.2 ∧ 0 < crossI a b p then 1 else if p.2 < a.2 ∧ ¬ p.2 < b.2 ∧ crossI a b p < 0 then -1 else 0
theorem windE_bound (a b p : Pl) : -1 ≤ windE a b p ∧ windE a b p ≤ 1 := by
  unfold windE
  split
  · omega
  · split <;> omega
theorem windE_hit (a b p : Pl) : decide (windE a b p % 2 ≠ 0) = hitB a b p := by
  unfold windE hitB
  by_cases h1 : p.2 < a.2
  · by_cases h2 : p.2 < b.2
    · simp [h1, h2]
    · have h3 : b.2 < a.2 := by omega
      by_cases h4 : crossI a b p < 0
      · simp [h1, h2, h3, h4]
      · simp [h1, h2, h3, h4]
  · by_cases h2 : p.2 < b.2
    · have h3 : ¬ b.2 < a.2 := by omega
      by_cases h4 : 0 < crossI a b p
      · simp [h1, h2, h3, h4]
      · simp [h1, h2, h3, h4]
    · simp [h1, h2]
def windF (ps : List Pl) (p : Pl) (k : Nat) : Int := windE (pAt ps k) (pAt ps (k + 1)) p
theorem wind_in (ps : List Pl) (p : Pl) : ∀ k, decide (sumE (windF ps p) (List.range k) % 2 ≠ 0) = inN ps p k
  | 0 => by simp [sumE, inN]
  | k + 1 => by
    rw [List.range_succ, sumE_snoc]
    have h1 := wind_in ps p k
    have h2 := windE_hit (pAt ps k) (pAt ps (k + 1)) p
    simp only [inN]
    rw [← h1, ← h2]
    have e : windF ps p k = windE (pAt ps k) (pAt ps (k + 1)) p := rfl
    rw [e]
    generalize sumE (windF ps p) (List.range k) = s
    generalize windE (pAt ps k) (pAt ps (k + 1)) p = t
    by_cases a : s % 2 = 0
    · by_cases b : t % 2 = 0
      · have c : (s + t) % 2 = 0 := by omega
        simp [a, b, c]
      · have c : ¬ (s + t) % 2 = 0 := by omega
        simp [a, b, c]
    · by_cases b : t % 2 = 0
      · have c : ¬ (s + t) % 2 = 0 := by omega
        simp [a, b, c]
      · have c : (s + t) % 2 = 0 := by omega
        simp [a, b, c]
def windI (ps : List Pl) (p : Pl) : Int := sumE (windF ps p) (List.range (ps.length - 1))
theorem wind_bound {ps : List Pl} {p : Pl} (h : ps.length ≤ 24) : -24 ≤ windI ps p ∧ windI ps p ≤ 24 := by
  have := sumE_bound (f := windF ps p) (M := 1) (List.range (ps.length - 1)) (fun x _ => windE_bound _ _ _)
  rw [List.length_range] at this
  unfold windI
  omega
set_option maxRecDepth 100000 in
set_option maxHeartbeats 4000000 in
theorem windingAround_any (v : Value) (ps : List (Int × Int)) (p0 p1 : Int) (w : World) (hv : PAt w w.heap.size v ps) (hok : okC ps = true) (hp : okP (p0, p1) = true) :
    Calls Try.prog 133 #[v, .agg #[.int .i64 p0, .int .i64 p1]] w fun e w' => e = .returned (.int .i64 (windI ps (p0, p1))) ∧ Below w.heap.size w w' := by
  obtain ⟨q1, q2, q3⟩ := okC_of hok
  have HO := Lib.hid q3
  have EA := Lib.hid (show windI ps (p0, p1) = sumE (windF ps (p0, p1)) (List.range (ps.length - 1)) from rfl)
  have EB := Lib.hid (fun (pre : List (Edge ps)) => preE_bound (ps := ps) (f := windF ps (p0, p1)) (M := 1) (fun x _ => windE_bound _ _ _) pre)
  have HP := Lib.hid hp
  have HV := Lib.hid hv
  obtain ⟨ar, c, rfl, _⟩ := hv
  clear q3
  obtain ⟨R, hR⟩ : ∃ R, Hid (windI ps (p0, p1) = R) := ⟨_, Lib.hid rfl⟩
  rw [hR.out] at EA ⊢
  refine (callsIn_wide (n := 5)).1 ?_
  refine callsIn_of_wp_marks Try.func133 rfl trivial ?_ rfl
  simp only [Try.ntmps133, List.size_toArray, List.length_cons, List.length_nil, Nat.reduceAdd, Nat.reduceSub, Array.replicate_succ, Array.replicate_zero, List.push_toArray, List.append_toArray, List.nil_append, List.cons_append]
  refine wpIn_wide.2 ?_
  go_wp2_with fail
  have B0 := Lib.hid ((Below.refl w.heap.size w).alloc (Nat.le_refl _) (.cells #[.int .i64 p0, .int .i64 p1] 60))
  have hP0 := World.alloc_heap_new w (.cells #[.int .i64 p0, .int .i64 p1] 60)
  generalize hW0 : w.alloc (.cells #[.int .i64 p0, .int .i64 p1] 60) = W0 at *
  have B1 := Lib.hid (B0.out.alloc B0.out.size (.cells #[.int .i64 0] 2))
  have bA := Lib.hid (Boxed.new W0 2 (.int .i64 0))
  have hP1 := (Below.heap_alloc W0 (.cells #[.int .i64 0] 2) w.heap.size (Array.getElem?_eq_some_iff.1 hP0).1).trans hP0
  have hpg : w.heap.size < W0.heap.size := (Array.getElem?_eq_some_iff.1 hP0).1
  generalize hW1 : W0.alloc (.cells #[.int .i64 0] 2) = W1 at *
  refine (edges_any _ _ _ _).mono ?_
  rintro e w2 ⟨rfl, hc2, hb2⟩
  have B2 := Lib.hid (B1.out.trans (hb2.mono B1.out.size))
  have bA2 := Lib.hid (show Boxed w2 W0.heap.size 2 (.int .i64 0) from bA.out.kept (grown_of hb2) (by simp))
  have hg1 : W0.heap.size = w.heap.size + 1 := by rw [← hW0]; simp
  have hg1 : W0.heap.size = w.heap.size + 1 := by rw [← hW0]; simp
  have hg1 : W0.heap.size = w.heap.size + 1 := by rw [← hW0]; simp
  have hg1 : W0.heap.size = w.heap.size + 1 := by rw [← hW0]; simp
  have hBg : W1.heap.size ≠ W0.heap.size := by have := bA.out.lt; omega
  have hP2 := (hb2.block w.heap.size (Array.getElem?_eq_some_iff.1 hP1).1).trans hP1
  have PX := Lib.hid (show PAtX w2 W0.heap.size (.slice ar ps.length c) ps from patx_keep (patx_keep (pat_x HV.out (by omega) (by omega)) (kpX_of B1.out)) (kpX_of hb2))
  have gw2 : W0.heap.size < w2.heap.size := bA2.out.lt
  rw [hg1] at bA2 hBg PX gw2
  generalize W1.heap.size = B at *
  clear hg1 hpg
  generalize hpb : w.heap.size = pb at *
  clear hb2 bA hP0 hP1
  go_wp2
  refine (wpIn_wide (n := 5)).1 ?_
  refine' wpIn_rangeFunc_ownH (F := Fence.wide) (n := 5) rfl (by omega) (gf := 178) (lb := #[.pointer (some ⟨B, 0, none⟩)]) rfl trivial (enters_of Try.func178 (by kernel_rfl) rfl)
    (edges_stops (5 - 1) B (pb + 1) (.slice ar ps.length c) ps q1 (by omega) hBg w2 hc2 PX.out) kpX_t kpX_b (Below.refl _ _) (fun _ => rfl)
    (fun pre W => (Boxed W (pb + 1) 2 (.int .i64 (sumE (windF ps (p0, p1)) (pre.map Subtype.val))) ∧ W.heap[pb]? = some (.cells #[.int .i64 p0, .int .i64 p1] 60 (0, 0))) ∧ Below pb w W)
    (fun _ _ _ => False)
    (OwnFrom.and (Own.from (fun s A B row hs hg hr => ⟨boxed_own (pb + 1) 2 (fun pre : List (Edge ps) => Value.int .i64 (sumE (windF ps (p0, p1)) (pre.map Subtype.val))) s A B row hs.1 hg hr, cells_kept (b0 := 0) hs.2 hg (fun r e => ⟨Nat.zero_le _, hr r e⟩)⟩) _) (ownFrom_below (by rw [← hpb]; exact Nat.le_refl _) (by omega)))
    (fun _ _ _ _ _ hs _ _ => hs)
    ⟨⟨by simpa [sumE] using bA2.out, hP2⟩, B2.out⟩
    (fun x a' W => ∃ b1 b2 : Nat, pb + 1 < b1 ∧ pb + 1 < b2 ∧ W.heap[b1]? = some (.cells #[.int .i64 (pAt ps x.1).1, .int .i64 (pAt ps x.1).2] 60 (0, 0)) ∧ W.heap[b2]? = some (.cells #[.int .i64 (pAt ps (x.1 + 1)).1, .int .i64 (pAt ps (x.1 + 1)).2] 60 (0, 0)) ∧ a' = { tmps := #[.slice ar ps.length c, .agg #[.int .i64 p0, .int .i64 p1], undef, .pointer (some ⟨pb, 0, none⟩), .int .i64 0, .pointer (some ⟨pb + 1, 0, none⟩), .pointer (some ⟨b1, 0, none⟩), .pointer (some ⟨b2, 0, none⟩), undef, undef, undef, .slice ar ps.length c, .func (.func 178) #[] #[.pointer (some ⟨B, 0, none⟩)], .agg #[.int .i64 (pAt ps x.1).1, .int .i64 (pAt ps x.1).2], .agg #[.int .i64 (pAt ps (x.1 + 1)).1, .int .i64 (pAt ps (x.1 + 1)).2], undef, undef, undef, undef, undef, undef, undef, undef, undef, undef, undef, undef, undef, undef, undef, undef, undef, undef, undef, undef, undef, undef, undef, undef, undef, undef, undef, undef, undef, undef, undef, undef, undef, undef, undef, undef, undef, undef, undef], defers := [] })
    (fun x a' s A B row hs hg hr => by
      obtain ⟨b1, b2, h1, h2, h3, h4, h5⟩ := hs
      exact ⟨b1, b2, h1, h2, cells_kept h3 hg hr, cells_kept h4 hg hr, h5⟩)
    ?assign ?body ?done ?stop
  case assign =>
    rintro l pre x W K ⟨⟨hV, hQ⟩, hB⟩ hK
    have hs := hB.size
    have hlt := hV.lt
    have hK' := hK _ _ (((KeepsOthers.alloc W (.cells #[.int .i64 (pAt ps x.1).1, .int .i64 (pAt ps x.1).2] 60)).trans (KeepsOthers.alloc _ (.cells #[.int .i64 (pAt ps (x.1 + 1)).1, .int .i64 (pAt ps (x.1 + 1)).2] 60))).from _) (kpX_of (((Below.refl _ _).alloc (Nat.le_refl _) _).alloc (by simp) _)) ⟨⟨(hV.alloc _).alloc _, (Below.heap_alloc _ _ _ (by simp; omega)).trans ((Below.heap_alloc _ _ _ (by omega)).trans hQ)⟩, (hB.alloc (by omega) _).alloc (by simp; omega) _⟩ ⟨W.heap.size, W.heap.size + 1, hlt, by omega, (Below.heap_alloc _ _ _ (by simp)).trans (World.alloc_heap_new W _), by have := World.alloc_heap_new (W.alloc (.cells #[.int .i64 (pAt ps x.1).1, .int .i64 (pAt ps x.1).2] 60)) (.cells #[.int .i64 (pAt ps (x.1 + 1)).1, .int .i64 (pAt ps (x.1 + 1)).2] 60); rwa [World.size_alloc] at this, rfl⟩
    clear hK
    unfold encE at hK' ⊢
    gi_wp2
    exact hK'
  case body =>
    rintro l pre x a' W hl hlr ⟨⟨hV, hQ⟩, hB⟩ ⟨b1, b2, h1, h2, h3, h4, rfl⟩ hlt
    obtain ⟨s1, s2⟩ := EB.out pre
    have hx := x.2
    have SO := Lib.hid (fun W => sideOf_any (pAt ps x.1).1 (pAt ps x.1).2 (pAt ps (x.1 + 1)).1 (pAt ps (x.1 + 1)).2 p0 p1 W (HO.out x.1 (by omega)) (HO.out (x.1 + 1) hx) HP.out)
    have SN := Lib.hid (show sumE (windF ps (p0, p1)) ((pre ++ [x]).map Subtype.val) = sumE (windF ps (p0, p1)) (pre.map Subtype.val) + windE ((pAt ps x.1).1, (pAt ps x.1).2) ((pAt ps (x.1 + 1)).1, (pAt ps (x.1 + 1)).2) (p0, p1) by rw [List.map_append]; exact sumE_snoc _ _ _)
    have hln : pre.length ≤ 23 := by omega
    have hmx : Try.prog.follows .mixedOrders = true := by kernel_rfl
    have POST := Lib.hid (show ∀ (U : World) (z : Int), Below W.heap.size W U → sumE (windF ps (p0, p1)) ((pre ++ [x]).map Subtype.val) = z → KeepsFrom w2.heap.size W (U.setCell ⟨pb + 1, 0, none⟩ (.int .i64 z)) ∧ KpX (pb + 1) W (U.setCell ⟨pb + 1, 0, none⟩ (.int .i64 z)) ∧ ((Boxed (U.setCell ⟨pb + 1, 0, none⟩ (.int .i64 z)) (pb + 1) 2 (.int .i64 (sumE (windF ps (p0, p1)) ((pre ++ [x]).map Subtype.val))) ∧ (U.setCell ⟨pb + 1, 0, none⟩ (.int .i64 z)).heap[pb]? = some (.cells #[.int .i64 p0, .int .i64 p1] 60 (0, 0))) ∧ Below pb w (U.setCell ⟨pb + 1, 0, none⟩ (.int .i64 z))) from fun U z hU hz => by
      have hv : Boxed U (pb + 1) 2 _ := hV.kept (grown_of hU) (by simp)
      have hq : U.heap[pb]? = _ := (hU.block pb (by have := hV.lt; omega)).trans hQ
      exact ⟨((KeepsOthers.of_grownBy (grown_of hU) (by simp)).trans (KeepsOthers.setCell _ _ _)).from _, kpX_t (kpX_of hU) (kpX_set _ _), ⟨by rw [hz]; exact hv.set _, (heap_setCell_other U ⟨pb + 1, 0, none⟩ pb _ (by show pb ≠ pb + 1; omega)).trans hq⟩, (hB.trans (hU.mono (by have := hB.size; omega))).setCell (p := ⟨pb + 1, 0, none⟩) (by show pb ≤ pb + 1; omega) _⟩)
    have POST0 := Lib.hid (show ∀ U : World, Below W.heap.size W U → sumE (windF ps (p0, p1)) ((pre ++ [x]).map Subtype.val) = sumE (windF ps (p0, p1)) (pre.map Subtype.val) → KeepsFrom w2.heap.size W U ∧ KpX (pb + 1) W U ∧ ((Boxed U (pb + 1) 2 (.int .i64 (sumE (windF ps (p0, p1)) ((pre ++ [x]).map Subtype.val))) ∧ U.heap[pb]? = some (.cells #[.int .i64 p0, .int .i64 p1] 60 (0, 0))) ∧ Below pb w U) from fun U hU hz => by
      have hv : Boxed U (pb + 1) 2 _ := hV.kept (grown_of hU) (by simp)
      have hq : U.heap[pb]? = _ := (hU.block pb (by have := hV.lt; omega)).trans hQ
      exact ⟨(KeepsOthers.of_grownBy (grown_of hU) (by simp)).from _, kpX_of hU, ⟨by rw [hz]; exact hv, hq⟩, hB.trans (hU.mono (by have := hB.size; omega))⟩)
    have k1 := cell_heap9 h3 0
    have k2 := cell_heap9 h3 1
    have k3 := cell_heap9 h4 0
    have k4 := cell_heap9 h4 1
    have k5 := cell_heap9 hQ 0
    have k6 := cell_heap9 hQ 1
    have l1 : b1 < W.heap.size := (Array.getElem?_eq_some_iff.1 h3).1
    have l2 : b2 < W.heap.size := (Array.getElem?_eq_some_iff.1 h4).1
    have l3 : pb + 1 < W.heap.size := hV.lt
    have cV := hV.cell
    have fV := hV.frozen
    have HVV := Lib.hid hV
    clear h3 h4 hB hV hlr hQ
    have eC : crossI ((pAt ps x.1).1, (pAt ps x.1).2) ((pAt ps (x.1 + 1)).1, (pAt ps (x.1 + 1)).2) (p0, p1) = crossI (pAt ps x.1) (pAt ps (x.1 + 1)) (p0, p1) := rfl
    unfold windE at SN
    rw [eC] at SO SN
    simp only at SN
    clear eC
    generalize sumE (windF ps (p0, p1)) (pre.map Subtype.val) = S at *
    generalize crossI (pAt ps x.1) (pAt ps (x.1 + 1)) (p0, p1) = C at *
    generalize (pAt ps x.1).1 = x1 at *
    generalize (pAt ps x.1).2 = x2 at *
    generalize (pAt ps (x.1 + 1)).1 = y1 at *
    generalize (pAt ps (x.1 + 1)).2 = y2 at *
    have m1 : IntKind.i64.wrap (S + 1) = S + 1 := IntWalk.i64_in _ (by omega)
    have m2 : IntKind.i64.wrap (S - 1) = S - 1 := IntWalk.i64_in _ (by omega)
    clear s1 s2
    gi_wp2
    refine ⟨trivial, (CallsIn.inRound l (callsIn_wide.2 (SO.out _))).mono ?_⟩
    rintro e w5 ⟨rfl, hb5⟩
    have r1 := (hb5.cell (p := ⟨b1, 0, none⟩) l1).trans k1
    have r2 := (hb5.cell (p := ⟨b1, 1, none⟩) l1).trans k2
    have r3 := (hb5.cell (p := ⟨b2, 0, none⟩) l2).trans k3
    have r4 := (hb5.cell (p := ⟨b2, 1, none⟩) l2).trans k4
    have r5 := (hb5.cell (p := ⟨pb, 0, none⟩) (by show pb < _; omega)).trans k5
    have r6 := (hb5.cell (p := ⟨pb, 1, none⟩) (by show pb < _; omega)).trans k6
    have v5 := HVV.out.kept (grown_of hb5) (by simp)
    have r7 := v5.cell
    have r8 := v5.frozen
    have HB5 := Lib.hid hb5
    have HB5d := Lib.hid (show Below W.heap.size W w5.drew from Below.drew hb5)
    clear k1 k2 k3 k4 k5 k6 cV fV hb5 v5
    by_cases e1 : p1 < x2
    · by_cases e2 : p1 < y2
      · have SJ := Lib.hid (show sumE (windF ps (p0, p1)) ((pre ++ [x]).map Subtype.val) = S by rw [SN.out]; simp [e1, e2, show ¬ x2 ≤ p1 by omega, show ¬ y2 ≤ p1 by omega])
        gi_wp2
        have hS0 : Hid ((fun U : World => U.cell? ⟨b1, 1, none⟩ = some (.int .i64 x2) ∧ U.cell? ⟨b2, 1, none⟩ = some (.int .i64 y2) ∧ U.cell? ⟨pb, 1, none⟩ = some (.int .i64 p1)) w5.drew) := Lib.hid ⟨r2, r4, r6⟩
        refine region_round (fun U : World => U.cell? ⟨b1, 1, none⟩ = some (.int .i64 x2) ∧ U.cell? ⟨b2, 1, none⟩ = some (.int .i64 y2) ∧ U.cell? ⟨pb, 1, none⟩ = some (.int .i64 p1)) hmx (by rintro ⟨_, _, h⟩; exact h) ?hd ?takes
        case hd =>
          intro i o h c e
          have hi : i < 12 := (Array.getElem?_eq_some_iff.1 h).1
          obtain rfl | rfl | rfl | rfl | rfl | rfl | rfl | rfl | rfl | rfl | rfl | rfl : i = 0 ∨ i = 1 ∨ i = 2 ∨ i = 3 ∨ i = 4 ∨ i = 5 ∨ i = 6 ∨ i = 7 ∨ i = 8 ∨ i = 9 ∨ i = 10 ∨ i = 11 := by omega
          all_goals
            cases h
            cases e
        case takes =>
        change wpAnyH _ _ _ _ _ 12 #[false, false, false, false, false, false, false, false, false, false, false, false] _ _
        refine wpAnyH_take (i := 0) (v := .pointer (some ⟨b1, 1, none⟩)) rfl (by kernel_rfl) (by kernel_rfl) (by kernel_rfl) (fun _ _ _ h => h) (Or.inl ⟨by rfl, ?hy0⟩) hS0.out ?rest0
        case hy0 =>
          intro U hU
          obtain ⟨u1, u2, u3⟩ := hU
          go_simp
        case rest0 =>
        simp only [Act.put, List.getElem_toArray, List.getElem_cons_zero, List.getElem_cons_succ, List.setIfInBounds_toArray, List.set_cons_zero, List.set_cons_succ]
        refine wpAnyH_take (i := 1) (v := .int .i64 x2) rfl (by kernel_rfl) (by kernel_rfl) (by kernel_rfl) (fun _ _ _ h => h) (Or.inl ⟨by rfl, ?hy1⟩) hS0.out ?rest1
        case hy1 =>
          intro U hU
          obtain ⟨u1, u2, u3⟩ := hU
          go_simp
        case rest1 =>
        simp only [Act.put, List.getElem_toArray, List.getElem_cons_zero, List.getElem_cons_succ, List.setIfInBounds_toArray, List.set_cons_zero, List.set_cons_succ]
        refine wpAnyH_take (i := 2) (v := .pointer (some ⟨pb, 1, none⟩)) rfl (by kernel_rfl) (by kernel_rfl) (by kernel_rfl) (fun _ _ _ h => h) (Or.inl ⟨by rfl, ?hy2⟩) hS0.out ?rest2
        case hy2 =>
          intro U hU
          obtain ⟨u1, u2, u3⟩ := hU
          go_simp
        case rest2 =>
        simp only [Act.put, List.getElem_toArray, List.getElem_cons_zero, List.getElem_cons_succ, List.setIfInBounds_toArray, List.set_cons_zero, List.set_cons_succ]
        refine wpAnyH_take (i := 3) (v := .int .i64 p1) rfl (by kernel_rfl) (by kernel_rfl) (by kernel_rfl) (fun _ _ _ h => h) (Or.inl ⟨by rfl, ?hy3⟩) hS0.out ?rest3
        case hy3 =>
          intro U hU
          obtain ⟨u1, u2, u3⟩ := hU
          go_simp
        case rest3 =>
        simp only [Act.put, List.getElem_toArray, List.getElem_cons_zero, List.getElem_cons_succ, List.setIfInBounds_toArray, List.set_cons_zero, List.set_cons_succ]
        refine wpAnyH_take (i := 4) (v := .bool true) rfl (by kernel_rfl) (by kernel_rfl) (by kernel_rfl) (fun _ _ _ h => h) (Or.inl ⟨by rfl, ?hy4⟩) hS0.out ?rest4
        case hy4 =>
          intro U hU
          obtain ⟨u1, u2, u3⟩ := hU
          go_simp
        case rest4 =>
        simp only [Act.put, List.getElem_toArray, List.getElem_cons_zero, List.getElem_cons_succ, List.setIfInBounds_toArray, List.set_cons_zero, List.set_cons_succ]
        refine wpAnyH_take (i := 5) (v := .pointer (some ⟨b2, 1, none⟩)) rfl (by kernel_rfl) (by kernel_rfl) (by kernel_rfl) (fun _ _ _ h => h) (Or.inl ⟨by rfl, ?hy5⟩) hS0.out ?rest5
        case hy5 =>
          intro U hU
          obtain ⟨u1, u2, u3⟩ := hU
          go_simp
        case rest5 =>
        simp only [Act.put, List.getElem_toArray, List.getElem_cons_zero, List.getElem_cons_succ, List.setIfInBounds_toArray, List.set_cons_zero, List.set_cons_succ]
        refine wpAnyH_take (i := 6) (v := .int .i64 y2) rfl (by kernel_rfl) (by kernel_rfl) (by kernel_rfl) (fun _ _ _ h => h) (Or.inl ⟨by rfl, ?hy6⟩) hS0.out ?rest6
        case hy6 =>
          intro U hU
          obtain ⟨u1, u2, u3⟩ := hU
          go_simp
        case rest6 =>
        simp only [Act.put, List.getElem_toArray, List.getElem_cons_zero, List.getElem_cons_succ, List.setIfInBounds_toArray, List.set_cons_zero, List.set_cons_succ]
        refine wpAnyH_take (i := 7) (v := .pointer (some ⟨pb, 1, none⟩)) rfl (by kernel_rfl) (by kernel_rfl) (by kernel_rfl) (fun _ _ _ h => h) (Or.inl ⟨by rfl, ?hy7⟩) hS0.out ?rest7
        case hy7 =>
          intro U hU
          obtain ⟨u1, u2, u3⟩ := hU
          go_simp
        case rest7 =>
        simp only [Act.put, List.getElem_toArray, List.getElem_cons_zero, List.getElem_cons_succ, List.setIfInBounds_toArray, List.set_cons_zero, List.set_cons_succ]
        refine wpAnyH_take (i := 8) (v := .int .i64 p1) rfl (by kernel_rfl) (by kernel_rfl) (by kernel_rfl) (fun _ _ _ h => h) (Or.inl ⟨by rfl, ?hy8⟩) hS0.out ?rest8
        case hy8 =>
          intro U hU
          obtain ⟨u1, u2, u3⟩ := hU
          go_simp
        case rest8 =>
        simp only [Act.put, List.getElem_toArray, List.getElem_cons_zero, List.getElem_cons_succ, List.setIfInBounds_toArray, List.set_cons_zero, List.set_cons_succ]
        refine wpAnyH_take (i := 9) (v := .bool true) rfl (by kernel_rfl) (by kernel_rfl) (by kernel_rfl) (fun _ _ _ h => h) (Or.inl ⟨by rfl, ?hy9⟩) hS0.out ?rest9
        case hy9 =>
          intro U hU
          obtain ⟨u1, u2, u3⟩ := hU
          go_simp
        case rest9 =>
        simp only [Act.put, List.getElem_toArray, List.getElem_cons_zero, List.getElem_cons_succ, List.setIfInBounds_toArray, List.set_cons_zero, List.set_cons_succ]
        refine wpAnyH_take (i := 10) (v := .bool true) rfl (by kernel_rfl) (by kernel_rfl) (by kernel_rfl) (fun _ _ _ h => h) (Or.inl ⟨by rfl, ?hy10⟩) hS0.out ?rest10
        case hy10 =>
          intro U hU
          obtain ⟨u1, u2, u3⟩ := hU
          go_simp
        case rest10 =>
        simp only [Act.put, List.getElem_toArray, List.getElem_cons_zero, List.getElem_cons_succ, List.setIfInBounds_toArray, List.set_cons_zero, List.set_cons_succ]
        refine wpAnyH_take (i := 11) (v := .bool true) rfl (by kernel_rfl) (by kernel_rfl) (by kernel_rfl) (fun _ _ _ h => h) (Or.inl ⟨by rfl, ?hy11⟩) hS0.out ?rest11
        case hy11 =>
          intro U hU
          obtain ⟨u1, u2, u3⟩ := hU
          go_simp
        case rest11 =>
        simp only [Act.put, List.getElem_toArray, List.getElem_cons_zero, List.getElem_cons_succ, List.setIfInBounds_toArray, List.set_cons_zero, List.set_cons_succ]
        refine wpAnyH_done (by kernel_rfl) ?_ _
        have r7d : w5.drew.cell? ⟨pb + 1, 0, none⟩ = some (.int .i64 S) := r7
        have r8d : w5.drew.frozen? ⟨pb + 1, 0, none⟩ = false := r8
        gi_wp2
        exact POST0.out _ HB5d.out SJ.out
      · by_cases e3 : C < 0
        · have SJ := Lib.hid (show sumE (windF ps (p0, p1)) ((pre ++ [x]).map Subtype.val) = S - 1 by rw [SN.out]; simp [e1, e2, e3]; omega)
          gi_wp2
          have hS0 : Hid ((fun U : World => U.cell? ⟨b1, 1, none⟩ = some (.int .i64 x2) ∧ U.cell? ⟨b2, 1, none⟩ = some (.int .i64 y2) ∧ U.cell? ⟨pb, 1, none⟩ = some (.int .i64 p1)) w5.drew) := Lib.hid ⟨r2, r4, r6⟩
          refine region_round (fun U : World => U.cell? ⟨b1, 1, none⟩ = some (.int .i64 x2) ∧ U.cell? ⟨b2, 1, none⟩ = some (.int .i64 y2) ∧ U.cell? ⟨pb, 1, none⟩ = some (.int .i64 p1)) hmx (by rintro ⟨_, _, h⟩; exact h) ?hd ?takes
          case hd =>
            intro i o h c e
            have hi : i < 12 := (Array.getElem?_eq_some_iff.1 h).1
            obtain rfl | rfl | rfl | rfl | rfl | rfl | rfl | rfl | rfl | rfl | rfl | rfl : i = 0 ∨ i = 1 ∨ i = 2 ∨ i = 3 ∨ i = 4 ∨ i = 5 ∨ i = 6 ∨ i = 7 ∨ i = 8 ∨ i = 9 ∨ i = 10 ∨ i = 11 := by omega
            all_goals
              cases h
              cases e
          case takes =>
          change wpAnyH _ _ _ _ _ 12 #[false, false, false, false, false, false, false, false, false, false, false, false] _ _
          refine wpAnyH_take (i := 0) (v := .pointer (some ⟨b1, 1, none⟩)) rfl (by kernel_rfl) (by kernel_rfl) (by kernel_rfl) (fun _ _ _ h => h) (Or.inl ⟨by rfl, ?hy0⟩) hS0.out ?rest0
          case hy0 =>
            intro U hU
            obtain ⟨u1, u2, u3⟩ := hU
            go_simp
          case rest0 =>
          simp only [Act.put, List.getElem_toArray, List.getElem_cons_zero, List.getElem_cons_succ, List.setIfInBounds_toArray, List.set_cons_zero, List.set_cons_succ]
          refine wpAnyH_take (i := 1) (v := .int .i64 x2) rfl (by kernel_rfl) (by kernel_rfl) (by kernel_rfl) (fun _ _ _ h => h) (Or.inl ⟨by rfl, ?hy1⟩) hS0.out ?rest1
          case hy1 =>
            intro U hU
            obtain ⟨u1, u2, u3⟩ := hU
            go_simp
          case rest1 =>
          simp only [Act.put, List.getElem_toArray, List.getElem_cons_zero, List.getElem_cons_succ, List.setIfInBounds_toArray, List.set_cons_zero, List.set_cons_succ]
          refine wpAnyH_take (i := 2) (v := .pointer (some ⟨pb, 1, none⟩)) rfl (by kernel_rfl) (by kernel_rfl) (by kernel_rfl) (fun _ _ _ h => h) (Or.inl ⟨by rfl, ?hy2⟩) hS0.out ?rest2
          case hy2 =>
            intro U hU
            obtain ⟨u1, u2, u3⟩ := hU
            go_simp
          case rest2 =>
          simp only [Act.put, List.getElem_toArray, List.getElem_cons_zero, List.getElem_cons_succ, List.setIfInBounds_toArray, List.set_cons_zero, List.set_cons_succ]
          refine wpAnyH_take (i := 3) (v := .int .i64 p1) rfl (by kernel_rfl) (by kernel_rfl) (by kernel_rfl) (fun _ _ _ h => h) (Or.inl ⟨by rfl, ?hy3⟩) hS0.out ?rest3
          case hy3 =>
            intro U hU
            obtain ⟨u1, u2, u3⟩ := hU
            go_simp
          case rest3 =>
          simp only [Act.put, List.getElem_toArray, List.getElem_cons_zero, List.getElem_cons_succ, List.setIfInBounds_toArray, List.set_cons_zero, List.set_cons_succ]
          refine wpAnyH_take (i := 4) (v := .bool true) rfl (by kernel_rfl) (by kernel_rfl) (by kernel_rfl) (fun _ _ _ h => h) (Or.inl ⟨by rfl, ?hy4⟩) hS0.out ?rest4
          case hy4 =>
            intro U hU
            obtain ⟨u1, u2, u3⟩ := hU
            go_simp
          case rest4 =>
          simp only [Act.put, List.getElem_toArray, List.getElem_cons_zero, List.getElem_cons_succ, List.setIfInBounds_toArray, List.set_cons_zero, List.set_cons_succ]
          refine wpAnyH_take (i := 5) (v := .pointer (some ⟨b2, 1, none⟩)) rfl (by kernel_rfl) (by kernel_rfl) (by kernel_rfl) (fun _ _ _ h => h) (Or.inl ⟨by rfl, ?hy5⟩) hS0.out ?rest5
          case hy5 =>
            intro U hU
            obtain ⟨u1, u2, u3⟩ := hU
            go_simp
          case rest5 =>
          simp only [Act.put, List.getElem_toArray, List.getElem_cons_zero, List.getElem_cons_succ, List.setIfInBounds_toArray, List.set_cons_zero, List.set_cons_succ]
          refine wpAnyH_take (i := 6) (v := .int .i64 y2) rfl (by kernel_rfl) (by kernel_rfl) (by kernel_rfl) (fun _ _ _ h => h) (Or.inl ⟨by rfl, ?hy6⟩) hS0.out ?rest6
          case hy6 =>
            intro U hU
            obtain ⟨u1, u2, u3⟩ := hU
            go_simp
          case rest6 =>
          simp only [Act.put, List.getElem_toArray, List.getElem_cons_zero, List.getElem_cons_succ, List.setIfInBounds_toArray, List.set_cons_zero, List.set_cons_succ]
          refine wpAnyH_take (i := 7) (v := .pointer (some ⟨pb, 1, none⟩)) rfl (by kernel_rfl) (by kernel_rfl) (by kernel_rfl) (fun _ _ _ h => h) (Or.inl ⟨by rfl, ?hy7⟩) hS0.out ?rest7
          case hy7 =>
            intro U hU
            obtain ⟨u1, u2, u3⟩ := hU
            go_simp
          case rest7 =>
          simp only [Act.put, List.getElem_toArray, List.getElem_cons_zero, List.getElem_cons_succ, List.setIfInBounds_toArray, List.set_cons_zero, List.set_cons_succ]
          refine wpAnyH_take (i := 8) (v := .int .i64 p1) rfl (by kernel_rfl) (by kernel_rfl) (by kernel_rfl) (fun _ _ _ h => h) (Or.inl ⟨by rfl, ?hy8⟩) hS0.out ?rest8
          case hy8 =>
            intro U hU
            obtain ⟨u1, u2, u3⟩ := hU
            go_simp
          case rest8 =>
          simp only [Act.put, List.getElem_toArray, List.getElem_cons_zero, List.getElem_cons_succ, List.setIfInBounds_toArray, List.set_cons_zero, List.set_cons_succ]
          refine wpAnyH_take (i := 9) (v := .bool false) rfl (by kernel_rfl) (by kernel_rfl) (by kernel_rfl) (fun _ _ _ h => h) (Or.inl ⟨by rfl, ?hy9⟩) hS0.out ?rest9
          case hy9 =>
            intro U hU
            obtain ⟨u1, u2, u3⟩ := hU
            go_simp
          case rest9 =>
          simp only [Act.put, List.getElem_toArray, List.getElem_cons_zero, List.getElem_cons_succ, List.setIfInBounds_toArray, List.set_cons_zero, List.set_cons_succ]
          refine wpAnyH_take (i := 10) (v := .bool true) rfl (by kernel_rfl) (by kernel_rfl) (by kernel_rfl) (fun _ _ _ h => h) (Or.inl ⟨by rfl, ?hy10⟩) hS0.out ?rest10
          case hy10 =>
            intro U hU
            obtain ⟨u1, u2, u3⟩ := hU
            go_simp
          case rest10 =>
          simp only [Act.put, List.getElem_toArray, List.getElem_cons_zero, List.getElem_cons_succ, List.setIfInBounds_toArray, List.set_cons_zero, List.set_cons_succ]
          refine wpAnyH_take (i := 11) (v := .bool false) rfl (by kernel_rfl) (by kernel_rfl) (by kernel_rfl) (fun _ _ _ h => h) (Or.inl ⟨by rfl, ?hy11⟩) hS0.out ?rest11
          case hy11 =>
            intro U hU
            obtain ⟨u1, u2, u3⟩ := hU
            go_simp
          case rest11 =>
          simp only [Act.put, List.getElem_toArray, List.getElem_cons_zero, List.getElem_cons_succ, List.setIfInBounds_toArray, List.set_cons_zero, List.set_cons_succ]
          refine wpAnyH_done (by kernel_rfl) ?_ _
          have r7d : w5.drew.cell? ⟨pb + 1, 0, none⟩ = some (.int .i64 S) := r7
          have r8d : w5.drew.frozen? ⟨pb + 1, 0, none⟩ = false := r8
          gi_wp2
          exact POST.out _ _ HB5d.out SJ.out
        · have SJ := Lib.hid (show sumE (windF ps (p0, p1)) ((pre ++ [x]).map Subtype.val) = S by rw [SN.out]; simp [e1, e2, e3])
          gi_wp2
          have hS0 : Hid ((fun U : World => U.cell? ⟨b1, 1, none⟩ = some (.int .i64 x2) ∧ U.cell? ⟨b2, 1, none⟩ = some (.int .i64 y2) ∧ U.cell? ⟨pb, 1, none⟩ = some (.int .i64 p1)) w5.drew) := Lib.hid ⟨r2, r4, r6⟩
          refine region_round (fun U : World => U.cell? ⟨b1, 1, none⟩ = some (.int .i64 x2) ∧ U.cell? ⟨b2, 1, none⟩ = some (.int .i64 y2) ∧ U.cell? ⟨pb, 1, none⟩ = some (.int .i64 p1)) hmx (by rintro ⟨_, _, h⟩; exact h) ?hd ?takes
          case hd =>
            intro i o h c e
            have hi : i < 12 := (Array.getElem?_eq_some_iff.1 h).1
            obtain rfl | rfl | rfl | rfl | rfl | rfl | rfl | rfl | rfl | rfl | rfl | rfl : i = 0 ∨ i = 1 ∨ i = 2 ∨ i = 3 ∨ i = 4 ∨ i = 5 ∨ i = 6 ∨ i = 7 ∨ i = 8 ∨ i = 9 ∨ i = 10 ∨ i = 11 := by omega
            all_goals
              cases h
              cases e
          case takes =>
          change wpAnyH _ _ _ _ _ 12 #[false, false, false, false, false, false, false, false, false, false, false, false] _ _
          refine wpAnyH_take (i := 0) (v := .pointer (some ⟨b1, 1, none⟩)) rfl (by kernel_rfl) (by kernel_rfl) (by kernel_rfl) (fun _ _ _ h => h) (Or.inl ⟨by rfl, ?hy0⟩) hS0.out ?rest0
          case hy0 =>
            intro U hU
            obtain ⟨u1, u2, u3⟩ := hU
            go_simp
          case rest0 =>
          simp only [Act.put, List.getElem_toArray, List.getElem_cons_zero, List.getElem_cons_succ, List.setIfInBounds_toArray, List.set_cons_zero, List.set_cons_succ]
          refine wpAnyH_take (i := 1) (v := .int .i64 x2) rfl (by kernel_rfl) (by kernel_rfl) (by kernel_rfl) (fun _ _ _ h => h) (Or.inl ⟨by rfl, ?hy1⟩) hS0.out ?rest1
          case hy1 =>
            intro U hU
            obtain ⟨u1, u2, u3⟩ := hU
            go_simp
          case rest1 =>
          simp only [Act.put, List.getElem_toArray, List.getElem_cons_zero, List.getElem_cons_succ, List.setIfInBounds_toArray, List.set_cons_zero, List.set_cons_succ]
          refine wpAnyH_take (i := 2) (v := .pointer (some ⟨pb, 1, none⟩)) rfl (by kernel_rfl) (by kernel_rfl) (by kernel_rfl) (fun _ _ _ h => h) (Or.inl ⟨by rfl, ?hy2⟩) hS0.out ?rest2
          case hy2 =>
            intro U hU
            obtain ⟨u1, u2, u3⟩ := hU
            go_simp
          case rest2 =>
          simp only [Act.put, List.getElem_toArray, List.getElem_cons_zero, List.getElem_cons_succ, List.setIfInBounds_toArray, List.set_cons_zero, List.set_cons_succ]
          refine wpAnyH_take (i := 3) (v := .int .i64 p1) rfl (by kernel_rfl) (by kernel_rfl) (by kernel_rfl) (fun _ _ _ h => h) (Or.inl ⟨by rfl, ?hy3⟩) hS0.out ?rest3
          case hy3 =>
            intro U hU
            obtain ⟨u1, u2, u3⟩ := hU
            go_simp
          case rest3 =>
          simp only [Act.put, List.getElem_toArray, List.getElem_cons_zero, List.getElem_cons_succ, List.setIfInBounds_toArray, List.set_cons_zero, List.set_cons_succ]
          refine wpAnyH_take (i := 4) (v := .bool true) rfl (by kernel_rfl) (by kernel_rfl) (by kernel_rfl) (fun _ _ _ h => h) (Or.inl ⟨by rfl, ?hy4⟩) hS0.out ?rest4
          case hy4 =>
            intro U hU
            obtain ⟨u1, u2, u3⟩ := hU
            go_simp
          case rest4 =>
          simp only [Act.put, List.getElem_toArray, List.getElem_cons_zero, List.getElem_cons_succ, List.setIfInBounds_toArray, List.set_cons_zero, List.set_cons_succ]
          refine wpAnyH_take (i := 5) (v := .pointer (some ⟨b2, 1, none⟩)) rfl (by kernel_rfl) (by kernel_rfl) (by kernel_rfl) (fun _ _ _ h => h) (Or.inl ⟨by rfl, ?hy5⟩) hS0.out ?rest5
          case hy5 =>
            intro U hU
            obtain ⟨u1, u2, u3⟩ := hU
            go_simp
          case rest5 =>
          simp only [Act.put, List.getElem_toArray, List.getElem_cons_zero, List.getElem_cons_succ, List.setIfInBounds_toArray, List.set_cons_zero, List.set_cons_succ]
          refine wpAnyH_take (i := 6) (v := .int .i64 y2) rfl (by kernel_rfl) (by kernel_rfl) (by kernel_rfl) (fun _ _ _ h => h) (Or.inl ⟨by rfl, ?hy6⟩) hS0.out ?rest6
          case hy6 =>
            intro U hU
            obtain ⟨u1, u2, u3⟩ := hU
            go_simp
          case rest6 =>
          simp only [Act.put, List.getElem_toArray, List.getElem_cons_zero, List.getElem_cons_succ, List.setIfInBounds_toArray, List.set_cons_zero, List.set_cons_succ]
          refine wpAnyH_take (i := 7) (v := .pointer (some ⟨pb, 1, none⟩)) rfl (by kernel_rfl) (by kernel_rfl) (by kernel_rfl) (fun _ _ _ h => h) (Or.inl ⟨by rfl, ?hy7⟩) hS0.out ?rest7
          case hy7 =>
            intro U hU
            obtain ⟨u1, u2, u3⟩ := hU
            go_simp
          case rest7 =>
          simp only [Act.put, List.getElem_toArray, List.getElem_cons_zero, List.getElem_cons_succ, List.setIfInBounds_toArray, List.set_cons_zero, List.set_cons_succ]
          refine wpAnyH_take (i := 8) (v := .int .i64 p1) rfl (by kernel_rfl) (by kernel_rfl) (by kernel_rfl) (fun _ _ _ h => h) (Or.inl ⟨by rfl, ?hy8⟩) hS0.out ?rest8
          case hy8 =>
            intro U hU
            obtain ⟨u1, u2, u3⟩ := hU
            go_simp
          case rest8 =>
          simp only [Act.put, List.getElem_toArray, List.getElem_cons_zero, List.getElem_cons_succ, List.setIfInBounds_toArray, List.set_cons_zero, List.set_cons_succ]
          refine wpAnyH_take (i := 9) (v := .bool false) rfl (by kernel_rfl) (by kernel_rfl) (by kernel_rfl) (fun _ _ _ h => h) (Or.inl ⟨by rfl, ?hy9⟩) hS0.out ?rest9
          case hy9 =>
            intro U hU
            obtain ⟨u1, u2, u3⟩ := hU
            go_simp
          case rest9 =>
          simp only [Act.put, List.getElem_toArray, List.getElem_cons_zero, List.getElem_cons_succ, List.setIfInBounds_toArray, List.set_cons_zero, List.set_cons_succ]
          refine wpAnyH_take (i := 10) (v := .bool true) rfl (by kernel_rfl) (by kernel_rfl) (by kernel_rfl) (fun _ _ _ h => h) (Or.inl ⟨by rfl, ?hy10⟩) hS0.out ?rest10
          case hy10 =>
            intro U hU
            obtain ⟨u1, u2, u3⟩ := hU
            go_simp
          case rest10 =>
          simp only [Act.put, List.getElem_toArray, List.getElem_cons_zero, List.getElem_cons_succ, List.setIfInBounds_toArray, List.set_cons_zero, List.set_cons_succ]
          refine wpAnyH_take (i := 11) (v := .bool false) rfl (by kernel_rfl) (by kernel_rfl) (by kernel_rfl) (fun _ _ _ h => h) (Or.inl ⟨by rfl, ?hy11⟩) hS0.out ?rest11
          case hy11 =>
            intro U hU
            obtain ⟨u1, u2, u3⟩ := hU
            go_simp
          case rest11 =>
          simp only [Act.put, List.getElem_toArray, List.getElem_cons_zero, List.getElem_cons_succ, List.setIfInBounds_toArray, List.set_cons_zero, List.set_cons_succ]
          refine wpAnyH_done (by kernel_rfl) ?_ _
          have r7d : w5.drew.cell? ⟨pb + 1, 0, none⟩ = some (.int .i64 S) := r7
          have r8d : w5.drew.frozen? ⟨pb + 1, 0, none⟩ = false := r8
          gi_wp2
          exact POST0.out _ HB5d.out SJ.out
    · by_cases e2 : p1 < y2
      · by_cases e3 : 0 < C
        · have SJ := Lib.hid (show sumE (windF ps (p0, p1)) ((pre ++ [x]).map Subtype.val) = S + 1 by rw [SN.out]; simp [e1, e2, e3])
          gi_wp2
          have hS0 : Hid ((fun U : World => U.cell? ⟨b1, 1, none⟩ = some (.int .i64 x2) ∧ U.cell? ⟨b2, 1, none⟩ = some (.int .i64 y2) ∧ U.cell? ⟨pb, 1, none⟩ = some (.int .i64 p1)) w5.drew) := Lib.hid ⟨r2, r4, r6⟩
          refine region_round (fun U : World => U.cell? ⟨b1, 1, none⟩ = some (.int .i64 x2) ∧ U.cell? ⟨b2, 1, none⟩ = some (.int .i64 y2) ∧ U.cell? ⟨pb, 1, none⟩ = some (.int .i64 p1)) hmx (by rintro ⟨_, _, h⟩; exact h) ?hd ?takes
          case hd =>
            intro i o h c e
            have hi : i < 12 := (Array.getElem?_eq_some_iff.1 h).1
            obtain rfl | rfl | rfl | rfl | rfl | rfl | rfl | rfl | rfl | rfl | rfl | rfl : i = 0 ∨ i = 1 ∨ i = 2 ∨ i = 3 ∨ i = 4 ∨ i = 5 ∨ i = 6 ∨ i = 7 ∨ i = 8 ∨ i = 9 ∨ i = 10 ∨ i = 11 := by omega
            all_goals
              cases h
              cases e
          case takes =>
          change wpAnyH _ _ _ _ _ 12 #[false, false, false, false, false, false, false, false, false, false, false, false] _ _
          refine wpAnyH_take (i := 0) (v := .pointer (some ⟨b1, 1, none⟩)) rfl (by kernel_rfl) (by kernel_rfl) (by kernel_rfl) (fun _ _ _ h => h) (Or.inl ⟨by rfl, ?hy0⟩) hS0.out ?rest0
          case hy0 =>
            intro U hU
            obtain ⟨u1, u2, u3⟩ := hU
            go_simp
          case rest0 =>
          simp only [Act.put, List.getElem_toArray, List.getElem_cons_zero, List.getElem_cons_succ, List.setIfInBounds_toArray, List.set_cons_zero, List.set_cons_succ]
          refine wpAnyH_take (i := 1) (v := .int .i64 x2) rfl (by kernel_rfl) (by kernel_rfl) (by kernel_rfl) (fun _ _ _ h => h) (Or.inl ⟨by rfl, ?hy1⟩) hS0.out ?rest1
          case hy1 =>
            intro U hU
            obtain ⟨u1, u2, u3⟩ := hU
            go_simp
          case rest1 =>
          simp only [Act.put, List.getElem_toArray, List.getElem_cons_zero, List.getElem_cons_succ, List.setIfInBounds_toArray, List.set_cons_zero, List.set_cons_succ]
          refine wpAnyH_take (i := 2) (v := .pointer (some ⟨pb, 1, none⟩)) rfl (by kernel_rfl) (by kernel_rfl) (by kernel_rfl) (fun _ _ _ h => h) (Or.inl ⟨by rfl, ?hy2⟩) hS0.out ?rest2
          case hy2 =>
            intro U hU
            obtain ⟨u1, u2, u3⟩ := hU
            go_simp
          case rest2 =>
          simp only [Act.put, List.getElem_toArray, List.getElem_cons_zero, List.getElem_cons_succ, List.setIfInBounds_toArray, List.set_cons_zero, List.set_cons_succ]
          refine wpAnyH_take (i := 3) (v := .int .i64 p1) rfl (by kernel_rfl) (by kernel_rfl) (by kernel_rfl) (fun _ _ _ h => h) (Or.inl ⟨by rfl, ?hy3⟩) hS0.out ?rest3
          case hy3 =>
            intro U hU
            obtain ⟨u1, u2, u3⟩ := hU
            go_simp
          case rest3 =>
          simp only [Act.put, List.getElem_toArray, List.getElem_cons_zero, List.getElem_cons_succ, List.setIfInBounds_toArray, List.set_cons_zero, List.set_cons_succ]
          refine wpAnyH_take (i := 4) (v := .bool false) rfl (by kernel_rfl) (by kernel_rfl) (by kernel_rfl) (fun _ _ _ h => h) (Or.inl ⟨by rfl, ?hy4⟩) hS0.out ?rest4
          case hy4 =>
            intro U hU
            obtain ⟨u1, u2, u3⟩ := hU
            go_simp
          case rest4 =>
          simp only [Act.put, List.getElem_toArray, List.getElem_cons_zero, List.getElem_cons_succ, List.setIfInBounds_toArray, List.set_cons_zero, List.set_cons_succ]
          refine wpAnyH_take (i := 5) (v := .pointer (some ⟨b2, 1, none⟩)) rfl (by kernel_rfl) (by kernel_rfl) (by kernel_rfl) (fun _ _ _ h => h) (Or.inl ⟨by rfl, ?hy5⟩) hS0.out ?rest5
          case hy5 =>
            intro U hU
            obtain ⟨u1, u2, u3⟩ := hU
            go_simp
          case rest5 =>
          simp only [Act.put, List.getElem_toArray, List.getElem_cons_zero, List.getElem_cons_succ, List.setIfInBounds_toArray, List.set_cons_zero, List.set_cons_succ]
          refine wpAnyH_take (i := 6) (v := .int .i64 y2) rfl (by kernel_rfl) (by kernel_rfl) (by kernel_rfl) (fun _ _ _ h => h) (Or.inl ⟨by rfl, ?hy6⟩) hS0.out ?rest6
          case hy6 =>
            intro U hU
            obtain ⟨u1, u2, u3⟩ := hU
            go_simp
          case rest6 =>
          simp only [Act.put, List.getElem_toArray, List.getElem_cons_zero, List.getElem_cons_succ, List.setIfInBounds_toArray, List.set_cons_zero, List.set_cons_succ]
          refine wpAnyH_take (i := 7) (v := .pointer (some ⟨pb, 1, none⟩)) rfl (by kernel_rfl) (by kernel_rfl) (by kernel_rfl) (fun _ _ _ h => h) (Or.inl ⟨by rfl, ?hy7⟩) hS0.out ?rest7
          case hy7 =>
            intro U hU
            obtain ⟨u1, u2, u3⟩ := hU
            go_simp
          case rest7 =>
          simp only [Act.put, List.getElem_toArray, List.getElem_cons_zero, List.getElem_cons_succ, List.setIfInBounds_toArray, List.set_cons_zero, List.set_cons_succ]
          refine wpAnyH_take (i := 8) (v := .int .i64 p1) rfl (by kernel_rfl) (by kernel_rfl) (by kernel_rfl) (fun _ _ _ h => h) (Or.inl ⟨by rfl, ?hy8⟩) hS0.out ?rest8
          case hy8 =>
            intro U hU
            obtain ⟨u1, u2, u3⟩ := hU
            go_simp
          case rest8 =>
          simp only [Act.put, List.getElem_toArray, List.getElem_cons_zero, List.getElem_cons_succ, List.setIfInBounds_toArray, List.set_cons_zero, List.set_cons_succ]
          refine wpAnyH_take (i := 9) (v := .bool true) rfl (by kernel_rfl) (by kernel_rfl) (by kernel_rfl) (fun _ _ _ h => h) (Or.inl ⟨by rfl, ?hy9⟩) hS0.out ?rest9
          case hy9 =>
            intro U hU
            obtain ⟨u1, u2, u3⟩ := hU
            go_simp
          case rest9 =>
          simp only [Act.put, List.getElem_toArray, List.getElem_cons_zero, List.getElem_cons_succ, List.setIfInBounds_toArray, List.set_cons_zero, List.set_cons_succ]
          refine wpAnyH_take (i := 10) (v := .bool false) rfl (by kernel_rfl) (by kernel_rfl) (by kernel_rfl) (fun _ _ _ h => h) (Or.inl ⟨by rfl, ?hy10⟩) hS0.out ?rest10
          case hy10 =>
            intro U hU
            obtain ⟨u1, u2, u3⟩ := hU
            go_simp
          case rest10 =>
          simp only [Act.put, List.getElem_toArray, List.getElem_cons_zero, List.getElem_cons_succ, List.setIfInBounds_toArray, List.set_cons_zero, List.set_cons_succ]
          refine wpAnyH_take (i := 11) (v := .bool true) rfl (by kernel_rfl) (by kernel_rfl) (by kernel_rfl) (fun _ _ _ h => h) (Or.inl ⟨by rfl, ?hy11⟩) hS0.out ?rest11
          case hy11 =>
            intro U hU
            obtain ⟨u1, u2, u3⟩ := hU
            go_simp
          case rest11 =>
          simp only [Act.put, List.getElem_toArray, List.getElem_cons_zero, List.getElem_cons_succ, List.setIfInBounds_toArray, List.set_cons_zero, List.set_cons_succ]
          refine wpAnyH_done (by kernel_rfl) ?_ _
          have r7d : w5.drew.cell? ⟨pb + 1, 0, none⟩ = some (.int .i64 S) := r7
          have r8d : w5.drew.frozen? ⟨pb + 1, 0, none⟩ = false := r8
          gi_wp2
          exact POST.out _ _ HB5d.out SJ.out
        · have SJ := Lib.hid (show sumE (windF ps (p0, p1)) ((pre ++ [x]).map Subtype.val) = S by rw [SN.out]; simp [e1, e2, e3])
          gi_wp2
          have hS0 : Hid ((fun U : World => U.cell? ⟨b1, 1, none⟩ = some (.int .i64 x2) ∧ U.cell? ⟨b2, 1, none⟩ = some (.int .i64 y2) ∧ U.cell? ⟨pb, 1, none⟩ = some (.int .i64 p1)) w5.drew) := Lib.hid ⟨r2, r4, r6⟩
          refine region_round (fun U : World => U.cell? ⟨b1, 1, none⟩ = some (.int .i64 x2) ∧ U.cell? ⟨b2, 1, none⟩ = some (.int .i64 y2) ∧ U.cell? ⟨pb, 1, none⟩ = some (.int .i64 p1)) hmx (by rintro ⟨_, _, h⟩; exact h) ?hd ?takes
          case hd =>
            intro i o h c e
            have hi : i < 12 := (Array.getElem?_eq_some_iff.1 h).1
            obtain rfl | rfl | rfl | rfl | rfl | rfl | rfl | rfl | rfl | rfl | rfl | rfl : i = 0 ∨ i = 1 ∨ i = 2 ∨ i = 3 ∨ i = 4 ∨ i = 5 ∨ i = 6 ∨ i = 7 ∨ i = 8 ∨ i = 9 ∨ i = 10 ∨ i = 11 := by omega
            all_goals
              cases h
              cases e
          case takes =>
          change wpAnyH _ _ _ _ _ 12 #[false, false, false, false, false, false, false, false, false, false, false, false] _ _
          refine wpAnyH_take (i := 0) (v := .pointer (some ⟨b1, 1, none⟩)) rfl (by kernel_rfl) (by kernel_rfl) (by kernel_rfl) (fun _ _ _ h => h) (Or.inl ⟨by rfl, ?hy0⟩) hS0.out ?rest0
          case hy0 =>
            intro U hU
            obtain ⟨u1, u2, u3⟩ := hU
            go_simp
          case rest0 =>
          simp only [Act.put, List.getElem_toArray, List.getElem_cons_zero, List.getElem_cons_succ, List.setIfInBounds_toArray, List.set_cons_zero, List.set_cons_succ]
          refine wpAnyH_take (i := 1) (v := .int .i64 x2) rfl (by kernel_rfl) (by kernel_rfl) (by kernel_rfl) (fun _ _ _ h => h) (Or.inl ⟨by rfl, ?hy1⟩) hS0.out ?rest1
          case hy1 =>
            intro U hU
            obtain ⟨u1, u2, u3⟩ := hU
            go_simp
          case rest1 =>
          simp only [Act.put, List.getElem_toArray, List.getElem_cons_zero, List.getElem_cons_succ, List.setIfInBounds_toArray, List.set_cons_zero, List.set_cons_succ]
          refine wpAnyH_take (i := 2) (v := .pointer (some ⟨pb, 1, none⟩)) rfl (by kernel_rfl) (by kernel_rfl) (by kernel_rfl) (fun _ _ _ h => h) (Or.inl ⟨by rfl, ?hy2⟩) hS0.out ?rest2
          case hy2 =>
            intro U hU
            obtain ⟨u1, u2, u3⟩ := hU
            go_simp
          case rest2 =>
          simp only [Act.put, List.getElem_toArray, List.getElem_cons_zero, List.getElem_cons_succ, List.setIfInBounds_toArray, List.set_cons_zero, List.set_cons_succ]
          refine wpAnyH_take (i := 3) (v := .int .i64 p1) rfl (by kernel_rfl) (by kernel_rfl) (by kernel_rfl) (fun _ _ _ h => h) (Or.inl ⟨by rfl, ?hy3⟩) hS0.out ?rest3
          case hy3 =>
            intro U hU
            obtain ⟨u1, u2, u3⟩ := hU
            go_simp
          case rest3 =>
          simp only [Act.put, List.getElem_toArray, List.getElem_cons_zero, List.getElem_cons_succ, List.setIfInBounds_toArray, List.set_cons_zero, List.set_cons_succ]
          refine wpAnyH_take (i := 4) (v := .bool false) rfl (by kernel_rfl) (by kernel_rfl) (by kernel_rfl) (fun _ _ _ h => h) (Or.inl ⟨by rfl, ?hy4⟩) hS0.out ?rest4
          case hy4 =>
            intro U hU
            obtain ⟨u1, u2, u3⟩ := hU
            go_simp
          case rest4 =>
          simp only [Act.put, List.getElem_toArray, List.getElem_cons_zero, List.getElem_cons_succ, List.setIfInBounds_toArray, List.set_cons_zero, List.set_cons_succ]
          refine wpAnyH_take (i := 5) (v := .pointer (some ⟨b2, 1, none⟩)) rfl (by kernel_rfl) (by kernel_rfl) (by kernel_rfl) (fun _ _ _ h => h) (Or.inl ⟨by rfl, ?hy5⟩) hS0.out ?rest5
          case hy5 =>
            intro U hU
            obtain ⟨u1, u2, u3⟩ := hU
            go_simp
          case rest5 =>
          simp only [Act.put, List.getElem_toArray, List.getElem_cons_zero, List.getElem_cons_succ, List.setIfInBounds_toArray, List.set_cons_zero, List.set_cons_succ]
          refine wpAnyH_take (i := 6) (v := .int .i64 y2) rfl (by kernel_rfl) (by kernel_rfl) (by kernel_rfl) (fun _ _ _ h => h) (Or.inl ⟨by rfl, ?hy6⟩) hS0.out ?rest6
          case hy6 =>
            intro U hU
            obtain ⟨u1, u2, u3⟩ := hU
            go_simp
          case rest6 =>
          simp only [Act.put, List.getElem_toArray, List.getElem_cons_zero, List.getElem_cons_succ, List.setIfInBounds_toArray, List.set_cons_zero, List.set_cons_succ]
          refine wpAnyH_take (i := 7) (v := .pointer (some ⟨pb, 1, none⟩)) rfl (by kernel_rfl) (by kernel_rfl) (by kernel_rfl) (fun _ _ _ h => h) (Or.inl ⟨by rfl, ?hy7⟩) hS0.out ?rest7
          case hy7 =>
            intro U hU
            obtain ⟨u1, u2, u3⟩ := hU
            go_simp
          case rest7 =>
          simp only [Act.put, List.getElem_toArray, List.getElem_cons_zero, List.getElem_cons_succ, List.setIfInBounds_toArray, List.set_cons_zero, List.set_cons_succ]
          refine wpAnyH_take (i := 8) (v := .int .i64 p1) rfl (by kernel_rfl) (by kernel_rfl) (by kernel_rfl) (fun _ _ _ h => h) (Or.inl ⟨by rfl, ?hy8⟩) hS0.out ?rest8
          case hy8 =>
            intro U hU
            obtain ⟨u1, u2, u3⟩ := hU
            go_simp
          case rest8 =>
          simp only [Act.put, List.getElem_toArray, List.getElem_cons_zero, List.getElem_cons_succ, List.setIfInBounds_toArray, List.set_cons_zero, List.set_cons_succ]
          refine wpAnyH_take (i := 9) (v := .bool true) rfl (by kernel_rfl) (by kernel_rfl) (by kernel_rfl) (fun _ _ _ h => h) (Or.inl ⟨by rfl, ?hy9⟩) hS0.out ?rest9
          case hy9 =>
            intro U hU
            obtain ⟨u1, u2, u3⟩ := hU
            go_simp
          case rest9 =>
          simp only [Act.put, List.getElem_toArray, List.getElem_cons_zero, List.getElem_cons_succ, List.setIfInBounds_toArray, List.set_cons_zero, List.set_cons_succ]
          refine wpAnyH_take (i := 10) (v := .bool false) rfl (by kernel_rfl) (by kernel_rfl) (by kernel_rfl) (fun _ _ _ h => h) (Or.inl ⟨by rfl, ?hy10⟩) hS0.out ?rest10
          case hy10 =>
            intro U hU
            obtain ⟨u1, u2, u3⟩ := hU
            go_simp
          case rest10 =>
          simp only [Act.put, List.getElem_toArray, List.getElem_cons_zero, List.getElem_cons_succ, List.setIfInBounds_toArray, List.set_cons_zero, List.set_cons_succ]
          refine wpAnyH_take (i := 11) (v := .bool true) rfl (by kernel_rfl) (by kernel_rfl) (by kernel_rfl) (fun _ _ _ h => h) (Or.inl ⟨by rfl, ?hy11⟩) hS0.out ?rest11
          case hy11 =>
            intro U hU
            obtain ⟨u1, u2, u3⟩ := hU
            go_simp
          case rest11 =>
          simp only [Act.put, List.getElem_toArray, List.getElem_cons_zero, List.getElem_cons_succ, List.setIfInBounds_toArray, List.set_cons_zero, List.set_cons_succ]
          refine wpAnyH_done (by kernel_rfl) ?_ _
          have r7d : w5.drew.cell? ⟨pb + 1, 0, none⟩ = some (.int .i64 S) := r7
          have r8d : w5.drew.frozen? ⟨pb + 1, 0, none⟩ = false := r8
          gi_wp2
          exact POST0.out _ HB5d.out SJ.out
      · have SJ := Lib.hid (show sumE (windF ps (p0, p1)) ((pre ++ [x]).map Subtype.val) = S by rw [SN.out]; simp [e1, e2])
        gi_wp2
        have hS0 : Hid ((fun U : World => U.cell? ⟨b1, 1, none⟩ = some (.int .i64 x2) ∧ U.cell? ⟨b2, 1, none⟩ = some (.int .i64 y2) ∧ U.cell? ⟨pb, 1, none⟩ = some (.int .i64 p1)) w5.drew) := Lib.hid ⟨r2, r4, r6⟩
        refine region_round (fun U : World => U.cell? ⟨b1, 1, none⟩ = some (.int .i64 x2) ∧ U.cell? ⟨b2, 1, none⟩ = some (.int .i64 y2) ∧ U.cell? ⟨pb, 1, none⟩ = some (.int .i64 p1)) hmx (by rintro ⟨_, _, h⟩; exact h) ?hd ?takes
        case hd =>
          intro i o h c e
          have hi : i < 12 := (Array.getElem?_eq_some_iff.1 h).1
          obtain rfl | rfl | rfl | rfl | rfl | rfl | rfl | rfl | rfl | rfl | rfl | rfl : i = 0 ∨ i = 1 ∨ i = 2 ∨ i = 3 ∨ i = 4 ∨ i = 5 ∨ i = 6 ∨ i = 7 ∨ i = 8 ∨ i = 9 ∨ i = 10 ∨ i = 11 := by omega
          all_goals
            cases h
            cases e
        case takes =>
        change wpAnyH _ _ _ _ _ 12 #[false, false, false, false, false, false, false, false, false, false, false, false] _ _
        refine wpAnyH_take (i := 0) (v := .pointer (some ⟨b1, 1, none⟩)) rfl (by kernel_rfl) (by kernel_rfl) (by kernel_rfl) (fun _ _ _ h => h) (Or.inl ⟨by rfl, ?hy0⟩) hS0.out ?rest0
        case hy0 =>
          intro U hU
          obtain ⟨u1, u2, u3⟩ := hU
          go_simp
        case rest0 =>
        simp only [Act.put, List.getElem_toArray, List.getElem_cons_zero, List.getElem_cons_succ, List.setIfInBounds_toArray, List.set_cons_zero, List.set_cons_succ]
        refine wpAnyH_take (i := 1) (v := .int .i64 x2) rfl (by kernel_rfl) (by kernel_rfl) (by kernel_rfl) (fun _ _ _ h => h) (Or.inl ⟨by rfl, ?hy1⟩) hS0.out ?rest1
        case hy1 =>
          intro U hU
          obtain ⟨u1, u2, u3⟩ := hU
          go_simp
        case rest1 =>
        simp only [Act.put, List.getElem_toArray, List.getElem_cons_zero, List.getElem_cons_succ, List.setIfInBounds_toArray, List.set_cons_zero, List.set_cons_succ]
        refine wpAnyH_take (i := 2) (v := .pointer (some ⟨pb, 1, none⟩)) rfl (by kernel_rfl) (by kernel_rfl) (by kernel_rfl) (fun _ _ _ h => h) (Or.inl ⟨by rfl, ?hy2⟩) hS0.out ?rest2
        case hy2 =>
          intro U hU
          obtain ⟨u1, u2, u3⟩ := hU
          go_simp
        case rest2 =>
        simp only [Act.put, List.getElem_toArray, List.getElem_cons_zero, List.getElem_cons_succ, List.setIfInBounds_toArray, List.set_cons_zero, List.set_cons_succ]
        refine wpAnyH_take (i := 3) (v := .int .i64 p1) rfl (by kernel_rfl) (by kernel_rfl) (by kernel_rfl) (fun _ _ _ h => h) (Or.inl ⟨by rfl, ?hy3⟩) hS0.out ?rest3
        case hy3 =>
          intro U hU
          obtain ⟨u1, u2, u3⟩ := hU
          go_simp
        case rest3 =>
        simp only [Act.put, List.getElem_toArray, List.getElem_cons_zero, List.getElem_cons_succ, List.setIfInBounds_toArray, List.set_cons_zero, List.set_cons_succ]
        refine wpAnyH_take (i := 4) (v := .bool false) rfl (by kernel_rfl) (by kernel_rfl) (by kernel_rfl) (fun _ _ _ h => h) (Or.inl ⟨by rfl, ?hy4⟩) hS0.out ?rest4
        case hy4 =>
          intro U hU
          obtain ⟨u1, u2, u3⟩ := hU
          go_simp
        case rest4 =>
        simp only [Act.put, List.getElem_toArray, List.getElem_cons_zero, List.getElem_cons_succ, List.setIfInBounds_toArray, List.set_cons_zero, List.set_cons_succ]
        refine wpAnyH_take (i := 5) (v := .pointer (some ⟨b2, 1, none⟩)) rfl (by kernel_rfl) (by kernel_rfl) (by kernel_rfl) (fun _ _ _ h => h) (Or.inl ⟨by rfl, ?hy5⟩) hS0.out ?rest5
        case hy5 =>
          intro U hU
          obtain ⟨u1, u2, u3⟩ := hU
          go_simp
        case rest5 =>
        simp only [Act.put, List.getElem_toArray, List.getElem_cons_zero, List.getElem_cons_succ, List.setIfInBounds_toArray, List.set_cons_zero, List.set_cons_succ]
        refine wpAnyH_take (i := 6) (v := .int .i64 y2) rfl (by kernel_rfl) (by kernel_rfl) (by kernel_rfl) (fun _ _ _ h => h) (Or.inl ⟨by rfl, ?hy6⟩) hS0.out ?rest6
        case hy6 =>
          intro U hU
          obtain ⟨u1, u2, u3⟩ := hU
          go_simp
        case rest6 =>
        simp only [Act.put, List.getElem_toArray, List.getElem_cons_zero, List.getElem_cons_succ, List.setIfInBounds_toArray, List.set_cons_zero, List.set_cons_succ]
        refine wpAnyH_take (i := 7) (v := .pointer (some ⟨pb, 1, none⟩)) rfl (by kernel_rfl) (by kernel_rfl) (by kernel_rfl) (fun _ _ _ h => h) (Or.inl ⟨by rfl, ?hy7⟩) hS0.out ?rest7
        case hy7 =>
          intro U hU
          obtain ⟨u1, u2, u3⟩ := hU
          go_simp
        case rest7 =>
        simp only [Act.put, List.getElem_toArray, List.getElem_cons_zero, List.getElem_cons_succ, List.setIfInBounds_toArray, List.set_cons_zero, List.set_cons_succ]
        refine wpAnyH_take (i := 8) (v := .int .i64 p1) rfl (by kernel_rfl) (by kernel_rfl) (by kernel_rfl) (fun _ _ _ h => h) (Or.inl ⟨by rfl, ?hy8⟩) hS0.out ?rest8
        case hy8 =>
          intro U hU
          obtain ⟨u1, u2, u3⟩ := hU
          go_simp
        case rest8 =>
        simp only [Act.put, List.getElem_toArray, List.getElem_cons_zero, List.getElem_cons_succ, List.setIfInBounds_toArray, List.set_cons_zero, List.set_cons_succ]
        refine wpAnyH_take (i := 9) (v := .bool false) rfl (by kernel_rfl) (by kernel_rfl) (by kernel_rfl) (fun _ _ _ h => h) (Or.inl ⟨by rfl, ?hy9⟩) hS0.out ?rest9
        case hy9 =>
          intro U hU
          obtain ⟨u1, u2, u3⟩ := hU
          go_simp
        case rest9 =>
        simp only [Act.put, List.getElem_toArray, List.getElem_cons_zero, List.getElem_cons_succ, List.setIfInBounds_toArray, List.set_cons_zero, List.set_cons_succ]
        refine wpAnyH_take (i := 10) (v := .bool false) rfl (by kernel_rfl) (by kernel_rfl) (by kernel_rfl) (fun _ _ _ h => h) (Or.inl ⟨by rfl, ?hy10⟩) hS0.out ?rest10
        case hy10 =>
          intro U hU
          obtain ⟨u1, u2, u3⟩ := hU
          go_simp
        case rest10 =>
        simp only [Act.put, List.getElem_toArray, List.getElem_cons_zero, List.getElem_cons_succ, List.setIfInBounds_toArray, List.set_cons_zero, List.set_cons_succ]
        refine wpAnyH_take (i := 11) (v := .bool false) rfl (by kernel_rfl) (by kernel_rfl) (by kernel_rfl) (fun _ _ _ h => h) (Or.inl ⟨by rfl, ?hy11⟩) hS0.out ?rest11
        case hy11 =>
          intro U hU
          obtain ⟨u1, u2, u3⟩ := hU
          go_simp
        case rest11 =>
        simp only [Act.put, List.getElem_toArray, List.getElem_cons_zero, List.getElem_cons_succ, List.setIfInBounds_toArray, List.set_cons_zero, List.set_cons_succ]
        refine wpAnyH_done (by kernel_rfl) ?_ _
        have r7d : w5.drew.cell? ⟨pb + 1, 0, none⟩ = some (.int .i64 S) := r7
        have r8d : w5.drew.frozen? ⟨pb + 1, 0, none⟩ = false := r8
        gi_wp2
        exact POST0.out _ HB5d.out SJ.out
  case done =>
    rintro D ys W hD hys ⟨⟨hV, hQ⟩, hB⟩ hK
    have e : sumE (windF ps (p0, p1)) (ys.map Subtype.val) = R := by rw [EA.out, hys]
    rw [e] at hV
    have hc := hV.cell
    clear e
    go_wp2
    refine ⟨by simp, .inl ⟨_, _, rfl, run_takeDeferred hK, ?_⟩⟩
    refine ⟨.int .i64 R, ?_, rfl, by rw [hpb]; exact hB.trans (belowK_b (w := w2) (by omega) W D _ _ hD hK rfl rfl)⟩
    simp [results, Try.results133, go_sem]
  case stop =>
    rintro D c pre W hD hpre hh
    exact hh.elim
theorem tmod2 (I : Int) : (I.tmod 2 = 0 ↔ I % 2 = 0) ∧ -1 ≤ I.tmod 2 ∧ I.tmod 2 ≤ 1 := by
  rcases Int.le_total 0 I with h | h
  · rw [Int.tmod_eq_emod_of_nonneg h]; omega
  · obtain ⟨j, rfl⟩ : ∃ j, I = -j := ⟨-I, by omega⟩
    rw [Int.neg_tmod, Int.tmod_eq_emod_of_nonneg (by omega)]; omega
set_option maxRecDepth 100000 in
set_option maxHeartbeats 2000000 in
theorem implInsideOf_any (v : Value) (ps : List (Int × Int)) (p0 p1 : Int) (w : World) (hv : PAt w w.heap.size v ps) (hl : ps.length ≤ 1048576) :
    Calls Try.prog 50 #[v, .agg #[.int .i64 p0, .int .i64 p1]] w fun e w' => e = .returned (.tuple #[.bool (insideV ps (p0, p1)), .int .i64 (codeN ps (p0, p1))]) ∧ Below w.heap.size w w' := by
  have HV := Lib.hid hv
  have HW := Lib.hid ((Below.refl w.heap.size w).alloc (Nat.le_refl _) (.cells #[.int .i64 p0, .int .i64 p1] 60))
  have CC := Lib.hid (closedCode_any v ps _ (pat_up (pat_keep hv HW.out) HW.out.size) hl)
  have b0 : w.heap.size < (w.alloc (.cells #[.int .i64 p0, .int .i64 p1] 60)).heap.size := by simp
  have g0 : (w.alloc (.cells #[.int .i64 p0, .int .i64 p1] 60)).cell? ⟨w.heap.size, 0, none⟩ = some (.int .i64 p0) := by simp
  have g1 : (w.alloc (.cells #[.int .i64 p0, .int .i64 p1] 60)).cell? ⟨w.heap.size, 1, none⟩ = some (.int .i64 p1) := by simp
  have OP := Lib.hid (fun W => isOffPaper_any p0 p1 W)
  obtain ⟨ar, c, rfl, _⟩ := hv
  by_cases hc : codeG ps = 0
  · have hok := (codeG_of hc).1
    have q2 := (okC_of hok).2.1
    rw [hc] at CC
    have eN : codeN ps (p0, p1) = if okP (p0, p1) = true then 0 else 2 := by simp [codeN, hc]
    have eV : insideV ps (p0, p1) = (okP (p0, p1) && inN ps (p0, p1) (ps.length - 1)) := by
      unfold insideV; rw [eN]; cases okP (p0, p1) <;> simp
    have WB := wind_bound (ps := ps) (p := (p0, p1)) q2
    have WI := wind_in ps (p0, p1) (ps.length - 1)
    have WE : sumE (windF ps (p0, p1)) (List.range (ps.length - 1)) = windI ps (p0, p1) := rfl
    rw [WE] at WI
    rw [eN, eV, ← WI]
    have WA := Lib.hid (fun (hp : okP (p0, p1) = true) W (hb : Below w.heap.size w W) => windingAround_any _ ps p0 p1 W (pat_up (pat_keep HV.out hb) hb.size) hok hp)
    clear eN eV WI WE hc
    cases hp : okP (p0, p1) with
    | false =>
      rw [hp] at OP
      clear WA
      go_enter Try.func50, Try.ntmps50
      go_wp2_with fail
      refine CC.out.mono ?_
      rintro e w1 ⟨rfl, hb⟩
      have f0 := (hb.cell (p := ⟨w.heap.size, 0, none⟩) b0).trans g0
      have f1 := (hb.cell (p := ⟨w.heap.size, 1, none⟩) b0).trans g1
      have B1 := Lib.hid (HW.out.trans (hb.mono HW.out.size))
      clear hb
      go_wp2_with fail
      refine (OP.out _).mono ?_
      rintro e w2 ⟨rfl, hb⟩
      have B2 := Lib.hid (B1.out.trans (hb.mono B1.out.size))
      clear hb
      go_wp2
      exact bodyPost_ret (v := .tuple #[.bool false, .int .i64 2]) (by simp [results, Try.results50, go_sem]) rfl ⟨by simp, B2.out⟩
    | true =>
      rw [hp] at OP
      have WK := Lib.hid (WA.out hp)
      clear WA
      generalize windI ps (p0, p1) = I at *
      go_enter Try.func50, Try.ntmps50
      go_wp2_with fail
      refine CC.out.mono ?_
      rintro e w1 ⟨rfl, hb⟩
      have f0 := (hb.cell (p := ⟨w.heap.size, 0, none⟩) b0).trans g0
      have f1 := (hb.cell (p := ⟨w.heap.size, 1, none⟩) b0).trans g1
      have B1 := Lib.hid (HW.out.trans (hb.mono HW.out.size))
      have b1 : w.heap.size < w1.heap.size := Nat.lt_of_lt_of_le b0 hb.size
      clear hb
      go_wp2_with fail
      refine (OP.out _).mono ?_
      rintro e w2 ⟨rfl, hb⟩
      have n0 := (hb.cell (p := ⟨w.heap.size, 0, none⟩) b1).trans f0
      have n1 := (hb.cell (p := ⟨w.heap.size, 1, none⟩) b1).trans f1
      have B2 := Lib.hid (B1.out.trans (hb.mono B1.out.size))
      clear hb f0 f1
      go_wp2_with fail
      refine (WK.out _ B2.out).mono ?_
      rintro e w3 ⟨rfl, hb⟩
      have B3 := Lib.hid (B2.out.trans (hb.mono B2.out.size))
      clear hb
      have t2 : I.tmod 2 = 0 ∨ ¬ I.tmod 2 = 0 := by omega
      have HT := Lib.hid (tmod2 I)
      have kt : IntKind.i64.wrap (I.tmod 2) = I.tmod 2 := IntWalk.i64_in _ (by have := HT.out; omega)
      rcases t2 with t2 | t2
      · have d : decide (I % 2 ≠ 0) = false := by have := HT.out.1.1 t2; simp [this]
        go_wp2
        exact bodyPost_ret (v := .tuple #[.bool false, .int .i64 0]) (by simp [results, Try.results50, go_sem]) rfl ⟨(by first | rfl | (rw [d]; rfl)), B3.out⟩
      · have d : decide (I % 2 ≠ 0) = true := by have : ¬ I % 2 = 0 := fun h => t2 (HT.out.1.2 h); simp [this]
        go_wp2
        exact bodyPost_ret (v := .tuple #[.bool true, .int .i64 0]) (by simp [results, Try.results50, go_sem, t2]) rfl ⟨(by first | rfl | (rw [d]; rfl)), B3.out⟩
  · obtain ⟨C, hC⟩ : ∃ C, Hid (codeG ps = C) := ⟨_, Lib.hid rfl⟩
    have hne : ¬ C = 0 := by rw [← hC.out]; exact hc
    have eN : codeN ps (p0, p1) = C := by unfold codeN; rw [if_neg hc]; exact hC.out
    have eV : insideV ps (p0, p1) = false := by unfold insideV; rw [eN, decide_eq_false hne]; rfl
    rw [eN, eV]
    rw [hC.out] at CC
    clear eN eV hc
    go_enter Try.func50, Try.ntmps50
    go_wp2_with fail
    refine CC.out.mono ?_
    rintro e w1 ⟨rfl, hb⟩
    have B1 := Lib.hid (HW.out.trans (hb.mono HW.out.size))
    clear hb
    go_wp2
    exact bodyPost_ret (v := .tuple #[.bool false, .int .i64 C]) (by simp [results, Try.results50, go_sem]) rfl ⟨rfl, B1.out⟩
end Go.Proofs.Ytemhmejjmhbfdaa.sines
