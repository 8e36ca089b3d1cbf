/- WorstClosing of the program: a loop over the iterator of the parallels; both functions, whatever the arguments. -/
import Derived.Test.YteeikkakibifpaaDoorIterF
namespace Go.Proofs.YteeikkakibifpaaDoor.sines
open Go.ChangeShapes Go.WideShapes Go.ChangeAt Go.RowKit Go.Shelf Go.Proofs.YteeikkakibifpaaDoor.spots Go.Proofs.YteeikkakibifpaaDoor.irows
attribute [local go_sem] Oper.semAt_some
set_option linter.unusedVariables false
set_option linter.unusedSimpArgs false


/-- The worst closing error so far, and where it is. -/
def worstF (g a : Int) (acc : Int × Int) (z : Int) : Int × Int := if absI acc.2 < absI (closeE g a z) then (z, closeE g a z) else acc
def worstP (g a : Int) (pre : List Lat) : Int × Int := (pre.map (·.1)).foldl (worstF g a) (0, 0)
theorem worstP_snoc (g a : Int) (pre : List Lat) (x : Lat) : worstP g a (pre ++ [x]) = worstF g a (worstP g a pre) x.1 := by simp [worstP]
theorem worst_fold (g a d : Int) (k : Nat) : ((List.range (k + 1)).map fun i : Nat => (i : Int) * d).foldl (worstF g a) (0, 0) = ((worstN g a d (k + 1) : Int) * d, closeE g a ((worstN g a d (k + 1) : Int) * d)) := by
  induction k with
  | zero =>
    simp only [worstN, worstF, List.range_succ, List.range_zero, List.nil_append, List.map_cons, List.map_nil, List.foldl_cons, List.foldl_nil]
    have e0 : ((0 : Nat) : Int) * d = 0 := by simp
    simp only [e0, gt_iff_lt]
    by_cases h : absI 0 < absI (closeE g a 0)
    · rw [if_pos h]; simp
    · rw [if_neg h]
      have : closeE g a 0 = 0 := by simp only [absI] at h; split at h <;> simp at h <;> omega
      simp [this]
  | succ k ih =>
    rw [List.range_succ, List.map_append, List.foldl_append, ih]
    simp only [List.map_cons, List.map_nil, List.foldl_cons, List.foldl_nil]
    rw [show worstN g a d (k + 1 + 1) = if absI (closeE g a ((worstN g a d (k + 1) : Int) * d)) < absI (closeE g a (((k + 1 : Nat) : Int) * d)) then k + 1 else worstN g a d (k + 1) from rfl, worstF]
    by_cases h : absI (closeE g a ((worstN g a d (k + 1) : Int) * d)) < absI (closeE g a (((k + 1 : Nat) : Int) * d))
    · rw [if_pos h, if_pos h]
    · rw [if_neg h, if_neg h]
theorem worstP_all (g a d : Int) (hd : 1 ≤ d) : worstP g a (latL d hd) = ((worstN g a d (stepsN d) : Int) * d, closeE g a ((worstN g a d (stepsN d) : Int) * d)) := by
  have h := worst_fold g a d ((324000 / d).toNat)
  rw [worstP, latL_val]
  exact h
theorem worstP_bounds (g a : Int) (h1 : 6 ≤ g) (h2 : g ≤ 48) (pre : List Lat) : -(g + 1) ≤ 2 * (worstP g a pre).2 ∧ 2 * (worstP g a pre).2 ≤ g + 1 := by
  have : ∀ (l : List Int) (acc : Int × Int), (-(g + 1) ≤ 2 * acc.2 ∧ 2 * acc.2 ≤ g + 1) → -(g + 1) ≤ 2 * (l.foldl (worstF g a) acc).2 ∧ 2 * (l.foldl (worstF g a) acc).2 ≤ g + 1 := by
    intro l
    induction l with
    | nil => intro acc h; exact h
    | cons z l ih =>
      intro acc h
      refine ih _ ?_
      simp only [worstF]
      split
      · exact closeE_bounds h1 h2
      · exact h
  exact this _ _ (by constructor <;> (show _ ≤ _) <;> simp <;> omega)
theorem max_abs (n : Int) : max n (-n) = absI n := by simp only [absI]; split <;> omega
set_option maxRecDepth 100000 in
set_option maxHeartbeats 4000000 in
theorem implWorstClosing_ok (g a d : Int) (w : World) (hG : GV w) (h : goreB g = true) (x : inB a 1 1000000 = true) (y : inB d 3240 324000 = true) :
    Calls Tryd.prog 40 #[.int .i64 g, .int .i64 a, .int .i64 d] w fun e w' => e = .returned (.tuple #[.int .i64 ((worstN g a d (stepsN d) : Int) * d), .int .i64 (closeE g a ((worstN g a d (stepsN d) : Int) * d)), .int .i64 0]) ∧ Below w.heap.size w w' := by
  obtain ⟨a1, a2⟩ := inB_of x
  obtain ⟨d1, d2⟩ := inB_of y
  obtain ⟨g1, g2, _⟩ := goreB_facts h
  have hd : 1 ≤ d := by omega
  have hN := stepsN_le d1
  have HG2 := Lib.hid (show GV ((w.alloc (.cells #[.int .i64 g] 2)).alloc (.cells #[.int .i64 a] 2)) from GV_keep (GV_keep hG ((Below.refl _ _).alloc (Nat.le_refl _) _)) ((Below.refl _ _).alloc (Nat.le_refl _) _))
  refine (callsIn_wide (n := 5)).1 ?_
  refine callsIn_of_wp_marks Tryd.func40 rfl trivial ?_ rfl
  simp only [Tryd.ntmps40, List.size_toArray, List.length_cons, List.length_nil, Nat.reduceAdd, Nat.reduceSub, Array.replicate_succ, Array.replicate_zero, List.push_toArray, List.append_toArray, List.nil_append, List.cons_append]
  refine wpIn_wide.2 ?_
  go_wp2
  go_quiet (first | (go_at_call 68; exact Calls.quiet_of_same (isAround_eq _ x)) | (go_at_call 69; exact Calls.quiet_of_same (isParallelStep_eq _ y)) | (go_at_call 67; exact Calls.quiet_of_same (goresCode_eq _ HG2.out (codeG_ok h))))
  go_wp2_with fail
  refine (parallels_any _ _).mono ?_
  rintro e wL ⟨rfl, hwL⟩
  have zL : wL.heap.size = w.heap.size + 5 := by rw [hwL]; simp
  have B0 : Below w.heap.size w wL := by
    rw [hwL]
    exact (((bdr' (((Below.refl _ w).alloc (Nat.le_refl _) _).alloc (by simp) _) _).alloc (by simp; omega) _).alloc (by simp; omega) _).alloc (by simp; omega) _
  have bG : Boxed wL w.heap.size 2 (.int .i64 g) := by rw [hwL]; exact ((((Boxed.new w _ _).alloc _).alloc _).alloc _).alloc _
  have bA : Boxed wL (w.heap.size + 1) 2 (.int .i64 a) := by
    rw [hwL]
    have := (((Boxed.new (w.alloc (.cells #[.int .i64 g] 2)) 2 (.int .i64 a)).alloc (.cells #[.int .i64 0] 2)).alloc (.cells #[.int .i64 0] 2)).alloc (.cells #[.int .i64 d] 2)
    rw [World.size_alloc] at this
    exact this
  have bP : Boxed wL (w.heap.size + 1 + 1) 2 (.int .i64 0) := by
    rw [hwL]
    have := ((Boxed.new (((w.alloc (.cells #[.int .i64 g] 2)).alloc (.cells #[.int .i64 a] 2)).drewN nq) 2 (.int .i64 0)).alloc (.cells #[.int .i64 0] 2)).alloc (.cells #[.int .i64 d] 2)
    simp only [World.size_alloc, World.heap_drewN] at this
    exact this
  have bW : Boxed wL (w.heap.size + 1 + 1 + 1) 2 (.int .i64 0) := by
    rw [hwL]
    have := (Boxed.new ((((w.alloc (.cells #[.int .i64 g] 2)).alloc (.cells #[.int .i64 a] 2)).drewN nq).alloc (.cells #[.int .i64 0] 2)) 2 (.int .i64 0)).alloc (.cells #[.int .i64 d] 2)
    simp only [World.size_alloc, World.heap_drewN] at this
    exact this
  have bD : Boxed wL (w.heap.size + 1 + 1 + 1 + 1) 2 (.int .i64 d) := by
    rw [hwL]
    have := Boxed.new (((((w.alloc (.cells #[.int .i64 g] 2)).alloc (.cells #[.int .i64 a] 2)).drewN nq).alloc (.cells #[.int .i64 0] 2)).alloc (.cells #[.int .i64 0] 2)) 2 (.int .i64 d)
    simp only [World.size_alloc, World.heap_drewN] at this
    exact this
  simp only [World.size_alloc, World.heap_drewN]
  clear hwL
  go_wp2
  refine (wpIn_wide (n := 5)).1 ?_
  refine' wpIn_rangeFunc_ownG (F := Fence.wide) (n := 5) rfl (by omega) (gf := 97) (lb := #[.pointer (some ⟨w.heap.size + 1 + 1 + 1 + 1, 0, none⟩)]) rfl trivial (enters_of Tryd.func97 (by kernel_rfl) rfl)
    (par_stops Fence.wide (5 - 1) trivial rfl (by omega) (w.heap.size + 1 + 1 + 1 + 1) d hd d2 wL (by omega) bD.cell) keepBox_t keepBox_b (Below.refl _ _) (fun _ => rfl)
    (fun pre W => (Boxed W (w.heap.size + 1 + 1) 2 (.int .i64 (worstP g a pre).1) ∧ Boxed W (w.heap.size + 1 + 1 + 1) 2 (.int .i64 (worstP g a pre).2) ∧ Boxed W w.heap.size 2 (.int .i64 g) ∧ Boxed W (w.heap.size + 1) 2 (.int .i64 a) ∧ Boxed W (w.heap.size + 1 + 1 + 1 + 1) 2 (.int .i64 d)) ∧ Below w.heap.size w W)
    (fun _ _ _ => False)
    (OwnFrom.and (Own.from (fun s X Y row hs hg hr => ⟨boxed_turn hs.1 hg hr, boxed_turn hs.2.1 hg hr, boxed_turn hs.2.2.1 hg hr, boxed_turn hs.2.2.2.1 hg hr, boxed_turn hs.2.2.2.2 hg hr⟩) _) (ownFrom_below (Nat.le_refl _) (by omega)))
    (fun _ _ _ _ _ hs _ _ => hs)
    ⟨⟨bP, bW, bG, bA, bD⟩, B0⟩
    _ ?assign ?body ?done ?stop
  case assign =>
    intro l x W K hK
    gi_wp2
    exact hK
  case body =>
    rintro l pre x W ⟨⟨hp, hw, hg, ha, hdx⟩, hB⟩ hlt
    have hwb := worstP_bounds g a g1 g2 pre
    have HS := Lib.hid (worstP_snoc g a pre x)
    obtain ⟨p1, p2, hpp⟩ : ∃ p1 p2, worstP g a pre = (p1, p2) := ⟨_, _, rfl⟩
    rw [hpp] at hp hw hwb
    simp only at hp hw hwb
    have HP := Lib.hid hpp
    clear hpp
    have hcp := hp.cell
    have hcw := hw.cell
    have hcg := hg.cell
    have hca := ha.cell
    have hfp := hp.frozen
    have hfw := hw.frozen
    have hsz := hB.size
    have hzz := hdx.lt
    have hmx : Tryd.prog.follows .mixedOrders = true := by kernel_rfl
    have hp1 : 1 ≤ 5 - 1 - 1 := by omega
    obtain ⟨q1, q2⟩ := closeE_bounds (a := a) (l := x.1) g1 g2
    obtain ⟨q, hq⟩ : ∃ q, Hid (closeE g a x.1 = q) := ⟨_, Lib.hid rfl⟩
    have hPP : ∀ W', Calls Tryd.prog 84 #[.int .i64 g, .int .i64 a, .int .i64 x.1] W' fun e w' => e = .returned (.int .i64 q) ∧ W' = w' := fun W' => by rw [← hq.out]; exact closingError_any g a x.1 W' g1 g2 a1 a2 (by have := x.2.1; omega) x.2.2
    rw [hq.out] at q1 q2
    have k1 : IntKind.i64.wrap (-q) = -q := IntWalk.i64_in _ (by omega)
    have k2 : IntKind.i64.wrap (-p2) = -p2 := IntWalk.i64_in _ (by omega)
    have STAY : ¬ absI p2 < absI q → Boxed W (w.heap.size + 1 + 1) 2 (.int .i64 (worstP g a (pre ++ [x])).1) ∧ Boxed W (w.heap.size + 1 + 1 + 1) 2 (.int .i64 (worstP g a (pre ++ [x])).2) := fun hc => by
      have e1 : worstP g a (pre ++ [x]) = (p1, p2) := by rw [HS.out, HP.out, worstF, hq.out, if_neg hc]
      rw [e1]
      exact ⟨hp, hw⟩
    have TURN : absI p2 < absI q → KeepsFrom wL.heap.size W ((W.setCell ⟨w.heap.size + 1 + 1, 0, none⟩ (.int .i64 x.1)).setCell ⟨w.heap.size + 1 + 1 + 1, 0, none⟩ (.int .i64 q)) ∧ KeepBox (w.heap.size + 1 + 1 + 1 + 1) d W ((W.setCell ⟨w.heap.size + 1 + 1, 0, none⟩ (.int .i64 x.1)).setCell ⟨w.heap.size + 1 + 1 + 1, 0, none⟩ (.int .i64 q)) ∧ (Boxed ((W.setCell ⟨w.heap.size + 1 + 1, 0, none⟩ (.int .i64 x.1)).setCell ⟨w.heap.size + 1 + 1 + 1, 0, none⟩ (.int .i64 q)) (w.heap.size + 1 + 1) 2 (.int .i64 (worstP g a (pre ++ [x])).1) ∧ Boxed ((W.setCell ⟨w.heap.size + 1 + 1, 0, none⟩ (.int .i64 x.1)).setCell ⟨w.heap.size + 1 + 1 + 1, 0, none⟩ (.int .i64 q)) (w.heap.size + 1 + 1 + 1) 2 (.int .i64 (worstP g a (pre ++ [x])).2) ∧ Boxed ((W.setCell ⟨w.heap.size + 1 + 1, 0, none⟩ (.int .i64 x.1)).setCell ⟨w.heap.size + 1 + 1 + 1, 0, none⟩ (.int .i64 q)) w.heap.size 2 (.int .i64 g) ∧ Boxed ((W.setCell ⟨w.heap.size + 1 + 1, 0, none⟩ (.int .i64 x.1)).setCell ⟨w.heap.size + 1 + 1 + 1, 0, none⟩ (.int .i64 q)) (w.heap.size + 1) 2 (.int .i64 a) ∧ Boxed ((W.setCell ⟨w.heap.size + 1 + 1, 0, none⟩ (.int .i64 x.1)).setCell ⟨w.heap.size + 1 + 1 + 1, 0, none⟩ (.int .i64 q)) (w.heap.size + 1 + 1 + 1 + 1) 2 (.int .i64 d)) ∧ Below w.heap.size w ((W.setCell ⟨w.heap.size + 1 + 1, 0, none⟩ (.int .i64 x.1)).setCell ⟨w.heap.size + 1 + 1 + 1, 0, none⟩ (.int .i64 q)) := fun hc => by
      have e1 : worstP g a (pre ++ [x]) = (x.1, q) := by rw [HS.out, HP.out, worstF, hq.out, if_pos hc]
      rw [e1]
      have hd2 : Boxed ((W.setCell ⟨w.heap.size + 1 + 1, 0, none⟩ (.int .i64 x.1)).setCell ⟨w.heap.size + 1 + 1 + 1, 0, none⟩ (.int .i64 q)) (w.heap.size + 1 + 1 + 1 + 1) 2 (.int .i64 d) := (hdx.kept (grownBy_setCell' W (w.heap.size + 1 + 1) (.int .i64 x.1)) (fun e => by simp at e; try omega)).kept (grownBy_setCell' (W.setCell ⟨w.heap.size + 1 + 1, 0, none⟩ (.int .i64 x.1)) (w.heap.size + 1 + 1 + 1) (.int .i64 q)) (fun e => by simp at e; try omega)
      exact ⟨((KeepsOthers.setCell _ _ _).trans (KeepsOthers.setCell _ _ _)).from _, fun _ => hd2.cell, ⟨(hp.set _).kept (grownBy_setCell' (W.setCell ⟨w.heap.size + 1 + 1, 0, none⟩ (.int .i64 x.1)) (w.heap.size + 1 + 1 + 1) (.int .i64 q)) (fun e => by simp at e; try omega), (hw.kept (grownBy_setCell' W (w.heap.size + 1 + 1) (.int .i64 x.1)) (fun e => by simp at e; try omega)).set _, (hg.kept (grownBy_setCell' W (w.heap.size + 1 + 1) (.int .i64 x.1)) (fun e => by simp at e; try omega)).kept (grownBy_setCell' (W.setCell ⟨w.heap.size + 1 + 1, 0, none⟩ (.int .i64 x.1)) (w.heap.size + 1 + 1 + 1) (.int .i64 q)) (fun e => by simp at e; try omega), (ha.kept (grownBy_setCell' W (w.heap.size + 1 + 1) (.int .i64 x.1)) (fun e => by simp at e; try omega)).kept (grownBy_setCell' (W.setCell ⟨w.heap.size + 1 + 1, 0, none⟩ (.int .i64 x.1)) (w.heap.size + 1 + 1 + 1) (.int .i64 q)) (fun e => by simp at e; try omega), hd2⟩, (hB.setCell (p := ⟨w.heap.size + 1 + 1, 0, none⟩) (by show w.heap.size ≤ w.heap.size + 1 + 1; omega) _).setCell (p := ⟨w.heap.size + 1 + 1 + 1, 0, none⟩) (by show w.heap.size ≤ w.heap.size + 1 + 1 + 1; omega) _⟩
    clear HS HP hq
    by_cases sq : q < -q
    · by_cases sp : p2 < -p2
      · have aq : absI q = -q := by simp only [absI]; split <;> omega
        have ap : absI p2 = -p2 := by simp only [absI]; split <;> omega
        rw [aq, ap] at STAY TURN
        clear aq ap
        by_cases hc : -p2 < -q
        · have T := Lib.hid (TURN hc)
          clear STAY TURN
          gi_wp2_with (refine ⟨trivial, ?_⟩; gi_at_call 84; refine (CallsIn.inRound l (callsIn_wide.2 (hPP _))).mono ?_; rintro e w' ⟨rfl, rfl⟩)
          exact T.out
        · have T := Lib.hid (STAY hc)
          clear STAY TURN
          gi_wp2_with (refine ⟨trivial, ?_⟩; gi_at_call 84; refine (CallsIn.inRound l (callsIn_wide.2 (hPP _))).mono ?_; rintro e w' ⟨rfl, rfl⟩)
          exact ⟨KeepsFrom.refl _ _, fun e => e, ⟨T.out.1, T.out.2, hg, ha, hdx⟩, hB⟩
      · have aq : absI q = -q := by simp only [absI]; split <;> omega
        have ap : absI p2 = p2 := by simp only [absI]; split <;> omega
        rw [aq, ap] at STAY TURN
        clear aq ap
        by_cases hc : p2 < -q
        · have T := Lib.hid (TURN hc)
          clear STAY TURN
          gi_wp2_with (refine ⟨trivial, ?_⟩; gi_at_call 84; refine (CallsIn.inRound l (callsIn_wide.2 (hPP _))).mono ?_; rintro e w' ⟨rfl, rfl⟩)
          exact T.out
        · have T := Lib.hid (STAY hc)
          clear STAY TURN
          gi_wp2_with (refine ⟨trivial, ?_⟩; gi_at_call 84; refine (CallsIn.inRound l (callsIn_wide.2 (hPP _))).mono ?_; rintro e w' ⟨rfl, rfl⟩)
          exact ⟨KeepsFrom.refl _ _, fun e => e, ⟨T.out.1, T.out.2, hg, ha, hdx⟩, hB⟩
    · by_cases sp : p2 < -p2
      · have aq : absI q = q := by simp only [absI]; split <;> omega
        have ap : absI p2 = -p2 := by simp only [absI]; split <;> omega
        rw [aq, ap] at STAY TURN
        clear aq ap
        by_cases hc : -p2 < q
        · have T := Lib.hid (TURN hc)
          clear STAY TURN
          gi_wp2_with (refine ⟨trivial, ?_⟩; gi_at_call 84; refine (CallsIn.inRound l (callsIn_wide.2 (hPP _))).mono ?_; rintro e w' ⟨rfl, rfl⟩)
          exact T.out
        · have T := Lib.hid (STAY hc)
          clear STAY TURN
          gi_wp2_with (refine ⟨trivial, ?_⟩; gi_at_call 84; refine (CallsIn.inRound l (callsIn_wide.2 (hPP _))).mono ?_; rintro e w' ⟨rfl, rfl⟩)
          exact ⟨KeepsFrom.refl _ _, fun e => e, ⟨T.out.1, T.out.2, hg, ha, hdx⟩, hB⟩
      · have aq : absI q = q := by simp only [absI]; split <;> omega
        have ap : absI p2 = p2 := by simp only [absI]; split <;> omega
        rw [aq, ap] at STAY TURN
        clear aq ap
        by_cases hc : p2 < q
        · have T := Lib.hid (TURN hc)
          clear STAY TURN
          gi_wp2_with (refine ⟨trivial, ?_⟩; gi_at_call 84; refine (CallsIn.inRound l (callsIn_wide.2 (hPP _))).mono ?_; rintro e w' ⟨rfl, rfl⟩)
          exact T.out
        · have T := Lib.hid (STAY hc)
          clear STAY TURN
          gi_wp2_with (refine ⟨trivial, ?_⟩; gi_at_call 84; refine (CallsIn.inRound l (callsIn_wide.2 (hPP _))).mono ?_; rintro e w' ⟨rfl, rfl⟩)
          exact ⟨KeepsFrom.refl _ _, fun e => e, ⟨T.out.1, T.out.2, hg, ha, hdx⟩, hB⟩
  case done =>
    rintro D ys W hD rfl ⟨⟨hp, hw, _, _, _⟩, hB⟩ hK
    have hcp := hp.cell
    have hcw := hw.cell
    rw [worstP_all g a d hd] at hcp hcw
    go_wp2
    go_quiet (fail)
    go_wp2
    refine ⟨by simp, .inl ⟨_, _, rfl, run_takeDeferred (show (W.drewN nq).heap[D]? = _ from hK), ?_⟩⟩
    exact ⟨_, by simp [results, Tryd.results40, go_sem], rfl, (bdr' hB _).trans (belowK_b (w := w) (Nat.le_refl _) _ D _ _ (by omega) (show (W.drewN _).heap[D]? = _ from hK) rfl rfl)⟩
  case stop =>
    rintro D c pre W _ _ hh _
    exact hh.elim


theorem ret_three {a b c d e f : Int} (h : a = b) (g : c = d) (k : e = f) : Ending.returned (.tuple #[.int .i64 a, .int .i64 c, .int .i64 e]) = .returned (.tuple #[.int .i64 b, .int .i64 d, .int .i64 f]) := by rw [h, g, k]

theorem implWorstClosing_any (g a d : Int) (w : World) (hG : GV w) :
    Calls Tryd.prog 40 #[.int .i64 g, .int .i64 a, .int .i64 d] w fun e w' => e = .returned (.tuple #[.int .i64 (ansG (codeT g a d) ((worstN g a d (stepsN d) : Int) * d)), .int .i64 (ansG (codeT g a d) (closeE g a ((worstN g a d (stepsN d) : Int) * d))), .int .i64 (codeT g a d)]) ∧ Below w.heap.size w w' := by
  cases h : goreB g with
  | false =>
    cases x : inB a 1 1000000 with
    | false => refine (implWorstClosing_ff _ _ _ _ hG h x).mono ?_; rintro e w' ⟨rfl, hw⟩; exact ⟨ret_three (by simp [ansG, codeT, codeG, h, x]) (by simp [ansG, codeT, codeG, h, x]) (by simp [codeT, codeG, h, x]), hw⟩
    | true =>
      cases y : inB d 3240 324000 with
      | false => refine (implWorstClosing_ftf _ _ _ _ hG h x y).mono ?_; rintro e w' ⟨rfl, hw⟩; exact ⟨ret_three (by simp [ansG, codeT, codeG, h, x, y]) (by simp [ansG, codeT, codeG, h, x, y]) (by simp [codeT, codeG, h, x, y]), hw⟩
      | true => refine (implWorstClosing_ftt _ _ _ _ hG h x y).mono ?_; rintro e w' ⟨rfl, hw⟩; exact ⟨ret_three (by simp [ansG, codeT, codeG, h, x, y]) (by simp [ansG, codeT, codeG, h, x, y]) (by simp [codeT, codeG, h, x, y]), hw⟩
  | true =>
    cases x : inB a 1 1000000 with
    | false => refine (implWorstClosing_tf _ _ _ _ hG h x).mono ?_; rintro e w' ⟨rfl, hw⟩; exact ⟨ret_three (by simp [ansG, codeT, codeG, h, x]) (by simp [ansG, codeT, codeG, h, x]) (by simp [codeT, codeG, h, x]), hw⟩
    | true =>
      cases y : inB d 3240 324000 with
      | false => refine (implWorstClosing_ttf _ _ _ _ hG h x y).mono ?_; rintro e w' ⟨rfl, hw⟩; exact ⟨ret_three (by simp [ansG, codeT, codeG, h, x, y]) (by simp [ansG, codeT, codeG, h, x, y]) (by simp [codeT, codeG, h, x, y]), hw⟩
      | true => refine (implWorstClosing_ok _ _ _ _ hG h x y).mono ?_; rintro e w' ⟨rfl, hw⟩; exact ⟨ret_three (by simp [ansG, codeT, codeG, h, x, y]) (by simp [ansG, codeT, codeG, h, x, y]) (by simp [codeT, codeG, h, x, y]), hw⟩


theorem specWorstClosing_any (g a d : Int) (w : World) :
    Calls Tryd.prog 41 #[.int .i64 g, .int .i64 a, .int .i64 d] w fun e w' => e = .returned (.tuple #[.int .i64 (ansG (codeT g a d) ((worstN g a d (stepsN d) : Int) * d)), .int .i64 (ansG (codeT g a d) (closeE g a ((worstN g a d (stepsN d) : Int) * d))), .int .i64 (codeT g a d)]) ∧ w = w' := by
  by_cases h : codeT g a d = 0
  · refine (specWorstClosing_ok _ _ _ _ h).mono ?_; rintro e w' ⟨rfl, hw⟩; exact ⟨ret_three (by simp [ansG, h]) (by simp [ansG, h]) h.symm, hw⟩
  · refine (specWorstClosing_bad _ _ _ _ h).mono ?_; rintro e w' ⟨rfl, hw⟩; exact ⟨ret_three (by simp [ansG, h]) (by simp [ansG, h]) rfl, hw⟩


/-- The widths that are told. -/
def wideV (g a d : Int) : List Int := if codeT g a d = 0 then widthsL g a d (stepsN d) else []
theorem wideV_len (g a d : Int) : (wideV g a d).length ≤ 2000000 := by
  simp only [wideV]; split
  · rename_i h
    rw [widthsL_len]; have := stepsN_le (codeT_yes h).2.2.2.1; omega
  · simp

theorem implGoreWidths_any (g a d : Int) (w : World) (hG : GV w) :
    Calls Tryd.prog 23 #[.int .i64 g, .int .i64 a, .int .i64 d] w fun e w' => ∃ v, e = .returned (.tuple #[v, .int .i64 (codeT g a d)]) ∧ IRow w' w.heap.size v (wideV g a d) ∧ Below w.heap.size w w' := by
  cases h : goreB g with
  | false =>
    cases x : inB a 1 1000000 with
    | false => refine (implGoreWidths_ff _ _ _ _ hG h x).mono ?_; rintro e w' ⟨rfl, hw⟩; exact ⟨.slice none 0 0, by simp [codeT, codeG, h, x], by simp [wideV, codeT, codeG, h, x]; exact irow_nil _ _, hw⟩
    | true =>
      cases y : inB d 3240 324000 with
      | false => refine (implGoreWidths_ftf _ _ _ _ hG h x y).mono ?_; rintro e w' ⟨rfl, hw⟩; exact ⟨.slice none 0 0, by simp [codeT, codeG, h, x, y], by simp [wideV, codeT, codeG, h, x, y]; exact irow_nil _ _, hw⟩
      | true => refine (implGoreWidths_ftt _ _ _ _ hG h x y).mono ?_; rintro e w' ⟨rfl, hw⟩; exact ⟨.slice none 0 0, by simp [codeT, codeG, h, x, y], by simp [wideV, codeT, codeG, h, x, y]; exact irow_nil _ _, hw⟩
  | true =>
    cases x : inB a 1 1000000 with
    | false => refine (implGoreWidths_tf _ _ _ _ hG h x).mono ?_; rintro e w' ⟨rfl, hw⟩; exact ⟨.slice none 0 0, by simp [codeT, codeG, h, x], by simp [wideV, codeT, codeG, h, x]; exact irow_nil _ _, hw⟩
    | true =>
      cases y : inB d 3240 324000 with
      | false => refine (implGoreWidths_ttf _ _ _ _ hG h x y).mono ?_; rintro e w' ⟨rfl, hw⟩; exact ⟨.slice none 0 0, by simp [codeT, codeG, h, x, y], by simp [wideV, codeT, codeG, h, x, y]; exact irow_nil _ _, hw⟩
      | true => refine (implGoreWidths_ok _ _ _ _ hG h x y).mono ?_; rintro e w' ⟨v, rfl, hr, hw⟩; exact ⟨v, by simp [codeT, codeG, h, x, y], by simpa [wideV, codeT, codeG, h, x, y] using hr, hw⟩


theorem specGoreWidths_any (g a d : Int) (w : World) :
    Calls Tryd.prog 24 #[.int .i64 g, .int .i64 a, .int .i64 d] w fun e w' => ∃ v, e = .returned (.tuple #[v, .int .i64 (codeT g a d)]) ∧ IRow w' w.heap.size v (wideV g a d) ∧ Below w.heap.size w w' := by
  by_cases h : codeT g a d = 0
  · refine (specGoreWidths_ok _ _ _ _ h).mono ?_; rintro e w' ⟨v, rfl, hr, hw⟩; exact ⟨v, by rw [h], by simpa [wideV, h] using hr, hw⟩
  · refine (specGoreWidths_bad _ _ _ _ h).mono ?_; rintro e w' ⟨rfl, rfl⟩; exact ⟨.slice none 0 0, rfl, by simp [wideV, h]; exact irow_nil _ _, Below.refl _ _⟩


end Go.Proofs.YteeikkakibifpaaDoor.sines
