/- The weight of the placed labels: contract of the program. -/
import Derived.Test.YtmfjpmimkpldjaaLabI4
import Derived.Deep.RegionHeld3
namespace Go.Proofs.Ytmfjpmimkpldjaa.ltab
open Go.ChangeShapes Go.WideShapes Go.ChangeAt Go.RowKit Go.Shelf Go.Proofs.Ytmfjpmimkpldjaa.irows Go.Proofs.Ytmfjpmimkpldjaa.sines
attribute [local go_sem] Oper.semAt_some
set_option linter.unusedSimpArgs false
set_option linter.unusedVariables false

theorem op_roundL {P : Program} {n l : Nat} {o : Oper} {a : Act} {w : World} {K : Act → World → Prop} {Q : Exit → Act → World → Prop} (hd : ∀ c, o.op ≠ .defer c) (h : o.wp P a w K Q) : o.wpIn (Fence.wide.inRound l) n P a w K Q := by
  unfold Oper.wpIn
  refine ⟨fun _ _ => trivial, ?_⟩
  rw [show (Fence.wide.inRound l).round = some l from rfl, Oper.semAt_some l _ _ hd]
  unfold Oper.wp at h
  cases e : (execOp a.eval o).run P w with
  | ok x w' =>
    rw [e] at h
    cases x with
    | value v => exact h
    | skip => exact h
    | defer d => exact h
    | enter f args => exact ⟨(fun h0 => by cases h0), CallsIn.inRound l (callsIn_wide.2 h)⟩
    | row r args => exact ⟨(fun h0 => by cases h0), fun c cs _ => by
        obtain ⟨v, w2, r1, s1⟩ := h c cs
        exact ⟨v, w2, r1, stepsIn_wide.2 s1⟩⟩
    | _ => exact h.elim
  | halt x w' =>
    rw [e] at h
    cases x <;> exact h
theorem any_roundL {P : Program} {n l : Nat} {md : Region.Mode} {ops : Array Oper} {Q : Exit → Act → World → Prop} (hQ : ¬ LetsOut Q) (hd : ∀ (i : Nat) (o : Oper), ops[i]? = some o → ∀ c, o.op ≠ .defer c) :
    ∀ (fuel : Nat) (listed : Array Bool) (a : Act) (w : World), wpAny P md ops Q fuel listed a w → wpAnyIn (Fence.wide.inRound l) n P md ops Q fuel listed a w
  | 0, _, _, _, h => h
  | fuel + 1, listed, a, w, h => ⟨h.1, fun i hi => by
    have h2 := h.2 i hi
    unfold wpOp at h2
    unfold wpOpIn
    cases e : ops[i]? with
    | none =>
      rw [e] at h2
      exact any_roundL hQ hd fuel _ _ _ h2
    | some o =>
      rw [e] at h2
      simp only at h2 ⊢
      split
      · rename_i hw
        rw [if_pos hw] at h2
        rcases h2 with h2 | h2
        · exact op_roundL (hd i o e) (Oper.wp_mono (fun a' w' h' => any_roundL hQ hd fuel _ a' w' h') h2)
        · exact absurd h2.2 hQ
      · rename_i hw
        rw [if_neg hw] at h2
        exact ⟨fun _ _ => trivial, any_roundL hQ hd fuel _ _ _ h2⟩⟩
theorem region_roundL {P : Program} {n l id : Nat} {ops : Array Oper} {Q : Exit → Act → World → Prop} {a : Act} {w : World} (S : World → Prop) (hm : P.follows .mixedOrders = true) (hQ : ¬ LetsOut Q) (hd : ∀ (i : Nat) (o : Oper), ops[i]? = some o → ∀ c, o.op ≠ .defer c)
    (h : wpAnyH P .any ops Q S ops.size (Array.replicate ops.size false) a w.drew) : (Code.region id ops true).wpIn (Fence.wide.inRound l) n P Q a w :=
  wpIn_region_any hm (any_roundL hQ hd _ _ _ _ (wpAny_of_held _ _ _ _ h))
def sumF (f : Nat → Int) : List Nat → Int
  | [] => 0
  | x :: l => f x + sumF f l
theorem sumF_snoc (f : Nat → Int) (x : Nat) : ∀ l, sumF f (l ++ [x]) = sumF f l + f x
  | [] => by simp [sumF]
  | y :: l => by simp only [List.cons_append, sumF, sumF_snoc f x l]; omega
theorem sumF_b {f : Nat → Int} {M : Int} (hM : 0 ≤ M) : ∀ l : List Nat, (∀ x ∈ l, 0 ≤ f x ∧ f x ≤ M) → 0 ≤ sumF f l ∧ sumF f l ≤ M * (l.length : Int)
  | [], _ => by simp [sumF]
  | x :: l, h => by
    have a := h x (by simp)
    have b := sumF_b hM l (fun y hy => h y (by simp [hy]))
    have e : M * ((x :: l).length : Int) = M * (l.length : Int) + M := by rw [List.length_cons, Int.natCast_add, Int.mul_add]; simp
    simp only [sumF]
    omega
def wtL (ps : List Lb) (x : Nat) : Int := (lbAt ps x).2.2.2
theorem weight_sum (ps : List Lb) (zs : List Int) : ∀ k, weightK ps zs k = sumF (wtL ps) (onL zs k)
  | 0 => rfl
  | k + 1 => by
    cases h : onB zs k with
    | true => rw [weightK, h, onL_yes h, sumF_snoc, weight_sum ps zs k]; rfl
    | false => rw [weightK, h, onL_no h, weight_sum ps zs k]; simp
set_option maxRecDepth 100000 in
set_option maxHeartbeats 4000000 in
theorem implWeightPlaced_any (v u : Value) (ps : List Lb) (zs : List Int) (w : World) (hv : LAt w w.heap.size v ps) (hu : IAt w w.heap.size u zs) (hl : ps.length ≤ 1048576) (hr : ∀ i, (hi : i < ps.length) → ps[i].2.2.1.length ≤ 1048576) (hz : zs.length ≤ 1048576) :
    Calls Try.prog 21 #[v, u] w fun e w' => e = .returned (.tuple #[.int .i64 (valW ps zs), .int .i64 (codeK ps zs)]) ∧ Below w.heap.size w w' := by
  have VL := Lib.hid (fun W (h : Below w.heap.size w W) => implValidLabels_any v ps W (lat_up (lat_keep hv h) h.size) hl hr)
  have AP := Lib.hid (fun W (h : Below w.heap.size w W) => arePlaces_any v u ps zs W (lat_up (lat_keep hv h) h.size) (iat_up (iat_keep hu h) h.size) hl hr hz)
  have CO := Lib.hid (fun W => codeOf_any (okL ps) (placesOk ps zs) W)
  rw [codeI] at CO
  have HV := Lib.hid hv
  have HU := Lib.hid hu
  obtain ⟨a, c, rfl, _⟩ := hv
  obtain ⟨au, cu, rfl, _⟩ := hu
  have EZ := Lib.hid (fun h => codeK_zero (ps := ps) (zs := zs) h)
  have EP := Lib.hid (fun h1 h2 => places_facts (ps := ps) (zs := zs) h1 h2)
  have BX := Lib.hid ((Below.refl w.heap.size w).alloc (Nat.le_refl _) (.cells #[.slice a ps.length c] 24))
  have c1 : (w.alloc (.cells #[.slice a ps.length c] 24)).cell? ⟨w.heap.size, 0, none⟩ = some (.slice a ps.length c) := by simp [go_sem]
  have bx := Lib.hid (Boxed.new w 24 (.slice a ps.length c))
  have hlt : w.heap.size < (w.alloc (.cells #[.slice a ps.length c] 24)).heap.size := by simp
  obtain ⟨W, hW⟩ : ∃ W, Hid ((w.alloc (.cells #[.slice a ps.length c] 24)) = W) := ⟨_, Lib.hid rfl⟩
  rw [hW.out] at BX c1 bx hlt
  have VW := Lib.hid (fun U (h : Below W.heap.size W U) => VL.out U (BX.out.trans (h.mono BX.out.size)))
  have AW := Lib.hid (fun U (h : Below W.heap.size W U) => AP.out U (BX.out.trans (h.mono BX.out.size)))
  clear VL AP
  by_cases h0 : codeK ps zs = 0
  · obtain ⟨h1, h2⟩ := EZ.out h0
    obtain ⟨hp, hzl, hf⟩ := EP.out h1 h2
    have HF := Lib.hid hf
    have HZL := Lib.hid hzl
    clear hzl
    have ZV := Lib.hid (show valW ps zs = weightK ps zs ps.length by rw [valW, if_pos h0])
    rw [ZV.out, h0]
    rw [h0] at CO
    obtain ⟨R, hR⟩ : ∃ R, Hid (weightK ps zs ps.length = R) := ⟨_, Lib.hid rfl⟩
    have EA := Lib.hid (show sumF (wtL ps) (onL zs ps.length) = R by rw [← weight_sum]; exact hR.out)
    rw [hR.out]
    generalize okL ps = o1 at VW CO
    generalize placesOk ps zs = o2 at AW CO
    clear ZV EZ EP h1 h2 h0 hf
    refine (callsIn_wide (n := 5)).1 ?_
    refine callsIn_of_wp_marks Try.func21 rfl trivial ?_ rfl
    simp only [Try.ntmps21, List.size_toArray, List.length_cons, List.length_nil, Nat.reduceAdd, Nat.reduceSub, Array.replicate_succ, Array.replicate_zero, List.push_toArray, List.append_toArray, List.nil_append, List.cons_append]
    refine wpIn_wide.2 ?_
    go_wp2_with fail
    rw [hW.out]
    go_region_held3 (fun U => U.cell? ⟨w.heap.size, 0, none⟩ = some (.slice a ps.length c)) (first | exact c1 | exact n1 | (simp [go_sem]; first | exact c1 | exact n1)) (first | (go_at_call 49; refine (VW.out _ (by repeat (first | assumption | exact Below.refl _ _ | refine Below.drew ?_ | refine bdr ?_ _))).mono ?_; rintro e w1 ⟨rfl, hb⟩; have n1 := (hb.cell (p := ⟨w.heap.size, 0, none⟩) hlt).trans c1; have hb1 := (show Below W.heap.size W _ from (by repeat (first | assumption | exact Below.refl _ _ | refine Below.drew ?_ | refine bdr ?_ _))).trans hb) | (go_at_call 75; refine (AW.out _ (by repeat (first | assumption | exact Below.refl _ _ | refine Below.drew ?_ | refine bdr ?_ _))).mono ?_; rintro e w2 ⟨rfl, rfl⟩) | (go_at_call 74; refine (CO.out _).mono ?_; rintro e w3 ⟨rfl, rfl⟩))
    have nn := n1
    have hgl : w.heap.size < w3.heap.size := Nat.lt_of_lt_of_le hlt hb1.size
    have bx1 := Lib.hid (bx.out.kept (grown_ofL hb1) (by simp))
    have BB1 := Lib.hid (BX.out.trans (hb1.mono BX.out.size))
    clear n1 hb hb1 c1
    have bx2 := Lib.hid (bx1.out.alloc (.cells #[.int .i64 0] 2))
    have bw2 := Lib.hid (Boxed.new w3 2 (.int .i64 0))
    have cc := bx2.out.cell
    have B2 := Lib.hid (BB1.out.alloc BB1.out.size (.cells #[.int .i64 0] 2))
    have hg0 := BB1.out.size
    have hg1 : w3.heap.size < (w3.alloc (.cells #[.int .i64 0] 2)).heap.size := by simp
    go_wp2_with fail
    generalize hW1 : w3.alloc (.cells #[.int .i64 0] 2) = W1 at *
    refine (placedSpans_any _ _ _ _ _ _ W1).mono ?_
    rintro e w4 ⟨rfl, hc1, hc2, hb4, hsz4⟩
    have bx4 := Lib.hid (show Boxed w4 w.heap.size 24 (.slice a ps.length c) from bx2.out.kept (grown_ofL hb4) (by simp))
    have bw4 := Lib.hid (show Boxed w4 w3.heap.size 2 (.int .i64 0) from bw2.out.kept (grown_ofL hb4) (by simp))
    have B4 := Lib.hid (B2.out.trans (hb4.mono B2.out.size))
    have LV := Lib.hid (lat_keep HV.out B4.out)
    have IV := Lib.hid (iat_keep HU.out B4.out)
    have HC1 := Lib.hid hc1
    have HC2 := Lib.hid hc2
    generalize w3.heap.size = gw at *
    generalize W1.heap.size = B at *
    clear hb4 hsz4 hc1 hc2 cc nn bx1 bx2 bw2 B2 BB1 hW1
    go_wp2
    refine (wpIn_wide (n := 5)).1 ?_
    refine' wpIn_rangeFunc_ownF (F := Fence.wide) (n := 5) rfl (by omega) (gf := 121) (lb := #[.pointer (some ⟨B, 0, none⟩), .pointer (some ⟨B + 1, 0, none⟩)]) rfl trivial (enters_of Try.func121 (by kernel_rfl) rfl)
      (placed_stops (5 - 1) w.heap.size B (B + 1) _ _ ps zs hp HZL.out HF.out w4 HC1.out HC2.out LV.out IV.out B4.out.size) kpD_t kpD_b (Below.refl _ _) (fun _ => rfl)
      (fun pre W => (Boxed W w.heap.size 24 (.slice a ps.length c) ∧ Boxed W gw 2 (.int .i64 (sumF (wtL ps) (pre.map Subtype.val)))) ∧ Below w.heap.size w W)
      (fun _ _ _ => False)
      (OwnFrom.and (fun s A B' row hs hg hr => ⟨boxed_own w.heap.size 24 (fun _ : List (Plc ps zs) => Value.slice a ps.length c) s A B' row hs.1 hg (fun r e => (hr r e).2), boxed_own gw 2 (fun pre : List (Plc ps zs) => Value.int .i64 (sumF (wtL ps) (pre.map Subtype.val))) s A B' row hs.2 hg (fun r e => (hr r e).2)⟩) (ownFrom_below (Nat.le_refl _) B4.out.size))
      (fun _ _ _ _ _ hs _ _ => hs)
      ⟨⟨bx4.out, by simpa [sumF] using bw4.out⟩, B4.out⟩
      _ ?assign ?body ?done ?stop
    case assign =>
      intro l x W K hK
      unfold encP sv
      gi_wp2
      exact hK
    case body =>
      rintro l pre x W ⟨⟨h7, h9⟩, hB⟩ hlp
      have hd : 1 ≤ 5 - 1 - 1 := by omega
      have hmx : Try.prog.follows .mixedOrders = true := by kernel_rfl
      have xN : x.1 < ps.length := x.2.1
      obtain ⟨a', c', e, hcl⟩ := lat_k HV.out
      injection e with e1' e2' e3'
      subst e1' e3'
      clear e2'
      obtain ⟨b, off, rfl, hbs, y, _, _, _, k4, _⟩ := hcl x.1 xN
      have cX := (hB.cell (p := ⟨b, off + x.1 * 4 + 3, none⟩) hbs).trans k4
      have c7 := h7.cell
      have c9 := h9.cell
      have f9 := h9.frozen
      have F1 := (oneL_facts (HF.out x.1 xN).1).2.2.2.1
      have SB := sumF_b (f := wtL ps) (M := 1000) (by omega) (pre.map Subtype.val) (fun z hz => by
        obtain ⟨y, _, rfl⟩ := List.mem_map.1 hz
        have := (oneL_facts (HF.out y.1 y.2.1).1).2.2.2.1
        unfold wtL; omega)
      rw [List.length_map] at SB
      have hlp2 : pre.length < ps.length := by simpa using hlp
      have x0 : 0 ≤ (x.1 : Int) := by omega
      have x1 : (x.1 : Int) < (ps.length : Int) := by omega
      have SN := Lib.hid (show sumF (wtL ps) ((pre ++ [x]).map Subtype.val) = sumF (wtL ps) (pre.map Subtype.val) + (lbAt ps x.1).2.2.2 by rw [List.map_append]; exact sumF_snoc _ _ _)
      have POST := Lib.hid (show ∀ z : Int, sumF (wtL ps) ((pre ++ [x]).map Subtype.val) = z → KeepsOthers W (W.setCell ⟨gw, 0, none⟩ (.int .i64 z)).drew ∧ KpD w.heap.size B (B + 1) W (W.setCell ⟨gw, 0, none⟩ (.int .i64 z)).drew ∧ ((Boxed (W.setCell ⟨gw, 0, none⟩ (.int .i64 z)).drew w.heap.size 24 (.slice (some ⟨b, off, none⟩) ps.length c) ∧ Boxed (W.setCell ⟨gw, 0, none⟩ (.int .i64 z)).drew gw 2 (.int .i64 (sumF (wtL ps) ((pre ++ [x]).map Subtype.val)))) ∧ Below w.heap.size w (W.setCell ⟨gw, 0, none⟩ (.int .i64 z)).drew) from fun z hz => by
        refine ⟨(KeepsOthers.setCell _ _ _).trans (KeepsOthers.drew _), ⟨by simp, fun i cs t fr hi hc => ?_⟩, ⟨(heap_setCell_other W ⟨gw, 0, none⟩ _ _ (by show w.heap.size ≠ gw; omega)).trans h7, by rw [hz]; exact h9.set _⟩, Below.drew (hB.setCell (p := ⟨gw, 0, none⟩) hg0 _)⟩
        show (W.setCell ⟨gw, 0, none⟩ (.int .i64 z)).heap[i]? = _
        rw [← hc]
        exact heap_setCell_other W ⟨gw, 0, none⟩ i _ (by show i ≠ gw; omega))
      clear h7 h9 hB hlp hcl k4
      generalize sumF (wtL ps) (pre.map Subtype.val) = S0 at *
      generalize (lbAt ps x.1).2.2.2 = wx at *
      have kw : IntKind.i64.wrap (S0 + wx) = S0 + wx := IntWalk.i64_in _ (by omega)
      have KW := Lib.hid kw
      clear kw
      gi_wp2
      have kw := KW.out
      have hS0 : Hid ((fun U : World => U.cell? ⟨w.heap.size, 0, none⟩ = some (.slice (some ⟨b, off, none⟩) ps.length c) ∧ U.cell? ⟨b, off + x.1 * 4 + 3, none⟩ = some (.int .i64 wx)) W.drew) := Lib.hid ⟨c7, cX⟩
      refine region_roundL (fun U : World => U.cell? ⟨w.heap.size, 0, none⟩ = some (.slice (some ⟨b, off, none⟩) ps.length c) ∧ U.cell? ⟨b, off + x.1 * 4 + 3, none⟩ = some (.int .i64 wx)) hmx (by rintro ⟨_, _, h⟩; exact h) ?hd ?takes
      case hd =>
        intro i o h c e
        have hi : i < 8 := (Array.getElem?_eq_some_iff.1 h).1
        obtain rfl | rfl | rfl | rfl | rfl | rfl | rfl | rfl : i = 0 ∨ i = 1 ∨ i = 2 ∨ i = 3 ∨ i = 4 ∨ i = 5 ∨ i = 6 ∨ i = 7 := by omega
        all_goals
          cases h
          cases e
      case takes =>
      change wpAnyH _ _ _ _ _ 8 #[false, false, false, false, false, false, false, false] _ _
      refine wpAnyH_take (i := 1) (v := .slice (some ⟨b, off, none⟩) ps.length c) rfl (by kernel_rfl) (by kernel_rfl) (by kernel_rfl) (fun _ _ _ h => h) (Or.inl ⟨by rfl, ?hy1⟩) hS0.out ?rest1
      case hy1 =>
        intro U hU
        obtain ⟨s1, s3⟩ := hU
        go_simp
      case rest1 =>
      simp only [Act.put, List.getElem_toArray, List.getElem_cons_zero, List.getElem_cons_succ, List.setIfInBounds_toArray, List.set_cons_zero, List.set_cons_succ]
      refine wpAnyH_take (i := 2) (v := .int .i64 (x.1 : Int)) rfl (by kernel_rfl) (by kernel_rfl) (by kernel_rfl) (fun _ _ _ h => h) (Or.inl ⟨by rfl, ?hy2⟩) hS0.out ?rest2
      case hy2 =>
        intro U hU
        obtain ⟨s1, s3⟩ := hU
        go_simp
      case rest2 =>
      simp only [Act.put, List.getElem_toArray, List.getElem_cons_zero, List.getElem_cons_succ, List.setIfInBounds_toArray, List.set_cons_zero, List.set_cons_succ]
      refine wpAnyH_take (i := 3) (v := .pointer (some ⟨b, off + x.1 * 4, none⟩)) rfl (by kernel_rfl) (by kernel_rfl) (by kernel_rfl) (fun _ _ _ h => h) (Or.inl ⟨by rfl, ?hy3⟩) hS0.out ?rest3
      case hy3 =>
        intro U hU
        obtain ⟨s1, s3⟩ := hU
        go_simp
      case rest3 =>
      simp only [Act.put, List.getElem_toArray, List.getElem_cons_zero, List.getElem_cons_succ, List.setIfInBounds_toArray, List.set_cons_zero, List.set_cons_succ]
      refine wpAnyH_take (i := 4) (v := .pointer (some ⟨b, off + x.1 * 4 + 3, none⟩)) rfl (by kernel_rfl) (by kernel_rfl) (by kernel_rfl) (fun _ _ _ h => h) (Or.inl ⟨by rfl, ?hy4⟩) hS0.out ?rest4
      case hy4 =>
        intro U hU
        obtain ⟨s1, s3⟩ := hU
        go_simp
      case rest4 =>
      simp only [Act.put, List.getElem_toArray, List.getElem_cons_zero, List.getElem_cons_succ, List.setIfInBounds_toArray, List.set_cons_zero, List.set_cons_succ]
      refine wpAnyH_take (i := 5) (v := .int .i64 wx) rfl (by kernel_rfl) (by kernel_rfl) (by kernel_rfl) (fun _ _ _ h => h) (Or.inl ⟨by rfl, ?hy5⟩) hS0.out ?rest5
      case hy5 =>
        intro U hU
        obtain ⟨s1, s3⟩ := hU
        go_simp
      case rest5 =>
      simp only [Act.put, List.getElem_toArray, List.getElem_cons_zero, List.getElem_cons_succ, List.setIfInBounds_toArray, List.set_cons_zero, List.set_cons_succ]
      refine wpAnyH_all (rs := [0]) (by kernel_rfl) (by simp) (fun i hi => ?_)
      obtain rfl : i = 0 := by simpa using hi
      refine wpOp_step rfl (fun K' hK => ?_)
      go_simp
      refine hK _ _ ⟨hS0.out, ?_⟩
      clear hK K'
      refine wpAnyH_take (i := 6) (v := .int .i64 (S0 + wx)) rfl (by kernel_rfl) (by kernel_rfl) (by kernel_rfl) (fun _ _ _ h => h) (Or.inl ⟨by rfl, ?hy6⟩) hS0.out ?rest6
      case hy6 =>
        intro U hU
        obtain ⟨s1, s3⟩ := hU
        go_simp
      case rest6 =>
      simp only [Act.put, List.getElem_toArray, List.getElem_cons_zero, List.getElem_cons_succ, List.setIfInBounds_toArray, List.set_cons_zero, List.set_cons_succ]
      refine wpAnyH_all (rs := [7]) (by kernel_rfl) (by simp) (fun i hi => ?_)
      obtain rfl : i = 7 := by simpa using hi
      refine wpOp_step rfl (fun K' hK => ?_)
      go_simp
      refine hK _ _ ⟨?_, wpAnyH_done (by kernel_rfl) ?_ _⟩
      · have f1 := (World.cell?_setCell_far W.drew ⟨gw, 0, none⟩ ⟨w.heap.size, 0, none⟩ (.int .i64 (S0 + wx)) (show gw ≠ w.heap.size by omega)).trans c7
        have f2 := (World.cell?_setCell_far W.drew ⟨gw, 0, none⟩ ⟨b, off + x.1 * 4 + 3, none⟩ (.int .i64 (S0 + wx)) (show gw ≠ b by omega)).trans cX
        first
        | exact ⟨f1, f2⟩
        | (simp [go_sem]; exact ⟨f1, f2⟩)
      · exact POST.out _ SN.out
    case done =>
      rintro D ys W hD hys ⟨⟨h7, h9⟩, hB⟩ hK
      have e : sumF (wtL ps) (ys.map Subtype.val) = R := by rw [hys]; exact EA.out
      rw [e] at h9
      have hc := h9.cell
      clear e
      go_wp2
      refine ⟨by simp, .inl ⟨_, _, rfl, run_takeDeferred hK, ?_⟩⟩
      refine ⟨.tuple #[.int .i64 R, .int .i64 0], ?_, rfl, hB.trans (belowK_b (w := w4) B4.out.size W D _ _ hD hK rfl rfl)⟩
      simp [results, Try.results21, go_sem]
    case stop =>
      rintro D c pre W _ _ hh _
      exact hh.elim
  · have ZV := Lib.hid (show valW ps zs = 0 by rw [valW, if_neg h0])
    rw [ZV.out]
    have hzz1 : decide (codeK ps zs = 0) = false := by simpa using h0
    have hzz2 : (codeK ps zs == 0) = false := by simpa using h0
    generalize codeK ps zs = C at h0 hzz1 hzz2 CO ⊢
    generalize okL ps = o1 at VW CO
    generalize placesOk ps zs = o2 at AW CO
    clear ZV EZ EP
    go_enter Try.func21, Try.ntmps21
    go_wp2_with fail
    rw [hW.out]
    go_region_held3 (fun U => U.cell? ⟨w.heap.size, 0, none⟩ = some (.slice a ps.length c)) (first | exact c1 | exact n1 | (simp [go_sem]; first | exact c1 | exact n1)) (first | (go_at_call 49; refine (VW.out _ (by repeat (first | assumption | exact Below.refl _ _ | refine Below.drew ?_ | refine bdr ?_ _))).mono ?_; rintro e w1 ⟨rfl, hb⟩; have n1 := (hb.cell (p := ⟨w.heap.size, 0, none⟩) hlt).trans c1; have hb1 := (show Below W.heap.size W _ from (by repeat (first | assumption | exact Below.refl _ _ | refine Below.drew ?_ | refine bdr ?_ _))).trans hb) | (go_at_call 75; refine (AW.out _ (by repeat (first | assumption | exact Below.refl _ _ | refine Below.drew ?_ | refine bdr ?_ _))).mono ?_; rintro e w2 ⟨rfl, rfl⟩) | (go_at_call 74; refine (CO.out _).mono ?_; rintro e w3 ⟨rfl, rfl⟩))
    all_goals
      have HB := Lib.hid (BX.out.trans (hb1.mono BX.out.size))
      go_wp2
      exact bodyPost_ret (v := .tuple #[.int .i64 0, .int .i64 C]) (by simp [results, Try.results21, go_sem]) rfl ⟨rfl, by repeat (first | assumption | exact HB.out | refine Below.drew ?_ | refine bdr ?_ _)⟩
end Go.Proofs.Ytmfjpmimkpldjaa.ltab
