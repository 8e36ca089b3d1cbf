/- Twice the area of a closed chain: contracts of the program. -/
import Derived.Test.YtemhmejjmhbfdabJoinI2
import Derived.Test.YtemhmejjmhbfdabChainI6
namespace Go.Proofs.Ytemhmejjmhbfdab.sines
open Go.ChangeShapes Go.WideShapes Go.ChangeAt Go.RowKit Go.Shelf Go.Proofs.Ytemhmejjmhbfdab.spots Go.Proofs.Ytemhmejjmhbfdab.irows Go.Proofs.Ytemhmejjmhbfdab.pairsPlace
attribute [local go_sem] Oper.semAt_some
set_option linter.unusedSimpArgs false
set_option linter.unusedVariables false

theorem cells_kept {A C : World} {row : Option Nat} {B b0 : Nat} {cs : Array Value} {t : TypeId} (h : A.heap[B]? = some (.cells cs t (0, 0))) (hg : A.grownBy C row) (hr : ∀ r, row = some r → b0 ≤ r ∧ ∃ o : Obj, A.heap[r]? = some o ∧ o.isCells = false) : C.heap[B]? = some (.cells cs t (0, 0)) := by
  refine (hg.block B (Array.getElem?_eq_some_iff.1 h).1 (fun e => ?_)).trans h
  obtain ⟨_, o, h1, h2⟩ := hr B e.symm
  rw [h] at h1; cases h1; simp [Obj.isCells] at h2
theorem kpX_set {g : Nat} (W : World) (v : Value) : KpX g W (W.setCell ⟨g, 0, none⟩ v) :=
  ⟨by simp, fun i cs t fr hi hc => by rw [← hc]; exact heap_setCell_other W ⟨g, 0, none⟩ i v hi⟩
theorem cell_heap9 {W : World} {n : Nat} {cs : Array Value} {T : TypeId} (h : W.heap[n]? = some (.cells cs T (0, 0))) (i : Nat) : W.cell? ⟨n, i, none⟩ = cs[i]? := by simp [World.cell?, h]
def edgeF (ps : List Pl) (k : Nat) : Int := edgeA (pAt ps k) (pAt ps (k + 1))
theorem area_sum (ps : List Pl) : ∀ k, areaN ps k = sumE (edgeF ps) (List.range k)
  | 0 => rfl
  | k + 1 => by rw [List.range_succ, sumE_snoc, ← area_sum ps k]; rfl
theorem edgeF_bound {ps : List Pl} (h : okC ps = true) (x : Nat) (hx : x + 1 < ps.length) : -4000000 ≤ edgeF ps x ∧ edgeF ps x ≤ 4000000 := by
  obtain ⟨_, _, h3⟩ := okC_of h
  have := edgeA_bounds (h3 x (by omega)) (h3 (x + 1) hx)
  exact ⟨this.1, this.2.1⟩
theorem preE_bound {ps : List Pl} {f : Nat → Int} {M : Int} (hf : ∀ x, x + 1 < ps.length → -M ≤ f x ∧ f x ≤ M) (pre : List (Edge ps)) : -M * (pre.length : Int) ≤ sumE f (pre.map Subtype.val) ∧ sumE f (pre.map Subtype.val) ≤ M * (pre.length : Int) := by
  have := sumE_bound (f := f) (M := M) (pre.map Subtype.val) (fun x hx => by
    obtain ⟨y, hy, rfl⟩ := List.mem_map.1 hx
    exact hf y.1 y.2)
  rwa [List.length_map] at this
set_option maxRecDepth 100000 in
set_option maxHeartbeats 2000000 in
theorem twiceArea_any (v : Value) (ps : List (Int × Int)) (w : World) (hv : PAt w w.heap.size v ps) (hok : okC ps = true) :
    Calls Try.prog 76 #[v] w fun e w' => e = .returned (.int .i64 (areaI ps)) ∧ Below w.heap.size w w' := by
  obtain ⟨q1, q2, q3⟩ := okC_of hok
  have HO := Lib.hid q3
  have EA := Lib.hid (show areaI ps = sumE (edgeF ps) (List.range (ps.length - 1)) from area_sum ps _)
  have EB := Lib.hid (fun (pre : List (Edge ps)) => preE_bound (edgeF_bound hok) pre)
  have HV := Lib.hid hv
  obtain ⟨ar, c, rfl, _⟩ := hv
  clear q3
  obtain ⟨R, hR⟩ : ∃ R, Hid (areaI ps = R) := ⟨_, Lib.hid rfl⟩
  rw [hR.out] at EA ⊢
  refine (callsIn_wide (n := 5)).1 ?_
  refine callsIn_of_wp_marks Try.func76 rfl trivial ?_ rfl
  simp only [Try.ntmps76, List.size_toArray, List.length_cons, List.length_nil, Nat.reduceAdd, Nat.reduceSub, Array.replicate_succ, Array.replicate_zero, List.push_toArray, List.append_toArray, List.nil_append, List.cons_append]
  refine wpIn_wide.2 ?_
  go_wp2_with fail
  have B1 := Lib.hid ((Below.refl w.heap.size w).alloc (Nat.le_refl _) (.cells #[.int .i64 0] 2))
  have bA := Lib.hid (Boxed.new w 2 (.int .i64 0))
  generalize hW1 : w.alloc (.cells #[.int .i64 0] 2) = W1 at *
  refine (edges_any _ _ _ _).mono ?_
  rintro e w2 ⟨rfl, hc2, hb2⟩
  have B2 := Lib.hid (B1.out.trans (hb2.mono B1.out.size))
  have bA2 := Lib.hid (show Boxed w2 w.heap.size 2 (.int .i64 0) from bA.out.kept (grown_of hb2) (by simp))
  have hBg : W1.heap.size ≠ w.heap.size := by have := bA.out.lt; omega
  have PX := Lib.hid (show PAtX w2 w.heap.size (.slice ar ps.length c) ps from patx_keep (patx_keep (pat_x HV.out (by omega) (Nat.le_refl _)) (kpX_of B1.out)) (kpX_of hb2))
  have gw2 : w.heap.size < w2.heap.size := bA2.out.lt
  generalize W1.heap.size = B at *
  generalize hgw : w.heap.size = gw at *
  clear hb2 bA
  go_wp2
  refine (wpIn_wide (n := 5)).1 ?_
  refine' wpIn_rangeFunc_ownH (F := Fence.wide) (n := 5) rfl (by omega) (gf := 122) (lb := #[.pointer (some ⟨B, 0, none⟩)]) rfl trivial (enters_of Try.func122 (by kernel_rfl) rfl)
    (edges_stops (5 - 1) B gw (.slice ar ps.length c) ps q1 (by omega) hBg w2 hc2 PX.out) kpX_t kpX_b (Below.refl _ _) (fun _ => rfl)
    (fun pre W => Boxed W gw 2 (.int .i64 (sumE (edgeF ps) (pre.map Subtype.val))) ∧ Below gw w W)
    (fun _ _ _ => False)
    (OwnFrom.and (Own.from (fun s A B row hs hg hr => boxed_own gw 2 (fun pre : List (Edge ps) => Value.int .i64 (sumE (edgeF ps) (pre.map Subtype.val))) s A B row hs hg hr) _) (ownFrom_below (by rw [← hgw]; exact Nat.le_refl _) (by omega)))
    (fun _ _ _ _ _ hs _ _ => hs)
    ⟨by simpa [sumE] using bA2.out, B2.out⟩
    (fun x a' W => ∃ b1 b2 : Nat, gw < b1 ∧ gw < b2 ∧ W.heap[b1]? = some (.cells #[.int .i64 (pAt ps x.1).1, .int .i64 (pAt ps x.1).2] 120 (0, 0)) ∧ W.heap[b2]? = some (.cells #[.int .i64 (pAt ps (x.1 + 1)).1, .int .i64 (pAt ps (x.1 + 1)).2] 120 (0, 0)) ∧ a' = { tmps := #[.slice ar ps.length c, undef, .int .i64 0, .pointer (some ⟨gw, 0, none⟩), .pointer (some ⟨b1, 0, none⟩), .pointer (some ⟨b2, 0, none⟩), .slice ar ps.length c, .func (.func 122) #[] #[.pointer (some ⟨B, 0, none⟩)], .agg #[.int .i64 (pAt ps x.1).1, .int .i64 (pAt ps x.1).2], .agg #[.int .i64 (pAt ps (x.1 + 1)).1, .int .i64 (pAt ps (x.1 + 1)).2], undef, undef, undef, undef, undef, undef, undef, undef, undef, undef, undef, undef, undef, undef], defers := [] })
    (fun x a' s A B row hs hg hr => by
      obtain ⟨b1, b2, h1, h2, h3, h4, h5⟩ := hs
      exact ⟨b1, b2, h1, h2, cells_kept h3 hg hr, cells_kept h4 hg hr, h5⟩)
    ?assign ?body ?done ?stop
  case assign =>
    rintro l pre x W K ⟨hV, hB⟩ hK
    have hs := hB.size
    have hlt := hV.lt
    have hK' := hK _ _ (((KeepsOthers.alloc W (.cells #[.int .i64 (pAt ps x.1).1, .int .i64 (pAt ps x.1).2] 120)).trans (KeepsOthers.alloc _ (.cells #[.int .i64 (pAt ps (x.1 + 1)).1, .int .i64 (pAt ps (x.1 + 1)).2] 120))).from _) (kpX_of (((Below.refl _ _).alloc (Nat.le_refl _) _).alloc (by simp) _)) ⟨(hV.alloc _).alloc _, (hB.alloc (by omega) _).alloc (by simp; omega) _⟩ ⟨W.heap.size, W.heap.size + 1, hlt, by omega, (Below.heap_alloc _ _ _ (by simp)).trans (World.alloc_heap_new W _), by have := World.alloc_heap_new (W.alloc (.cells #[.int .i64 (pAt ps x.1).1, .int .i64 (pAt ps x.1).2] 120)) (.cells #[.int .i64 (pAt ps (x.1 + 1)).1, .int .i64 (pAt ps (x.1 + 1)).2] 120); rwa [World.size_alloc] at this, rfl⟩
    clear hK
    unfold encE at hK' ⊢
    gi_wp2
    exact hK'
  case body =>
    rintro l pre x a' W hl hlr ⟨hV, hB⟩ ⟨b1, b2, h1, h2, h3, h4, rfl⟩ hlt
    obtain ⟨s1, s2⟩ := EB.out pre
    have hx := x.2
    obtain ⟨n1, n2, n3, n4, n5, n6⟩ := edgeA_bounds (HO.out x.1 (by omega)) (HO.out (x.1 + 1) hx)
    have SN := Lib.hid (show sumE (edgeF ps) ((pre ++ [x]).map Subtype.val) = sumE (edgeF ps) (pre.map Subtype.val) + edgeA (pAt ps x.1) (pAt ps (x.1 + 1)) by rw [List.map_append]; exact sumE_snoc _ _ _)
    unfold edgeA at SN n1 n2
    have k1 := cell_heap9 h3 0
    have k2 := cell_heap9 h3 1
    have k3 := cell_heap9 h4 0
    have k4 := cell_heap9 h4 1
    have cV := hV.cell
    have fV := hV.frozen
    have hln : pre.length ≤ 23 := by omega
    have POST := Lib.hid (show ∀ z : Int, sumE (edgeF ps) ((pre ++ [x]).map Subtype.val) = z → KeepsFrom w2.heap.size W (W.setCell ⟨gw, 0, none⟩ (.int .i64 z)) ∧ KpX gw W (W.setCell ⟨gw, 0, none⟩ (.int .i64 z)) ∧ (Boxed (W.setCell ⟨gw, 0, none⟩ (.int .i64 z)) gw 2 (.int .i64 (sumE (edgeF ps) ((pre ++ [x]).map Subtype.val))) ∧ Below gw w (W.setCell ⟨gw, 0, none⟩ (.int .i64 z))) from fun z hz => ⟨(KeepsOthers.setCell _ _ _).from _, kpX_set _ _, by rw [hz]; exact hV.set _, hB.setCell (p := ⟨gw, 0, none⟩) (Nat.le_refl _) _⟩)
    clear h3 h4 hB hV hlr
    generalize sumE (edgeF ps) (pre.map Subtype.val) = S at *
    generalize (pAt ps x.1).1 = x1 at *
    generalize (pAt ps x.1).2 = x2 at *
    generalize (pAt ps (x.1 + 1)).1 = y1 at *
    generalize (pAt ps (x.1 + 1)).2 = y2 at *
    have m1 : IntKind.i64.wrap (x1 * y2) = x1 * y2 := IntWalk.i64_in _ (by omega)
    have m2 : IntKind.i64.wrap (y1 * x2) = y1 * x2 := IntWalk.i64_in _ (by omega)
    have m3 : IntKind.i64.wrap (x1 * y2 - y1 * x2) = x1 * y2 - y1 * x2 := IntWalk.i64_in _ (by omega)
    have m4 : IntKind.i64.wrap (S + (x1 * y2 - y1 * x2)) = S + (x1 * y2 - y1 * x2) := IntWalk.i64_in _ (by omega)
    clear n1 n2 n3 n4 n5 n6 s1 s2
    gi_wp2
    exact POST.out _ SN.out
  case done =>
    rintro D ys W hD hys ⟨hV, hB⟩ hK
    have e : sumE (edgeF ps) (ys.map Subtype.val) = R := by rw [EA.out, hys]
    rw [e] at hV
    have hc := hV.cell
    clear e
    go_wp2
    refine ⟨by simp, .inl ⟨_, _, rfl, run_takeDeferred hK, ?_⟩⟩
    refine ⟨.int .i64 R, ?_, rfl, by rw [hgw]; exact hB.trans (belowK_b (w := w2) (by omega) W D _ _ hD hK rfl rfl)⟩
    simp [results, Try.results76, go_sem]
  case stop =>
    rintro D c pre W hD hpre hh
    exact hh.elim
end Go.Proofs.Ytemhmejjmhbfdab.sines
