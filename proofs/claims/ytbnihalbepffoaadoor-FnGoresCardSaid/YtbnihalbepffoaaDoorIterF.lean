/- GoreWidths and WorstClosing of the program: loops over the iterator of the parallels. -/
import Derived.Test.YtbnihalbepffoaaDoorIter
import Derived.Test.YtbnihalbepffoaaDoorStepS
import Derived.Deep.QuietTactic
import Derived.BigQuiet
namespace Go.Proofs.YtbnihalbepffoaaDoor.sines
open Go.ChangeShapes Go.WideShapes Go.ChangeAt Go.RowKit Go.Shelf Go.Proofs.YtbnihalbepffoaaDoor.spots Go.Proofs.YtbnihalbepffoaaDoor.irows
attribute [local go_sem] Oper.semAt_some
set_option linter.unusedVariables false
set_option linter.unusedSimpArgs false
theorem isAround_eq {n : Int} {b : Bool} (w : World) (h : inB n 1 1000000 = b) : Calls Tryd.prog 71 #[.int .i64 n] w fun e w' => e = .returned (.bool b) ∧ w' = w := (isAround_any n w).mono fun e w' hh => by rw [h] at hh; exact ⟨hh.1, hh.2.symm⟩
theorem isParallelStep_eq {n : Int} {b : Bool} (w : World) (h : inB n 3240 324000 = b) : Calls Tryd.prog 72 #[.int .i64 n] w fun e w' => e = .returned (.bool b) ∧ w' = w := (isParallelStep_any n w).mono fun e w' hh => by rw [h] at hh; exact ⟨hh.1, hh.2.symm⟩
theorem goresCode_eq {n c : Int} {b : Bool} (w : World) (hG : GV w) (h : codeG n b = c) : Calls Tryd.prog 70 #[.int .i64 n, .bool b] w fun e w' => e = .returned (.int .i64 c) ∧ w' = w := (goresCode_any n b w hG).mono fun e w' hh => by rw [h] at hh; exact ⟨hh.1, hh.2.symm⟩
theorem bdr' {B : Nat} {a w : World} (h : Below B a w) (q : Nat) : Below B a (w.drewN q) := ⟨h.os, h.tape, h.output, h.size, h.block⟩
/-- The value of one of the parts of a collecting loop's round: see RangeFuncBox; the other boxes lie where they lay. -/
theorem other_box {W w1 : World} {B : Nat} {v v' : Value} {tmp : Obj} {k nr : Nat} {xs : List Value} {e : TypeId} {size : Nat} (hrow : W.ownsRow nr e size v k xs) (hk : B < nr) {B' : Nat} (hne : B ≠ B') {t : TypeId} {u : Value} (hb : Boxed W B t u)
    (hgrow : (W.alloc tmp).grownBy w1 v.ownBlock) : Boxed (w1.setCell ⟨B', 0, none⟩ v') B t u := by
  have h1 : Boxed w1 B t u := (hb.alloc tmp).kept hgrow (fun e' => by have := (World.ownsRow.lt hrow B e'.symm).1; omega)
  exact h1.kept (grownBy_setCell' w1 B' v') (fun e' => hne (by cases e'; rfl))
theorem ups {w : World} {B B' e size k : Nat} {v : Value} {xs : List Value} (h : w.ownsRow B e size v k xs) (hB : B' ≤ B) : w.ownsRow B' e size v k xs := by
  refine ⟨h.1, ?_⟩
  rcases h.2 with hn | ⟨g, cap, cur, hv, hg1, hr⟩
  · exact .inl hn
  · exact .inr ⟨g, cap, cur, hv, Nat.le_trans hB hg1, hr⟩
theorem boxed_turn {A B : World} {row : Option Nat} {b : Nat} {t : TypeId} {v : Value} (h : Boxed A b t v) (hg : A.grownBy B row) (hr : ∀ r, row = some r → ∃ o : Obj, A.heap[r]? = some o ∧ o.isCells = false) : Boxed B b t v :=
  h.kept hg (fun e => by obtain ⟨o, ho, hc⟩ := hr _ e.symm; rw [show A.heap[b]? = _ from h] at ho; cases ho; cases hc)


theorem stepIn_append_own {F : Fence} {n : Nat} {P : Program} {w : World} {ops : Array Oper} {o : Oper} {a : Act} {K : Act → World → Prop} {Q : Exit → Act → World → Prop} {E : Prop}
    (hg : o.guard = none) (s x : Operand) (t : TypeId) (hop : o.op = Op.call { callee := Callee.builtin Builtin.append, args := #[s, x], argTypes := #[t, t] })
    (base : Nat) (e : TypeId) (i : TypeInfo) (z : Value) (size bytes : Nat) (h1 : P.underlying t = some (.slice e)) (h2 : P.info? e = some i) (h3 : i.zero = some z) (h4 : i.size = size) (h5 : i.bytes = bytes) (h6 : z.cells.size = size) (h7 : 0 < size)
    (v : Value) (k : Nat) (xs : List Value) (hs : a.eval s = v) (hown : w.ownsRow base e size v k xs) (ad : Addr) (m c : Nat) (news : List Value) (hx : a.eval x = .slice (some ad) m c) (hn : news.length = m * size)
    (hc : ∀ j u, news[j]? = some u → w.cell? (ad.add j) = some u) (h1c : ∀ u ∈ news, u.oneCell' = true) (b1 : k + m ≤ maxLen) (b2 : (k + m) * bytes ≤ 140737488355328) (b3 : base ≤ w.heap.size)
    (hK : ∀ v' w', w'.ownsRow base e size v' (k + m) (xs ++ news) → w.grownBy w' v.ownBlock → K (a.put o.dst v') w') :
    if Region.wanted o (yielded ops a.tmps) = true then Oper.wpIn F n P o a w K Q else E := by
  have hw : Region.wanted o (yielded ops a.tmps) = true := by simp [Region.wanted, hg]
  rw [if_pos hw]
  obtain ⟨v', w', hrun, r1, r2, r3⟩ := run_append_own (P := P) w base t o.type e i z size bytes h1 h2 h3 h4 h5 h6 h7 v k xs hown ad m c news hn hc h1c b1 b2 b3
  unfold Oper.wpIn
  refine ⟨?_, ?_⟩
  · simp [Oper.about, hop, resolve, Target.leads, Sem.run_pure]
  · rw [Oper.semAt_plain F _ _ (by rw [hop]; intro c hc'; cases hc')]
    simp [execOp, hop, resolve, invoke, builtin, hs, hx, hrun, Result.andThen]
    exact hK v' w' r1 r2

set_option maxHeartbeats 1000000 in
theorem implGoreWidths_ff (g a d : Int) (w : World) (hG : GV w) (h : goreB g = false) (x : inB a 1 1000000 = false) :
    Calls Tryd.prog 24 #[.int .i64 g, .int .i64 a, .int .i64 d] w fun e w' => e = .returned (.tuple #[.slice none 0 0, .int .i64 1]) ∧ Below w.heap.size w w' := by
  have HG2 := Lib.hid (show GV ((w.alloc (.cells #[.int .i64 g] 2)).alloc (.cells #[.int .i64 a] 2)) from GV_keep (GV_keep hG ((Below.refl _ _).alloc (Nat.le_refl _) _)) ((Below.refl _ _).alloc (Nat.le_refl _) _))
  go_enter Tryd.func24, Tryd.ntmps24
  go_wp2
  go_quiet (first | (go_at_call 71; exact Calls.quiet_of_same (isAround_eq _ x)) | (go_at_call 72; exact Calls.quiet_of_same (isParallelStep_eq _ y)) | (go_at_call 70; exact Calls.quiet_of_same (goresCode_eq _ HG2.out (codeG_no _ h))))
  go_wp2
  exact bodyPost_ret (v := .tuple #[.slice none 0 0, .int .i64 1]) (by simp [results, Tryd.results24, go_sem]) rfl ⟨rfl, bdr' (((Below.refl _ w).alloc (Nat.le_refl _) _).alloc (by simp) _) _⟩

set_option maxHeartbeats 1000000 in
theorem implGoreWidths_ftf (g a d : Int) (w : World) (hG : GV w) (h : goreB g = false) (x : inB a 1 1000000 = true) (y : inB d 3240 324000 = false) :
    Calls Tryd.prog 24 #[.int .i64 g, .int .i64 a, .int .i64 d] w fun e w' => e = .returned (.tuple #[.slice none 0 0, .int .i64 1]) ∧ Below w.heap.size w w' := by
  have HG2 := Lib.hid (show GV ((w.alloc (.cells #[.int .i64 g] 2)).alloc (.cells #[.int .i64 a] 2)) from GV_keep (GV_keep hG ((Below.refl _ _).alloc (Nat.le_refl _) _)) ((Below.refl _ _).alloc (Nat.le_refl _) _))
  go_enter Tryd.func24, Tryd.ntmps24
  go_wp2
  go_quiet (first | (go_at_call 71; exact Calls.quiet_of_same (isAround_eq _ x)) | (go_at_call 72; exact Calls.quiet_of_same (isParallelStep_eq _ y)) | (go_at_call 70; exact Calls.quiet_of_same (goresCode_eq _ HG2.out (codeG_no _ h))))
  go_wp2
  exact bodyPost_ret (v := .tuple #[.slice none 0 0, .int .i64 1]) (by simp [results, Tryd.results24, go_sem]) rfl ⟨rfl, bdr' (((Below.refl _ w).alloc (Nat.le_refl _) _).alloc (by simp) _) _⟩

set_option maxHeartbeats 1000000 in
theorem implGoreWidths_ftt (g a d : Int) (w : World) (hG : GV w) (h : goreB g = false) (x : inB a 1 1000000 = true) (y : inB d 3240 324000 = true) :
    Calls Tryd.prog 24 #[.int .i64 g, .int .i64 a, .int .i64 d] w fun e w' => e = .returned (.tuple #[.slice none 0 0, .int .i64 1]) ∧ Below w.heap.size w w' := by
  have HG2 := Lib.hid (show GV ((w.alloc (.cells #[.int .i64 g] 2)).alloc (.cells #[.int .i64 a] 2)) from GV_keep (GV_keep hG ((Below.refl _ _).alloc (Nat.le_refl _) _)) ((Below.refl _ _).alloc (Nat.le_refl _) _))
  go_enter Tryd.func24, Tryd.ntmps24
  go_wp2
  go_quiet (first | (go_at_call 71; exact Calls.quiet_of_same (isAround_eq _ x)) | (go_at_call 72; exact Calls.quiet_of_same (isParallelStep_eq _ y)) | (go_at_call 70; exact Calls.quiet_of_same (goresCode_eq _ HG2.out (codeG_no _ h))))
  go_wp2
  exact bodyPost_ret (v := .tuple #[.slice none 0 0, .int .i64 1]) (by simp [results, Tryd.results24, go_sem]) rfl ⟨rfl, bdr' (((Below.refl _ w).alloc (Nat.le_refl _) _).alloc (by simp) _) _⟩

set_option maxHeartbeats 1000000 in
theorem implGoreWidths_tf (g a d : Int) (w : World) (hG : GV w) (h : goreB g = true) (x : inB a 1 1000000 = false) :
    Calls Tryd.prog 24 #[.int .i64 g, .int .i64 a, .int .i64 d] w fun e w' => e = .returned (.tuple #[.slice none 0 0, .int .i64 2]) ∧ Below w.heap.size w w' := by
  have HG2 := Lib.hid (show GV ((w.alloc (.cells #[.int .i64 g] 2)).alloc (.cells #[.int .i64 a] 2)) from GV_keep (GV_keep hG ((Below.refl _ _).alloc (Nat.le_refl _) _)) ((Below.refl _ _).alloc (Nat.le_refl _) _))
  go_enter Tryd.func24, Tryd.ntmps24
  go_wp2
  go_quiet (first | (go_at_call 71; exact Calls.quiet_of_same (isAround_eq _ x)) | (go_at_call 72; exact Calls.quiet_of_same (isParallelStep_eq _ y)) | (go_at_call 70; exact Calls.quiet_of_same (goresCode_eq _ HG2.out (codeG_bad h))))
  go_wp2
  exact bodyPost_ret (v := .tuple #[.slice none 0 0, .int .i64 2]) (by simp [results, Tryd.results24, go_sem]) rfl ⟨rfl, bdr' (((Below.refl _ w).alloc (Nat.le_refl _) _).alloc (by simp) _) _⟩

set_option maxHeartbeats 1000000 in
theorem implGoreWidths_ttf (g a d : Int) (w : World) (hG : GV w) (h : goreB g = true) (x : inB a 1 1000000 = true) (y : inB d 3240 324000 = false) :
    Calls Tryd.prog 24 #[.int .i64 g, .int .i64 a, .int .i64 d] w fun e w' => e = .returned (.tuple #[.slice none 0 0, .int .i64 2]) ∧ Below w.heap.size w w' := by
  have HG2 := Lib.hid (show GV ((w.alloc (.cells #[.int .i64 g] 2)).alloc (.cells #[.int .i64 a] 2)) from GV_keep (GV_keep hG ((Below.refl _ _).alloc (Nat.le_refl _) _)) ((Below.refl _ _).alloc (Nat.le_refl _) _))
  go_enter Tryd.func24, Tryd.ntmps24
  go_wp2
  go_quiet (first | (go_at_call 71; exact Calls.quiet_of_same (isAround_eq _ x)) | (go_at_call 72; exact Calls.quiet_of_same (isParallelStep_eq _ y)) | (go_at_call 70; exact Calls.quiet_of_same (goresCode_eq _ HG2.out (codeG_bad h))))
  go_wp2
  exact bodyPost_ret (v := .tuple #[.slice none 0 0, .int .i64 2]) (by simp [results, Tryd.results24, go_sem]) rfl ⟨rfl, bdr' (((Below.refl _ w).alloc (Nat.le_refl _) _).alloc (by simp) _) _⟩




/-- What has been collected. -/
def partW (g a : Int) (pre : List Lat) : List Int := pre.map fun x => gpart g a x.1
theorem partW_all (g a d : Int) (hd : 1 ≤ d) : partW g a (latL d hd) = widthsL g a d (stepsN d) := by
  have h := congrArg (List.map fun z => gpart g a z) (latL_val d hd)
  simpa [partW, widthsL, Function.comp_def] using h
set_option maxRecDepth 100000 in
set_option maxHeartbeats 4000000 in
theorem implGoreWidths_ok (g a d : Int) (w : World) (hG : GV w) (h : goreB g = true) (x : inB a 1 1000000 = true) (y : inB d 3240 324000 = true) :
    Calls Tryd.prog 24 #[.int .i64 g, .int .i64 a, .int .i64 d] w fun e w' => ∃ v, e = .returned (.tuple #[v, .int .i64 0]) ∧ IRow w' w.heap.size v (widthsL g a d (stepsN d)) ∧ Below w.heap.size w w' := by
  obtain ⟨a1, a2⟩ := inB_of x
  obtain ⟨d1, d2⟩ := inB_of y
  obtain ⟨g1, g2, _⟩ := goreB_facts h
  have hd : 1 ≤ d := by omega
  have hN := stepsN_le d1
  obtain ⟨i0, hi, hz0, hz1, hz2⟩ := info_parts info_int
  have HG2 := Lib.hid (show GV ((w.alloc (.cells #[.int .i64 g] 2)).alloc (.cells #[.int .i64 a] 2)) from GV_keep (GV_keep hG ((Below.refl _ _).alloc (Nat.le_refl _) _)) ((Below.refl _ _).alloc (Nat.le_refl _) _))
  refine (callsIn_wide (n := 5)).1 ?_
  refine callsIn_of_wp_marks Tryd.func24 rfl trivial ?_ rfl
  simp only [Tryd.ntmps24, List.size_toArray, List.length_cons, List.length_nil, Nat.reduceAdd, Nat.reduceSub, Array.replicate_succ, Array.replicate_zero, List.push_toArray, List.append_toArray, List.nil_append, List.cons_append]
  refine wpIn_wide.2 ?_
  go_wp2
  go_quiet (first | (go_at_call 71; exact Calls.quiet_of_same (isAround_eq _ x)) | (go_at_call 72; exact Calls.quiet_of_same (isParallelStep_eq _ y)) | (go_at_call 70; exact Calls.quiet_of_same (goresCode_eq _ HG2.out (codeG_ok h))))
  go_wp2_with fail
  refine (parallels_any _ _).mono ?_
  rintro e wL ⟨rfl, hwL⟩
  have zL : wL.heap.size = w.heap.size + 4 := by rw [hwL]; simp
  have B0 : Below w.heap.size w wL := by
    rw [hwL]
    exact ((bdr' (((Below.refl _ w).alloc (Nat.le_refl _) _).alloc (by simp) _) _).alloc (by simp; omega) _).alloc (by simp; omega) _
  have bG : Boxed wL w.heap.size 2 (.int .i64 g) := by rw [hwL]; exact (((Boxed.new w _ _).alloc _).alloc _).alloc _
  have bA : Boxed wL (w.heap.size + 1) 2 (.int .i64 a) := by
    rw [hwL]
    have := ((Boxed.new (w.alloc (.cells #[.int .i64 g] 2)) 2 (.int .i64 a)).alloc (.cells #[.slice none 0 0] 44)).alloc (.cells #[.int .i64 d] 2)
    rw [World.size_alloc] at this
    exact this
  have bO : Boxed wL (w.heap.size + 1 + 1) 44 (.slice none 0 0) := by
    rw [hwL]
    have := (Boxed.new (((w.alloc (.cells #[.int .i64 g] 2)).alloc (.cells #[.int .i64 a] 2)).drewN nq) 44 (.slice none 0 0)).alloc (.cells #[.int .i64 d] 2)
    simp only [World.size_alloc, World.heap_drewN] at this
    exact this
  have bD : Boxed wL (w.heap.size + 1 + 1 + 1) 2 (.int .i64 d) := by
    rw [hwL]
    have := Boxed.new ((((w.alloc (.cells #[.int .i64 g] 2)).alloc (.cells #[.int .i64 a] 2)).drewN nq).alloc (.cells #[.slice none 0 0] 44)) 2 (.int .i64 d)
    simp only [World.size_alloc, World.heap_drewN] at this
    exact this
  simp only [World.size_alloc, World.heap_drewN]
  clear hwL
  go_wp2
  refine (wpIn_wide (n := 5)).1 ?_
  refine' wpIn_rangeFunc_ownG (F := Fence.wide) (n := 5) rfl (by omega) (gf := 106) (lb := #[.pointer (some ⟨w.heap.size + 1 + 1 + 1, 0, none⟩)]) rfl trivial (enters_of Tryd.func106 (by kernel_rfl) rfl)
    (par_stops Fence.wide (5 - 1) trivial rfl (by omega) (w.heap.size + 1 + 1 + 1) d hd d2 wL (by omega) bD.cell) keepBox_t keepBox_b (Below.refl _ _) (fun _ => rfl)
    (fun pre W => ((∃ v, Boxed W (w.heap.size + 1 + 1) 44 v ∧ W.ownsRow (w.heap.size + 4) 2 1 v (partW g a pre).length (ints (partW g a pre)) ∧ True) ∧ Boxed W w.heap.size 2 (.int .i64 g) ∧ Boxed W (w.heap.size + 1) 2 (.int .i64 a) ∧ Boxed W (w.heap.size + 1 + 1 + 1) 2 (.int .i64 d)) ∧ Below w.heap.size w W)
    (fun _ _ _ => False)
    (OwnFrom.and (Own.from (fun s X Y row hs hg hr => ⟨holdsRow_own (w.heap.size + 4) (w.heap.size + 1 + 1) 44 2 1 (fun pre => (partW g a pre).length) (fun pre => ints (partW g a pre)) (fun _ _ => True) s X Y row hs.1 hg hr, boxed_turn hs.2.1 hg hr, boxed_turn hs.2.2.1 hg hr, boxed_turn hs.2.2.2 hg hr⟩) _) (ownFrom_below (Nat.le_refl _) (by omega)))
    (fun _ _ _ _ _ hs _ _ => hs)
    ⟨⟨⟨_, bO, World.ownsRow_nil _ _ _ _, trivial⟩, bG, bA, bD⟩, B0⟩
    _ ?assign ?body ?done ?stop
  case assign =>
    intro l x W K hK
    gi_wp2
    exact hK
  case body =>
    rintro l pre x W ⟨⟨⟨v, hv, hrow, -⟩, hg, ha, hdx⟩, hB⟩ hlt
    have hc := hv.cell
    have hcg := hg.cell
    have hca := ha.cell
    have hpl : (partW g a pre).length = pre.length := by simp [partW]
    rw [hpl] at hrow
    have HPL := Lib.hid hpl
    clear hpl
    have hmL : pre.length + 1 ≤ maxLen := by unfold maxLen; omega
    have hsz := hB.size
    have hzz := hdx.lt
    have hmx : Tryd.prog.follows .mixedOrders = true := by kernel_rfl
    have hp1 : 1 ≤ 5 - 1 - 1 := by omega
    obtain ⟨q, hq⟩ : ∃ q, Hid (gpart g a x.1 = q) := ⟨_, Lib.hid rfl⟩
    have hcA : (W.alloc (.cells #[.int .i64 q] 2)).cell? ⟨w.heap.size + 1 + 1, 0, none⟩ = some v := (hv.alloc _).cell
    have hPP : ∀ W', Calls Tryd.prog 74 #[.int .i64 g, .int .i64 a, .int .i64 x.1] W' fun e w' => e = .returned (.int .i64 q) ∧ W' = w' := fun W' => by rw [← hq.out]; exact parallelPart_any g a x.1 W' (by omega) g2 a1 a2 (by have := x.2.1; omega) x.2.2
    gi_wp2
    refine wpIn_region_any (by assumption) ?_
    have FIN : ∀ (g' cap' : Nat) (w1 : World), w1.ownsRow (w.heap.size + 4) 2 1 (.slice (some ⟨g', 0, none⟩) (pre.length + 1) cap') (pre.length + 1) (ints (partW g a pre) ++ [.int .i64 q]) → (W.drew.alloc (.cells #[.int .i64 q] 2)).grownBy w1 v.ownBlock →
        KeepsFrom wL.heap.size W (w1.setCell ⟨w.heap.size + 1 + 1, 0, none⟩ (.slice (some ⟨g', 0, none⟩) (pre.length + 1) cap')) ∧ KeepBox (w.heap.size + 1 + 1 + 1) d W (w1.setCell ⟨w.heap.size + 1 + 1, 0, none⟩ (.slice (some ⟨g', 0, none⟩) (pre.length + 1) cap')) ∧
        ((∃ v, Boxed (w1.setCell ⟨w.heap.size + 1 + 1, 0, none⟩ (.slice (some ⟨g', 0, none⟩) (pre.length + 1) cap')) (w.heap.size + 1 + 1) 44 v ∧ World.ownsRow (w1.setCell ⟨w.heap.size + 1 + 1, 0, none⟩ (.slice (some ⟨g', 0, none⟩) (pre.length + 1) cap')) (w.heap.size + 4) 2 1 v (partW g a (pre ++ [x])).length (ints (partW g a (pre ++ [x]))) ∧ True) ∧ Boxed (w1.setCell ⟨w.heap.size + 1 + 1, 0, none⟩ (.slice (some ⟨g', 0, none⟩) (pre.length + 1) cap')) w.heap.size 2 (.int .i64 g) ∧ Boxed (w1.setCell ⟨w.heap.size + 1 + 1, 0, none⟩ (.slice (some ⟨g', 0, none⟩) (pre.length + 1) cap')) (w.heap.size + 1) 2 (.int .i64 a) ∧ Boxed (w1.setCell ⟨w.heap.size + 1 + 1, 0, none⟩ (.slice (some ⟨g', 0, none⟩) (pre.length + 1) cap')) (w.heap.size + 1 + 1 + 1) 2 (.int .i64 d)) ∧ Below w.heap.size w (w1.setCell ⟨w.heap.size + 1 + 1, 0, none⟩ (.slice (some ⟨g', 0, none⟩) (pre.length + 1) cap')) := by
      intro g' cap' w1 hown' hgrow
      have hrowD : W.drew.ownsRow (w.heap.size + 4) 2 1 v pre.length (ints (partW g a pre)) := hrow
      have hvD : Boxed W.drew (w.heap.size + 1 + 1) 44 v := hv
      obtain ⟨hv1, hv2, hr2, hk2, hb2⟩ := hvD.appended (by decide) (ups hrowD (Nat.le_add_right _ 4)) hsz (by omega) (ups hown' (Nat.le_add_right _ 4)) hgrow
      have hr4 : World.ownsRow (w1.setCell ⟨w.heap.size + 1 + 1, 0, none⟩ (.slice (some ⟨g', 0, none⟩) (pre.length + 1) cap')) (w.heap.size + 4) 2 1 (.slice (some ⟨g', 0, none⟩) (pre.length + 1) cap') (pre.length + 1) (ints (partW g a pre) ++ [.int .i64 q]) := hown'.kept (grownBy_setCell' w1 _ _) (.inr (hv1.not_row (by decide) hown').symm)
      have hgD : Boxed W.drew w.heap.size 2 (.int .i64 g) := hg
      have haD : Boxed W.drew (w.heap.size + 1) 2 (.int .i64 a) := ha
      have hdD : Boxed W.drew (w.heap.size + 1 + 1 + 1) 2 (.int .i64 d) := hdx
      have b1 := other_box (v' := .slice (some ⟨g', 0, none⟩) (pre.length + 1) cap') hrowD (by omega) (show w.heap.size ≠ w.heap.size + 1 + 1 by omega) hgD hgrow
      have b2 := other_box (v' := .slice (some ⟨g', 0, none⟩) (pre.length + 1) cap') hrowD (by omega) (show w.heap.size + 1 ≠ w.heap.size + 1 + 1 by omega) haD hgrow
      have b3 := other_box (v' := .slice (some ⟨g', 0, none⟩) (pre.length + 1) cap') hrowD (by omega) (show w.heap.size + 1 + 1 + 1 ≠ w.heap.size + 1 + 1 by omega) hdD hgrow
      have hbW : Below w.heap.size W W.drew := (Below.refl _ _).drew
      refine ⟨((KeepsOthers.drew W).trans hk2).from _, fun _ => b3.cell, ⟨⟨_, hv2, ?_, trivial⟩, b1, b2, b3⟩, hB.trans (hbW.trans hb2)⟩
      have e1 : partW g a (pre ++ [x]) = partW g a pre ++ [q] := by simp [partW, hq.out]
      rw [e1, List.length_append, HPL.out]
      simpa [ints] using hr4
    clear hq
    refine wpAnyIn_ready (rs := [0, 1, 2, 3]) (by kernel_rfl) (by simp) ?_
    refine AllReadyIn.cons rfl (fun K hK => ?_) ?_
    · go_simp
      refine hK _ _ ?_
      clear hK K
      refine wpAnyIn_ready (rs := [1, 2, 3]) (by kernel_rfl) (by simp) ?_
      refine AllReadyIn.cons rfl (fun K hK => ?_) ?_
      · go_simp
        refine hK _ _ ?_
        clear hK K
        refine wpAnyIn_ready (rs := [2, 3]) (by kernel_rfl) (by simp) ?_
        refine AllReadyIn.cons rfl (fun K hK => ?_) ?_
        · go_simp
          refine hK _ _ ?_
          clear hK K
          refine wpAnyIn_ready (rs := [3]) (by kernel_rfl) (by simp) ?_
          refine AllReadyIn.cons rfl (fun K hK => ?_) ?_
          · go_simp
            refine hK _ _ ?_
            clear hK K
            refine wpAnyIn_ready (rs := [4]) (by kernel_rfl) (by simp) ?_
            refine AllReadyIn.cons rfl (fun K hK => ?_) ?_
            · go_simp
              gi_wp2_with (refine ⟨trivial, ?_⟩; gi_at_call 74; refine (CallsIn.inRound l (callsIn_wide.2 (hPP _))).mono ?_; rintro e w' ⟨rfl, rfl⟩)
              refine wpAnyIn_ready (rs := [5]) (by kernel_rfl) (by simp) ?_
              refine AllReadyIn.cons rfl (fun K hK => ?_) ?_
              · go_simp
                refine hK _ _ ?_
                clear hK K
                refine wpAnyIn_ready (rs := [6]) (by kernel_rfl) (by simp) ?_
                refine AllReadyIn.cons rfl (fun K hK => ?_) ?_
                · refine stepIn_append_own (by rfl) _ _ 44 (by rfl) (w.heap.size + 4) 2 i0 (.int .i64 0) 1 8 Tryd.underlying44 hi hz0 hz1 hz2 rfl (by decide) v _ _ (by rfl) ((show W.drew.ownsRow (w.heap.size + 4) 2 1 v pre.length (ints (partW g a pre)) from hrow).alloc _) ⟨W.heap.size, 0, none⟩ 1 1 [.int .i64 q] (by rfl) rfl (cell_one_new _ _ _) (by simp [Value.oneCell']) (by omega) (by omega) (by simp; omega) ?_
                  intro v1 w1 hown1 hgrow
                  obtain ⟨g', cap', rfl⟩ := ownsRow_succ hown1
                  have hc1 := (Boxed.kept (Boxed.alloc (show Boxed W.drew (w.heap.size + 1 + 1) 44 v from hv) _) hgrow (fun e => by have := (World.ownsRow.lt hrow _ e.symm).1; omega)).cell
                  have hf1 := (Boxed.kept (Boxed.alloc (show Boxed W.drew (w.heap.size + 1 + 1) 44 v from hv) _) hgrow (fun e => by have := (World.ownsRow.lt hrow _ e.symm).1; omega)).frozen
                  refine hK _ _ ?_
                  clear hK K
                  refine wpAnyIn_ready (rs := [7]) (by kernel_rfl) (by simp) ?_
                  refine AllReadyIn.cons rfl (fun K hK => ?_) ?_
                  · go_simp
                    refine hK _ _ ?_
                    clear hK K
                    refine wpAnyIn_done (by kernel_rfl) ?_ _
                    exact FIN _ _ _ hown1 hgrow
                  exact AllReadyIn.nil
                exact AllReadyIn.nil
              exact AllReadyIn.nil
            exact AllReadyIn.nil
          exact AllReadyIn.nil
        refine AllReadyIn.cons rfl (fun K hK => ?_) ?_
        · go_simp
          refine hK _ _ ?_
          clear hK K
          refine wpAnyIn_ready (rs := [2]) (by kernel_rfl) (by simp) ?_
          refine AllReadyIn.cons rfl (fun K hK => ?_) ?_
          · go_simp
            refine hK _ _ ?_
            clear hK K
            refine wpAnyIn_ready (rs := [4]) (by kernel_rfl) (by simp) ?_
            refine AllReadyIn.cons rfl (fun K hK => ?_) ?_
            · go_simp
              gi_wp2_with (refine ⟨trivial, ?_⟩; gi_at_call 74; refine (CallsIn.inRound l (callsIn_wide.2 (hPP _))).mono ?_; rintro e w' ⟨rfl, rfl⟩)
              refine wpAnyIn_ready (rs := [5]) (by kernel_rfl) (by simp) ?_
              refine AllReadyIn.cons rfl (fun K hK => ?_) ?_
              · go_simp
                refine hK _ _ ?_
                clear hK K
                refine wpAnyIn_ready (rs := [6]) (by kernel_rfl) (by simp) ?_
                refine AllReadyIn.cons rfl (fun K hK => ?_) ?_
                · refine stepIn_append_own (by rfl) _ _ 44 (by rfl) (w.heap.size + 4) 2 i0 (.int .i64 0) 1 8 Tryd.underlying44 hi hz0 hz1 hz2 rfl (by decide) v _ _ (by rfl) ((show W.drew.ownsRow (w.heap.size + 4) 2 1 v pre.length (ints (partW g a pre)) from hrow).alloc _) ⟨W.heap.size, 0, none⟩ 1 1 [.int .i64 q] (by rfl) rfl (cell_one_new _ _ _) (by simp [Value.oneCell']) (by omega) (by omega) (by simp; omega) ?_
                  intro v1 w1 hown1 hgrow
                  obtain ⟨g', cap', rfl⟩ := ownsRow_succ hown1
                  have hc1 := (Boxed.kept (Boxed.alloc (show Boxed W.drew (w.heap.size + 1 + 1) 44 v from hv) _) hgrow (fun e => by have := (World.ownsRow.lt hrow _ e.symm).1; omega)).cell
                  have hf1 := (Boxed.kept (Boxed.alloc (show Boxed W.drew (w.heap.size + 1 + 1) 44 v from hv) _) hgrow (fun e => by have := (World.ownsRow.lt hrow _ e.symm).1; omega)).frozen
                  refine hK _ _ ?_
                  clear hK K
                  refine wpAnyIn_ready (rs := [7]) (by kernel_rfl) (by simp) ?_
                  refine AllReadyIn.cons rfl (fun K hK => ?_) ?_
                  · go_simp
                    refine hK _ _ ?_
                    clear hK K
                    refine wpAnyIn_done (by kernel_rfl) ?_ _
                    exact FIN _ _ _ hown1 hgrow
                  exact AllReadyIn.nil
                exact AllReadyIn.nil
              exact AllReadyIn.nil
            exact AllReadyIn.nil
          exact AllReadyIn.nil
        exact AllReadyIn.nil
      refine AllReadyIn.cons rfl (fun K hK => ?_) ?_
      · go_simp
        refine hK _ _ ?_
        clear hK K
        refine wpAnyIn_ready (rs := [1, 3]) (by kernel_rfl) (by simp) ?_
        refine AllReadyIn.cons rfl (fun K hK => ?_) ?_
        · go_simp
          refine hK _ _ ?_
          clear hK K
          refine wpAnyIn_ready (rs := [3]) (by kernel_rfl) (by simp) ?_
          refine AllReadyIn.cons rfl (fun K hK => ?_) ?_
          · go_simp
            refine hK _ _ ?_
            clear hK K
            refine wpAnyIn_ready (rs := [4]) (by kernel_rfl) (by simp) ?_
            refine AllReadyIn.cons rfl (fun K hK => ?_) ?_
            · go_simp
              gi_wp2_with (refine ⟨trivial, ?_⟩; gi_at_call 74; refine (CallsIn.inRound l (callsIn_wide.2 (hPP _))).mono ?_; rintro e w' ⟨rfl, rfl⟩)
              refine wpAnyIn_ready (rs := [5]) (by kernel_rfl) (by simp) ?_
              refine AllReadyIn.cons rfl (fun K hK => ?_) ?_
              · go_simp
                refine hK _ _ ?_
                clear hK K
                refine wpAnyIn_ready (rs := [6]) (by kernel_rfl) (by simp) ?_
                refine AllReadyIn.cons rfl (fun K hK => ?_) ?_
                · refine stepIn_append_own (by rfl) _ _ 44 (by rfl) (w.heap.size + 4) 2 i0 (.int .i64 0) 1 8 Tryd.underlying44 hi hz0 hz1 hz2 rfl (by decide) v _ _ (by rfl) ((show W.drew.ownsRow (w.heap.size + 4) 2 1 v pre.length (ints (partW g a pre)) from hrow).alloc _) ⟨W.heap.size, 0, none⟩ 1 1 [.int .i64 q] (by rfl) rfl (cell_one_new _ _ _) (by simp [Value.oneCell']) (by omega) (by omega) (by simp; omega) ?_
                  intro v1 w1 hown1 hgrow
                  obtain ⟨g', cap', rfl⟩ := ownsRow_succ hown1
                  have hc1 := (Boxed.kept (Boxed.alloc (show Boxed W.drew (w.heap.size + 1 + 1) 44 v from hv) _) hgrow (fun e => by have := (World.ownsRow.lt hrow _ e.symm).1; omega)).cell
                  have hf1 := (Boxed.kept (Boxed.alloc (show Boxed W.drew (w.heap.size + 1 + 1) 44 v from hv) _) hgrow (fun e => by have := (World.ownsRow.lt hrow _ e.symm).1; omega)).frozen
                  refine hK _ _ ?_
                  clear hK K
                  refine wpAnyIn_ready (rs := [7]) (by kernel_rfl) (by simp) ?_
                  refine AllReadyIn.cons rfl (fun K hK => ?_) ?_
                  · go_simp
                    refine hK _ _ ?_
                    clear hK K
                    refine wpAnyIn_done (by kernel_rfl) ?_ _
                    exact FIN _ _ _ hown1 hgrow
                  exact AllReadyIn.nil
                exact AllReadyIn.nil
              exact AllReadyIn.nil
            exact AllReadyIn.nil
          exact AllReadyIn.nil
        refine AllReadyIn.cons rfl (fun K hK => ?_) ?_
        · go_simp
          refine hK _ _ ?_
          clear hK K
          refine wpAnyIn_ready (rs := [1]) (by kernel_rfl) (by simp) ?_
          refine AllReadyIn.cons rfl (fun K hK => ?_) ?_
          · go_simp
            refine hK _ _ ?_
            clear hK K
            refine wpAnyIn_ready (rs := [4]) (by kernel_rfl) (by simp) ?_
            refine AllReadyIn.cons rfl (fun K hK => ?_) ?_
            · go_simp
              gi_wp2_with (refine ⟨trivial, ?_⟩; gi_at_call 74; refine (CallsIn.inRound l (callsIn_wide.2 (hPP _))).mono ?_; rintro e w' ⟨rfl, rfl⟩)
              refine wpAnyIn_ready (rs := [5]) (by kernel_rfl) (by simp) ?_
              refine AllReadyIn.cons rfl (fun K hK => ?_) ?_
              · go_simp
                refine hK _ _ ?_
                clear hK K
                refine wpAnyIn_ready (rs := [6]) (by kernel_rfl) (by simp) ?_
                refine AllReadyIn.cons rfl (fun K hK => ?_) ?_
                · refine stepIn_append_own (by rfl) _ _ 44 (by rfl) (w.heap.size + 4) 2 i0 (.int .i64 0) 1 8 Tryd.underlying44 hi hz0 hz1 hz2 rfl (by decide) v _ _ (by rfl) ((show W.drew.ownsRow (w.heap.size + 4) 2 1 v pre.length (ints (partW g a pre)) from hrow).alloc _) ⟨W.heap.size, 0, none⟩ 1 1 [.int .i64 q] (by rfl) rfl (cell_one_new _ _ _) (by simp [Value.oneCell']) (by omega) (by omega) (by simp; omega) ?_
                  intro v1 w1 hown1 hgrow
                  obtain ⟨g', cap', rfl⟩ := ownsRow_succ hown1
                  have hc1 := (Boxed.kept (Boxed.alloc (show Boxed W.drew (w.heap.size + 1 + 1) 44 v from hv) _) hgrow (fun e => by have := (World.ownsRow.lt hrow _ e.symm).1; omega)).cell
                  have hf1 := (Boxed.kept (Boxed.alloc (show Boxed W.drew (w.heap.size + 1 + 1) 44 v from hv) _) hgrow (fun e => by have := (World.ownsRow.lt hrow _ e.symm).1; omega)).frozen
                  refine hK _ _ ?_
                  clear hK K
                  refine wpAnyIn_ready (rs := [7]) (by kernel_rfl) (by simp) ?_
                  refine AllReadyIn.cons rfl (fun K hK => ?_) ?_
                  · go_simp
                    refine hK _ _ ?_
                    clear hK K
                    refine wpAnyIn_done (by kernel_rfl) ?_ _
                    exact FIN _ _ _ hown1 hgrow
                  exact AllReadyIn.nil
                exact AllReadyIn.nil
              exact AllReadyIn.nil
            exact AllReadyIn.nil
          exact AllReadyIn.nil
        exact AllReadyIn.nil
      refine AllReadyIn.cons rfl (fun K hK => ?_) ?_
      · go_simp
        refine hK _ _ ?_
        clear hK K
        refine wpAnyIn_ready (rs := [1, 2]) (by kernel_rfl) (by simp) ?_
        refine AllReadyIn.cons rfl (fun K hK => ?_) ?_
        · go_simp
          refine hK _ _ ?_
          clear hK K
          refine wpAnyIn_ready (rs := [2]) (by kernel_rfl) (by simp) ?_
          refine AllReadyIn.cons rfl (fun K hK => ?_) ?_
          · go_simp
            refine hK _ _ ?_
            clear hK K
            refine wpAnyIn_ready (rs := [4]) (by kernel_rfl) (by simp) ?_
            refine AllReadyIn.cons rfl (fun K hK => ?_) ?_
            · go_simp
              gi_wp2_with (refine ⟨trivial, ?_⟩; gi_at_call 74; refine (CallsIn.inRound l (callsIn_wide.2 (hPP _))).mono ?_; rintro e w' ⟨rfl, rfl⟩)
              refine wpAnyIn_ready (rs := [5]) (by kernel_rfl) (by simp) ?_
              refine AllReadyIn.cons rfl (fun K hK => ?_) ?_
              · go_simp
                refine hK _ _ ?_
                clear hK K
                refine wpAnyIn_ready (rs := [6]) (by kernel_rfl) (by simp) ?_
                refine AllReadyIn.cons rfl (fun K hK => ?_) ?_
                · refine stepIn_append_own (by rfl) _ _ 44 (by rfl) (w.heap.size + 4) 2 i0 (.int .i64 0) 1 8 Tryd.underlying44 hi hz0 hz1 hz2 rfl (by decide) v _ _ (by rfl) ((show W.drew.ownsRow (w.heap.size + 4) 2 1 v pre.length (ints (partW g a pre)) from hrow).alloc _) ⟨W.heap.size, 0, none⟩ 1 1 [.int .i64 q] (by rfl) rfl (cell_one_new _ _ _) (by simp [Value.oneCell']) (by omega) (by omega) (by simp; omega) ?_
                  intro v1 w1 hown1 hgrow
                  obtain ⟨g', cap', rfl⟩ := ownsRow_succ hown1
                  have hc1 := (Boxed.kept (Boxed.alloc (show Boxed W.drew (w.heap.size + 1 + 1) 44 v from hv) _) hgrow (fun e => by have := (World.ownsRow.lt hrow _ e.symm).1; omega)).cell
                  have hf1 := (Boxed.kept (Boxed.alloc (show Boxed W.drew (w.heap.size + 1 + 1) 44 v from hv) _) hgrow (fun e => by have := (World.ownsRow.lt hrow _ e.symm).1; omega)).frozen
                  refine hK _ _ ?_
                  clear hK K
                  refine wpAnyIn_ready (rs := [7]) (by kernel_rfl) (by simp) ?_
                  refine AllReadyIn.cons rfl (fun K hK => ?_) ?_
                  · go_simp
                    refine hK _ _ ?_
                    clear hK K
                    refine wpAnyIn_done (by kernel_rfl) ?_ _
                    exact FIN _ _ _ hown1 hgrow
                  exact AllReadyIn.nil
                exact AllReadyIn.nil
              exact AllReadyIn.nil
            exact AllReadyIn.nil
          exact AllReadyIn.nil
        refine AllReadyIn.cons rfl (fun K hK => ?_) ?_
        · go_simp
          refine hK _ _ ?_
          clear hK K
          refine wpAnyIn_ready (rs := [1]) (by kernel_rfl) (by simp) ?_
          refine AllReadyIn.cons rfl (fun K hK => ?_) ?_
          · go_simp
            refine hK _ _ ?_
            clear hK K
            refine wpAnyIn_ready (rs := [4]) (by kernel_rfl) (by simp) ?_
            refine AllReadyIn.cons rfl (fun K hK => ?_) ?_
            · go_simp
              gi_wp2_with (refine ⟨trivial, ?_⟩; gi_at_call 74; refine (CallsIn.inRound l (callsIn_wide.2 (hPP _))).mono ?_; rintro e w' ⟨rfl, rfl⟩)
              refine wpAnyIn_ready (rs := [5]) (by kernel_rfl) (by simp) ?_
              refine AllReadyIn.cons rfl (fun K hK => ?_) ?_
              · go_simp
                refine hK _ _ ?_
                clear hK K
                refine wpAnyIn_ready (rs := [6]) (by kernel_rfl) (by simp) ?_
                refine AllReadyIn.cons rfl (fun K hK => ?_) ?_
                · refine stepIn_append_own (by rfl) _ _ 44 (by rfl) (w.heap.size + 4) 2 i0 (.int .i64 0) 1 8 Tryd.underlying44 hi hz0 hz1 hz2 rfl (by decide) v _ _ (by rfl) ((show W.drew.ownsRow (w.heap.size + 4) 2 1 v pre.length (ints (partW g a pre)) from hrow).alloc _) ⟨W.heap.size, 0, none⟩ 1 1 [.int .i64 q] (by rfl) rfl (cell_one_new _ _ _) (by simp [Value.oneCell']) (by omega) (by omega) (by simp; omega) ?_
                  intro v1 w1 hown1 hgrow
                  obtain ⟨g', cap', rfl⟩ := ownsRow_succ hown1
                  have hc1 := (Boxed.kept (Boxed.alloc (show Boxed W.drew (w.heap.size + 1 + 1) 44 v from hv) _) hgrow (fun e => by have := (World.ownsRow.lt hrow _ e.symm).1; omega)).cell
                  have hf1 := (Boxed.kept (Boxed.alloc (show Boxed W.drew (w.heap.size + 1 + 1) 44 v from hv) _) hgrow (fun e => by have := (World.ownsRow.lt hrow _ e.symm).1; omega)).frozen
                  refine hK _ _ ?_
                  clear hK K
                  refine wpAnyIn_ready (rs := [7]) (by kernel_rfl) (by simp) ?_
                  refine AllReadyIn.cons rfl (fun K hK => ?_) ?_
                  · go_simp
                    refine hK _ _ ?_
                    clear hK K
                    refine wpAnyIn_done (by kernel_rfl) ?_ _
                    exact FIN _ _ _ hown1 hgrow
                  exact AllReadyIn.nil
                exact AllReadyIn.nil
              exact AllReadyIn.nil
            exact AllReadyIn.nil
          exact AllReadyIn.nil
        exact AllReadyIn.nil
      exact AllReadyIn.nil
    refine AllReadyIn.cons rfl (fun K hK => ?_) ?_
    · go_simp
      refine hK _ _ ?_
      clear hK K
      refine wpAnyIn_ready (rs := [0, 2, 3]) (by kernel_rfl) (by simp) ?_
      refine AllReadyIn.cons rfl (fun K hK => ?_) ?_
      · go_simp
        refine hK _ _ ?_
        clear hK K
        refine wpAnyIn_ready (rs := [2, 3]) (by kernel_rfl) (by simp) ?_
        refine AllReadyIn.cons rfl (fun K hK => ?_) ?_
        · go_simp
          refine hK _ _ ?_
          clear hK K
          refine wpAnyIn_ready (rs := [3]) (by kernel_rfl) (by simp) ?_
          refine AllReadyIn.cons rfl (fun K hK => ?_) ?_
          · go_simp
            refine hK _ _ ?_
            clear hK K
            refine wpAnyIn_ready (rs := [4]) (by kernel_rfl) (by simp) ?_
            refine AllReadyIn.cons rfl (fun K hK => ?_) ?_
            · go_simp
              gi_wp2_with (refine ⟨trivial, ?_⟩; gi_at_call 74; refine (CallsIn.inRound l (callsIn_wide.2 (hPP _))).mono ?_; rintro e w' ⟨rfl, rfl⟩)
              refine wpAnyIn_ready (rs := [5]) (by kernel_rfl) (by simp) ?_
              refine AllReadyIn.cons rfl (fun K hK => ?_) ?_
              · go_simp
                refine hK _ _ ?_
                clear hK K
                refine wpAnyIn_ready (rs := [6]) (by kernel_rfl) (by simp) ?_
                refine AllReadyIn.cons rfl (fun K hK => ?_) ?_
                · refine stepIn_append_own (by rfl) _ _ 44 (by rfl) (w.heap.size + 4) 2 i0 (.int .i64 0) 1 8 Tryd.underlying44 hi hz0 hz1 hz2 rfl (by decide) v _ _ (by rfl) ((show W.drew.ownsRow (w.heap.size + 4) 2 1 v pre.length (ints (partW g a pre)) from hrow).alloc _) ⟨W.heap.size, 0, none⟩ 1 1 [.int .i64 q] (by rfl) rfl (cell_one_new _ _ _) (by simp [Value.oneCell']) (by omega) (by omega) (by simp; omega) ?_
                  intro v1 w1 hown1 hgrow
                  obtain ⟨g', cap', rfl⟩ := ownsRow_succ hown1
                  have hc1 := (Boxed.kept (Boxed.alloc (show Boxed W.drew (w.heap.size + 1 + 1) 44 v from hv) _) hgrow (fun e => by have := (World.ownsRow.lt hrow _ e.symm).1; omega)).cell
                  have hf1 := (Boxed.kept (Boxed.alloc (show Boxed W.drew (w.heap.size + 1 + 1) 44 v from hv) _) hgrow (fun e => by have := (World.ownsRow.lt hrow _ e.symm).1; omega)).frozen
                  refine hK _ _ ?_
                  clear hK K
                  refine wpAnyIn_ready (rs := [7]) (by kernel_rfl) (by simp) ?_
                  refine AllReadyIn.cons rfl (fun K hK => ?_) ?_
                  · go_simp
                    refine hK _ _ ?_
                    clear hK K
                    refine wpAnyIn_done (by kernel_rfl) ?_ _
                    exact FIN _ _ _ hown1 hgrow
                  exact AllReadyIn.nil
                exact AllReadyIn.nil
              exact AllReadyIn.nil
            exact AllReadyIn.nil
          exact AllReadyIn.nil
        refine AllReadyIn.cons rfl (fun K hK => ?_) ?_
        · go_simp
          refine hK _ _ ?_
          clear hK K
          refine wpAnyIn_ready (rs := [2]) (by kernel_rfl) (by simp) ?_
          refine AllReadyIn.cons rfl (fun K hK => ?_) ?_
          · go_simp
            refine hK _ _ ?_
            clear hK K
            refine wpAnyIn_ready (rs := [4]) (by kernel_rfl) (by simp) ?_
            refine AllReadyIn.cons rfl (fun K hK => ?_) ?_
            · go_simp
              gi_wp2_with (refine ⟨trivial, ?_⟩; gi_at_call 74; refine (CallsIn.inRound l (callsIn_wide.2 (hPP _))).mono ?_; rintro e w' ⟨rfl, rfl⟩)
              refine wpAnyIn_ready (rs := [5]) (by kernel_rfl) (by simp) ?_
              refine AllReadyIn.cons rfl (fun K hK => ?_) ?_
              · go_simp
                refine hK _ _ ?_
                clear hK K
                refine wpAnyIn_ready (rs := [6]) (by kernel_rfl) (by simp) ?_
                refine AllReadyIn.cons rfl (fun K hK => ?_) ?_
                · refine stepIn_append_own (by rfl) _ _ 44 (by rfl) (w.heap.size + 4) 2 i0 (.int .i64 0) 1 8 Tryd.underlying44 hi hz0 hz1 hz2 rfl (by decide) v _ _ (by rfl) ((show W.drew.ownsRow (w.heap.size + 4) 2 1 v pre.length (ints (partW g a pre)) from hrow).alloc _) ⟨W.heap.size, 0, none⟩ 1 1 [.int .i64 q] (by rfl) rfl (cell_one_new _ _ _) (by simp [Value.oneCell']) (by omega) (by omega) (by simp; omega) ?_
                  intro v1 w1 hown1 hgrow
                  obtain ⟨g', cap', rfl⟩ := ownsRow_succ hown1
                  have hc1 := (Boxed.kept (Boxed.alloc (show Boxed W.drew (w.heap.size + 1 + 1) 44 v from hv) _) hgrow (fun e => by have := (World.ownsRow.lt hrow _ e.symm).1; omega)).cell
                  have hf1 := (Boxed.kept (Boxed.alloc (show Boxed W.drew (w.heap.size + 1 + 1) 44 v from hv) _) hgrow (fun e => by have := (World.ownsRow.lt hrow _ e.symm).1; omega)).frozen
                  refine hK _ _ ?_
                  clear hK K
                  refine wpAnyIn_ready (rs := [7]) (by kernel_rfl) (by simp) ?_
                  refine AllReadyIn.cons rfl (fun K hK => ?_) ?_
                  · go_simp
                    refine hK _ _ ?_
                    clear hK K
                    refine wpAnyIn_done (by kernel_rfl) ?_ _
                    exact FIN _ _ _ hown1 hgrow
                  exact AllReadyIn.nil
                exact AllReadyIn.nil
              exact AllReadyIn.nil
            exact AllReadyIn.nil
          exact AllReadyIn.nil
        exact AllReadyIn.nil
      refine AllReadyIn.cons rfl (fun K hK => ?_) ?_
      · go_simp
        refine hK _ _ ?_
        clear hK K
        refine wpAnyIn_ready (rs := [0, 3]) (by kernel_rfl) (by simp) ?_
        refine AllReadyIn.cons rfl (fun K hK => ?_) ?_
        · go_simp
          refine hK _ _ ?_
          clear hK K
          refine wpAnyIn_ready (rs := [3]) (by kernel_rfl) (by simp) ?_
          refine AllReadyIn.cons rfl (fun K hK => ?_) ?_
          · go_simp
            refine hK _ _ ?_
            clear hK K
            refine wpAnyIn_ready (rs := [4]) (by kernel_rfl) (by simp) ?_
            refine AllReadyIn.cons rfl (fun K hK => ?_) ?_
            · go_simp
              gi_wp2_with (refine ⟨trivial, ?_⟩; gi_at_call 74; refine (CallsIn.inRound l (callsIn_wide.2 (hPP _))).mono ?_; rintro e w' ⟨rfl, rfl⟩)
              refine wpAnyIn_ready (rs := [5]) (by kernel_rfl) (by simp) ?_
              refine AllReadyIn.cons rfl (fun K hK => ?_) ?_
              · go_simp
                refine hK _ _ ?_
                clear hK K
                refine wpAnyIn_ready (rs := [6]) (by kernel_rfl) (by simp) ?_
                refine AllReadyIn.cons rfl (fun K hK => ?_) ?_
                · refine stepIn_append_own (by rfl) _ _ 44 (by rfl) (w.heap.size + 4) 2 i0 (.int .i64 0) 1 8 Tryd.underlying44 hi hz0 hz1 hz2 rfl (by decide) v _ _ (by rfl) ((show W.drew.ownsRow (w.heap.size + 4) 2 1 v pre.length (ints (partW g a pre)) from hrow).alloc _) ⟨W.heap.size, 0, none⟩ 1 1 [.int .i64 q] (by rfl) rfl (cell_one_new _ _ _) (by simp [Value.oneCell']) (by omega) (by omega) (by simp; omega) ?_
                  intro v1 w1 hown1 hgrow
                  obtain ⟨g', cap', rfl⟩ := ownsRow_succ hown1
                  have hc1 := (Boxed.kept (Boxed.alloc (show Boxed W.drew (w.heap.size + 1 + 1) 44 v from hv) _) hgrow (fun e => by have := (World.ownsRow.lt hrow _ e.symm).1; omega)).cell
                  have hf1 := (Boxed.kept (Boxed.alloc (show Boxed W.drew (w.heap.size + 1 + 1) 44 v from hv) _) hgrow (fun e => by have := (World.ownsRow.lt hrow _ e.symm).1; omega)).frozen
                  refine hK _ _ ?_
                  clear hK K
                  refine wpAnyIn_ready (rs := [7]) (by kernel_rfl) (by simp) ?_
                  refine AllReadyIn.cons rfl (fun K hK => ?_) ?_
                  · go_simp
                    refine hK _ _ ?_
                    clear hK K
                    refine wpAnyIn_done (by kernel_rfl) ?_ _
                    exact FIN _ _ _ hown1 hgrow
                  exact AllReadyIn.nil
                exact AllReadyIn.nil
              exact AllReadyIn.nil
            exact AllReadyIn.nil
          exact AllReadyIn.nil
        refine AllReadyIn.cons rfl (fun K hK => ?_) ?_
        · go_simp
          refine hK _ _ ?_
          clear hK K
          refine wpAnyIn_ready (rs := [0, 4]) (by kernel_rfl) (by simp) ?_
          refine AllReadyIn.cons rfl (fun K hK => ?_) ?_
          · go_simp
            refine hK _ _ ?_
            clear hK K
            refine wpAnyIn_ready (rs := [4]) (by kernel_rfl) (by simp) ?_
            refine AllReadyIn.cons rfl (fun K hK => ?_) ?_
            · go_simp
              gi_wp2_with (refine ⟨trivial, ?_⟩; gi_at_call 74; refine (CallsIn.inRound l (callsIn_wide.2 (hPP _))).mono ?_; rintro e w' ⟨rfl, rfl⟩)
              refine wpAnyIn_ready (rs := [5]) (by kernel_rfl) (by simp) ?_
              refine AllReadyIn.cons rfl (fun K hK => ?_) ?_
              · go_simp
                refine hK _ _ ?_
                clear hK K
                refine wpAnyIn_ready (rs := [6]) (by kernel_rfl) (by simp) ?_
                refine AllReadyIn.cons rfl (fun K hK => ?_) ?_
                · refine stepIn_append_own (by rfl) _ _ 44 (by rfl) (w.heap.size + 4) 2 i0 (.int .i64 0) 1 8 Tryd.underlying44 hi hz0 hz1 hz2 rfl (by decide) v _ _ (by rfl) ((show W.drew.ownsRow (w.heap.size + 4) 2 1 v pre.length (ints (partW g a pre)) from hrow).alloc _) ⟨W.heap.size, 0, none⟩ 1 1 [.int .i64 q] (by rfl) rfl (cell_one_new _ _ _) (by simp [Value.oneCell']) (by omega) (by omega) (by simp; omega) ?_
                  intro v1 w1 hown1 hgrow
                  obtain ⟨g', cap', rfl⟩ := ownsRow_succ hown1
                  have hc1 := (Boxed.kept (Boxed.alloc (show Boxed W.drew (w.heap.size + 1 + 1) 44 v from hv) _) hgrow (fun e => by have := (World.ownsRow.lt hrow _ e.symm).1; omega)).cell
                  have hf1 := (Boxed.kept (Boxed.alloc (show Boxed W.drew (w.heap.size + 1 + 1) 44 v from hv) _) hgrow (fun e => by have := (World.ownsRow.lt hrow _ e.symm).1; omega)).frozen
                  refine hK _ _ ?_
                  clear hK K
                  refine wpAnyIn_ready (rs := [7]) (by kernel_rfl) (by simp) ?_
                  refine AllReadyIn.cons rfl (fun K hK => ?_) ?_
                  · go_simp
                    refine hK _ _ ?_
                    clear hK K
                    refine wpAnyIn_done (by kernel_rfl) ?_ _
                    exact FIN _ _ _ hown1 hgrow
                  exact AllReadyIn.nil
                exact AllReadyIn.nil
              exact AllReadyIn.nil
            exact AllReadyIn.nil
          refine AllReadyIn.cons rfl (fun K hK => ?_) ?_
          · go_simp
            gi_wp2_with (refine ⟨trivial, ?_⟩; gi_at_call 74; refine (CallsIn.inRound l (callsIn_wide.2 (hPP _))).mono ?_; rintro e w' ⟨rfl, rfl⟩)
            refine wpAnyIn_ready (rs := [0, 5]) (by kernel_rfl) (by simp) ?_
            refine AllReadyIn.cons rfl (fun K hK => ?_) ?_
            · go_simp
              refine hK _ _ ?_
              clear hK K
              refine wpAnyIn_ready (rs := [5]) (by kernel_rfl) (by simp) ?_
              refine AllReadyIn.cons rfl (fun K hK => ?_) ?_
              · go_simp
                refine hK _ _ ?_
                clear hK K
                refine wpAnyIn_ready (rs := [6]) (by kernel_rfl) (by simp) ?_
                refine AllReadyIn.cons rfl (fun K hK => ?_) ?_
                · refine stepIn_append_own (by rfl) _ _ 44 (by rfl) (w.heap.size + 4) 2 i0 (.int .i64 0) 1 8 Tryd.underlying44 hi hz0 hz1 hz2 rfl (by decide) v _ _ (by rfl) ((show W.drew.ownsRow (w.heap.size + 4) 2 1 v pre.length (ints (partW g a pre)) from hrow).alloc _) ⟨W.heap.size, 0, none⟩ 1 1 [.int .i64 q] (by rfl) rfl (cell_one_new _ _ _) (by simp [Value.oneCell']) (by omega) (by omega) (by simp; omega) ?_
                  intro v1 w1 hown1 hgrow
                  obtain ⟨g', cap', rfl⟩ := ownsRow_succ hown1
                  have hc1 := (Boxed.kept (Boxed.alloc (show Boxed W.drew (w.heap.size + 1 + 1) 44 v from hv) _) hgrow (fun e => by have := (World.ownsRow.lt hrow _ e.symm).1; omega)).cell
                  have hf1 := (Boxed.kept (Boxed.alloc (show Boxed W.drew (w.heap.size + 1 + 1) 44 v from hv) _) hgrow (fun e => by have := (World.ownsRow.lt hrow _ e.symm).1; omega)).frozen
                  refine hK _ _ ?_
                  clear hK K
                  refine wpAnyIn_ready (rs := [7]) (by kernel_rfl) (by simp) ?_
                  refine AllReadyIn.cons rfl (fun K hK => ?_) ?_
                  · go_simp
                    refine hK _ _ ?_
                    clear hK K
                    refine wpAnyIn_done (by kernel_rfl) ?_ _
                    exact FIN _ _ _ hown1 hgrow
                  exact AllReadyIn.nil
                exact AllReadyIn.nil
              exact AllReadyIn.nil
            refine AllReadyIn.cons rfl (fun K hK => ?_) ?_
            · go_simp
              refine hK _ _ ?_
              clear hK K
              refine wpAnyIn_ready (rs := [0]) (by kernel_rfl) (by simp) ?_
              refine AllReadyIn.cons rfl (fun K hK => ?_) ?_
              · go_simp
                refine hK _ _ ?_
                clear hK K
                refine wpAnyIn_ready (rs := [6]) (by kernel_rfl) (by simp) ?_
                refine AllReadyIn.cons rfl (fun K hK => ?_) ?_
                · refine stepIn_append_own (by rfl) _ _ 44 (by rfl) (w.heap.size + 4) 2 i0 (.int .i64 0) 1 8 Tryd.underlying44 hi hz0 hz1 hz2 rfl (by decide) v _ _ (by rfl) ((show W.drew.ownsRow (w.heap.size + 4) 2 1 v pre.length (ints (partW g a pre)) from hrow).alloc _) ⟨W.heap.size, 0, none⟩ 1 1 [.int .i64 q] (by rfl) rfl (cell_one_new _ _ _) (by simp [Value.oneCell']) (by omega) (by omega) (by simp; omega) ?_
                  intro v1 w1 hown1 hgrow
                  obtain ⟨g', cap', rfl⟩ := ownsRow_succ hown1
                  have hc1 := (Boxed.kept (Boxed.alloc (show Boxed W.drew (w.heap.size + 1 + 1) 44 v from hv) _) hgrow (fun e => by have := (World.ownsRow.lt hrow _ e.symm).1; omega)).cell
                  have hf1 := (Boxed.kept (Boxed.alloc (show Boxed W.drew (w.heap.size + 1 + 1) 44 v from hv) _) hgrow (fun e => by have := (World.ownsRow.lt hrow _ e.symm).1; omega)).frozen
                  refine hK _ _ ?_
                  clear hK K
                  refine wpAnyIn_ready (rs := [7]) (by kernel_rfl) (by simp) ?_
                  refine AllReadyIn.cons rfl (fun K hK => ?_) ?_
                  · go_simp
                    refine hK _ _ ?_
                    clear hK K
                    refine wpAnyIn_done (by kernel_rfl) ?_ _
                    exact FIN _ _ _ hown1 hgrow
                  exact AllReadyIn.nil
                exact AllReadyIn.nil
              exact AllReadyIn.nil
            exact AllReadyIn.nil
          exact AllReadyIn.nil
        exact AllReadyIn.nil
      refine AllReadyIn.cons rfl (fun K hK => ?_) ?_
      · go_simp
        refine hK _ _ ?_
        clear hK K
        refine wpAnyIn_ready (rs := [0, 2]) (by kernel_rfl) (by simp) ?_
        refine AllReadyIn.cons rfl (fun K hK => ?_) ?_
        · go_simp
          refine hK _ _ ?_
          clear hK K
          refine wpAnyIn_ready (rs := [2]) (by kernel_rfl) (by simp) ?_
          refine AllReadyIn.cons rfl (fun K hK => ?_) ?_
          · go_simp
            refine hK _ _ ?_
            clear hK K
            refine wpAnyIn_ready (rs := [4]) (by kernel_rfl) (by simp) ?_
            refine AllReadyIn.cons rfl (fun K hK => ?_) ?_
            · go_simp
              gi_wp2_with (refine ⟨trivial, ?_⟩; gi_at_call 74; refine (CallsIn.inRound l (callsIn_wide.2 (hPP _))).mono ?_; rintro e w' ⟨rfl, rfl⟩)
              refine wpAnyIn_ready (rs := [5]) (by kernel_rfl) (by simp) ?_
              refine AllReadyIn.cons rfl (fun K hK => ?_) ?_
              · go_simp
                refine hK _ _ ?_
                clear hK K
                refine wpAnyIn_ready (rs := [6]) (by kernel_rfl) (by simp) ?_
                refine AllReadyIn.cons rfl (fun K hK => ?_) ?_
                · refine stepIn_append_own (by rfl) _ _ 44 (by rfl) (w.heap.size + 4) 2 i0 (.int .i64 0) 1 8 Tryd.underlying44 hi hz0 hz1 hz2 rfl (by decide) v _ _ (by rfl) ((show W.drew.ownsRow (w.heap.size + 4) 2 1 v pre.length (ints (partW g a pre)) from hrow).alloc _) ⟨W.heap.size, 0, none⟩ 1 1 [.int .i64 q] (by rfl) rfl (cell_one_new _ _ _) (by simp [Value.oneCell']) (by omega) (by omega) (by simp; omega) ?_
                  intro v1 w1 hown1 hgrow
                  obtain ⟨g', cap', rfl⟩ := ownsRow_succ hown1
                  have hc1 := (Boxed.kept (Boxed.alloc (show Boxed W.drew (w.heap.size + 1 + 1) 44 v from hv) _) hgrow (fun e => by have := (World.ownsRow.lt hrow _ e.symm).1; omega)).cell
                  have hf1 := (Boxed.kept (Boxed.alloc (show Boxed W.drew (w.heap.size + 1 + 1) 44 v from hv) _) hgrow (fun e => by have := (World.ownsRow.lt hrow _ e.symm).1; omega)).frozen
                  refine hK _ _ ?_
                  clear hK K
                  refine wpAnyIn_ready (rs := [7]) (by kernel_rfl) (by simp) ?_
                  refine AllReadyIn.cons rfl (fun K hK => ?_) ?_
                  · go_simp
                    refine hK _ _ ?_
                    clear hK K
                    refine wpAnyIn_done (by kernel_rfl) ?_ _
                    exact FIN _ _ _ hown1 hgrow
                  exact AllReadyIn.nil
                exact AllReadyIn.nil
              exact AllReadyIn.nil
            exact AllReadyIn.nil
          exact AllReadyIn.nil
        refine AllReadyIn.cons rfl (fun K hK => ?_) ?_
        · go_simp
          refine hK _ _ ?_
          clear hK K
          refine wpAnyIn_ready (rs := [0, 4]) (by kernel_rfl) (by simp) ?_
          refine AllReadyIn.cons rfl (fun K hK => ?_) ?_
          · go_simp
            refine hK _ _ ?_
            clear hK K
            refine wpAnyIn_ready (rs := [4]) (by kernel_rfl) (by simp) ?_
            refine AllReadyIn.cons rfl (fun K hK => ?_) ?_
            · go_simp
              gi_wp2_with (refine ⟨trivial, ?_⟩; gi_at_call 74; refine (CallsIn.inRound l (callsIn_wide.2 (hPP _))).mono ?_; rintro e w' ⟨rfl, rfl⟩)
              refine wpAnyIn_ready (rs := [5]) (by kernel_rfl) (by simp) ?_
              refine AllReadyIn.cons rfl (fun K hK => ?_) ?_
              · go_simp
                refine hK _ _ ?_
                clear hK K
                refine wpAnyIn_ready (rs := [6]) (by kernel_rfl) (by simp) ?_
                refine AllReadyIn.cons rfl (fun K hK => ?_) ?_
                · refine stepIn_append_own (by rfl) _ _ 44 (by rfl) (w.heap.size + 4) 2 i0 (.int .i64 0) 1 8 Tryd.underlying44 hi hz0 hz1 hz2 rfl (by decide) v _ _ (by rfl) ((show W.drew.ownsRow (w.heap.size + 4) 2 1 v pre.length (ints (partW g a pre)) from hrow).alloc _) ⟨W.heap.size, 0, none⟩ 1 1 [.int .i64 q] (by rfl) rfl (cell_one_new _ _ _) (by simp [Value.oneCell']) (by omega) (by omega) (by simp; omega) ?_
                  intro v1 w1 hown1 hgrow
                  obtain ⟨g', cap', rfl⟩ := ownsRow_succ hown1
                  have hc1 := (Boxed.kept (Boxed.alloc (show Boxed W.drew (w.heap.size + 1 + 1) 44 v from hv) _) hgrow (fun e => by have := (World.ownsRow.lt hrow _ e.symm).1; omega)).cell
                  have hf1 := (Boxed.kept (Boxed.alloc (show Boxed W.drew (w.heap.size + 1 + 1) 44 v from hv) _) hgrow (fun e => by have := (World.ownsRow.lt hrow _ e.symm).1; omega)).frozen
                  refine hK _ _ ?_
                  clear hK K
                  refine wpAnyIn_ready (rs := [7]) (by kernel_rfl) (by simp) ?_
                  refine AllReadyIn.cons rfl (fun K hK => ?_) ?_
                  · go_simp
                    refine hK _ _ ?_
                    clear hK K
                    refine wpAnyIn_done (by kernel_rfl) ?_ _
                    exact FIN _ _ _ hown1 hgrow
                  exact AllReadyIn.nil
                exact AllReadyIn.nil
              exact AllReadyIn.nil
            exact AllReadyIn.nil
          refine AllReadyIn.cons rfl (fun K hK => ?_) ?_
          · go_simp
            gi_wp2_with (refine ⟨trivial, ?_⟩; gi_at_call 74; refine (CallsIn.inRound l (callsIn_wide.2 (hPP _))).mono ?_; rintro e w' ⟨rfl, rfl⟩)
            refine wpAnyIn_ready (rs := [0, 5]) (by kernel_rfl) (by simp) ?_
            refine AllReadyIn.cons rfl (fun K hK => ?_) ?_
            · go_simp
              refine hK _ _ ?_
              clear hK K
              refine wpAnyIn_ready (rs := [5]) (by kernel_rfl) (by simp) ?_
              refine AllReadyIn.cons rfl (fun K hK => ?_) ?_
              · go_simp
                refine hK _ _ ?_
                clear hK K
                refine wpAnyIn_ready (rs := [6]) (by kernel_rfl) (by simp) ?_
                refine AllReadyIn.cons rfl (fun K hK => ?_) ?_
                · refine stepIn_append_own (by rfl) _ _ 44 (by rfl) (w.heap.size + 4) 2 i0 (.int .i64 0) 1 8 Tryd.underlying44 hi hz0 hz1 hz2 rfl (by decide) v _ _ (by rfl) ((show W.drew.ownsRow (w.heap.size + 4) 2 1 v pre.length (ints (partW g a pre)) from hrow).alloc _) ⟨W.heap.size, 0, none⟩ 1 1 [.int .i64 q] (by rfl) rfl (cell_one_new _ _ _) (by simp [Value.oneCell']) (by omega) (by omega) (by simp; omega) ?_
                  intro v1 w1 hown1 hgrow
                  obtain ⟨g', cap', rfl⟩ := ownsRow_succ hown1
                  have hc1 := (Boxed.kept (Boxed.alloc (show Boxed W.drew (w.heap.size + 1 + 1) 44 v from hv) _) hgrow (fun e => by have := (World.ownsRow.lt hrow _ e.symm).1; omega)).cell
                  have hf1 := (Boxed.kept (Boxed.alloc (show Boxed W.drew (w.heap.size + 1 + 1) 44 v from hv) _) hgrow (fun e => by have := (World.ownsRow.lt hrow _ e.symm).1; omega)).frozen
                  refine hK _ _ ?_
                  clear hK K
                  refine wpAnyIn_ready (rs := [7]) (by kernel_rfl) (by simp) ?_
                  refine AllReadyIn.cons rfl (fun K hK => ?_) ?_
                  · go_simp
                    refine hK _ _ ?_
                    clear hK K
                    refine wpAnyIn_done (by kernel_rfl) ?_ _
                    exact FIN _ _ _ hown1 hgrow
                  exact AllReadyIn.nil
                exact AllReadyIn.nil
              exact AllReadyIn.nil
            refine AllReadyIn.cons rfl (fun K hK => ?_) ?_
            · go_simp
              refine hK _ _ ?_
              clear hK K
              refine wpAnyIn_ready (rs := [0]) (by kernel_rfl) (by simp) ?_
              refine AllReadyIn.cons rfl (fun K hK => ?_) ?_
              · go_simp
                refine hK _ _ ?_
                clear hK K
                refine wpAnyIn_ready (rs := [6]) (by kernel_rfl) (by simp) ?_
                refine AllReadyIn.cons rfl (fun K hK => ?_) ?_
                · refine stepIn_append_own (by rfl) _ _ 44 (by rfl) (w.heap.size + 4) 2 i0 (.int .i64 0) 1 8 Tryd.underlying44 hi hz0 hz1 hz2 rfl (by decide) v _ _ (by rfl) ((show W.drew.ownsRow (w.heap.size + 4) 2 1 v pre.length (ints (partW g a pre)) from hrow).alloc _) ⟨W.heap.size, 0, none⟩ 1 1 [.int .i64 q] (by rfl) rfl (cell_one_new _ _ _) (by simp [Value.oneCell']) (by omega) (by omega) (by simp; omega) ?_
                  intro v1 w1 hown1 hgrow
                  obtain ⟨g', cap', rfl⟩ := ownsRow_succ hown1
                  have hc1 := (Boxed.kept (Boxed.alloc (show Boxed W.drew (w.heap.size + 1 + 1) 44 v from hv) _) hgrow (fun e => by have := (World.ownsRow.lt hrow _ e.symm).1; omega)).cell
                  have hf1 := (Boxed.kept (Boxed.alloc (show Boxed W.drew (w.heap.size + 1 + 1) 44 v from hv) _) hgrow (fun e => by have := (World.ownsRow.lt hrow _ e.symm).1; omega)).frozen
                  refine hK _ _ ?_
                  clear hK K
                  refine wpAnyIn_ready (rs := [7]) (by kernel_rfl) (by simp) ?_
                  refine AllReadyIn.cons rfl (fun K hK => ?_) ?_
                  · go_simp
                    refine hK _ _ ?_
                    clear hK K
                    refine wpAnyIn_done (by kernel_rfl) ?_ _
                    exact FIN _ _ _ hown1 hgrow
                  exact AllReadyIn.nil
                exact AllReadyIn.nil
              exact AllReadyIn.nil
            exact AllReadyIn.nil
          exact AllReadyIn.nil
        exact AllReadyIn.nil
      exact AllReadyIn.nil
    refine AllReadyIn.cons rfl (fun K hK => ?_) ?_
    · go_simp
      refine hK _ _ ?_
      clear hK K
      refine wpAnyIn_ready (rs := [0, 1, 3]) (by kernel_rfl) (by simp) ?_
      refine AllReadyIn.cons rfl (fun K hK => ?_) ?_
      · go_simp
        refine hK _ _ ?_
        clear hK K
        refine wpAnyIn_ready (rs := [1, 3]) (by kernel_rfl) (by simp) ?_
        refine AllReadyIn.cons rfl (fun K hK => ?_) ?_
        · go_simp
          refine hK _ _ ?_
          clear hK K
          refine wpAnyIn_ready (rs := [3]) (by kernel_rfl) (by simp) ?_
          refine AllReadyIn.cons rfl (fun K hK => ?_) ?_
          · go_simp
            refine hK _ _ ?_
            clear hK K
            refine wpAnyIn_ready (rs := [4]) (by kernel_rfl) (by simp) ?_
            refine AllReadyIn.cons rfl (fun K hK => ?_) ?_
            · go_simp
              gi_wp2_with (refine ⟨trivial, ?_⟩; gi_at_call 74; refine (CallsIn.inRound l (callsIn_wide.2 (hPP _))).mono ?_; rintro e w' ⟨rfl, rfl⟩)
              refine wpAnyIn_ready (rs := [5]) (by kernel_rfl) (by simp) ?_
              refine AllReadyIn.cons rfl (fun K hK => ?_) ?_
              · go_simp
                refine hK _ _ ?_
                clear hK K
                refine wpAnyIn_ready (rs := [6]) (by kernel_rfl) (by simp) ?_
                refine AllReadyIn.cons rfl (fun K hK => ?_) ?_
                · refine stepIn_append_own (by rfl) _ _ 44 (by rfl) (w.heap.size + 4) 2 i0 (.int .i64 0) 1 8 Tryd.underlying44 hi hz0 hz1 hz2 rfl (by decide) v _ _ (by rfl) ((show W.drew.ownsRow (w.heap.size + 4) 2 1 v pre.length (ints (partW g a pre)) from hrow).alloc _) ⟨W.heap.size, 0, none⟩ 1 1 [.int .i64 q] (by rfl) rfl (cell_one_new _ _ _) (by simp [Value.oneCell']) (by omega) (by omega) (by simp; omega) ?_
                  intro v1 w1 hown1 hgrow
                  obtain ⟨g', cap', rfl⟩ := ownsRow_succ hown1
                  have hc1 := (Boxed.kept (Boxed.alloc (show Boxed W.drew (w.heap.size + 1 + 1) 44 v from hv) _) hgrow (fun e => by have := (World.ownsRow.lt hrow _ e.symm).1; omega)).cell
                  have hf1 := (Boxed.kept (Boxed.alloc (show Boxed W.drew (w.heap.size + 1 + 1) 44 v from hv) _) hgrow (fun e => by have := (World.ownsRow.lt hrow _ e.symm).1; omega)).frozen
                  refine hK _ _ ?_
                  clear hK K
                  refine wpAnyIn_ready (rs := [7]) (by kernel_rfl) (by simp) ?_
                  refine AllReadyIn.cons rfl (fun K hK => ?_) ?_
                  · go_simp
                    refine hK _ _ ?_
                    clear hK K
                    refine wpAnyIn_done (by kernel_rfl) ?_ _
                    exact FIN _ _ _ hown1 hgrow
                  exact AllReadyIn.nil
                exact AllReadyIn.nil
              exact AllReadyIn.nil
            exact AllReadyIn.nil
          exact AllReadyIn.nil
        refine AllReadyIn.cons rfl (fun K hK => ?_) ?_
        · go_simp
          refine hK _ _ ?_
          clear hK K
          refine wpAnyIn_ready (rs := [1]) (by kernel_rfl) (by simp) ?_
          refine AllReadyIn.cons rfl (fun K hK => ?_) ?_
          · go_simp
            refine hK _ _ ?_
            clear hK K
            refine wpAnyIn_ready (rs := [4]) (by kernel_rfl) (by simp) ?_
            refine AllReadyIn.cons rfl (fun K hK => ?_) ?_
            · go_simp
              gi_wp2_with (refine ⟨trivial, ?_⟩; gi_at_call 74; refine (CallsIn.inRound l (callsIn_wide.2 (hPP _))).mono ?_; rintro e w' ⟨rfl, rfl⟩)
              refine wpAnyIn_ready (rs := [5]) (by kernel_rfl) (by simp) ?_
              refine AllReadyIn.cons rfl (fun K hK => ?_) ?_
              · go_simp
                refine hK _ _ ?_
                clear hK K
                refine wpAnyIn_ready (rs := [6]) (by kernel_rfl) (by simp) ?_
                refine AllReadyIn.cons rfl (fun K hK => ?_) ?_
                · refine stepIn_append_own (by rfl) _ _ 44 (by rfl) (w.heap.size + 4) 2 i0 (.int .i64 0) 1 8 Tryd.underlying44 hi hz0 hz1 hz2 rfl (by decide) v _ _ (by rfl) ((show W.drew.ownsRow (w.heap.size + 4) 2 1 v pre.length (ints (partW g a pre)) from hrow).alloc _) ⟨W.heap.size, 0, none⟩ 1 1 [.int .i64 q] (by rfl) rfl (cell_one_new _ _ _) (by simp [Value.oneCell']) (by omega) (by omega) (by simp; omega) ?_
                  intro v1 w1 hown1 hgrow
                  obtain ⟨g', cap', rfl⟩ := ownsRow_succ hown1
                  have hc1 := (Boxed.kept (Boxed.alloc (show Boxed W.drew (w.heap.size + 1 + 1) 44 v from hv) _) hgrow (fun e => by have := (World.ownsRow.lt hrow _ e.symm).1; omega)).cell
                  have hf1 := (Boxed.kept (Boxed.alloc (show Boxed W.drew (w.heap.size + 1 + 1) 44 v from hv) _) hgrow (fun e => by have := (World.ownsRow.lt hrow _ e.symm).1; omega)).frozen
                  refine hK _ _ ?_
                  clear hK K
                  refine wpAnyIn_ready (rs := [7]) (by kernel_rfl) (by simp) ?_
                  refine AllReadyIn.cons rfl (fun K hK => ?_) ?_
                  · go_simp
                    refine hK _ _ ?_
                    clear hK K
                    refine wpAnyIn_done (by kernel_rfl) ?_ _
                    exact FIN _ _ _ hown1 hgrow
                  exact AllReadyIn.nil
                exact AllReadyIn.nil
              exact AllReadyIn.nil
            exact AllReadyIn.nil
          exact AllReadyIn.nil
        exact AllReadyIn.nil
      refine AllReadyIn.cons rfl (fun K hK => ?_) ?_
      · go_simp
        refine hK _ _ ?_
        clear hK K
        refine wpAnyIn_ready (rs := [0, 3]) (by kernel_rfl) (by simp) ?_
        refine AllReadyIn.cons rfl (fun K hK => ?_) ?_
        · go_simp
          refine hK _ _ ?_
          clear hK K
          refine wpAnyIn_ready (rs := [3]) (by kernel_rfl) (by simp) ?_
          refine AllReadyIn.cons rfl (fun K hK => ?_) ?_
          · go_simp
            refine hK _ _ ?_
            clear hK K
            refine wpAnyIn_ready (rs := [4]) (by kernel_rfl) (by simp) ?_
            refine AllReadyIn.cons rfl (fun K hK => ?_) ?_
            · go_simp
              gi_wp2_with (refine ⟨trivial, ?_⟩; gi_at_call 74; refine (CallsIn.inRound l (callsIn_wide.2 (hPP _))).mono ?_; rintro e w' ⟨rfl, rfl⟩)
              refine wpAnyIn_ready (rs := [5]) (by kernel_rfl) (by simp) ?_
              refine AllReadyIn.cons rfl (fun K hK => ?_) ?_
              · go_simp
                refine hK _ _ ?_
                clear hK K
                refine wpAnyIn_ready (rs := [6]) (by kernel_rfl) (by simp) ?_
                refine AllReadyIn.cons rfl (fun K hK => ?_) ?_
                · refine stepIn_append_own (by rfl) _ _ 44 (by rfl) (w.heap.size + 4) 2 i0 (.int .i64 0) 1 8 Tryd.underlying44 hi hz0 hz1 hz2 rfl (by decide) v _ _ (by rfl) ((show W.drew.ownsRow (w.heap.size + 4) 2 1 v pre.length (ints (partW g a pre)) from hrow).alloc _) ⟨W.heap.size, 0, none⟩ 1 1 [.int .i64 q] (by rfl) rfl (cell_one_new _ _ _) (by simp [Value.oneCell']) (by omega) (by omega) (by simp; omega) ?_
                  intro v1 w1 hown1 hgrow
                  obtain ⟨g', cap', rfl⟩ := ownsRow_succ hown1
                  have hc1 := (Boxed.kept (Boxed.alloc (show Boxed W.drew (w.heap.size + 1 + 1) 44 v from hv) _) hgrow (fun e => by have := (World.ownsRow.lt hrow _ e.symm).1; omega)).cell
                  have hf1 := (Boxed.kept (Boxed.alloc (show Boxed W.drew (w.heap.size + 1 + 1) 44 v from hv) _) hgrow (fun e => by have := (World.ownsRow.lt hrow _ e.symm).1; omega)).frozen
                  refine hK _ _ ?_
                  clear hK K
                  refine wpAnyIn_ready (rs := [7]) (by kernel_rfl) (by simp) ?_
                  refine AllReadyIn.cons rfl (fun K hK => ?_) ?_
                  · go_simp
                    refine hK _ _ ?_
                    clear hK K
                    refine wpAnyIn_done (by kernel_rfl) ?_ _
                    exact FIN _ _ _ hown1 hgrow
                  exact AllReadyIn.nil
                exact AllReadyIn.nil
              exact AllReadyIn.nil
            exact AllReadyIn.nil
          exact AllReadyIn.nil
        refine AllReadyIn.cons rfl (fun K hK => ?_) ?_
        · go_simp
          refine hK _ _ ?_
          clear hK K
          refine wpAnyIn_ready (rs := [0, 4]) (by kernel_rfl) (by simp) ?_
          refine AllReadyIn.cons rfl (fun K hK => ?_) ?_
          · go_simp
            refine hK _ _ ?_
            clear hK K
            refine wpAnyIn_ready (rs := [4]) (by kernel_rfl) (by simp) ?_
            refine AllReadyIn.cons rfl (fun K hK => ?_) ?_
            · go_simp
              gi_wp2_with (refine ⟨trivial, ?_⟩; gi_at_call 74; refine (CallsIn.inRound l (callsIn_wide.2 (hPP _))).mono ?_; rintro e w' ⟨rfl, rfl⟩)
              refine wpAnyIn_ready (rs := [5]) (by kernel_rfl) (by simp) ?_
              refine AllReadyIn.cons rfl (fun K hK => ?_) ?_
              · go_simp
                refine hK _ _ ?_
                clear hK K
                refine wpAnyIn_ready (rs := [6]) (by kernel_rfl) (by simp) ?_
                refine AllReadyIn.cons rfl (fun K hK => ?_) ?_
                · refine stepIn_append_own (by rfl) _ _ 44 (by rfl) (w.heap.size + 4) 2 i0 (.int .i64 0) 1 8 Tryd.underlying44 hi hz0 hz1 hz2 rfl (by decide) v _ _ (by rfl) ((show W.drew.ownsRow (w.heap.size + 4) 2 1 v pre.length (ints (partW g a pre)) from hrow).alloc _) ⟨W.heap.size, 0, none⟩ 1 1 [.int .i64 q] (by rfl) rfl (cell_one_new _ _ _) (by simp [Value.oneCell']) (by omega) (by omega) (by simp; omega) ?_
                  intro v1 w1 hown1 hgrow
                  obtain ⟨g', cap', rfl⟩ := ownsRow_succ hown1
                  have hc1 := (Boxed.kept (Boxed.alloc (show Boxed W.drew (w.heap.size + 1 + 1) 44 v from hv) _) hgrow (fun e => by have := (World.ownsRow.lt hrow _ e.symm).1; omega)).cell
                  have hf1 := (Boxed.kept (Boxed.alloc (show Boxed W.drew (w.heap.size + 1 + 1) 44 v from hv) _) hgrow (fun e => by have := (World.ownsRow.lt hrow _ e.symm).1; omega)).frozen
                  refine hK _ _ ?_
                  clear hK K
                  refine wpAnyIn_ready (rs := [7]) (by kernel_rfl) (by simp) ?_
                  refine AllReadyIn.cons rfl (fun K hK => ?_) ?_
                  · go_simp
                    refine hK _ _ ?_
                    clear hK K
                    refine wpAnyIn_done (by kernel_rfl) ?_ _
                    exact FIN _ _ _ hown1 hgrow
                  exact AllReadyIn.nil
                exact AllReadyIn.nil
              exact AllReadyIn.nil
            exact AllReadyIn.nil
          refine AllReadyIn.cons rfl (fun K hK => ?_) ?_
          · go_simp
            gi_wp2_with (refine ⟨trivial, ?_⟩; gi_at_call 74; refine (CallsIn.inRound l (callsIn_wide.2 (hPP _))).mono ?_; rintro e w' ⟨rfl, rfl⟩)
            refine wpAnyIn_ready (rs := [0, 5]) (by kernel_rfl) (by simp) ?_
            refine AllReadyIn.cons rfl (fun K hK => ?_) ?_
            · go_simp
              refine hK _ _ ?_
              clear hK K
              refine wpAnyIn_ready (rs := [5]) (by kernel_rfl) (by simp) ?_
              refine AllReadyIn.cons rfl (fun K hK => ?_) ?_
              · go_simp
                refine hK _ _ ?_
                clear hK K
                refine wpAnyIn_ready (rs := [6]) (by kernel_rfl) (by simp) ?_
                refine AllReadyIn.cons rfl (fun K hK => ?_) ?_
                · refine stepIn_append_own (by rfl) _ _ 44 (by rfl) (w.heap.size + 4) 2 i0 (.int .i64 0) 1 8 Tryd.underlying44 hi hz0 hz1 hz2 rfl (by decide) v _ _ (by rfl) ((show W.drew.ownsRow (w.heap.size + 4) 2 1 v pre.length (ints (partW g a pre)) from hrow).alloc _) ⟨W.heap.size, 0, none⟩ 1 1 [.int .i64 q] (by rfl) rfl (cell_one_new _ _ _) (by simp [Value.oneCell']) (by omega) (by omega) (by simp; omega) ?_
                  intro v1 w1 hown1 hgrow
                  obtain ⟨g', cap', rfl⟩ := ownsRow_succ hown1
                  have hc1 := (Boxed.kept (Boxed.alloc (show Boxed W.drew (w.heap.size + 1 + 1) 44 v from hv) _) hgrow (fun e => by have := (World.ownsRow.lt hrow _ e.symm).1; omega)).cell
                  have hf1 := (Boxed.kept (Boxed.alloc (show Boxed W.drew (w.heap.size + 1 + 1) 44 v from hv) _) hgrow (fun e => by have := (World.ownsRow.lt hrow _ e.symm).1; omega)).frozen
                  refine hK _ _ ?_
                  clear hK K
                  refine wpAnyIn_ready (rs := [7]) (by kernel_rfl) (by simp) ?_
                  refine AllReadyIn.cons rfl (fun K hK => ?_) ?_
                  · go_simp
                    refine hK _ _ ?_
                    clear hK K
                    refine wpAnyIn_done (by kernel_rfl) ?_ _
                    exact FIN _ _ _ hown1 hgrow
                  exact AllReadyIn.nil
                exact AllReadyIn.nil
              exact AllReadyIn.nil
            refine AllReadyIn.cons rfl (fun K hK => ?_) ?_
            · go_simp
              refine hK _ _ ?_
              clear hK K
              refine wpAnyIn_ready (rs := [0]) (by kernel_rfl) (by simp) ?_
              refine AllReadyIn.cons rfl (fun K hK => ?_) ?_
              · go_simp
                refine hK _ _ ?_
                clear hK K
                refine wpAnyIn_ready (rs := [6]) (by kernel_rfl) (by simp) ?_
                refine AllReadyIn.cons rfl (fun K hK => ?_) ?_
                · refine stepIn_append_own (by rfl) _ _ 44 (by rfl) (w.heap.size + 4) 2 i0 (.int .i64 0) 1 8 Tryd.underlying44 hi hz0 hz1 hz2 rfl (by decide) v _ _ (by rfl) ((show W.drew.ownsRow (w.heap.size + 4) 2 1 v pre.length (ints (partW g a pre)) from hrow).alloc _) ⟨W.heap.size, 0, none⟩ 1 1 [.int .i64 q] (by rfl) rfl (cell_one_new _ _ _) (by simp [Value.oneCell']) (by omega) (by omega) (by simp; omega) ?_
                  intro v1 w1 hown1 hgrow
                  obtain ⟨g', cap', rfl⟩ := ownsRow_succ hown1
                  have hc1 := (Boxed.kept (Boxed.alloc (show Boxed W.drew (w.heap.size + 1 + 1) 44 v from hv) _) hgrow (fun e => by have := (World.ownsRow.lt hrow _ e.symm).1; omega)).cell
                  have hf1 := (Boxed.kept (Boxed.alloc (show Boxed W.drew (w.heap.size + 1 + 1) 44 v from hv) _) hgrow (fun e => by have := (World.ownsRow.lt hrow _ e.symm).1; omega)).frozen
                  refine hK _ _ ?_
                  clear hK K
                  refine wpAnyIn_ready (rs := [7]) (by kernel_rfl) (by simp) ?_
                  refine AllReadyIn.cons rfl (fun K hK => ?_) ?_
                  · go_simp
                    refine hK _ _ ?_
                    clear hK K
                    refine wpAnyIn_done (by kernel_rfl) ?_ _
                    exact FIN _ _ _ hown1 hgrow
                  exact AllReadyIn.nil
                exact AllReadyIn.nil
              exact AllReadyIn.nil
            exact AllReadyIn.nil
          exact AllReadyIn.nil
        exact AllReadyIn.nil
      refine AllReadyIn.cons rfl (fun K hK => ?_) ?_
      · go_simp
        refine hK _ _ ?_
        clear hK K
        refine wpAnyIn_ready (rs := [0, 1]) (by kernel_rfl) (by simp) ?_
        refine AllReadyIn.cons rfl (fun K hK => ?_) ?_
        · go_simp
          refine hK _ _ ?_
          clear hK K
          refine wpAnyIn_ready (rs := [1]) (by kernel_rfl) (by simp) ?_
          refine AllReadyIn.cons rfl (fun K hK => ?_) ?_
          · go_simp
            refine hK _ _ ?_
            clear hK K
            refine wpAnyIn_ready (rs := [4]) (by kernel_rfl) (by simp) ?_
            refine AllReadyIn.cons rfl (fun K hK => ?_) ?_
            · go_simp
              gi_wp2_with (refine ⟨trivial, ?_⟩; gi_at_call 74; refine (CallsIn.inRound l (callsIn_wide.2 (hPP _))).mono ?_; rintro e w' ⟨rfl, rfl⟩)
              refine wpAnyIn_ready (rs := [5]) (by kernel_rfl) (by simp) ?_
              refine AllReadyIn.cons rfl (fun K hK => ?_) ?_
              · go_simp
                refine hK _ _ ?_
                clear hK K
                refine wpAnyIn_ready (rs := [6]) (by kernel_rfl) (by simp) ?_
                refine AllReadyIn.cons rfl (fun K hK => ?_) ?_
                · refine stepIn_append_own (by rfl) _ _ 44 (by rfl) (w.heap.size + 4) 2 i0 (.int .i64 0) 1 8 Tryd.underlying44 hi hz0 hz1 hz2 rfl (by decide) v _ _ (by rfl) ((show W.drew.ownsRow (w.heap.size + 4) 2 1 v pre.length (ints (partW g a pre)) from hrow).alloc _) ⟨W.heap.size, 0, none⟩ 1 1 [.int .i64 q] (by rfl) rfl (cell_one_new _ _ _) (by simp [Value.oneCell']) (by omega) (by omega) (by simp; omega) ?_
                  intro v1 w1 hown1 hgrow
                  obtain ⟨g', cap', rfl⟩ := ownsRow_succ hown1
                  have hc1 := (Boxed.kept (Boxed.alloc (show Boxed W.drew (w.heap.size + 1 + 1) 44 v from hv) _) hgrow (fun e => by have := (World.ownsRow.lt hrow _ e.symm).1; omega)).cell
                  have hf1 := (Boxed.kept (Boxed.alloc (show Boxed W.drew (w.heap.size + 1 + 1) 44 v from hv) _) hgrow (fun e => by have := (World.ownsRow.lt hrow _ e.symm).1; omega)).frozen
                  refine hK _ _ ?_
                  clear hK K
                  refine wpAnyIn_ready (rs := [7]) (by kernel_rfl) (by simp) ?_
                  refine AllReadyIn.cons rfl (fun K hK => ?_) ?_
                  · go_simp
                    refine hK _ _ ?_
                    clear hK K
                    refine wpAnyIn_done (by kernel_rfl) ?_ _
                    exact FIN _ _ _ hown1 hgrow
                  exact AllReadyIn.nil
                exact AllReadyIn.nil
              exact AllReadyIn.nil
            exact AllReadyIn.nil
          exact AllReadyIn.nil
        refine AllReadyIn.cons rfl (fun K hK => ?_) ?_
        · go_simp
          refine hK _ _ ?_
          clear hK K
          refine wpAnyIn_ready (rs := [0, 4]) (by kernel_rfl) (by simp) ?_
          refine AllReadyIn.cons rfl (fun K hK => ?_) ?_
          · go_simp
            refine hK _ _ ?_
            clear hK K
            refine wpAnyIn_ready (rs := [4]) (by kernel_rfl) (by simp) ?_
            refine AllReadyIn.cons rfl (fun K hK => ?_) ?_
            · go_simp
              gi_wp2_with (refine ⟨trivial, ?_⟩; gi_at_call 74; refine (CallsIn.inRound l (callsIn_wide.2 (hPP _))).mono ?_; rintro e w' ⟨rfl, rfl⟩)
              refine wpAnyIn_ready (rs := [5]) (by kernel_rfl) (by simp) ?_
              refine AllReadyIn.cons rfl (fun K hK => ?_) ?_
              · go_simp
                refine hK _ _ ?_
                clear hK K
                refine wpAnyIn_ready (rs := [6]) (by kernel_rfl) (by simp) ?_
                refine AllReadyIn.cons rfl (fun K hK => ?_) ?_
                · refine stepIn_append_own (by rfl) _ _ 44 (by rfl) (w.heap.size + 4) 2 i0 (.int .i64 0) 1 8 Tryd.underlying44 hi hz0 hz1 hz2 rfl (by decide) v _ _ (by rfl) ((show W.drew.ownsRow (w.heap.size + 4) 2 1 v pre.length (ints (partW g a pre)) from hrow).alloc _) ⟨W.heap.size, 0, none⟩ 1 1 [.int .i64 q] (by rfl) rfl (cell_one_new _ _ _) (by simp [Value.oneCell']) (by omega) (by omega) (by simp; omega) ?_
                  intro v1 w1 hown1 hgrow
                  obtain ⟨g', cap', rfl⟩ := ownsRow_succ hown1
                  have hc1 := (Boxed.kept (Boxed.alloc (show Boxed W.drew (w.heap.size + 1 + 1) 44 v from hv) _) hgrow (fun e => by have := (World.ownsRow.lt hrow _ e.symm).1; omega)).cell
                  have hf1 := (Boxed.kept (Boxed.alloc (show Boxed W.drew (w.heap.size + 1 + 1) 44 v from hv) _) hgrow (fun e => by have := (World.ownsRow.lt hrow _ e.symm).1; omega)).frozen
                  refine hK _ _ ?_
                  clear hK K
                  refine wpAnyIn_ready (rs := [7]) (by kernel_rfl) (by simp) ?_
                  refine AllReadyIn.cons rfl (fun K hK => ?_) ?_
                  · go_simp
                    refine hK _ _ ?_
                    clear hK K
                    refine wpAnyIn_done (by kernel_rfl) ?_ _
                    exact FIN _ _ _ hown1 hgrow
                  exact AllReadyIn.nil
                exact AllReadyIn.nil
              exact AllReadyIn.nil
            exact AllReadyIn.nil
          refine AllReadyIn.cons rfl (fun K hK => ?_) ?_
          · go_simp
            gi_wp2_with (refine ⟨trivial, ?_⟩; gi_at_call 74; refine (CallsIn.inRound l (callsIn_wide.2 (hPP _))).mono ?_; rintro e w' ⟨rfl, rfl⟩)
            refine wpAnyIn_ready (rs := [0, 5]) (by kernel_rfl) (by simp) ?_
            refine AllReadyIn.cons rfl (fun K hK => ?_) ?_
            · go_simp
              refine hK _ _ ?_
              clear hK K
              refine wpAnyIn_ready (rs := [5]) (by kernel_rfl) (by simp) ?_
              refine AllReadyIn.cons rfl (fun K hK => ?_) ?_
              · go_simp
                refine hK _ _ ?_
                clear hK K
                refine wpAnyIn_ready (rs := [6]) (by kernel_rfl) (by simp) ?_
                refine AllReadyIn.cons rfl (fun K hK => ?_) ?_
                · refine stepIn_append_own (by rfl) _ _ 44 (by rfl) (w.heap.size + 4) 2 i0 (.int .i64 0) 1 8 Tryd.underlying44 hi hz0 hz1 hz2 rfl (by decide) v _ _ (by rfl) ((show W.drew.ownsRow (w.heap.size + 4) 2 1 v pre.length (ints (partW g a pre)) from hrow).alloc _) ⟨W.heap.size, 0, none⟩ 1 1 [.int .i64 q] (by rfl) rfl (cell_one_new _ _ _) (by simp [Value.oneCell']) (by omega) (by omega) (by simp; omega) ?_
                  intro v1 w1 hown1 hgrow
                  obtain ⟨g', cap', rfl⟩ := ownsRow_succ hown1
                  have hc1 := (Boxed.kept (Boxed.alloc (show Boxed W.drew (w.heap.size + 1 + 1) 44 v from hv) _) hgrow (fun e => by have := (World.ownsRow.lt hrow _ e.symm).1; omega)).cell
                  have hf1 := (Boxed.kept (Boxed.alloc (show Boxed W.drew (w.heap.size + 1 + 1) 44 v from hv) _) hgrow (fun e => by have := (World.ownsRow.lt hrow _ e.symm).1; omega)).frozen
                  refine hK _ _ ?_
                  clear hK K
                  refine wpAnyIn_ready (rs := [7]) (by kernel_rfl) (by simp) ?_
                  refine AllReadyIn.cons rfl (fun K hK => ?_) ?_
                  · go_simp
                    refine hK _ _ ?_
                    clear hK K
                    refine wpAnyIn_done (by kernel_rfl) ?_ _
                    exact FIN _ _ _ hown1 hgrow
                  exact AllReadyIn.nil
                exact AllReadyIn.nil
              exact AllReadyIn.nil
            refine AllReadyIn.cons rfl (fun K hK => ?_) ?_
            · go_simp
              refine hK _ _ ?_
              clear hK K
              refine wpAnyIn_ready (rs := [0]) (by kernel_rfl) (by simp) ?_
              refine AllReadyIn.cons rfl (fun K hK => ?_) ?_
              · go_simp
                refine hK _ _ ?_
                clear hK K
                refine wpAnyIn_ready (rs := [6]) (by kernel_rfl) (by simp) ?_
                refine AllReadyIn.cons rfl (fun K hK => ?_) ?_
                · refine stepIn_append_own (by rfl) _ _ 44 (by rfl) (w.heap.size + 4) 2 i0 (.int .i64 0) 1 8 Tryd.underlying44 hi hz0 hz1 hz2 rfl (by decide) v _ _ (by rfl) ((show W.drew.ownsRow (w.heap.size + 4) 2 1 v pre.length (ints (partW g a pre)) from hrow).alloc _) ⟨W.heap.size, 0, none⟩ 1 1 [.int .i64 q] (by rfl) rfl (cell_one_new _ _ _) (by simp [Value.oneCell']) (by omega) (by omega) (by simp; omega) ?_
                  intro v1 w1 hown1 hgrow
                  obtain ⟨g', cap', rfl⟩ := ownsRow_succ hown1
                  have hc1 := (Boxed.kept (Boxed.alloc (show Boxed W.drew (w.heap.size + 1 + 1) 44 v from hv) _) hgrow (fun e => by have := (World.ownsRow.lt hrow _ e.symm).1; omega)).cell
                  have hf1 := (Boxed.kept (Boxed.alloc (show Boxed W.drew (w.heap.size + 1 + 1) 44 v from hv) _) hgrow (fun e => by have := (World.ownsRow.lt hrow _ e.symm).1; omega)).frozen
                  refine hK _ _ ?_
                  clear hK K
                  refine wpAnyIn_ready (rs := [7]) (by kernel_rfl) (by simp) ?_
                  refine AllReadyIn.cons rfl (fun K hK => ?_) ?_
                  · go_simp
                    refine hK _ _ ?_
                    clear hK K
                    refine wpAnyIn_done (by kernel_rfl) ?_ _
                    exact FIN _ _ _ hown1 hgrow
                  exact AllReadyIn.nil
                exact AllReadyIn.nil
              exact AllReadyIn.nil
            exact AllReadyIn.nil
          exact AllReadyIn.nil
        exact AllReadyIn.nil
      exact AllReadyIn.nil
    refine AllReadyIn.cons rfl (fun K hK => ?_) ?_
    · go_simp
      refine hK _ _ ?_
      clear hK K
      refine wpAnyIn_ready (rs := [0, 1, 2]) (by kernel_rfl) (by simp) ?_
      refine AllReadyIn.cons rfl (fun K hK => ?_) ?_
      · go_simp
        refine hK _ _ ?_
        clear hK K
        refine wpAnyIn_ready (rs := [1, 2]) (by kernel_rfl) (by simp) ?_
        refine AllReadyIn.cons rfl (fun K hK => ?_) ?_
        · go_simp
          refine hK _ _ ?_
          clear hK K
          refine wpAnyIn_ready (rs := [2]) (by kernel_rfl) (by simp) ?_
          refine AllReadyIn.cons rfl (fun K hK => ?_) ?_
          · go_simp
            refine hK _ _ ?_
            clear hK K
            refine wpAnyIn_ready (rs := [4]) (by kernel_rfl) (by simp) ?_
            refine AllReadyIn.cons rfl (fun K hK => ?_) ?_
            · go_simp
              gi_wp2_with (refine ⟨trivial, ?_⟩; gi_at_call 74; refine (CallsIn.inRound l (callsIn_wide.2 (hPP _))).mono ?_; rintro e w' ⟨rfl, rfl⟩)
              refine wpAnyIn_ready (rs := [5]) (by kernel_rfl) (by simp) ?_
              refine AllReadyIn.cons rfl (fun K hK => ?_) ?_
              · go_simp
                refine hK _ _ ?_
                clear hK K
                refine wpAnyIn_ready (rs := [6]) (by kernel_rfl) (by simp) ?_
                refine AllReadyIn.cons rfl (fun K hK => ?_) ?_
                · refine stepIn_append_own (by rfl) _ _ 44 (by rfl) (w.heap.size + 4) 2 i0 (.int .i64 0) 1 8 Tryd.underlying44 hi hz0 hz1 hz2 rfl (by decide) v _ _ (by rfl) ((show W.drew.ownsRow (w.heap.size + 4) 2 1 v pre.length (ints (partW g a pre)) from hrow).alloc _) ⟨W.heap.size, 0, none⟩ 1 1 [.int .i64 q] (by rfl) rfl (cell_one_new _ _ _) (by simp [Value.oneCell']) (by omega) (by omega) (by simp; omega) ?_
                  intro v1 w1 hown1 hgrow
                  obtain ⟨g', cap', rfl⟩ := ownsRow_succ hown1
                  have hc1 := (Boxed.kept (Boxed.alloc (show Boxed W.drew (w.heap.size + 1 + 1) 44 v from hv) _) hgrow (fun e => by have := (World.ownsRow.lt hrow _ e.symm).1; omega)).cell
                  have hf1 := (Boxed.kept (Boxed.alloc (show Boxed W.drew (w.heap.size + 1 + 1) 44 v from hv) _) hgrow (fun e => by have := (World.ownsRow.lt hrow _ e.symm).1; omega)).frozen
                  refine hK _ _ ?_
                  clear hK K
                  refine wpAnyIn_ready (rs := [7]) (by kernel_rfl) (by simp) ?_
                  refine AllReadyIn.cons rfl (fun K hK => ?_) ?_
                  · go_simp
                    refine hK _ _ ?_
                    clear hK K
                    refine wpAnyIn_done (by kernel_rfl) ?_ _
                    exact FIN _ _ _ hown1 hgrow
                  exact AllReadyIn.nil
                exact AllReadyIn.nil
              exact AllReadyIn.nil
            exact AllReadyIn.nil
          exact AllReadyIn.nil
        refine AllReadyIn.cons rfl (fun K hK => ?_) ?_
        · go_simp
          refine hK _ _ ?_
          clear hK K
          refine wpAnyIn_ready (rs := [1]) (by kernel_rfl) (by simp) ?_
          refine AllReadyIn.cons rfl (fun K hK => ?_) ?_
          · go_simp
            refine hK _ _ ?_
            clear hK K
            refine wpAnyIn_ready (rs := [4]) (by kernel_rfl) (by simp) ?_
            refine AllReadyIn.cons rfl (fun K hK => ?_) ?_
            · go_simp
              gi_wp2_with (refine ⟨trivial, ?_⟩; gi_at_call 74; refine (CallsIn.inRound l (callsIn_wide.2 (hPP _))).mono ?_; rintro e w' ⟨rfl, rfl⟩)
              refine wpAnyIn_ready (rs := [5]) (by kernel_rfl) (by simp) ?_
              refine AllReadyIn.cons rfl (fun K hK => ?_) ?_
              · go_simp
                refine hK _ _ ?_
                clear hK K
                refine wpAnyIn_ready (rs := [6]) (by kernel_rfl) (by simp) ?_
                refine AllReadyIn.cons rfl (fun K hK => ?_) ?_
                · refine stepIn_append_own (by rfl) _ _ 44 (by rfl) (w.heap.size + 4) 2 i0 (.int .i64 0) 1 8 Tryd.underlying44 hi hz0 hz1 hz2 rfl (by decide) v _ _ (by rfl) ((show W.drew.ownsRow (w.heap.size + 4) 2 1 v pre.length (ints (partW g a pre)) from hrow).alloc _) ⟨W.heap.size, 0, none⟩ 1 1 [.int .i64 q] (by rfl) rfl (cell_one_new _ _ _) (by simp [Value.oneCell']) (by omega) (by omega) (by simp; omega) ?_
                  intro v1 w1 hown1 hgrow
                  obtain ⟨g', cap', rfl⟩ := ownsRow_succ hown1
                  have hc1 := (Boxed.kept (Boxed.alloc (show Boxed W.drew (w.heap.size + 1 + 1) 44 v from hv) _) hgrow (fun e => by have := (World.ownsRow.lt hrow _ e.symm).1; omega)).cell
                  have hf1 := (Boxed.kept (Boxed.alloc (show Boxed W.drew (w.heap.size + 1 + 1) 44 v from hv) _) hgrow (fun e => by have := (World.ownsRow.lt hrow _ e.symm).1; omega)).frozen
                  refine hK _ _ ?_
                  clear hK K
                  refine wpAnyIn_ready (rs := [7]) (by kernel_rfl) (by simp) ?_
                  refine AllReadyIn.cons rfl (fun K hK => ?_) ?_
                  · go_simp
                    refine hK _ _ ?_
                    clear hK K
                    refine wpAnyIn_done (by kernel_rfl) ?_ _
                    exact FIN _ _ _ hown1 hgrow
                  exact AllReadyIn.nil
                exact AllReadyIn.nil
              exact AllReadyIn.nil
            exact AllReadyIn.nil
          exact AllReadyIn.nil
        exact AllReadyIn.nil
      refine AllReadyIn.cons rfl (fun K hK => ?_) ?_
      · go_simp
        refine hK _ _ ?_
        clear hK K
        refine wpAnyIn_ready (rs := [0, 2]) (by kernel_rfl) (by simp) ?_
        refine AllReadyIn.cons rfl (fun K hK => ?_) ?_
        · go_simp
          refine hK _ _ ?_
          clear hK K
          refine wpAnyIn_ready (rs := [2]) (by kernel_rfl) (by simp) ?_
          refine AllReadyIn.cons rfl (fun K hK => ?_) ?_
          · go_simp
            refine hK _ _ ?_
            clear hK K
            refine wpAnyIn_ready (rs := [4]) (by kernel_rfl) (by simp) ?_
            refine AllReadyIn.cons rfl (fun K hK => ?_) ?_
            · go_simp
              gi_wp2_with (refine ⟨trivial, ?_⟩; gi_at_call 74; refine (CallsIn.inRound l (callsIn_wide.2 (hPP _))).mono ?_; rintro e w' ⟨rfl, rfl⟩)
              refine wpAnyIn_ready (rs := [5]) (by kernel_rfl) (by simp) ?_
              refine AllReadyIn.cons rfl (fun K hK => ?_) ?_
              · go_simp
                refine hK _ _ ?_
                clear hK K
                refine wpAnyIn_ready (rs := [6]) (by kernel_rfl) (by simp) ?_
                refine AllReadyIn.cons rfl (fun K hK => ?_) ?_
                · refine stepIn_append_own (by rfl) _ _ 44 (by rfl) (w.heap.size + 4) 2 i0 (.int .i64 0) 1 8 Tryd.underlying44 hi hz0 hz1 hz2 rfl (by decide) v _ _ (by rfl) ((show W.drew.ownsRow (w.heap.size + 4) 2 1 v pre.length (ints (partW g a pre)) from hrow).alloc _) ⟨W.heap.size, 0, none⟩ 1 1 [.int .i64 q] (by rfl) rfl (cell_one_new _ _ _) (by simp [Value.oneCell']) (by omega) (by omega) (by simp; omega) ?_
                  intro v1 w1 hown1 hgrow
                  obtain ⟨g', cap', rfl⟩ := ownsRow_succ hown1
                  have hc1 := (Boxed.kept (Boxed.alloc (show Boxed W.drew (w.heap.size + 1 + 1) 44 v from hv) _) hgrow (fun e => by have := (World.ownsRow.lt hrow _ e.symm).1; omega)).cell
                  have hf1 := (Boxed.kept (Boxed.alloc (show Boxed W.drew (w.heap.size + 1 + 1) 44 v from hv) _) hgrow (fun e => by have := (World.ownsRow.lt hrow _ e.symm).1; omega)).frozen
                  refine hK _ _ ?_
                  clear hK K
                  refine wpAnyIn_ready (rs := [7]) (by kernel_rfl) (by simp) ?_
                  refine AllReadyIn.cons rfl (fun K hK => ?_) ?_
                  · go_simp
                    refine hK _ _ ?_
                    clear hK K
                    refine wpAnyIn_done (by kernel_rfl) ?_ _
                    exact FIN _ _ _ hown1 hgrow
                  exact AllReadyIn.nil
                exact AllReadyIn.nil
              exact AllReadyIn.nil
            exact AllReadyIn.nil
          exact AllReadyIn.nil
        refine AllReadyIn.cons rfl (fun K hK => ?_) ?_
        · go_simp
          refine hK _ _ ?_
          clear hK K
          refine wpAnyIn_ready (rs := [0, 4]) (by kernel_rfl) (by simp) ?_
          refine AllReadyIn.cons rfl (fun K hK => ?_) ?_
          · go_simp
            refine hK _ _ ?_
            clear hK K
            refine wpAnyIn_ready (rs := [4]) (by kernel_rfl) (by simp) ?_
            refine AllReadyIn.cons rfl (fun K hK => ?_) ?_
            · go_simp
              gi_wp2_with (refine ⟨trivial, ?_⟩; gi_at_call 74; refine (CallsIn.inRound l (callsIn_wide.2 (hPP _))).mono ?_; rintro e w' ⟨rfl, rfl⟩)
              refine wpAnyIn_ready (rs := [5]) (by kernel_rfl) (by simp) ?_
              refine AllReadyIn.cons rfl (fun K hK => ?_) ?_
              · go_simp
                refine hK _ _ ?_
                clear hK K
                refine wpAnyIn_ready (rs := [6]) (by kernel_rfl) (by simp) ?_
                refine AllReadyIn.cons rfl (fun K hK => ?_) ?_
                · refine stepIn_append_own (by rfl) _ _ 44 (by rfl) (w.heap.size + 4) 2 i0 (.int .i64 0) 1 8 Tryd.underlying44 hi hz0 hz1 hz2 rfl (by decide) v _ _ (by rfl) ((show W.drew.ownsRow (w.heap.size + 4) 2 1 v pre.length (ints (partW g a pre)) from hrow).alloc _) ⟨W.heap.size, 0, none⟩ 1 1 [.int .i64 q] (by rfl) rfl (cell_one_new _ _ _) (by simp [Value.oneCell']) (by omega) (by omega) (by simp; omega) ?_
                  intro v1 w1 hown1 hgrow
                  obtain ⟨g', cap', rfl⟩ := ownsRow_succ hown1
                  have hc1 := (Boxed.kept (Boxed.alloc (show Boxed W.drew (w.heap.size + 1 + 1) 44 v from hv) _) hgrow (fun e => by have := (World.ownsRow.lt hrow _ e.symm).1; omega)).cell
                  have hf1 := (Boxed.kept (Boxed.alloc (show Boxed W.drew (w.heap.size + 1 + 1) 44 v from hv) _) hgrow (fun e => by have := (World.ownsRow.lt hrow _ e.symm).1; omega)).frozen
                  refine hK _ _ ?_
                  clear hK K
                  refine wpAnyIn_ready (rs := [7]) (by kernel_rfl) (by simp) ?_
                  refine AllReadyIn.cons rfl (fun K hK => ?_) ?_
                  · go_simp
                    refine hK _ _ ?_
                    clear hK K
                    refine wpAnyIn_done (by kernel_rfl) ?_ _
                    exact FIN _ _ _ hown1 hgrow
                  exact AllReadyIn.nil
                exact AllReadyIn.nil
              exact AllReadyIn.nil
            exact AllReadyIn.nil
          refine AllReadyIn.cons rfl (fun K hK => ?_) ?_
          · go_simp
            gi_wp2_with (refine ⟨trivial, ?_⟩; gi_at_call 74; refine (CallsIn.inRound l (callsIn_wide.2 (hPP _))).mono ?_; rintro e w' ⟨rfl, rfl⟩)
            refine wpAnyIn_ready (rs := [0, 5]) (by kernel_rfl) (by simp) ?_
            refine AllReadyIn.cons rfl (fun K hK => ?_) ?_
            · go_simp
              refine hK _ _ ?_
              clear hK K
              refine wpAnyIn_ready (rs := [5]) (by kernel_rfl) (by simp) ?_
              refine AllReadyIn.cons rfl (fun K hK => ?_) ?_
              · go_simp
                refine hK _ _ ?_
                clear hK K
                refine wpAnyIn_ready (rs := [6]) (by kernel_rfl) (by simp) ?_
                refine AllReadyIn.cons rfl (fun K hK => ?_) ?_
                · refine stepIn_append_own (by rfl) _ _ 44 (by rfl) (w.heap.size + 4) 2 i0 (.int .i64 0) 1 8 Tryd.underlying44 hi hz0 hz1 hz2 rfl (by decide) v _ _ (by rfl) ((show W.drew.ownsRow (w.heap.size + 4) 2 1 v pre.length (ints (partW g a pre)) from hrow).alloc _) ⟨W.heap.size, 0, none⟩ 1 1 [.int .i64 q] (by rfl) rfl (cell_one_new _ _ _) (by simp [Value.oneCell']) (by omega) (by omega) (by simp; omega) ?_
                  intro v1 w1 hown1 hgrow
                  obtain ⟨g', cap', rfl⟩ := ownsRow_succ hown1
                  have hc1 := (Boxed.kept (Boxed.alloc (show Boxed W.drew (w.heap.size + 1 + 1) 44 v from hv) _) hgrow (fun e => by have := (World.ownsRow.lt hrow _ e.symm).1; omega)).cell
                  have hf1 := (Boxed.kept (Boxed.alloc (show Boxed W.drew (w.heap.size + 1 + 1) 44 v from hv) _) hgrow (fun e => by have := (World.ownsRow.lt hrow _ e.symm).1; omega)).frozen
                  refine hK _ _ ?_
                  clear hK K
                  refine wpAnyIn_ready (rs := [7]) (by kernel_rfl) (by simp) ?_
                  refine AllReadyIn.cons rfl (fun K hK => ?_) ?_
                  · go_simp
                    refine hK _ _ ?_
                    clear hK K
                    refine wpAnyIn_done (by kernel_rfl) ?_ _
                    exact FIN _ _ _ hown1 hgrow
                  exact AllReadyIn.nil
                exact AllReadyIn.nil
              exact AllReadyIn.nil
            refine AllReadyIn.cons rfl (fun K hK => ?_) ?_
            · go_simp
              refine hK _ _ ?_
              clear hK K
              refine wpAnyIn_ready (rs := [0]) (by kernel_rfl) (by simp) ?_
              refine AllReadyIn.cons rfl (fun K hK => ?_) ?_
              · go_simp
                refine hK _ _ ?_
                clear hK K
                refine wpAnyIn_ready (rs := [6]) (by kernel_rfl) (by simp) ?_
                refine AllReadyIn.cons rfl (fun K hK => ?_) ?_
                · refine stepIn_append_own (by rfl) _ _ 44 (by rfl) (w.heap.size + 4) 2 i0 (.int .i64 0) 1 8 Tryd.underlying44 hi hz0 hz1 hz2 rfl (by decide) v _ _ (by rfl) ((show W.drew.ownsRow (w.heap.size + 4) 2 1 v pre.length (ints (partW g a pre)) from hrow).alloc _) ⟨W.heap.size, 0, none⟩ 1 1 [.int .i64 q] (by rfl) rfl (cell_one_new _ _ _) (by simp [Value.oneCell']) (by omega) (by omega) (by simp; omega) ?_
                  intro v1 w1 hown1 hgrow
                  obtain ⟨g', cap', rfl⟩ := ownsRow_succ hown1
                  have hc1 := (Boxed.kept (Boxed.alloc (show Boxed W.drew (w.heap.size + 1 + 1) 44 v from hv) _) hgrow (fun e => by have := (World.ownsRow.lt hrow _ e.symm).1; omega)).cell
                  have hf1 := (Boxed.kept (Boxed.alloc (show Boxed W.drew (w.heap.size + 1 + 1) 44 v from hv) _) hgrow (fun e => by have := (World.ownsRow.lt hrow _ e.symm).1; omega)).frozen
                  refine hK _ _ ?_
                  clear hK K
                  refine wpAnyIn_ready (rs := [7]) (by kernel_rfl) (by simp) ?_
                  refine AllReadyIn.cons rfl (fun K hK => ?_) ?_
                  · go_simp
                    refine hK _ _ ?_
                    clear hK K
                    refine wpAnyIn_done (by kernel_rfl) ?_ _
                    exact FIN _ _ _ hown1 hgrow
                  exact AllReadyIn.nil
                exact AllReadyIn.nil
              exact AllReadyIn.nil
            exact AllReadyIn.nil
          exact AllReadyIn.nil
        exact AllReadyIn.nil
      refine AllReadyIn.cons rfl (fun K hK => ?_) ?_
      · go_simp
        refine hK _ _ ?_
        clear hK K
        refine wpAnyIn_ready (rs := [0, 1]) (by kernel_rfl) (by simp) ?_
        refine AllReadyIn.cons rfl (fun K hK => ?_) ?_
        · go_simp
          refine hK _ _ ?_
          clear hK K
          refine wpAnyIn_ready (rs := [1]) (by kernel_rfl) (by simp) ?_
          refine AllReadyIn.cons rfl (fun K hK => ?_) ?_
          · go_simp
            refine hK _ _ ?_
            clear hK K
            refine wpAnyIn_ready (rs := [4]) (by kernel_rfl) (by simp) ?_
            refine AllReadyIn.cons rfl (fun K hK => ?_) ?_
            · go_simp
              gi_wp2_with (refine ⟨trivial, ?_⟩; gi_at_call 74; refine (CallsIn.inRound l (callsIn_wide.2 (hPP _))).mono ?_; rintro e w' ⟨rfl, rfl⟩)
              refine wpAnyIn_ready (rs := [5]) (by kernel_rfl) (by simp) ?_
              refine AllReadyIn.cons rfl (fun K hK => ?_) ?_
              · go_simp
                refine hK _ _ ?_
                clear hK K
                refine wpAnyIn_ready (rs := [6]) (by kernel_rfl) (by simp) ?_
                refine AllReadyIn.cons rfl (fun K hK => ?_) ?_
                · refine stepIn_append_own (by rfl) _ _ 44 (by rfl) (w.heap.size + 4) 2 i0 (.int .i64 0) 1 8 Tryd.underlying44 hi hz0 hz1 hz2 rfl (by decide) v _ _ (by rfl) ((show W.drew.ownsRow (w.heap.size + 4) 2 1 v pre.length (ints (partW g a pre)) from hrow).alloc _) ⟨W.heap.size, 0, none⟩ 1 1 [.int .i64 q] (by rfl) rfl (cell_one_new _ _ _) (by simp [Value.oneCell']) (by omega) (by omega) (by simp; omega) ?_
                  intro v1 w1 hown1 hgrow
                  obtain ⟨g', cap', rfl⟩ := ownsRow_succ hown1
                  have hc1 := (Boxed.kept (Boxed.alloc (show Boxed W.drew (w.heap.size + 1 + 1) 44 v from hv) _) hgrow (fun e => by have := (World.ownsRow.lt hrow _ e.symm).1; omega)).cell
                  have hf1 := (Boxed.kept (Boxed.alloc (show Boxed W.drew (w.heap.size + 1 + 1) 44 v from hv) _) hgrow (fun e => by have := (World.ownsRow.lt hrow _ e.symm).1; omega)).frozen
                  refine hK _ _ ?_
                  clear hK K
                  refine wpAnyIn_ready (rs := [7]) (by kernel_rfl) (by simp) ?_
                  refine AllReadyIn.cons rfl (fun K hK => ?_) ?_
                  · go_simp
                    refine hK _ _ ?_
                    clear hK K
                    refine wpAnyIn_done (by kernel_rfl) ?_ _
                    exact FIN _ _ _ hown1 hgrow
                  exact AllReadyIn.nil
                exact AllReadyIn.nil
              exact AllReadyIn.nil
            exact AllReadyIn.nil
          exact AllReadyIn.nil
        refine AllReadyIn.cons rfl (fun K hK => ?_) ?_
        · go_simp
          refine hK _ _ ?_
          clear hK K
          refine wpAnyIn_ready (rs := [0, 4]) (by kernel_rfl) (by simp) ?_
          refine AllReadyIn.cons rfl (fun K hK => ?_) ?_
          · go_simp
            refine hK _ _ ?_
            clear hK K
            refine wpAnyIn_ready (rs := [4]) (by kernel_rfl) (by simp) ?_
            refine AllReadyIn.cons rfl (fun K hK => ?_) ?_
            · go_simp
              gi_wp2_with (refine ⟨trivial, ?_⟩; gi_at_call 74; refine (CallsIn.inRound l (callsIn_wide.2 (hPP _))).mono ?_; rintro e w' ⟨rfl, rfl⟩)
              refine wpAnyIn_ready (rs := [5]) (by kernel_rfl) (by simp) ?_
              refine AllReadyIn.cons rfl (fun K hK => ?_) ?_
              · go_simp
                refine hK _ _ ?_
                clear hK K
                refine wpAnyIn_ready (rs := [6]) (by kernel_rfl) (by simp) ?_
                refine AllReadyIn.cons rfl (fun K hK => ?_) ?_
                · refine stepIn_append_own (by rfl) _ _ 44 (by rfl) (w.heap.size + 4) 2 i0 (.int .i64 0) 1 8 Tryd.underlying44 hi hz0 hz1 hz2 rfl (by decide) v _ _ (by rfl) ((show W.drew.ownsRow (w.heap.size + 4) 2 1 v pre.length (ints (partW g a pre)) from hrow).alloc _) ⟨W.heap.size, 0, none⟩ 1 1 [.int .i64 q] (by rfl) rfl (cell_one_new _ _ _) (by simp [Value.oneCell']) (by omega) (by omega) (by simp; omega) ?_
                  intro v1 w1 hown1 hgrow
                  obtain ⟨g', cap', rfl⟩ := ownsRow_succ hown1
                  have hc1 := (Boxed.kept (Boxed.alloc (show Boxed W.drew (w.heap.size + 1 + 1) 44 v from hv) _) hgrow (fun e => by have := (World.ownsRow.lt hrow _ e.symm).1; omega)).cell
                  have hf1 := (Boxed.kept (Boxed.alloc (show Boxed W.drew (w.heap.size + 1 + 1) 44 v from hv) _) hgrow (fun e => by have := (World.ownsRow.lt hrow _ e.symm).1; omega)).frozen
                  refine hK _ _ ?_
                  clear hK K
                  refine wpAnyIn_ready (rs := [7]) (by kernel_rfl) (by simp) ?_
                  refine AllReadyIn.cons rfl (fun K hK => ?_) ?_
                  · go_simp
                    refine hK _ _ ?_
                    clear hK K
                    refine wpAnyIn_done (by kernel_rfl) ?_ _
                    exact FIN _ _ _ hown1 hgrow
                  exact AllReadyIn.nil
                exact AllReadyIn.nil
              exact AllReadyIn.nil
            exact AllReadyIn.nil
          refine AllReadyIn.cons rfl (fun K hK => ?_) ?_
          · go_simp
            gi_wp2_with (refine ⟨trivial, ?_⟩; gi_at_call 74; refine (CallsIn.inRound l (callsIn_wide.2 (hPP _))).mono ?_; rintro e w' ⟨rfl, rfl⟩)
            refine wpAnyIn_ready (rs := [0, 5]) (by kernel_rfl) (by simp) ?_
            refine AllReadyIn.cons rfl (fun K hK => ?_) ?_
            · go_simp
              refine hK _ _ ?_
              clear hK K
              refine wpAnyIn_ready (rs := [5]) (by kernel_rfl) (by simp) ?_
              refine AllReadyIn.cons rfl (fun K hK => ?_) ?_
              · go_simp
                refine hK _ _ ?_
                clear hK K
                refine wpAnyIn_ready (rs := [6]) (by kernel_rfl) (by simp) ?_
                refine AllReadyIn.cons rfl (fun K hK => ?_) ?_
                · refine stepIn_append_own (by rfl) _ _ 44 (by rfl) (w.heap.size + 4) 2 i0 (.int .i64 0) 1 8 Tryd.underlying44 hi hz0 hz1 hz2 rfl (by decide) v _ _ (by rfl) ((show W.drew.ownsRow (w.heap.size + 4) 2 1 v pre.length (ints (partW g a pre)) from hrow).alloc _) ⟨W.heap.size, 0, none⟩ 1 1 [.int .i64 q] (by rfl) rfl (cell_one_new _ _ _) (by simp [Value.oneCell']) (by omega) (by omega) (by simp; omega) ?_
                  intro v1 w1 hown1 hgrow
                  obtain ⟨g', cap', rfl⟩ := ownsRow_succ hown1
                  have hc1 := (Boxed.kept (Boxed.alloc (show Boxed W.drew (w.heap.size + 1 + 1) 44 v from hv) _) hgrow (fun e => by have := (World.ownsRow.lt hrow _ e.symm).1; omega)).cell
                  have hf1 := (Boxed.kept (Boxed.alloc (show Boxed W.drew (w.heap.size + 1 + 1) 44 v from hv) _) hgrow (fun e => by have := (World.ownsRow.lt hrow _ e.symm).1; omega)).frozen
                  refine hK _ _ ?_
                  clear hK K
                  refine wpAnyIn_ready (rs := [7]) (by kernel_rfl) (by simp) ?_
                  refine AllReadyIn.cons rfl (fun K hK => ?_) ?_
                  · go_simp
                    refine hK _ _ ?_
                    clear hK K
                    refine wpAnyIn_done (by kernel_rfl) ?_ _
                    exact FIN _ _ _ hown1 hgrow
                  exact AllReadyIn.nil
                exact AllReadyIn.nil
              exact AllReadyIn.nil
            refine AllReadyIn.cons rfl (fun K hK => ?_) ?_
            · go_simp
              refine hK _ _ ?_
              clear hK K
              refine wpAnyIn_ready (rs := [0]) (by kernel_rfl) (by simp) ?_
              refine AllReadyIn.cons rfl (fun K hK => ?_) ?_
              · go_simp
                refine hK _ _ ?_
                clear hK K
                refine wpAnyIn_ready (rs := [6]) (by kernel_rfl) (by simp) ?_
                refine AllReadyIn.cons rfl (fun K hK => ?_) ?_
                · refine stepIn_append_own (by rfl) _ _ 44 (by rfl) (w.heap.size + 4) 2 i0 (.int .i64 0) 1 8 Tryd.underlying44 hi hz0 hz1 hz2 rfl (by decide) v _ _ (by rfl) ((show W.drew.ownsRow (w.heap.size + 4) 2 1 v pre.length (ints (partW g a pre)) from hrow).alloc _) ⟨W.heap.size, 0, none⟩ 1 1 [.int .i64 q] (by rfl) rfl (cell_one_new _ _ _) (by simp [Value.oneCell']) (by omega) (by omega) (by simp; omega) ?_
                  intro v1 w1 hown1 hgrow
                  obtain ⟨g', cap', rfl⟩ := ownsRow_succ hown1
                  have hc1 := (Boxed.kept (Boxed.alloc (show Boxed W.drew (w.heap.size + 1 + 1) 44 v from hv) _) hgrow (fun e => by have := (World.ownsRow.lt hrow _ e.symm).1; omega)).cell
                  have hf1 := (Boxed.kept (Boxed.alloc (show Boxed W.drew (w.heap.size + 1 + 1) 44 v from hv) _) hgrow (fun e => by have := (World.ownsRow.lt hrow _ e.symm).1; omega)).frozen
                  refine hK _ _ ?_
                  clear hK K
                  refine wpAnyIn_ready (rs := [7]) (by kernel_rfl) (by simp) ?_
                  refine AllReadyIn.cons rfl (fun K hK => ?_) ?_
                  · go_simp
                    refine hK _ _ ?_
                    clear hK K
                    refine wpAnyIn_done (by kernel_rfl) ?_ _
                    exact FIN _ _ _ hown1 hgrow
                  exact AllReadyIn.nil
                exact AllReadyIn.nil
              exact AllReadyIn.nil
            exact AllReadyIn.nil
          exact AllReadyIn.nil
        exact AllReadyIn.nil
      exact AllReadyIn.nil
    exact AllReadyIn.nil
  case done =>
    rintro D ys W hD rfl ⟨⟨⟨v, hv, hrow, -⟩, _, _, _⟩, hB⟩ hK
    have hc := hv.cell
    go_wp2
    refine ⟨by simp, .inl ⟨_, _, rfl, run_takeDeferred hK, ?_⟩⟩
    refine ⟨.tuple #[v, .int .i64 0], by simp [results, Tryd.results24, go_sem], v, rfl, ?_, hB.trans (belowK_b (w := w) (Nat.le_refl _) W D _ _ (by omega) hK rfl rfl)⟩
    rw [← partW_all g a d hd]
    exact ups (ownsRow_putObj hrow _ hK rfl) (Nat.le_add_right _ 4)
  case stop =>
    rintro D c pre W _ _ hh _
    exact hh.elim


end Go.Proofs.YtbnihalbepffoaaDoor.sines
