/- Whether colours are enough; the fewest colours: contracts of the program. -/
import Derived.Test.YtemhmejjmhbfdaaDoorColsP8
namespace Go.Proofs.YtemhmejjmhbfdaaDoor.sines
open Go.ChangeShapes Go.WideShapes Go.ChangeAt Go.RowKit Go.Shelf Go.Proofs.YtemhmejjmhbfdaaDoor.spots Go.Proofs.YtemhmejjmhbfdaaDoor.irows Go.Proofs.YtemhmejjmhbfdaaDoor.pairsBorder
attribute [local go_sem] Oper.semAt_some
set_option linter.unusedSimpArgs false
set_option linter.unusedVariables false
set_option maxRecDepth 100000 in
set_option maxHeartbeats 4000000 in
theorem isEnough_any (mv : Value) (L m : Nat) (ps : List (Int × Int)) (w : World) (hM : MB w mv L (maskN ps)) (ho : okPs ps) (hL : L ≤ 10) (hm : m ≤ 10) :
    Calls Tryd.prog 17 #[mv, .int .i64 (m : Int)] w fun e w' => e = .returned (.bool (decide (canon ps m L [] ≠ []))) ∧ Below w.heap.size w w' := by
  have HM := Lib.hid hM
  obtain ⟨gm, rfl, _⟩ := hM
  have hL2 : (L : Int) ≤ 10 := by omega
  refine (callsIn_wide (n := 5)).1 ?_
  refine callsIn_of_wp_marks Tryd.func17 rfl trivial ?_ rfl
  simp only [Tryd.ntmps17, List.size_toArray, List.length_cons, List.length_nil, Nat.reduceAdd, Nat.reduceSub, Array.replicate_succ, Array.replicate_zero, List.push_toArray, List.append_toArray, List.nil_append, List.cons_append]
  refine wpIn_wide.2 ?_
  go_wp2_with fail
  have zL : (w.alloc (.cells #[.bool false] 4)).heap.size = w.heap.size + 1 := by simp
  have B0 := Lib.hid (show Below w.heap.size w (w.alloc (.cells #[.bool false] 4)) from (Below.refl _ w).alloc (Nat.le_refl _) _)
  have bO := Lib.hid (Boxed.new w 4 (.bool false))
  generalize w.alloc (.cells #[.bool false] 4) = wL at *
  refine (paintings_any gm L L m wL).mono ?_
  rintro e w1 ⟨rfl, hp, hb⟩
  have B1 := Lib.hid (B0.out.trans (hb.mono B0.out.size))
  have b1 := Lib.hid (show Boxed w1 w.heap.size 4 (.bool false) from bO.out.kept (grown_of hb) (by simp))
  have zL1 : w.heap.size < w1.heap.size := b1.out.lt
  rw [zL] at hp
  have HP := Lib.hid hp
  clear hp hb
  go_wp2
  refine (wpIn_wide (n := 5)).1 ?_
  refine' wpIn_rangeFunc_ownF (F := Fence.wide) (n := 5) rfl (by omega) (gf := 32) (lb := itP (w.heap.size + 1)) rfl trivial (enters_of Tryd.func32 (by kernel_rfl) rfl)
    (paints_stops (5 - 1) (w.heap.size + 1) w.heap.size L L m L (.slice (some ⟨gm, 0, none⟩) L L) [] ps ho (Nat.le_refl _) hL hm (by simp) (by simp) (by simp [usedL]) w1 HP.out (mb_mbl HM.out B1.out (Nat.le_refl _)) zL1) kpX_t kpX_b (Below.refl _ _) (fun _ => rfl)
    (fun pre W => (pre = [] ∧ Boxed W w.heap.size 4 (.bool false)) ∧ Below w.heap.size w W)
    (fun c pre W => (c = .ret ∧ pre ≠ [] ∧ Boxed W w.heap.size 4 (.bool true)) ∧ Below w.heap.size w W)
    (OwnFrom.and (Own.from (fun s A B row hs hg hr => ⟨hs.1, boxed_own w.heap.size 4 (fun _ : List (List Int) => Value.bool false) s A B row hs.2 hg hr⟩) _) (ownFrom_below (Nat.le_refl _) (by omega)))
    (fun c => OwnFrom.and (Own.from (fun s A B row hs hg hr => ⟨hs.1, hs.2.1, boxed_own w.heap.size 4 (fun _ : List (List Int) => Value.bool true) s A B row hs.2.2 hg hr⟩) _) (ownFrom_below (Nat.le_refl _) (by omega)))
    ⟨⟨rfl, b1.out⟩, B1.out⟩
    _ ?assign ?body ?done ?stop
  case assign =>
    intro l x W K hK
    gi_wp2
    exact hK
  case body =>
    rintro l pre x W ⟨⟨rfl, hv⟩, hB⟩ hlt
    have hc := hv.cell
    have hf := hv.frozen
    gi_wp2
    exact ⟨KeepsOthers.setCell _ _ _, ⟨rfl, by simp, hv.set _⟩, hB.setCell (p := ⟨w.heap.size, 0, none⟩) (by simp) _⟩
  case done =>
    rintro D ys W hD hys ⟨⟨rfl, hv⟩, hB⟩ hK
    have hc := hv.cell
    have hf := hv.frozen
    have hdf : decide (canon ps m L [] ≠ []) = false := decide_eq_false (by rw [← hys]; simp)
    have HDF := Lib.hid hdf
    clear hdf
    go_wp2
    have hK' := (KeepsOthers.setCell W ⟨w.heap.size, 0, none⟩ (.bool false)).same D _ hK rfl
    refine ⟨by simp, .inl ⟨_, _, rfl, run_takeDeferred hK', ?_⟩⟩
    have hc5 := ((hv.set (.bool false)).kept (grownBy_putObj' _ D (.deferred none)) (by simp; omega)).cell
    refine ⟨.bool false, ?_, by rw [HDF.out], (hB.setCell (p := ⟨w.heap.size, 0, none⟩) (by simp) _).trans (belowK_b (w := w1) (by omega) _ D _ _ hD hK' rfl rfl)⟩
    simp [results, Tryd.results17, go_sem, hc5]
  case stop =>
    rintro D c pre W hD hpre ⟨⟨rfl, hin, hv⟩, hB⟩ hK
    have hne : canon ps m L [] ≠ [] := fun h => by rw [h] at hpre; exact hin (List.prefix_nil.1 hpre)
    have HDF := Lib.hid (decide_eq_true hne)
    gi_wp2
    refine ⟨by simp, .inl ⟨_, _, rfl, run_takeDeferred hK, ?_⟩⟩
    have hc5 := (hv.kept (grownBy_putObj' _ D (.deferred none)) (by simp; omega)).cell
    refine ⟨.bool true, ?_, by rw [HDF.out], hB.trans (belowK_b (w := w1) (by omega) W D _ _ hD hK rfl rfl)⟩
    simp [results, Tryd.results17, go_sem, hc5]
end Go.Proofs.YtemhmejjmhbfdaaDoor.sines
