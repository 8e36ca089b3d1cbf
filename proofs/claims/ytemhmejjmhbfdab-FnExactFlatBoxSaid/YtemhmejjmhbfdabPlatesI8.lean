/- What is lost between the program's maps and the sphere: contracts. -/
import Derived.Test.YtemhmejjmhbfdabPlatesI7
namespace Go.Proofs.Ytemhmejjmhbfdab.sines
open Go.ChangeShapes Go.WideShapes Go.ChangeAt Go.RowKit Go.Proofs.Ytemhmejjmhbfdab.spots Go.Proofs.Ytemhmejjmhbfdab.pairs
set_option linter.unusedSimpArgs false
set_option linter.unusedVariables false


theorem cells22 (w : World) (a b c d : Value) (T U : TypeId) :
    ((w.alloc (.cells #[a, b] T)).alloc (.cells #[c, d] U)).heap.size = w.heap.size + 2 ∧
    ((w.alloc (.cells #[a, b] T)).alloc (.cells #[c, d] U)).cell? ⟨w.heap.size, 0, none⟩ = some a ∧
    ((w.alloc (.cells #[a, b] T)).alloc (.cells #[c, d] U)).cell? ⟨w.heap.size, 1, none⟩ = some b ∧
    ((w.alloc (.cells #[a, b] T)).alloc (.cells #[c, d] U)).cell? ⟨w.heap.size + 1, 0, none⟩ = some c ∧
    ((w.alloc (.cells #[a, b] T)).alloc (.cells #[c, d] U)).cell? ⟨w.heap.size + 1, 1, none⟩ = some d ∧
    ((w.alloc (.cells #[a, b] T)).alloc (.cells #[c, d] U)).heap[w.heap.size + 1]? = some (.cells #[c, d] U (0, 0)) := by
  have e1 : (w.alloc (.cells #[a, b] T)).heap.size = w.heap.size + 1 := by simp
  have g1 : ((w.alloc (.cells #[a, b] T)).alloc (.cells #[c, d] U)).heap[w.heap.size]? = some (.cells #[a, b] T (0, 0)) := by
    rw [Below.heap_alloc _ _ _ (by rw [e1]; omega)]
    exact heap_alloc_new w _
  have g2 : ((w.alloc (.cells #[a, b] T)).alloc (.cells #[c, d] U)).heap[w.heap.size + 1]? = some (.cells #[c, d] U (0, 0)) := by
    rw [← e1]
    exact heap_alloc_new _ _
  exact ⟨by simp, cell_heap g1 0, cell_heap g1 1, cell_heap g2 0, cell_heap g2 1, g2⟩
theorem kept2 {w V0 W : World} {p q r t : Value} {o : Obj} (hz : V0.heap.size = w.heap.size + 2) (u1 : V0.cell? ⟨w.heap.size, 0, none⟩ = some p) (u2 : V0.cell? ⟨w.heap.size, 1, none⟩ = some q) (u3 : V0.cell? ⟨w.heap.size + 1, 0, none⟩ = some r) (u4 : V0.cell? ⟨w.heap.size + 1, 1, none⟩ = some t) (u5 : V0.heap[w.heap.size + 1]? = some o) (hW : Below V0.heap.size V0 W) :
    W.cell? ⟨w.heap.size, 0, none⟩ = some p ∧ W.cell? ⟨w.heap.size, 1, none⟩ = some q ∧ W.cell? ⟨w.heap.size + 1, 0, none⟩ = some r ∧ W.cell? ⟨w.heap.size + 1, 1, none⟩ = some t ∧ W.heap[w.heap.size + 1]? = some o :=
  ⟨(hW.cell (p := ⟨w.heap.size, 0, none⟩) (show w.heap.size < V0.heap.size by omega)).trans u1, (hW.cell (p := ⟨w.heap.size, 1, none⟩) (show w.heap.size < V0.heap.size by omega)).trans u2, (hW.cell (p := ⟨w.heap.size + 1, 0, none⟩) (show w.heap.size + 1 < V0.heap.size by omega)).trans u3, (hW.cell (p := ⟨w.heap.size + 1, 1, none⟩) (show w.heap.size + 1 < V0.heap.size by omega)).trans u4, (hW.block _ (by omega)).trans u5⟩
theorem drX_bounds {lat lon s : Int} (wave : Bool) (h : okB lat lon = true) (s0 : 1 ≤ s) (s1 : s ≤ 100000) : -2000000 ≤ drX lat lon s wave ∧ drX lat lon s wave ≤ 2000000 ∧ -2000000 ≤ near lat s ∧ near lat s ≤ 2000000 := by
  obtain ⟨h1, h2, h3, h4⟩ := okB_of h
  obtain ⟨p1, p2, _, _⟩ := plate_bounds (n := lat) (N := 324000) h1 h2 (by omega) s0 s1
  obtain ⟨r1, r2, _, _⟩ := plate_bounds (n := lon) (N := 648000) h3 (by omega) (by omega) s0 s1
  obtain ⟨v1, v2, _, _⟩ := waX_bounds h s0 s1
  cases wave with
  | true => simp only [drX, if_true]; omega
  | false => simp only [drX, Bool.false_eq_true, if_false]; omega
theorem loss_read (lat lon s : Int) (wave : Bool) : rdOk (drX lat lon s wave) (near lat s) s wave = lossOk lat lon s wave ∧ (lossOk lat lon s wave = true → rdLat (drX lat lon s wave) (near lat s) s wave - lat = lossN lat s wave ∧ rdLon (drX lat lon s wave) (near lat s) s wave - lon = lossE lat lon s wave) := by
  have e1 : rdOk (drX lat lon s wave) (near lat s) s wave = lossOk lat lon s wave := by cases wave <;> rfl
  refine ⟨e1, fun h => ?_⟩
  unfold rdLat rdLon
  rw [e1, h]
  cases wave <;> exact ⟨rfl, rfl⟩
end Go.Proofs.Ytemhmejjmhbfdab.sines
