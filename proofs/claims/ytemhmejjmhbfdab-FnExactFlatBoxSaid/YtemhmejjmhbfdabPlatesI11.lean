/- Whether a place moves by more than told: contracts of the program. -/
import Derived.Test.YtemhmejjmhbfdabPlatesI10
namespace Go.Proofs.Ytemhmejjmhbfdab.sines
open Go.ChangeShapes Go.WideShapes Go.ChangeAt Go.RowKit Go.Proofs.Ytemhmejjmhbfdab.spots Go.Proofs.Ytemhmejjmhbfdab.pairs
set_option linter.unusedSimpArgs false
set_option linter.unusedVariables false

theorem cells32 (w : World) (a b c d e' : Value) (T U : TypeId) :
    ((w.alloc (.cells #[a, b, c] T)).alloc (.cells #[d, e'] U)).cell? ⟨w.heap.size, 0, none⟩ = some a ∧
    ((w.alloc (.cells #[a, b, c] T)).alloc (.cells #[d, e'] U)).cell? ⟨w.heap.size, 1, none⟩ = some b ∧
    ((w.alloc (.cells #[a, b, c] T)).alloc (.cells #[d, e'] U)).heap[w.heap.size]? = some (.cells #[a, b, c] T (0, 0)) ∧
    ((w.alloc (.cells #[a, b, c] T)).alloc (.cells #[d, e'] U)).cell? ⟨w.heap.size + 1, 0, none⟩ = some d ∧
    ((w.alloc (.cells #[a, b, c] T)).alloc (.cells #[d, e'] U)).cell? ⟨w.heap.size + 1, 1, none⟩ = some e' := by
  have e1 : (w.alloc (.cells #[a, b, c] T)).heap.size = w.heap.size + 1 := by simp
  have g1 : ((w.alloc (.cells #[a, b, c] T)).alloc (.cells #[d, e'] U)).heap[w.heap.size]? = some (.cells #[a, b, c] T (0, 0)) := by
    rw [Below.heap_alloc _ _ _ (by rw [e1]; omega)]
    exact heap_alloc_new w _
  have g2 : ((w.alloc (.cells #[a, b, c] T)).alloc (.cells #[d, e'] U)).heap[w.heap.size + 1]? = some (.cells #[d, e'] U (0, 0)) := by
    rw [← e1]
    exact heap_alloc_new _ _
  exact ⟨cell_heap g1 0, cell_heap g1 1, g1, cell_heap g2 0, cell_heap g2 1⟩
theorem size_in (n m : Int) : decide (max n (-n) ≤ m) = inB n (-m) m := by
  rw [Bool.eq_iff_iff]; simp only [decide_eq_true_eq, inB]; omega
end Go.Proofs.Ytemhmejjmhbfdab.sines
