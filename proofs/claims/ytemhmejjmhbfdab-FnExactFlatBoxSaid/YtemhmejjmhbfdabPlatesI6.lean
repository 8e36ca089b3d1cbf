/- The program's places on maps and back, and what is lost between: contracts. -/
import Derived.Test.YtemhmejjmhbfdabPlatesI5
namespace Go.Proofs.Ytemhmejjmhbfdab.sines
open Go.ChangeShapes Go.WideShapes Go.ChangeAt Go.RowKit Go.Proofs.Ytemhmejjmhbfdab.spots Go.Proofs.Ytemhmejjmhbfdab.pairs
set_option linter.unusedSimpArgs false
set_option linter.unusedVariables false


theorem kept3 {w V0 W : World} {p q r t : Value} {o : Obj} (hz : V0.heap.size = w.heap.size + 3) (u1 : V0.cell? ⟨w.heap.size, 0, none⟩ = some p) (u2 : V0.cell? ⟨w.heap.size, 1, none⟩ = some q) (u3 : V0.cell? ⟨w.heap.size + 1, 0, none⟩ = some r) (u4 : V0.cell? ⟨w.heap.size + 1, 1, none⟩ = some t) (u5 : V0.heap[w.heap.size + 1 + 1]? = some o) (hW : Below V0.heap.size V0 W) (hB : Below w.heap.size w V0) :
    W.cell? ⟨w.heap.size, 0, none⟩ = some p ∧ W.cell? ⟨w.heap.size, 1, none⟩ = some q ∧ W.cell? ⟨w.heap.size + 1, 0, none⟩ = some r ∧ W.cell? ⟨w.heap.size + 1, 1, none⟩ = some t ∧ W.heap[w.heap.size + 1 + 1]? = some o ∧ Below w.heap.size w W :=
  ⟨(hW.cell (p := ⟨w.heap.size, 0, none⟩) (show w.heap.size < V0.heap.size by omega)).trans u1, (hW.cell (p := ⟨w.heap.size, 1, none⟩) (show w.heap.size < V0.heap.size by omega)).trans u2, (hW.cell (p := ⟨w.heap.size + 1, 0, none⟩) (show w.heap.size + 1 < V0.heap.size by omega)).trans u3, (hW.cell (p := ⟨w.heap.size + 1, 1, none⟩) (show w.heap.size + 1 < V0.heap.size by omega)).trans u4, (hW.block _ (by omega)).trans u5, hB.trans (hW.mono hB.size)⟩
theorem isLat8_any (n : Int) (w : World) :
    Calls Try.prog 116 #[.int .i64 n] w fun e w' => e = .returned (.bool (inB n (-324000) 324000)) ∧ w = w' := by
  go_enter Try.func116, Try.ntmps116
  go_wp2_with (go_at_call 66; refine (within_any _ _ _ _).mono ?_; rintro e w' ⟨rfl, rfl⟩)
  go_ret
  exact ⟨rfl, rfl⟩
end Go.Proofs.Ytemhmejjmhbfdab.sines
