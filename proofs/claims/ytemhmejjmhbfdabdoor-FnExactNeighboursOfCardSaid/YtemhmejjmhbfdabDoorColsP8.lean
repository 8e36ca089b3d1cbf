/- Paintings as an iterator; whether colours are enough; the fewest colours: contracts of the program. -/
import Derived.Test.YtemhmejjmhbfdabDoorColsP7
import Derived.Test.YtemhmejjmhbfdabDoorColsF
namespace Go.Proofs.YtemhmejjmhbfdabDoor.sines
open Go.ChangeShapes Go.WideShapes Go.ChangeAt Go.RowKit Go.Shelf Go.Proofs.YtemhmejjmhbfdabDoor.spots Go.Proofs.YtemhmejjmhbfdabDoor.irows Go.Proofs.YtemhmejjmhbfdabDoor.pairsBorder
attribute [local go_sem] Oper.semAt_some
set_option linter.unusedSimpArgs false
set_option linter.unusedVariables false
/-- The neighbours of all lands, in a block. -/
def MB (w : World) (v : Value) (n : Nat) (M : Nat → Nat) : Prop := ∃ gm, v = .slice (some ⟨gm, 0, none⟩) n n ∧ ∃ cs t, w.heap[gm]? = some (.cells cs t (0, 0)) ∧ ∀ k, k < n → cs[k]? = some (.int .u64 (M k : Int))
theorem mown_mb {w : World} {B : Nat} {v : Value} {n : Nat} {M : Nat → Nat} (h : MOwn w B v n M) : MB w v n M := by
  obtain ⟨gm, h1, _, h2⟩ := h
  exact ⟨gm, h1, h2⟩
theorem mb_keep {w w' : World} {v : Value} {n : Nat} {M : Nat → Nat} (h : MB w v n M) (hb : Below w.heap.size w w') : MB w' v n M := by
  obtain ⟨gm, rfl, cs, t, h2, h3⟩ := h
  exact ⟨gm, rfl, cs, t, by rw [hb.block _ (Array.getElem?_eq_some_iff.1 h2).1]; exact h2, h3⟩
theorem mb_mbl {w w' : World} {v : Value} {n g : Nat} {M : Nat → Nat} (h : MB w v n M) (hb : Below w.heap.size w w') (hg : w.heap.size ≤ g) : MBl w' g v n M := by
  obtain ⟨gm, rfl, cs, t, h2, h3⟩ := h
  have hl := (Array.getElem?_eq_some_iff.1 h2).1
  exact ⟨gm, rfl, by omega, cs, t, by rw [hb.block _ hl]; exact h2, h3⟩
end Go.Proofs.YtemhmejjmhbfdabDoor.sines
