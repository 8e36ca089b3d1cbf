/- The model's picked points: contracts. -/
import Derived.Test.YtemhmejjmhbfdabChainS6
namespace Go.Proofs.Ytemhmejjmhbfdab.sines
open Go.ChangeShapes Go.WideShapes Go.ChangeAt Go.RowKit Go.Proofs.Ytemhmejjmhbfdab.spots Go.Proofs.Ytemhmejjmhbfdab.irows Go.Proofs.Ytemhmejjmhbfdab.pairsPlace
set_option linter.unusedSimpArgs false
set_option linter.unusedVariables false

theorem irow_read {w : World} {B : Nat} {v : Value} {zs : List Int} (h : IRow w B v zs) : ∃ a c, v = .slice a zs.length c ∧ ∀ k, k < zs.length → ∃ g, a = some ⟨g, 0, none⟩ ∧ g < w.heap.size ∧ w.cell? ⟨g, k, none⟩ = some (.int .i64 (zAt zs k)) := by
  obtain ⟨⟨a, c, rfl⟩, _⟩ := irow_shape h
  refine ⟨a, c, rfl, fun k hk => ?_⟩
  obtain ⟨g, e, _, hc⟩ := irow_at h k hk
  exact ⟨g, e, World.block_lt_of_cell? _ _ hc, by rw [zAt_eq hk]; exact hc⟩
def codeP (ps : List Pl) (zs : List Int) : Int := if okC ps = true then (if 2 ≤ zs.length ∧ risesB zs 0 ((ps.length : Int) - 1) = true then 0 else 2) else 1
def pickV (ps : List Pl) (zs : List Int) : List Pl := if codeP ps zs = 0 then pickL ps zs else []
end Go.Proofs.Ytemhmejjmhbfdab.sines
