/- The model's chains joined: contracts. -/
import Derived.Test.YtemhmejjmhbfdabJoinS1
import Derived.Test.YtemhmejjmhbfdabChainS2
namespace Go.Proofs.Ytemhmejjmhbfdab.sines
open Go.ChangeShapes Go.WideShapes Go.ChangeAt Go.RowKit Go.Proofs.Ytemhmejjmhbfdab.spots Go.Proofs.Ytemhmejjmhbfdab.irows Go.Proofs.Ytemhmejjmhbfdab.pairsPlace
set_option linter.unusedSimpArgs false
set_option linter.unusedVariables false

/-- All but the first place of a list that is read. -/
theorem pat_tail {w : World} {B b off n c : Nat} {ps : List Pl} (h : PAt w B (.slice (some ⟨b, off, none⟩) n c) ps) (h1 : 1 ≤ ps.length) : PAt w B (.slice (some ⟨b, off + 2, none⟩) (n - 1) (c - 1)) (ps.drop 1) := by
  obtain ⟨a, c', e, h⟩ := h
  injection e with e1 e2 e3
  subst e1 e2 e3
  refine ⟨some ⟨b, off + 2, none⟩, c - 1, by simp, fun k hk => ?_⟩
  have hk' : k + 1 < ps.length := by simp at hk; omega
  obtain ⟨b', off', e4, hb, c1, c2⟩ := h (k + 1) hk'
  simp only [Option.some.injEq, Addr.mk.injEq, and_true] at e4
  obtain ⟨rfl, rfl⟩ := e4
  refine ⟨b, off + 2, rfl, hb, ?_, ?_⟩
  · rw [show off + 2 + k * 2 = off + (k + 1) * 2 by omega, c1]; simp [Nat.add_comm]
  · rw [show off + 2 + k * 2 + 1 = off + (k + 1) * 2 + 1 by omega, c2]; simp [Nat.add_comm]
theorem ints_flat_len' (ps : List (Int × Int)) : (ints (flat ps)).length = ps.length * 2 := by
  have := flat_len ps
  simp [ints, this]
theorem pat_flat' {w : World} {B n : Nat} {b off c : Nat} {ps : List (Int × Int)} (h : PAt w B (.slice (some ⟨b, off, none⟩) n c) ps) : ∀ j u, (ints (flat ps))[j]? = some u → w.cell? ((⟨b, off, none⟩ : Addr).add j) = some u := by
  intro j u hu
  rw [add_plain']
  obtain ⟨a, c', e, h⟩ := h
  injection e with e1 e2 e3
  subst e1
  have hj : j < ps.length * 2 := by
    have := (List.getElem?_eq_some_iff.1 hu).1
    rwa [ints_flat_len'] at this
  obtain ⟨b', off', e4, _, h1, h2⟩ := h (j / 2) (by omega)
  simp only [Option.some.injEq, Addr.mk.injEq, and_true] at e4
  obtain ⟨rfl, rfl⟩ := e4
  obtain ⟨f1, f2⟩ := flat_at ps (j / 2) (by omega)
  have h3 : j % 2 = 0 ∨ j % 2 = 1 := by omega
  rcases h3 with h | h
  · rw [show j / 2 * 2 = j by omega] at f1
    rw [show off + j / 2 * 2 = off + j by omega] at h1
    rw [h1, ← hu]; simp [ints, f1]
  · rw [show j / 2 * 2 + 1 = j by omega] at f2
    rw [show off + j / 2 * 2 + 1 = off + j by omega] at h2
    rw [h2, ← hu]; simp [ints, f2]
theorem own_zero {w : World} {B : Nat} {v : Value} {ps : List (Int × Int)} (h : w.ownsRow B 120 2 v (0 + ps.length) ([] ++ ints (flat ps))) : PRow w B v ps := by
  unfold PRow
  rw [Nat.zero_add, List.nil_append] at h
  exact h
end Go.Proofs.Ytemhmejjmhbfdab.sines
