/- Chains: the longest steps, picked points. -/
import Derived.Test.YtemhmejjmhbfdabChain2
namespace Go.Proofs.Ytemhmejjmhbfdab.sines
open Go.ChangeShapes Go.WideShapes Go.ChangeAt Go.RowKit Go.Proofs.Ytemhmejjmhbfdab.spots
set_option linter.unusedVariables false
/-- The last point, not behind t, to which a line may stand. -/
def lastW (W : Nat → Nat → Bool) (i : Nat) : Nat → Nat
  | 0 => 0
  | t + 1 => if W i (t + 1) = true then t + 1 else lastW W i t
theorem lastW_facts {W : Nat → Nat → Bool} {i : Nat} (hW : W i (i + 1) = true) : ∀ t, i < t → i < lastW W i t ∧ lastW W i t ≤ t ∧ W i (lastW W i t) = true ∧ ∀ k, lastW W i t < k → k ≤ t → W i k = false
  | 0, h => by omega
  | t + 1, h => by
    unfold lastW
    split
    · rename_i hw
      exact ⟨h, Nat.le_refl _, hw, fun k h1 h2 => by omega⟩
    · rename_i hw
      have ht : i ≠ t := fun e => hw (by rw [← e]; exact hW)
      obtain ⟨a, b, c, d⟩ := lastW_facts hW t (by omega)
      refine ⟨a, by omega, c, fun k h1 h2 => ?_⟩
      by_cases e : k = t + 1
      · subst e; simpa using hw
      · exact d k h1 (by omega)
/-- The longest steps. -/
def longL (W : Nat → Nat → Bool) (n : Nat) : Nat → Nat → List Nat
  | 0, i => [i]
  | f + 1, i => if i + 1 < n then i :: longL W n f (lastW W i (n - 1)) else [i]
theorem longL_facts {W : Nat → Nat → Bool} {n : Nat} (hW : ∀ k, k + 1 < n → W k (k + 1) = true) : ∀ (f i : Nat), i < n → n ≤ i + 1 + f → IsWay W n i (longL W n f i) ∧ (longL W n f i).length ≤ n - i ∧ ∃ r, longL W n f i = i :: r
  | 0, i, h1, h2 => ⟨⟨rfl, by omega⟩, by simp [longL]; omega, ⟨[], rfl⟩⟩
  | f + 1, i, h1, h2 => by
    unfold longL
    split
    · rename_i hlt
      obtain ⟨a1, a2, a3, _⟩ := lastW_facts (hW i hlt) (n - 1) (by omega)
      obtain ⟨w1, w2, r, w3⟩ := longL_facts hW f (lastW W i (n - 1)) (by omega) (by omega)
      refine ⟨?_, by rw [List.length_cons]; omega, ⟨_, rfl⟩⟩
      rw [w3] at w1 ⊢
      exact ⟨rfl, a1, by omega, a3, w1⟩
    · exact ⟨⟨rfl, by omega⟩, by simp; omega, ⟨[], rfl⟩⟩
def stepsL (ps : List Pl) (d : Int) : List Nat := longL (withinB ps d) ps.length ps.length 0
theorem stepsL_len {ps : List Pl} {d : Int} (h : 0 < ps.length) : (stepsL ps d).length ≤ ps.length := by
  have := (longL_facts (W := withinB ps d) (n := ps.length) (fun k _ => withinB_step ps d k) ps.length 0 h (by omega)).2.1
  simpa [stepsL] using this
/-- Indices that rise, within bounds. -/
def zAt (zs : List Int) (i : Nat) : Int := zs.getD i 0
theorem zAt_eq {zs : List Int} {i : Nat} (h : i < zs.length) : zAt zs i = zs[i] := by simp [zAt, h]
def risesB (zs : List Int) (lo hi : Int) : Bool := (List.range zs.length).all fun i => inB (zAt zs i) lo hi && (decide (i = 0) || decide (zAt zs (i - 1) < zAt zs i))
theorem risesB_iff {zs : List Int} {lo hi : Int} : risesB zs lo hi = true ↔ ∀ i, i < zs.length → inB (zAt zs i) lo hi = true ∧ (0 < i → zAt zs (i - 1) < zAt zs i) := by
  simp only [risesB, List.all_eq_true, List.mem_range, Bool.and_eq_true, Bool.or_eq_true, decide_eq_true_eq]
  constructor
  · intro h i hi
    obtain ⟨h1, h2⟩ := h i hi
    exact ⟨h1, fun h3 => h2.resolve_left (by omega)⟩
  · intro h i hi
    obtain ⟨h1, h2⟩ := h i hi
    refine ⟨h1, ?_⟩
    by_cases h3 : i = 0
    · exact .inl h3
    · exact .inr (h2 (by omega))
theorem risesB_no {zs : List Int} {lo hi : Int} {i : Nat} (h : i < zs.length) (h2 : ¬ (inB (zAt zs i) lo hi = true ∧ (0 < i → zAt zs (i - 1) < zAt zs i))) : risesB zs lo hi = false := by
  cases e : risesB zs lo hi with
  | false => rfl
  | true => exact absurd (risesB_iff.1 e i h) h2
/-- Picked places. -/
def pickL (ps : List Pl) (zs : List Int) : List Pl := zs.map fun z => pAt ps z.toNat
theorem pickL_len (ps : List Pl) (zs : List Int) : (pickL ps zs).length = zs.length := by simp [pickL]
theorem pickL_take {ps : List Pl} {zs : List Int} {k : Nat} (h : k < zs.length) : pickL ps (zs.take (k + 1)) = pickL ps (zs.take k) ++ [((pAt ps (zAt zs k).toNat).1, (pAt ps (zAt zs k).toNat).2)] := by
  unfold pickL
  rw [List.take_add_one, List.getElem?_eq_getElem h, List.map_append, zAt_eq h]
  rfl
end Go.Proofs.Ytemhmejjmhbfdab.sines
