/- What the function of colourings wants of the mathematics: enough colours, ways that grow, the fewest is least. -/
import Derived.Test.YtemhmejjmhbfdaaDoorCols
namespace Go.Proofs.YtemhmejjmhbfdaaDoor.sines
set_option linter.unusedSimpArgs false
set_option linter.unusedVariables false

/-- Colours are enough just if there are as many as the fewest. -/
theorem firstC_enough {n : Int} {ps : List (Int × Int)} (h : validC n ps = true) (m : Int) : (firstC n ps m).isSome = decide (fewest n ps ≤ m) := by
  obtain ⟨_, _, a, b⟩ := fewest_is h
  by_cases hm : fewest n ps ≤ m
  · rw [firstC_mono hm a, decide_eq_true hm]
  · rw [b m (by omega), decide_eq_false hm]
/-- Right colours below k: the fewest is k at most. -/
theorem fewest_le {n : Int} {ps : List (Int × Int)} (h : validC n ps = true) {k : Int} {cs : List Int} (hl : cs.length = n.toNat) (hc : ∀ d ∈ cs, 0 ≤ d ∧ d < k) (hr : rightC ps cs = true) : fewest n ps ≤ k := by
  have he := firstC_enough h k
  cases e : firstC n ps k with
  | none => rw [firstC_none e hl hc] at hr; cases hr
  | some ds => rw [e] at he; simpa using he.symm
/-- There are ways just if colours are enough. -/
theorem countC_pos {n : Int} {ps : List (Int × Int)} (m : Int) : decide (0 < countC n ps m) = (firstC n ps m).isSome := by
  unfold countC firstC
  cases e : (allC m.toNat n.toNat).find? (rightC ps) with
  | none =>
    have h0 : (allC m.toNat n.toNat).filter (rightC ps) = [] := List.filter_eq_nil_iff.2 (fun a ha => List.find?_eq_none.1 e a ha)
    simp [h0]
  | some cs =>
    have hm : cs ∈ (allC m.toNat n.toNat).filter (rightC ps) := List.mem_filter.2 ⟨List.mem_of_find?_eq_some e, List.find?_some e⟩
    have := List.length_pos_of_mem hm
    simp [this]
theorem flatMap_sub {α β : Type} {f g : α → List β} (h : ∀ a, (f a).Sublist (g a)) : ∀ l : List α, (l.flatMap f).Sublist (l.flatMap g)
  | [] => by simp
  | a :: l => by
    rw [List.flatMap_cons, List.flatMap_cons]
    exact (h a).append (flatMap_sub h l)
theorem allC_sub {m m' : Nat} (hm : m ≤ m') : ∀ r, (allC m r).Sublist (allC m' r)
  | 0 => by simp [allC]
  | r + 1 => by
    obtain ⟨k, rfl⟩ := Nat.exists_eq_add_of_le hm
    simp only [allC]
    rw [List.range_add, List.flatMap_append]
    exact (flatMap_sub (fun c => (allC_sub hm r).map _) _).trans (List.sublist_append_left _ _)
/-- More colours have more ways, or as many. -/
theorem countC_mono {n : Int} {ps : List (Int × Int)} {m m' : Int} (hm : m ≤ m') : countC n ps m ≤ countC n ps m' :=
  ((allC_sub (by omega) n.toNat).filter (rightC ps)).length_le
end Go.Proofs.YtemhmejjmhbfdaaDoor.sines
