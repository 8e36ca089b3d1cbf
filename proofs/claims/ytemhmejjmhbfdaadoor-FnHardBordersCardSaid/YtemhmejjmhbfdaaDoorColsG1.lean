/- The model's orders of lands; least free colours. -/
import Derived.Test.YtemhmejjmhbfdaaDoorColsF
import Derived.BigQuiet
namespace Go.Proofs.YtemhmejjmhbfdaaDoor.sines
open Go.ChangeShapes Go.WideShapes Go.ChangeAt Go.RowKit Go.Proofs.YtemhmejjmhbfdaaDoor.spots Go.Proofs.YtemhmejjmhbfdaaDoor.irows Go.Proofs.YtemhmejjmhbfdaaDoor.pairsBorder
set_option linter.unusedSimpArgs false
set_option linter.unusedVariables false

/-- If all numbers below c are in a list, it has c of them at least. -/
theorem pig : ∀ (c : Nat) (us : List Int), (∀ i, i < c → ((i : Nat) : Int) ∈ us) → c ≤ us.length
  | 0, _, _ => Nat.zero_le _
  | c + 1, us, h => by
    have hm := h c (by omega)
    have := pig c (us.erase (c : Int)) fun i hi => (List.mem_erase_of_ne (by omega)).2 (h i (by omega))
    rw [List.length_erase_of_mem hm] at this
    have := List.length_pos_of_mem hm
    omega
/-- The least number that is not in a list. -/
def mexC (us : List Int) : Nat := ((List.range (us.length + 1)).find? fun (c : Nat) => !decide ((c : Int) ∈ us)).getD 0
theorem mexC_is {us : List Int} {c : Nat} (h1 : ∀ i, i < c → ((i : Nat) : Int) ∈ us) (h2 : (c : Int) ∉ us) : mexC us = c := by
  have hc := pig c us h1
  unfold mexC
  rw [show us.length + 1 = c + (us.length + 1 - c) by omega, List.range_add, List.find?_append]
  have e1 : (List.range c).find? (fun (c : Nat) => !decide ((c : Int) ∈ us)) = none := by
    rw [List.find?_eq_none]
    intro x hx
    simp [h1 x (List.mem_range.1 hx)]
  rw [e1, show us.length + 1 - c = (us.length - c) + 1 by omega, List.range_succ_eq_map]
  simp [h2]
theorem mexC_facts (us : List Int) : (∀ i, i < mexC us → ((i : Nat) : Int) ∈ us) ∧ ((mexC us : Nat) : Int) ∉ us := by
  have hex : ∃ c : Nat, (∀ i, i < c → ((i : Nat) : Int) ∈ us) ∧ (c : Int) ∉ us := by
    apply Classical.byContradiction
    intro hn
    have hall : ∀ c : Nat, ∀ i, i < c → ((i : Nat) : Int) ∈ us := by
      intro c
      induction c with
      | zero => intro i h; omega
      | succ c ih =>
        intro i hi
        by_cases e : i = c
        · subst e
          apply Classical.byContradiction
          intro h2
          exact hn ⟨i, ih, h2⟩
        · exact ih i (by omega)
    have := pig (us.length + 1) us (hall _)
    omega
  obtain ⟨c, h1, h2⟩ := hex
  rw [mexC_is h1 h2]
  exact ⟨h1, h2⟩
theorem mexC_le (us : List Int) : mexC us ≤ us.length := pig _ _ (mexC_facts us).1
/-- A list with room behind it, as its slice tells. -/
def Room (v : Value) (n : Nat) : Prop := ∃ a c, v = .slice a n c ∧ n ≤ c
theorem room_of {w : World} {B : Nat} {v : Value} {zs : List Int} (h : IRow w B v zs) : Room v zs.length := by
  rcases h.2 with ⟨hv, h0⟩ | ⟨g, cap, cur, hv, hB, hc, hle, _⟩
  · exact ⟨none, 0, by rw [hv, h0], by omega⟩
  · exact ⟨_, cap, hv, hle⟩
/-- An order of lands. -/
def orderOk (n : Int) (os : List Int) : Bool := ((List.range os.length).all fun k => inB (zAt os k) 0 (n - 1) && !decide (zAt os k ∈ os.take k)) && decide ((os.length : Int) = n)
theorem orderOk_no {n : Int} {os : List Int} {k : Nat} (hk : k < os.length) (h : (inB (zAt os k) 0 (n - 1) && !decide (zAt os k ∈ os.take k)) = false) : orderOk n os = false := by
  cases e : orderOk n os with
  | false => rfl
  | true =>
    simp only [orderOk, Bool.and_eq_true, List.all_eq_true, List.mem_range] at e
    have := e.1 k hk
    rw [← Bool.and_eq_true, h] at this
    cases this
theorem orderOk_all {n : Int} {os : List Int} (h : ∀ j, j < os.length → (inB (zAt os j) 0 (n - 1) && !decide (zAt os j ∈ os.take j)) = true) : orderOk n os = decide ((os.length : Int) = n) := by
  unfold orderOk
  have : ((List.range os.length).all fun k => inB (zAt os k) 0 (n - 1) && !decide (zAt os k ∈ os.take k)) = true := by
    simp only [List.all_eq_true, List.mem_range]; exact h
  rw [this, Bool.true_and]
theorem orderOk_facts {n : Int} {os : List Int} (h : orderOk n os = true) : (os.length : Int) = n ∧ ∀ k, k < os.length → 0 ≤ zAt os k ∧ zAt os k < n ∧ zAt os k ∉ os.take k := by
  simp only [orderOk, Bool.and_eq_true, List.all_eq_true, List.mem_range, decide_eq_true_eq] at h
  refine ⟨h.2, fun k hk => ?_⟩
  obtain ⟨h1, h2⟩ := h.1 k hk
  obtain ⟨a, b⟩ := inB_of h1
  exact ⟨a, by omega, by simpa using h2⟩


end Go.Proofs.YtemhmejjmhbfdaaDoor.sines
