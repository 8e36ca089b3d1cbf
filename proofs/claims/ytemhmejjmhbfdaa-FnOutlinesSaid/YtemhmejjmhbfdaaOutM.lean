/- Areas of chains that are moved and turned, and the greatest one: mathematics. -/
import Derived.Test.YtemhmejjmhbfdaaJoinT1
namespace Go.Proofs.Ytemhmejjmhbfdaa.sines
open Go.ChangeShapes Go.WideShapes Go.ChangeAt Go.RowKit Go.Proofs.Ytemhmejjmhbfdaa.spots Go.Proofs.Ytemhmejjmhbfdaa.irows Go.Proofs.Ytemhmejjmhbfdaa.pairsPlace
set_option linter.unusedSimpArgs false
set_option linter.unusedVariables false

theorem pAt_map {ps : List Pl} (f : Pl → Pl) {k : Nat} (h : k < ps.length) : pAt (ps.map f) k = f (pAt ps k) := by
  rw [pAt_eq (by simpa using h), pAt_eq h, List.getElem_map]
theorem edgeA_move (x y : Int) (a b : Pl) : edgeA (moveP x y a) (moveP x y b) = edgeA a b + x * (b.2 - a.2) - y * (b.1 - a.1) := by
  unfold edgeA moveP
  simp only
  grind
theorem areaN_move (x y : Int) (ps : List Pl) : ∀ k, k < ps.length → areaN (ps.map (moveP x y)) k = areaN ps k + x * ((pAt ps k).2 - (pAt ps 0).2) - y * ((pAt ps k).1 - (pAt ps 0).1)
  | 0, _ => by simp [areaN]
  | k + 1, h => by
    simp only [areaN]
    rw [areaN_move x y ps k (by omega), pAt_map _ (by omega), pAt_map _ h, edgeA_move]
    grind
theorem closedB_move (x y : Int) (ps : List Pl) : closedB (ps.map (moveP x y)) = closedB ps := by
  by_cases h4 : 4 ≤ ps.length
  · rw [closedB_eq h4, closedB_eq (by simpa using h4)]
    unfold lastP
    rw [List.length_map, pAt_map _ (by omega), pAt_map _ (by omega)]
    have e : (moveP x y (pAt ps 0) = moveP x y (pAt ps (ps.length - 1))) ↔ (pAt ps 0 = pAt ps (ps.length - 1)) := by
      constructor
      · intro h
        unfold moveP at h
        have h1 := (Prod.mk.inj h).1
        have h2 := (Prod.mk.inj h).2
        exact Prod.ext (by omega) (by omega)
      · intro h; rw [h]
    simp only [e]
  · rw [closedB_no h4, closedB_no (by simpa using h4)]
/-- A closed chain that is moved keeps its area. -/
theorem areaI_move {x y : Int} {ps : List Pl} (h : closedB ps = true) : areaI (ps.map (moveP x y)) = areaI ps := by
  have h4 := closedB_len h
  rw [closedB_eq h4, decide_eq_true_eq] at h
  unfold areaI
  rw [List.length_map, areaN_move x y ps _ (by omega)]
  unfold lastP at h
  rw [← h]
  simp
theorem code_move {x y : Int} {ps : List Pl} (h : codeM ps x y = 0) : codeG (moveL ps x y) = codeG ps ∧ (codeG ps = 0 → areaI (moveL ps x y) = areaI ps) := by
  have hL : moveL ps x y = ps.map (moveP x y) := by unfold moveL; rw [if_pos h]
  have h1 : okC ps = true := by
    cases e : okC ps with
    | true => rfl
    | false => unfold codeM at h; rw [e] at h; simp at h
  have h2 : okC (ps.map (moveP x y)) = true := by
    cases e : okC (ps.map (moveP x y)) with
    | true => rfl
    | false =>
      unfold codeM at h
      rw [h1, e] at h
      simp only [if_true, Bool.false_eq_true, if_false] at h
      split at h <;> omega
  rw [hL]
  refine ⟨?_, fun hc => areaI_move (codeG_of hc).2⟩
  unfold codeG
  rw [h1, h2, closedB_move]
theorem edgeA_swap (a b : Pl) : edgeA b a = -edgeA a b := by unfold edgeA; omega
theorem areaN_reverse (ps : List Pl) : ∀ k, k < ps.length → areaN ps.reverse k = areaN ps (ps.length - 1 - k) - areaN ps (ps.length - 1)
  | 0, h => by simp [areaN]
  | k + 1, h => by
    simp only [areaN]
    rw [areaN_reverse ps k (by omega), pAt_reverse (by omega), pAt_reverse h]
    have e : ps.length - 1 - k = (ps.length - 1 - (k + 1)) + 1 := by omega
    rw [e]
    simp only [areaN]
    rw [edgeA_swap (pAt ps (ps.length - 1 - (k + 1))) (pAt ps (ps.length - 1 - (k + 1) + 1))]
    omega
theorem areaI_reverse {ps : List Pl} (h : 0 < ps.length) : areaI ps.reverse = -areaI ps := by
  unfold areaI
  rw [List.length_reverse, areaN_reverse ps _ (by omega), Nat.sub_self]
  simp [areaN]
theorem closedB_reverse (ps : List Pl) : closedB ps.reverse = closedB ps := by
  by_cases h4 : 4 ≤ ps.length
  · rw [closedB_eq h4, closedB_eq (by simpa using h4)]
    unfold lastP
    rw [List.length_reverse, pAt_reverse (by omega), pAt_reverse (by omega)]
    have e1 : ps.length - 1 - 0 = ps.length - 1 := by omega
    have e2 : ps.length - 1 - (ps.length - 1) = 0 := by omega
    rw [e1, e2]
    simp only [eq_comm]
  · rw [closedB_no h4, closedB_no (by simpa using h4)]
theorem okC_reverse (ps : List Pl) : okC ps.reverse = okC ps := by simp [okC]
/-- The turned chain. -/
theorem left_facts {ps : List Pl} (h : codeG ps = 0) : codeG (leftL ps) = 0 ∧ areaI (leftL ps) = sizeA ps := by
  obtain ⟨h1, h2⟩ := codeG_of h
  have hl := (okC_of h1).1
  unfold leftL sizeA
  rw [if_pos h]
  by_cases hn : areaI ps < 0
  · rw [if_pos hn, if_pos hn]
    refine ⟨?_, areaI_reverse (by omega)⟩
    unfold codeG
    rw [okC_reverse, closedB_reverse, h1, h2]; rfl
  · rw [if_neg hn, if_neg hn]
    exact ⟨h, rfl⟩
theorem bestN_max {rows : List (List Pl)} : ∀ k, ∀ j, j < k → closedB (rows.getD j []) = true → sizeA (rows.getD j []) ≤ (bestN rows k).2
  | 0, j, h, _ => by omega
  | k + 1, j, h, hc => by
    simp only [bestN]
    by_cases e : j = k
    · subst e
      split
      · exact Int.le_refl _
      · rename_i h2
        have : ¬ (bestN rows j).2 < sizeA (rows.getD j []) := fun k => h2 ⟨hc, k⟩
        omega
    · have h1 := bestN_max k j (by omega) hc
      split
      · rename_i h2; have := h2.2; simp only; omega
      · exact h1
theorem bestN_is {rows : List (List Pl)} : ∀ k (b : Nat), (bestN rows k).1 = (b : Int) → b < k ∧ closedB (rows.getD b []) = true ∧ (bestN rows k).2 = sizeA (rows.getD b [])
  | 0, b, h => by simp [bestN] at h
  | k + 1, b, h => by
    simp only [bestN] at h ⊢
    split at h
    · rename_i h2
      have h3 : (k : Int) = (b : Int) := by simpa using h
      have e : k = b := by omega
      subst e
      rw [if_pos h2]
      exact ⟨by omega, h2.1, rfl⟩
    · rename_i h2
      rw [if_neg h2]
      obtain ⟨h3, h4, h5⟩ := bestN_is k b h
      exact ⟨by omega, h4, h5⟩
/-- The greatest outline is not less than others. -/
theorem best_facts {rows : List (List Pl)} (h : codeB9 rows = 0) : ∃ b : Nat, bestV rows = (b : Int) ∧ ∃ hb : b < rows.length, codeG rows[b] = 0 ∧ ∀ j, (hj : j < rows.length) → codeG rows[j] = 0 → sizeA rows[j] ≤ sizeA rows[b] := by
  have h0 : codeL rows = 0 := by
    unfold codeB9 at h
    split at h
    · assumption
    · rename_i h2; exact absurd h h2
  have h1 : ¬ (bestN rows rows.length).1 < 0 := by
    unfold codeB9 at h
    rw [if_pos h0] at h
    intro k
    rw [if_pos k] at h
    omega
  obtain ⟨b, hb⟩ : ∃ b : Nat, (bestN rows rows.length).1 = (b : Int) := ⟨((bestN rows rows.length).1).toNat, by omega⟩
  obtain ⟨h2, h3, h4⟩ := bestN_is rows.length b hb
  obtain ⟨_, ho⟩ := codeL_of h0
  refine ⟨b, by unfold bestV; rw [if_pos h]; exact hb, h2, ?_, fun j hj hc => ?_⟩
  · rw [getD_row h2] at h3
    unfold codeG
    rw [ho b h2, h3]; rfl
  · have hm := bestN_max rows.length j hj (by rw [getD_row hj]; exact (codeG_of hc).2)
    rw [h4, getD_row hj, getD_row h2] at hm
    exact hm
end Go.Proofs.Ytemhmejjmhbfdaa.sines
