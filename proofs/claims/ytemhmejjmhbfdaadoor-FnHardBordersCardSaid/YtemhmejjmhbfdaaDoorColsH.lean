/- The model's hard borders: contract. -/
import Derived.Test.YtemhmejjmhbfdaaDoorColsG2
namespace Go.Proofs.YtemhmejjmhbfdaaDoor.sines
open Go.ChangeShapes Go.WideShapes Go.ChangeAt Go.RowKit Go.Proofs.YtemhmejjmhbfdaaDoor.spots Go.Proofs.YtemhmejjmhbfdaaDoor.irows Go.Proofs.YtemhmejjmhbfdaaDoor.pairsBorder
set_option linter.unusedSimpArgs false
set_option linter.unusedVariables false

/-- The borders without one of them. -/
def delB (ps : List (Int × Int)) (i : Nat) : List (Int × Int) := ps.take i ++ ps.drop (i + 1)
theorem delB_len {ps : List (Int × Int)} {i : Nat} (h : i < ps.length) : (delB ps i).length = ps.length - 1 := by simp [delB]; omega
theorem delB_at {ps : List (Int × Int)} {i j : Nat} (h : i < ps.length) (hj : j < ps.length - 1) : bAt (delB ps i) j = bAt ps (if j < i then j else j + 1) := by
  unfold bAt delB
  rw [List.getD_eq_getElem?_getD, List.getD_eq_getElem?_getD, List.getElem?_append, List.length_take, Nat.min_eq_left (Nat.le_of_lt h), List.getElem?_take, List.getElem?_drop]
  by_cases e : j < i
  · simp [e]
  · rw [if_neg e, if_neg e, show i + 1 + (j - i) = j + 1 by omega]
theorem validC_del {n : Int} {ps : List (Int × Int)} {i : Nat} (h : validC n ps = true) (hi : i < ps.length) : validC n (delB ps i) = true := by
  obtain ⟨h1, h2, h3⟩ := validC_iff.1 h
  rw [validC_iff, delB_len hi]
  refine ⟨h1, fun j hj => ?_, by omega⟩
  rw [delB_at hi hj]
  have hb : (if j < i then j else j + 1) < ps.length := by split <;> omega
  refine ⟨(h2 _ hb).1, fun k hk => ?_⟩
  rw [delB_at hi (by omega)]
  exact (h2 _ hb).2 _ (by split <;> split <;> omega)
def hardB (n : Int) (ps : List (Int × Int)) (i : Nat) : Bool := decide (fewest n (delB ps i) < fewest n ps)
def hardL (n : Int) (ps : List (Int × Int)) (k : Nat) : List Int := ((List.range k).filter (hardB n ps)).map Int.ofNat
theorem hardL_no {n : Int} {ps : List (Int × Int)} {k : Nat} (h : hardB n ps k = false) : hardL n ps (k + 1) = hardL n ps k := by
  simp [hardL, List.range_succ, List.filter_append, h]
theorem hardL_yes {n : Int} {ps : List (Int × Int)} {k : Nat} (h : hardB n ps k = true) : hardL n ps (k + 1) = hardL n ps k ++ [(k : Int)] := by
  simp [hardL, List.range_succ, List.filter_append, h]
theorem hardL_len (n : Int) (ps : List (Int × Int)) (k : Nat) : (hardL n ps k).length ≤ k := by
  have := List.length_filter_le (hardB n ps) (List.range k)
  simpa [hardL] using this
def valHa (n : Int) (ps : List (Int × Int)) : List Int := if validC n ps = true then hardL n ps ps.length else []
theorem valHa_len (n : Int) (ps : List (Int × Int)) : (valHa n ps).length ≤ 30 := by
  unfold valHa
  split
  · rename_i g
    exact Nat.le_trans (hardL_len _ _ _) (validC_facts g).2.2.1
  · simp
theorem prow_cellJ {w : World} {B g c : Nat} {ps : List (Int × Int)} (h : PRow w B (.slice (some ⟨g, 0, none⟩) ps.length c) ps) {j : Nat} {x : Value} (hx : (ints (flat ps))[j]? = some x) : w.cell? ⟨g, j, none⟩ = some x := by
  obtain ⟨hj, _⟩ := List.getElem?_eq_some_iff.1 hx
  rw [ints_len, flat_len] at hj
  rw [World.ownsRow.cellAt h j hj, hx]
theorem flat_take (ps : List (Int × Int)) (i : Nat) : flat ps = flat (ps.take i) ++ flat (ps.drop i) := by rw [← flat_append, List.take_append_drop]
theorem ints_app (xs ys : List Int) : ints (xs ++ ys) = ints xs ++ ints ys := by simp [ints]
theorem news_take {ps : List (Int × Int)} {i j : Nat} {x : Value} (hx : (ints (flat (ps.take i)))[j]? = some x) : (ints (flat ps))[j]? = some x := by
  obtain ⟨hj, _⟩ := List.getElem?_eq_some_iff.1 hx
  rw [flat_take ps i, ints_app, List.getElem?_append_left hj]; exact hx
theorem news_drop {ps : List (Int × Int)} {i j : Nat} {x : Value} (hi : i ≤ ps.length) (hx : (ints (flat (ps.drop i)))[j]? = some x) : (ints (flat ps))[i * 2 + j]? = some x := by
  have hl : (ints (flat (ps.take i))).length = i * 2 := by rw [ints_len, flat_len, List.length_take]; omega
  rw [flat_take ps i, ints_app, List.getElem?_append_right (by omega), hl, Nat.add_sub_cancel_left]; exact hx
theorem news2 {w W : World} {g k : Nat} {ps : List (Int × Int)} (hc : ∀ j x, (ints (flat ps))[j]? = some x → w.cell? ⟨g, j, none⟩ = some x) (gl : g < w.heap.size) (hb : Below w.heap.size w W) (hk : k < ps.length) (off : Nat) (ho : off = (k + 1) * 2 ∨ ps.length = k + 1) : ∀ j x, (ints (flat (ps.drop (k + 1))))[j]? = some x → W.cell? ((⟨g, off, none⟩ : Addr).add j) = some x := by
  intro j x hx
  rcases ho with rfl | e
  · rw [add_plain']
    exact (hb.cell (p := ⟨g, (k + 1) * 2 + j, none⟩) gl).trans (hc _ x (news_drop (by omega) hx))
  · rw [List.drop_eq_nil_of_le (by omega)] at hx
    simp [flat, ints] at hx
theorem del_row {w : World} {B k : Nat} {v : Value} {ps : List (Int × Int)} {m : Nat} (hk : k < ps.length) (hm : m = ps.length - (k + 1)) (h : w.ownsRow B 58 2 v (0 + k + m) ((ints (flat []) ++ ints (flat (ps.take k))) ++ ints (flat (ps.drop (k + 1))))) : PRow w B v (delB ps k) := by
  unfold PRow
  rw [delB_len hk, show ps.length - 1 = 0 + k + m by omega, delB, flat_append, ints_app]
  exact h
theorem brd_made (w : World) (B : Nat) (h : B ≤ w.heap.size) : PRow (w.alloc (.cells #[] 58)) B (.slice (some ⟨w.heap.size, 0, none⟩) 0 0) [] := World.ownsRow_made w #[] 0 h (by decide) rfl
theorem prow_lt {w : World} {B g c n : Nat} {ps : List (Int × Int)} (h : PRow w B (.slice (some ⟨g, 0, none⟩) n c) ps) : g < w.heap.size := (World.ownsRow.lt h g rfl).2


end Go.Proofs.YtemhmejjmhbfdaaDoor.sines
