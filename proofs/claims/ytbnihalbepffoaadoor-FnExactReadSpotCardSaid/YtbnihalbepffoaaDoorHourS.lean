/- Hours are read by the model: its contract. -/
import Derived.Test.YtbnihalbepffoaaDoorHourP
namespace Go.Proofs.YtbnihalbepffoaaDoor.dec
open Go.ChangeShapes Go.WideShapes Go.ChangeAt Go.RowKit Go.Proofs.YtbnihalbepffoaaDoor.num Go.Proofs.YtbnihalbepffoaaDoor.split

theorem splitL_one (c : UInt8) : ∀ (l a : List UInt8), splitL c l = [a] → l = a
  | [], a, h => by simp [splitL] at h; exact h.symm
  | x :: r, a, h => by
    by_cases hx : x = c
    · simp [splitL, hx] at h; exact absurd h.2 (splitL_ne c r)
    · cases hs : splitL c r with
      | nil => exact absurd hs (splitL_ne c r)
      | cons p t =>
        simp [splitL, hx, hs] at h
        obtain ⟨rfl, rfl⟩ := h
        rw [splitL_one c r p hs]
theorem splitL_two (c : UInt8) : ∀ (l a b : List UInt8), splitL c l = [a, b] → l = a ++ c :: b
  | [], a, b, h => by simp [splitL] at h
  | x :: r, a, b, h => by
    by_cases hx : x = c
    · simp [splitL, hx] at h
      obtain ⟨rfl, h⟩ := h
      rw [splitL_one c r b h, hx]; rfl
    · cases hs : splitL c r with
      | nil => exact absurd hs (splitL_ne c r)
      | cons p t =>
        simp [splitL, hx, hs] at h
        obtain ⟨rfl, rfl⟩ := h
        rw [splitL_two c r p b hs]; rfl
theorem row_shape {w : World} {B : Nat} {v : Value} {ps : List ByteArray} (h : w.ownsRow B 9 1 v ps.length (split.strs ps)) : (∃ a c, v = .slice a ps.length c) ∧ (0 < ps.length → ∃ g c, v = .slice (some ⟨g, 0, none⟩) ps.length c ∧ B ≤ g) := by
  rcases h.2 with ⟨hv, h0⟩ | ⟨g, cap, cur, hv, hB, _⟩
  · exact ⟨⟨none, 0, by rw [hv, h0]⟩, fun hp => by omega⟩
  · exact ⟨⟨_, _, hv⟩, fun _ => ⟨g, cap, hv, hB⟩⟩
theorem row_cell {w : World} {B g c : Nat} {ps : List ByteArray} (h : w.ownsRow B 9 1 (.slice (some ⟨g, 0, none⟩) ps.length c) ps.length (split.strs ps)) (k : Nat) (hk : k < ps.length) : w.cell? ⟨g, k, none⟩ = some (.string ps[k]) := by
  rw [World.ownsRow.cellAt h k (by omega)]
  simp [split.strs, hk]
/-- What the model reads of the text of an angle. -/
theorem hour_parts {l : List UInt8} {a : Int} (h : IsHour l a) : splitL 104 l = [Lib.itoa (a / 54000), pair (a % 54000 / 900) ++ [109]] := by
  obtain ⟨h1, h2, h3, h4, h5, h6, h7⟩ := hour_split h
  conv => lhs; rw [h1]
  rw [splitL_at 104 _ _ (not_in (itoa_allD h3) (by decide)), splitL_no]
  intro g
  rcases List.mem_append.1 g with g | g
  · exact not_in (pair_num h5 (by omega)).1 (by decide) g
  · simp at g
theorem hour_of {l p q : List UInt8} (hs : splitL 104 l = [p, q ++ [109]]) (hp : readB p = true) (h0 : 0 ≤ readV p) (h1 : readV p ≤ 23) (hq : Two 53 q) : IsHour l (54000 * readV p + 900 * (numA 0 q : Int)) := by
  have e := splitL_two 104 l _ _ hs
  obtain ⟨q1, q2⟩ := two_pair (by decide) hq
  have hf := (read_form hp).2.2
  have m0 : (0 : Int) ≤ (numA 0 q : Int) := by omega
  have m1 : (numA 0 q : Int) ≤ 59 := by omega
  generalize (numA 0 q : Int) = m at *
  generalize readV p = n at *
  refine ⟨⟨by omega, by omega, by omega⟩, ?_⟩
  rw [hourL, show (54000 * n + 900 * m) / 54000 = n by omega, show (54000 * n + 900 * m) % 54000 / 900 = m by omega, hf, q1, e]
  simp
theorem three {q : ByteArray} (h : q.size = 3) (h2 : q[2].toNat = 109) : q.data.toList = (q.extract 0 2).data.toList ++ [109] := by
  rw [ext_list]
  have e : q.data.toList.drop 2 = [109] := by
    rw [drop_cons q 2 (by omega), List.drop_eq_nil_of_le (by simp; omega)]
    rw [show q[2] = 109 from UInt8.toNat_inj.1 h2]
  conv => lhs; rw [← List.take_append_drop 2 q.data.toList]
  rw [e]; rfl
theorem three_no {q : ByteArray} {n : Int} (h0 : 0 ≤ n) (h1 : n ≤ 59) (h : q.data.toList = pair n ++ [109]) : ∃ h : q.size = 3, q[2].toNat = 109 ∧ (q.extract 0 2).data.toList = pair n := by
  have hl := congrArg List.length h
  have hs : q.size = 3 := by
    rw [List.length_append, pair_len h0 (by omega)] at hl
    simpa using hl
  obtain ⟨a, b, e, _, _⟩ := pair_eq h0 (by omega)
  refine ⟨hs, ?_, ?_⟩
  · have e2 : q[2] = q.data.toList[2]'(by simp; omega) := rfl
    rw [e2]; simp [h, e]
  · rw [ext_list, h, e]; rfl
theorem two_lists {ps : List ByteArray} {l : List UInt8} (h : lists ps = splitL 104 l) (hn : ps.length ≠ 2) (a : Int) : ¬ IsHour l a := fun g => by
  have := hour_parts g
  rw [← h] at this
  have h2 := congrArg List.length this
  simp [lists] at h2
  exact hn h2
theorem ps_two {ps : List ByteArray} (h : ps.length = 2) : ∃ p q, ps = [p, q] := by
  match ps, h with
  | [p, q], _ => exact ⟨p, q, rfl⟩

theorem below_cell2 {a w w' : World} (h : Below a.heap.size a w) (g : Below w.heap.size w w') : Below a.heap.size a w' := h.trans (g.mono h.size)
end Go.Proofs.YtbnihalbepffoaaDoor.dec
