/- Lists of Borders (two numbers each): opened, copied, compared, marked. -/
import Derived.Test.YtemhmejjmhbfdaaDoorIRows
import Derived.Test.YtemhmejjmhbfdaaDoorSpots
import Derived.Deep.SlicePairs
import Derived.Deep.RegionWith
import Derived.Lib.BufferOwn
namespace Go.Proofs.YtemhmejjmhbfdaaDoor.pairsBorder
open Go.ChangeShapes Go.WideShapes Go.ChangeAt Go.RowKit Go.Proofs.YtemhmejjmhbfdaaDoor.irows Go.Proofs.YtemhmejjmhbfdaaDoor.spots


def flat (ps : List (Int × Int)) : List Int := ps.flatMap fun p => [p.1, p.2]
theorem flat_len (ps : List (Int × Int)) : (flat ps).length = ps.length * 2 := by
  induction ps with
  | nil => rfl
  | cons p ps ih => simp only [flat, List.flatMap_cons, List.length_append, List.length_cons, List.length_nil] at ih ⊢; omega
theorem flat_append (ps qs : List (Int × Int)) : flat (ps ++ qs) = flat ps ++ flat qs := by simp [flat]
theorem flat_at (ps : List (Int × Int)) : ∀ k, (h : k < ps.length) → (flat ps)[k * 2]? = some ps[k].1 ∧ (flat ps)[k * 2 + 1]? = some ps[k].2 := by
  induction ps with
  | nil => intro k h; simp at h
  | cons p ps ih =>
    intro k h
    match k with
    | 0 => exact ⟨rfl, rfl⟩
    | k + 1 =>
      obtain ⟨h1, h2⟩ := ih k (by simpa using h)
      have e : flat (p :: ps) = p.1 :: p.2 :: flat ps := rfl
      rw [e, show (k + 1) * 2 = k * 2 + 1 + 1 by omega]
      exact ⟨by simpa using h1, by simpa using h2⟩
/-- What is read of a list. -/
def PAt (w : World) (B : Nat) (v : Value) (ps : List (Int × Int)) : Prop :=
  ∃ a c, v = .slice a ps.length c ∧ ∀ k, (h : k < ps.length) → ∃ b off, a = some ⟨b, off, none⟩ ∧ b < B ∧ w.cell? ⟨b, off + k * 2, none⟩ = some (.int .i64 ps[k].1) ∧ w.cell? ⟨b, off + k * 2 + 1, none⟩ = some (.int .i64 ps[k].2)
theorem pat_keep {w w' : World} {B : Nat} {v : Value} {ps : List (Int × Int)} (h : PAt w B v ps) (hb : Below B w w') : PAt w' B v ps := by
  obtain ⟨a, c, e, h⟩ := h
  refine ⟨a, c, e, fun k hk => ?_⟩
  obtain ⟨b, off, e1, e2, e3, e4⟩ := h k hk
  exact ⟨b, off, e1, e2, by rw [hb.cell (p := ⟨b, off + k * 2, none⟩) e2]; exact e3, by rw [hb.cell (p := ⟨b, off + k * 2 + 1, none⟩) e2]; exact e4⟩
theorem pat_up {w : World} {B B' : Nat} {v : Value} {ps : List (Int × Int)} (h : PAt w B v ps) (hB : B ≤ B') : PAt w B' v ps := by
  obtain ⟨a, c, e, h⟩ := h
  refine ⟨a, c, e, fun k hk => ?_⟩
  obtain ⟨b, off, e1, e2, e3⟩ := h k hk
  exact ⟨b, off, e1, by omega, e3⟩
/-- A list of the call's own. -/
def PRow (w : World) (B : Nat) (v : Value) (ps : List (Int × Int)) : Prop := w.ownsRow B 58 2 v ps.length (ints (flat ps))
theorem prow_at {w : World} {B : Nat} {v : Value} {ps : List (Int × Int)} (h : PRow w B v ps) : PAt w w.heap.size v ps := by
  have h0 := h
  rcases h.2 with ⟨hv, h0⟩ | ⟨g, cap, cur, hv, hB, hc, _⟩
  · exact ⟨none, 0, by rw [hv, h0], fun k hk => by omega⟩
  · subst hv
    refine ⟨_, _, rfl, fun k hk => ⟨g, 0, rfl, (Array.getElem?_eq_some_iff.1 hc).1, ?_, ?_⟩⟩
    · rw [World.ownsRow.cellAt h0 (0 + k * 2) (by omega)]
      simp [ints, (flat_at ps k hk).1]
    · rw [World.ownsRow.cellAt h0 (0 + k * 2 + 1) (by omega)]
      simp [ints, (flat_at ps k hk).2]
theorem prow_keep {w w' : World} {B : Nat} {v : Value} {ps : List (Int × Int)} (h : PRow w B v ps) (hb : Below w.heap.size w w') : PRow w' B v ps := by
  refine ⟨h.1, ?_⟩
  rcases h.2 with hn | ⟨g, cap, cur, hv, hg1, hg2, hg3⟩
  · exact .inl hn
  · exact .inr ⟨g, cap, cur, hv, hg1, by rw [hb.block g (Array.getElem?_eq_some_iff.1 hg2).1]; exact hg2, hg3⟩
theorem prow_up {w : World} {B B' : Nat} {v : Value} {ps : List (Int × Int)} (h : PRow w B v ps) (hB : B' ≤ B) : PRow w B' v ps := by
  refine ⟨h.1, ?_⟩
  rcases h.2 with hn | ⟨g, cap, cur, hv, hg1, hr⟩
  · exact .inl hn
  · exact .inr ⟨g, cap, cur, hv, Nat.le_trans hB hg1, hr⟩
theorem add_plain' (b off i : Nat) : (⟨b, off, none⟩ : Addr).add i = ⟨b, off + i, none⟩ := by
  by_cases h : i = 0 <;> simp [Addr.add, h]
theorem info_pair : (Tryd.prog.info? 58).map (fun i => (i.zero, i.size, i.bytes)) = some (some (.agg #[.int .i64 0, .int .i64 0]), 2, 16) := by kernel_rfl
def zeros (n : Nat) : List (Int × Int) := List.replicate n (0, 0)
theorem mid_len (ps : List (Int × Int)) (k : Nat) (hk : k ≤ ps.length) : (ps.take k ++ zeros (ps.length - k)).length = ps.length := by simp [zeros]; omega
theorem mid_row {w : World} {B g k c : Nat} {ps : List (Int × Int)} (h : PRow w B (.slice (some ⟨g, 0, none⟩) ps.length c) (ps.take k ++ zeros (ps.length - k))) (hk : k ≤ ps.length) : w.ownsRow B 58 2 (.slice (some ⟨g, 0, none⟩) ps.length c) ps.length (ints (flat (ps.take k ++ zeros (ps.length - k)))) := by
  unfold PRow at h
  rwa [mid_len ps k hk] at h
theorem mid_at (ps : List (Int × Int)) (k : Nat) (hk : k < ps.length) : (flat (ps.take k ++ zeros (ps.length - k)))[k * 2]? = some 0 ∧ (flat (ps.take k ++ zeros (ps.length - k)))[k * 2 + 1]? = some 0 := by
  have e := flat_at (ps.take k ++ zeros (ps.length - k)) k (by rw [mid_len ps k (by omega)]; exact hk)
  have e2 : (ps.take k ++ zeros (ps.length - k))[k]'(by rw [mid_len ps k (by omega)]; exact hk) = (0, 0) := by
    rw [List.getElem_append_right (by simp; omega)]
    simp [zeros]
  rw [e2] at e
  exact e
theorem mid_cells {w : World} {B g k c : Nat} {ps : List (Int × Int)} (h : PRow w B (.slice (some ⟨g, 0, none⟩) ps.length c) (ps.take k ++ zeros (ps.length - k))) (hk : k < ps.length) : w.cell? ⟨g, k * 2, none⟩ = some (.int .i64 0) ∧ w.cell? ⟨g, k * 2 + 1, none⟩ = some (.int .i64 0) := by
  have h2 := mid_row h (by omega)
  obtain ⟨e1, e2⟩ := mid_at ps k hk
  exact ⟨by rw [World.ownsRow.cellAt h2 _ (by omega)]; simp [ints, e1], by rw [World.ownsRow.cellAt h2 _ (by omega)]; simp [ints, e2]⟩
theorem flat_set (ys : List (Int × Int)) (x : Int × Int) : ∀ k, k < ys.length → ((flat ys).set (k * 2) x.1).set (k * 2 + 1) x.2 = flat (ys.set k x) := by
  induction ys with
  | nil => intro k h; simp at h
  | cons p ps ih =>
    intro k h
    match k with
    | 0 => rfl
    | k + 1 =>
      have e : flat (p :: ps) = p.1 :: p.2 :: flat ps := rfl
      have h2 := ih k (by simpa using h)
      have e2 : flat ((p :: ps).set (k + 1) x) = p.1 :: p.2 :: flat (ps.set k x) := rfl
      rw [e, e2, ← h2, show (k + 1) * 2 = k * 2 + 1 + 1 by omega]
      rfl
theorem ints_set (zs : List Int) (k : Nat) (z : Int) : (ints zs).set k (.int .i64 z) = ints (zs.set k z) := by simp [ints, List.map_set]
theorem prow_store {w : World} {B g k n c : Nat} {ys : List (Int × Int)} {x : Int × Int} (h : PRow w B (.slice (some ⟨g, 0, none⟩) n c) ys) (hn : ys.length = n) (hk : k < n) :
    PRow ((w.setCell ⟨g, k * 2, none⟩ (.int .i64 x.1)).setCell ⟨g, k * 2 + 1, none⟩ (.int .i64 x.2)) B (.slice (some ⟨g, 0, none⟩) n c) (ys.set k x) := by
  subst hn
  have h1 := (World.ownsRow.stored h (k * 2) (.int .i64 x.1)).1
  have h2 := (World.ownsRow.stored h1 (k * 2 + 1) (.int .i64 x.2)).1
  rw [ints_set, ints_set, flat_set ys x k hk] at h2
  unfold PRow
  rw [List.length_set]
  exact h2
theorem mid_set (ps : List (Int × Int)) (k : Nat) (hk : k < ps.length) : (ps.take k ++ zeros (ps.length - k)).set k ps[k] = ps.take (k + 1) ++ zeros (ps.length - (k + 1)) := by
  rw [List.set_append_right _ _ (by simp; omega), List.take_add_one, List.append_assoc]
  congr 1
  have e : ps.length - k = (ps.length - (k + 1)) + 1 := by omega
  rw [List.getElem?_eq_getElem hk, e]
  simp [zeros, List.replicate_succ, show min k ps.length = k by omega]
theorem flat_zeros (n : Nat) : flat (zeros n) = List.replicate (n * 2) 0 := by
  induction n with
  | zero => rfl
  | succ n ih =>
    have e : flat (zeros (n + 1)) = 0 :: 0 :: flat (zeros n) := rfl
    rw [e, ih, show (n + 1) * 2 = n * 2 + 1 + 1 by omega]
    rfl
theorem start_row {w : World} {B g n c : Nat} {ps : List (Int × Int)} (h : w.ownsRow B 58 2 (.slice (some ⟨g, 0, none⟩) n c) n (madeCells (Value.agg #[Value.int IntKind.i64 0, Value.int IntKind.i64 0]).cells (n * 2)).toList) (hn : ps.length = n := by rfl) : PRow w B (.slice (some ⟨g, 0, none⟩) n c) (ps.take 0 ++ zeros (ps.length - 0)) := by
  subst hn
  have e : (madeCells (Value.agg #[Value.int IntKind.i64 0, Value.int IntKind.i64 0]).cells (ps.length * 2)).toList = ints (flat (ps.take 0 ++ zeros (ps.length - 0))) := by
    simp only [List.take_zero, List.nil_append, Nat.sub_zero, flat_zeros]
    apply List.ext_getElem?
    intro j
    by_cases hj : j < ps.length * 2
    · have h2 : j % 2 = 0 ∨ j % 2 = 1 := by omega
      rcases h2 with h2 | h2 <;> simp [madeCells, ints, hj, Value.cells, h2]
    · simp [madeCells, ints, hj]
  rw [e] at h
  unfold PRow
  rw [show (ps.take 0 ++ zeros (ps.length - 0)).length = ps.length by simp [zeros]]
  exact h
theorem bdrew {B : Nat} {a w : World} (h : Below B a w) : Below B a w.drew := ⟨h.os, h.tape, h.output, h.size, h.block⟩
theorem own_cells {w : World} {B k n c : Nat} {a : Option Addr} {qs : List (Int × Int)} (h : PRow w B (.slice a n c) qs) (hn : qs.length = n) (hk : k < n) :
    ∃ (g : Nat) (y0 y1 : Int), a = some ⟨g, 0, none⟩ ∧ B ≤ g ∧ g < w.heap.size ∧ w.cell? ⟨g, k * 2, none⟩ = some (.int .i64 y0) ∧ w.cell? ⟨g, k * 2 + 1, none⟩ = some (.int .i64 y1) ∧ w.frozen? ⟨g, k * 2, none⟩ = false ∧ w.frozen? ⟨g, k * 2 + 1, none⟩ = false := by
  subst hn
  have h0 := h
  rcases h.2 with ⟨hv, h1⟩ | ⟨g, cap, cur, hv, hB, hc, _⟩
  · omega
  · cases hv
    refine ⟨g, qs[k].1, qs[k].2, rfl, hB, (Array.getElem?_eq_some_iff.1 hc).1, ?_, ?_, World.ownsRow.frozenAt h0 _, World.ownsRow.frozenAt h0 _⟩
    · rw [World.ownsRow.cellAt h0 (k * 2) (by omega)]
      simp [ints, (flat_at qs k hk).1]
    · rw [World.ownsRow.cellAt h0 (k * 2 + 1) (by omega)]
      simp [ints, (flat_at qs k hk).2]
/-- What marking writes. -/
def marksP (n : Nat) : List (Int × Int) := (List.range n).map fun i : Nat => (1 + 2 * (i : Int), 1 + 2 * (i : Int) + 1)
theorem marksP_len (n : Nat) : (marksP n).length = n := by simp [marksP]
theorem marksP_at (n k : Nat) (h : k < n) : (marksP n)[k]'(by rw [marksP_len]; exact h) = (1 + 2 * (k : Int), 1 + 2 * (k : Int) + 1) := by simp [marksP]
theorem marksP_set (ps : List (Int × Int)) (k : Nat) (h : k < ps.length) : (marksP k ++ ps.drop k).set k (1 + 2 * (k : Int), 1 + 2 * (k : Int) + 1) = marksP (k + 1) ++ ps.drop (k + 1) := by
  rw [List.set_append_right _ _ (by rw [marksP_len]; exact Nat.le_refl _), marksP_len, Nat.sub_self, List.drop_eq_getElem_cons h, List.set_cons_zero]
  simp [marksP, List.range_succ]
theorem marksP_mid (ps : List (Int × Int)) (k : Nat) (h : k ≤ ps.length) : (marksP k ++ ps.drop k).length = ps.length := by simp [marksP_len]; omega
end Go.Proofs.YtemhmejjmhbfdaaDoor.pairsBorder
