/- Lists of Spots (two numbers each): opened, copied, compared, marked. -/
import Derived.Test.YtemhmejjmhbfdaaIRows
import Derived.Test.YtemhmejjmhbfdaaSpots
import Derived.Deep.SlicePairs
import Derived.Deep.RegionWith
import Derived.Lib.BufferOwn
namespace Go.Proofs.Ytemhmejjmhbfdaa.pairs
open Go.ChangeShapes Go.WideShapes Go.ChangeAt Go.RowKit Go.Proofs.Ytemhmejjmhbfdaa.irows Go.Proofs.Ytemhmejjmhbfdaa.spots

def flat (ps : List (Int × Int)) : List Int := ps.flatMap fun p => [p.1, p.2]
theorem flat_len (ps : List (Int × Int)) : (flat ps).length = ps.length * 2 := by
  induction ps with
  | nil => rfl
  | cons p ps ih => simp only [flat, List.flatMap_cons, List.length_append, List.length_cons, List.length_nil] at ih ⊢; omega
theorem flat_append (ps qs : List (Int × Int)) : flat (ps ++ qs) = flat ps ++ flat qs := by simp [flat]
theorem flat_at (ps : List (Int × Int)) : ∀ k, (h : k < ps.length) → (flat ps)[k * 2]? = some ps[k].1 ∧ (flat ps)[k * 2 + 1]? = some ps[k].2 := by
  induction ps with
  | nil => intro k h; simp at h
  | cons p ps ih =>
    intro k h
    match k with
    | 0 => exact ⟨rfl, rfl⟩
    | k + 1 =>
      obtain ⟨h1, h2⟩ := ih k (by simpa using h)
      have e : flat (p :: ps) = p.1 :: p.2 :: flat ps := rfl
      rw [e, show (k + 1) * 2 = k * 2 + 1 + 1 by omega]
      exact ⟨by simpa using h1, by simpa using h2⟩
/-- What is read of a list. -/
def PAt (w : World) (B : Nat) (v : Value) (ps : List (Int × Int)) : Prop :=
  ∃ a c, v = .slice a ps.length c ∧ ∀ k, (h : k < ps.length) → ∃ b off, a = some ⟨b, off, none⟩ ∧ b < B ∧ w.cell? ⟨b, off + k * 2, none⟩ = some (.int .i64 ps[k].1) ∧ w.cell? ⟨b, off + k * 2 + 1, none⟩ = some (.int .i64 ps[k].2)
theorem pat_keep {w w' : World} {B : Nat} {v : Value} {ps : List (Int × Int)} (h : PAt w B v ps) (hb : Below B w w') : PAt w' B v ps := by
  obtain ⟨a, c, e, h⟩ := h
  refine ⟨a, c, e, fun k hk => ?_⟩
  obtain ⟨b, off, e1, e2, e3, e4⟩ := h k hk
  exact ⟨b, off, e1, e2, by rw [hb.cell (p := ⟨b, off + k * 2, none⟩) e2]; exact e3, by rw [hb.cell (p := ⟨b, off + k * 2 + 1, none⟩) e2]; exact e4⟩
theorem pat_up {w : World} {B B' : Nat} {v : Value} {ps : List (Int × Int)} (h : PAt w B v ps) (hB : B ≤ B') : PAt w B' v ps := by
  obtain ⟨a, c, e, h⟩ := h
  refine ⟨a, c, e, fun k hk => ?_⟩
  obtain ⟨b, off, e1, e2, e3⟩ := h k hk
  exact ⟨b, off, e1, by omega, e3⟩
/-- A list of the call's own. -/
def PRow (w : World) (B : Nat) (v : Value) (ps : List (Int × Int)) : Prop := w.ownsRow B 25 2 v ps.length (ints (flat ps))
theorem prow_at {w : World} {B : Nat} {v : Value} {ps : List (Int × Int)} (h : PRow w B v ps) : PAt w w.heap.size v ps := by
  have h0 := h
  rcases h.2 with ⟨hv, h0⟩ | ⟨g, cap, cur, hv, hB, hc, _⟩
  · exact ⟨none, 0, by rw [hv, h0], fun k hk => by omega⟩
  · subst hv
    refine ⟨_, _, rfl, fun k hk => ⟨g, 0, rfl, (Array.getElem?_eq_some_iff.1 hc).1, ?_, ?_⟩⟩
    · rw [World.ownsRow.cellAt h0 (0 + k * 2) (by omega)]
      simp [ints, (flat_at ps k hk).1]
    · rw [World.ownsRow.cellAt h0 (0 + k * 2 + 1) (by omega)]
      simp [ints, (flat_at ps k hk).2]
theorem prow_keep {w w' : World} {B : Nat} {v : Value} {ps : List (Int × Int)} (h : PRow w B v ps) (hb : Below w.heap.size w w') : PRow w' B v ps := by
  refine ⟨h.1, ?_⟩
  rcases h.2 with hn | ⟨g, cap, cur, hv, hg1, hg2, hg3⟩
  · exact .inl hn
  · exact .inr ⟨g, cap, cur, hv, hg1, by rw [hb.block g (Array.getElem?_eq_some_iff.1 hg2).1]; exact hg2, hg3⟩
theorem prow_up {w : World} {B B' : Nat} {v : Value} {ps : List (Int × Int)} (h : PRow w B v ps) (hB : B' ≤ B) : PRow w B' v ps := by
  refine ⟨h.1, ?_⟩
  rcases h.2 with hn | ⟨g, cap, cur, hv, hg1, hr⟩
  · exact .inl hn
  · exact .inr ⟨g, cap, cur, hv, Nat.le_trans hB hg1, hr⟩
theorem add_plain' (b off i : Nat) : (⟨b, off, none⟩ : Addr).add i = ⟨b, off + i, none⟩ := by
  by_cases h : i = 0 <;> simp [Addr.add, h]
/-- An argument is such a list. -/
theorem open_list {H : Type} {enc : TypeId × Value → H} {W : World} {base : Nat} {spare : Nat → Bool} {held : Bool} {fuel : Nat} {v : Value} {x : DataW H × List MemPlace} (h : DataW.trod enc Try.prog W base spare held fuel 90 v.cells.toList = some x) (hv : ∃ a l c, v = .slice a l c) :
    ∃ ps, PAt W W.heap.size v ps ∧ ps.length ≤ maxLen := by
  obtain ⟨a0, l0, c0, rfl⟩ := hv
  rcases Go.Deep.open_slice_pairs (f0 := _) (f1 := _) Try.underlying90 Try.underlying81 (by kernel_rfl) rfl rfl (by kernel_rfl) (by kernel_rfl) h with ⟨hcs, _⟩ | ⟨a, len, cap, m, n, V0, V1, D0, D1, P0, P1, hcs, _, hl, hm, hmm, _, hx⟩
  · simp [Value.cells] at hcs
    obtain ⟨rfl, rfl, rfl⟩ := hcs
    exact ⟨[], ⟨none, 0, rfl, fun k hk => by simp at hk⟩, Nat.zero_le _⟩
  · simp [Value.cells] at hcs
    obtain ⟨rfl, rfl, rfl⟩ := hcs
    have hlm : l0 ≤ m := by rw [hmm]; split <;> omega
    have each : ∀ i, i < l0 → ∃ q : Int × Int, W.cell? (a.add (i * 2)) = some (.int .i64 q.1) ∧ W.cell? (a.add (i * 2 + 1)) = some (.int .i64 q.2) := fun i hi => by
      obtain ⟨c1, c2, t1, t2⟩ := hx i (by omega)
      obtain ⟨z1, e1, _, _⟩ := DataW.trod_int Try.underlying2 t1
      obtain ⟨z2, e2, _, _⟩ := DataW.trod_int Try.underlying2 t2
      simp at e1 e2
      exact ⟨(z1, z2), by rw [c1, e1], by rw [c2, e2]⟩
    obtain ⟨q, hq⟩ := Go.Deep.choose_lt each
    obtain ⟨b, off, spot⟩ := a
    refine ⟨(List.range l0).map q, ⟨some ⟨b, off, spot⟩, c0, by simp, fun k hk => ?_⟩, by simp; omega⟩
    have hk' : k < l0 := by simpa using hk
    obtain ⟨c1, c2⟩ := hq k hk'
    have hspot : spot = none := by simpa [Addr.add] using World.cell?_spot (hq 0 (by omega)).1
    subst hspot
    have a1 : (⟨b, off, none⟩ : Addr).add (k * 2) = ⟨b, off + k * 2, none⟩ := add_plain' _ _ _
    have a2 : (⟨b, off, none⟩ : Addr).add (k * 2 + 1) = ⟨b, off + k * 2 + 1, none⟩ := add_plain' _ _ _
    rw [a1] at c1
    rw [a2] at c2
    exact ⟨b, off, rfl, World.block_lt_of_cell? _ _ c1, by simpa using c1, by simpa using c2⟩

set_option maxHeartbeats 400000 in
theorem sz_no (v : Value) (ps : List (Int × Int)) (w : World) (B : Nat) (h : PAt w B v ps) (hm : ps.length ≤ maxLen) (hl : 1048576 < ps.length) :
    Calls Try.prog 74 #[v, .int .i64 1048576] w fun e w' => e = .returned (.int .i64 (-1)) ∧ w = w' := by
  obtain ⟨a, c, rfl, _⟩ := h
  unfold maxLen at hm
  have h1 : 1048576 < (ps.length : Int) := by omega
  have h2 : (ps.length : Int) ≤ 9223372036854775807 := by omega
  go_enter Try.func74, Try.ntmps74
  go_wp2
  go_ret
  exact ⟨rfl, rfl⟩
set_option maxHeartbeats 400000 in
theorem sz_yes (v : Value) (ps : List (Int × Int)) (w : World) (B : Nat) (h : PAt w B v ps) (hl : ps.length ≤ 1048576) :
    Calls Try.prog 74 #[v, .int .i64 1048576] w fun e w' => e = .returned (.int .i64 (1048576 - (ps.length : Int))) ∧ w = w' := by
  obtain ⟨a, c, rfl, _⟩ := h
  have h1 : (ps.length : Int) ≤ 1048576 := by omega
  go_enter Try.func74, Try.ntmps74
  go_wp2
  go_ret
  exact ⟨rfl, rfl⟩
theorem info_pair : (Try.prog.info? 25).map (fun i => (i.zero, i.size, i.bytes)) = some (some (.agg #[.int .i64 0, .int .i64 0]), 2, 16) := by kernel_rfl
def zeros (n : Nat) : List (Int × Int) := List.replicate n (0, 0)
theorem mid_len (ps : List (Int × Int)) (k : Nat) (hk : k ≤ ps.length) : (ps.take k ++ zeros (ps.length - k)).length = ps.length := by simp [zeros]; omega
theorem mid_row {w : World} {B g k c : Nat} {ps : List (Int × Int)} (h : PRow w B (.slice (some ⟨g, 0, none⟩) ps.length c) (ps.take k ++ zeros (ps.length - k))) (hk : k ≤ ps.length) : w.ownsRow B 25 2 (.slice (some ⟨g, 0, none⟩) ps.length c) ps.length (ints (flat (ps.take k ++ zeros (ps.length - k)))) := by
  unfold PRow at h
  rwa [mid_len ps k hk] at h
theorem mid_at (ps : List (Int × Int)) (k : Nat) (hk : k < ps.length) : (flat (ps.take k ++ zeros (ps.length - k)))[k * 2]? = some 0 ∧ (flat (ps.take k ++ zeros (ps.length - k)))[k * 2 + 1]? = some 0 := by
  have e := flat_at (ps.take k ++ zeros (ps.length - k)) k (by rw [mid_len ps k (by omega)]; exact hk)
  have e2 : (ps.take k ++ zeros (ps.length - k))[k]'(by rw [mid_len ps k (by omega)]; exact hk) = (0, 0) := by
    rw [List.getElem_append_right (by simp; omega)]
    simp [zeros]
  rw [e2] at e
  exact e
theorem mid_cells {w : World} {B g k c : Nat} {ps : List (Int × Int)} (h : PRow w B (.slice (some ⟨g, 0, none⟩) ps.length c) (ps.take k ++ zeros (ps.length - k))) (hk : k < ps.length) : w.cell? ⟨g, k * 2, none⟩ = some (.int .i64 0) ∧ w.cell? ⟨g, k * 2 + 1, none⟩ = some (.int .i64 0) := by
  have h2 := mid_row h (by omega)
  obtain ⟨e1, e2⟩ := mid_at ps k hk
  exact ⟨by rw [World.ownsRow.cellAt h2 _ (by omega)]; simp [ints, e1], by rw [World.ownsRow.cellAt h2 _ (by omega)]; simp [ints, e2]⟩
theorem flat_set (ys : List (Int × Int)) (x : Int × Int) : ∀ k, k < ys.length → ((flat ys).set (k * 2) x.1).set (k * 2 + 1) x.2 = flat (ys.set k x) := by
  induction ys with
  | nil => intro k h; simp at h
  | cons p ps ih =>
    intro k h
    match k with
    | 0 => rfl
    | k + 1 =>
      have e : flat (p :: ps) = p.1 :: p.2 :: flat ps := rfl
      have h2 := ih k (by simpa using h)
      have e2 : flat ((p :: ps).set (k + 1) x) = p.1 :: p.2 :: flat (ps.set k x) := rfl
      rw [e, e2, ← h2, show (k + 1) * 2 = k * 2 + 1 + 1 by omega]
      rfl
theorem ints_set (zs : List Int) (k : Nat) (z : Int) : (ints zs).set k (.int .i64 z) = ints (zs.set k z) := by simp [ints, List.map_set]
theorem prow_store {w : World} {B g k n c : Nat} {ys : List (Int × Int)} {x : Int × Int} (h : PRow w B (.slice (some ⟨g, 0, none⟩) n c) ys) (hn : ys.length = n) (hk : k < n) :
    PRow ((w.setCell ⟨g, k * 2, none⟩ (.int .i64 x.1)).setCell ⟨g, k * 2 + 1, none⟩ (.int .i64 x.2)) B (.slice (some ⟨g, 0, none⟩) n c) (ys.set k x) := by
  subst hn
  have h1 := (World.ownsRow.stored h (k * 2) (.int .i64 x.1)).1
  have h2 := (World.ownsRow.stored h1 (k * 2 + 1) (.int .i64 x.2)).1
  rw [ints_set, ints_set, flat_set ys x k hk] at h2
  unfold PRow
  rw [List.length_set]
  exact h2
theorem mid_set (ps : List (Int × Int)) (k : Nat) (hk : k < ps.length) : (ps.take k ++ zeros (ps.length - k)).set k ps[k] = ps.take (k + 1) ++ zeros (ps.length - (k + 1)) := by
  rw [List.set_append_right _ _ (by simp; omega), List.take_add_one, List.append_assoc]
  congr 1
  have e : ps.length - k = (ps.length - (k + 1)) + 1 := by omega
  rw [List.getElem?_eq_getElem hk, e]
  simp [zeros, List.replicate_succ, show min k ps.length = k by omega]
theorem flat_zeros (n : Nat) : flat (zeros n) = List.replicate (n * 2) 0 := by
  induction n with
  | zero => rfl
  | succ n ih =>
    have e : flat (zeros (n + 1)) = 0 :: 0 :: flat (zeros n) := rfl
    rw [e, ih, show (n + 1) * 2 = n * 2 + 1 + 1 by omega]
    rfl
theorem start_row {w : World} {B g n c : Nat} {ps : List (Int × Int)} (h : w.ownsRow B 25 2 (.slice (some ⟨g, 0, none⟩) n c) n (madeCells (Value.agg #[Value.int IntKind.i64 0, Value.int IntKind.i64 0]).cells (n * 2)).toList) (hn : ps.length = n := by rfl) : PRow w B (.slice (some ⟨g, 0, none⟩) n c) (ps.take 0 ++ zeros (ps.length - 0)) := by
  subst hn
  have e : (madeCells (Value.agg #[Value.int IntKind.i64 0, Value.int IntKind.i64 0]).cells (ps.length * 2)).toList = ints (flat (ps.take 0 ++ zeros (ps.length - 0))) := by
    simp only [List.take_zero, List.nil_append, Nat.sub_zero, flat_zeros]
    apply List.ext_getElem?
    intro j
    by_cases hj : j < ps.length * 2
    · have h2 : j % 2 = 0 ∨ j % 2 = 1 := by omega
      rcases h2 with h2 | h2 <;> simp [madeCells, ints, hj, Value.cells, h2]
    · simp [madeCells, ints, hj]
  rw [e] at h
  unfold PRow
  rw [show (ps.take 0 ++ zeros (ps.length - 0)).length = ps.length by simp [zeros]]
  exact h
theorem to_below (a b : Int) (w : World) :
    Calls Try.prog 70 #[.agg #[.int .i64 a, .int .i64 b]] w fun e w' => e = .returned (.agg #[.int .i64 a, .int .i64 b]) ∧ Below w.heap.size w w' :=
  (toSpot_any a b w).mono fun e w' ⟨h, o1, o2, o3, hw⟩ => ⟨h, by rw [hw]; exact (((Below.refl _ _).alloc (Nat.le_refl _) _).alloc (by simp) _).alloc (by simp; omega) _⟩
set_option maxRecDepth 100000 in
set_option maxHeartbeats 1000000 in
theorem toS_any (v : Value) (ps : List (Int × Int)) (w : World) (h : PAt w w.heap.size v ps) (hl : ps.length ≤ 1048576) :
    Calls Try.prog 75 #[v] w fun e w' => ∃ u, e = .returned u ∧ PRow w' w.heap.size u ps ∧ Below w.heap.size w w' := by
  obtain ⟨a, c, rfl, hc⟩ := h
  obtain ⟨i0, hi, hz0, hz1, hz2⟩ := info_parts info_pair
  obtain ⟨w1, hmk, hown0, hg0⟩ := run_make_full (P := Try.prog) (w := w) w.heap.size 34 25 i0 (.agg #[.int .i64 0, .int .i64 0]) 2 Try.underlying34 hi hz0 hz1 .i64 .i64 ps.length (by rw [hz2]; omega) (by unfold maxLen; omega) (Nat.le_refl _)
  have HC := Lib.hid hc
  have H0 := Lib.hid hown0
  have G0 := Lib.hid hg0
  clear hc hown0 hg0
  have hl2 : (ps.length : Int) ≤ 1048576 := by omega
  go_enter Try.func75, Try.ntmps75
  go_wp2
  clear hmk
  go_loopw [4] (fun i wr => ∃ k : Nat, k ≤ ps.length ∧ i = .int .i64 (k : Int) ∧ PRow wr w.heap.size (.slice (some ⟨w.heap.size, 0, none⟩) ps.length ps.length) (ps.take k ++ zeros (ps.length - k)) ∧ Below w.heap.size w wr) (fun i _ => ps.length - (intOf i).toNat)
  case atStart => exact ⟨0, Nat.zero_le _, rfl, start_row H0.out, (Below.refl _ _).grown G0.out (Nat.le_refl _) (by simp)⟩
  case round =>
    obtain ⟨k, hk, rfl, hr, hb⟩ := hrel
    by_cases hlt : k < ps.length
    · obtain ⟨b, off, rfl, hbs, c1, c2⟩ := HC.out k hlt
      have c1' : wr.cell? ⟨b, off + k * 2, none⟩ = some (.int .i64 ps[k].1) := by rw [hb.cell (p := ⟨b, off + k * 2, none⟩) hbs]; exact c1
      have c2' : wr.cell? ⟨b, off + k * 2 + 1, none⟩ = some (.int .i64 ps[k].2) := by rw [hb.cell (p := ⟨b, off + k * 2 + 1, none⟩) hbs]; exact c2
      have HR := Lib.hid hr
      have HB := Lib.hid hb
      have hws : w.heap.size < wr.heap.size := World.block_lt_of_cell? _ _ (mid_cells hr hlt).1
      obtain ⟨q0, q1⟩ := mid_cells hr hlt
      have f0 : wr.frozen? ⟨w.heap.size, k * 2, none⟩ = false := World.ownsRow.frozenAt (mid_row hr hk) (k * 2)
      have f1 : wr.frozen? ⟨w.heap.size, k * 2 + 1, none⟩ = false := World.ownsRow.frozenAt (mid_row hr hk) (k * 2 + 1)
      have hk0 : 0 ≤ (k : Int) := by omega
      have hk1 : (k : Int) < (ps.length : Int) := by omega
      clear hr hb c1 c2
      obtain ⟨x, hx⟩ : ∃ x, Hid (x = ps[k]) := ⟨_, Lib.hid rfl⟩
      have HX := hx
      rw [← hx.out] at c1' c2'
      clear hx
      go_wp2_with fail
      refine (to_below _ _ _).mono ?_
      rintro e w2 ⟨rfl, hb2⟩
      have HB2 := Lib.hid hb2
      have q0' : w2.cell? ⟨w.heap.size, k * 2, none⟩ = some (.int .i64 0) := by rw [hb2.cell (p := ⟨w.heap.size, k * 2, none⟩) hws]; exact q0
      have q1' : w2.cell? ⟨w.heap.size, k * 2 + 1, none⟩ = some (.int .i64 0) := by rw [hb2.cell (p := ⟨w.heap.size, k * 2 + 1, none⟩) hws]; exact q1
      have f0' : w2.frozen? ⟨w.heap.size, k * 2, none⟩ = false := by rw [hb2.frozen (p := ⟨w.heap.size, k * 2, none⟩) hws]; exact f0
      have f1' : w2.frozen? ⟨w.heap.size, k * 2 + 1, none⟩ = false := by rw [hb2.frozen (p := ⟨w.heap.size, k * 2 + 1, none⟩) hws]; exact f1
      clear q0 q1 f0 f1 hb2
      go_wp2
      go_roundw
      case rel => exact ⟨k + 1, by omega, by go_num, by (have := prow_store (k := k) (x := x) (prow_keep HR.out HB2.out) (mid_len ps k (by omega)) (by omega); have e := mid_set ps k hlt; rw [← HX.out] at e; rw [e] at this; exact this), ((HB.out.trans (HB2.out.mono HB.out.size)).setCell (Nat.le_refl _) _).setCell (Nat.le_refl _) _⟩
      case measure => simp [intOf]; omega
    · obtain rfl : k = ps.length := by omega
      go_wp2
      go_ret
      exact ⟨_, rfl, by simpa [zeros] using hr, hb⟩
theorem bdrew {B : Nat} {a w : World} (h : Below B a w) : Below B a w.drew := ⟨h.os, h.tape, h.output, h.size, h.block⟩
theorem own_cells {w : World} {B k n c : Nat} {a : Option Addr} {qs : List (Int × Int)} (h : PRow w B (.slice a n c) qs) (hn : qs.length = n) (hk : k < n) :
    ∃ (g : Nat) (y0 y1 : Int), a = some ⟨g, 0, none⟩ ∧ B ≤ g ∧ g < w.heap.size ∧ w.cell? ⟨g, k * 2, none⟩ = some (.int .i64 y0) ∧ w.cell? ⟨g, k * 2 + 1, none⟩ = some (.int .i64 y1) ∧ w.frozen? ⟨g, k * 2, none⟩ = false ∧ w.frozen? ⟨g, k * 2 + 1, none⟩ = false := by
  subst hn
  have h0 := h
  rcases h.2 with ⟨hv, h1⟩ | ⟨g, cap, cur, hv, hB, hc, _⟩
  · omega
  · cases hv
    refine ⟨g, qs[k].1, qs[k].2, rfl, hB, (Array.getElem?_eq_some_iff.1 hc).1, ?_, ?_, World.ownsRow.frozenAt h0 _, World.ownsRow.frozenAt h0 _⟩
    · rw [World.ownsRow.cellAt h0 (k * 2) (by omega)]
      simp [ints, (flat_at qs k hk).1]
    · rw [World.ownsRow.cellAt h0 (k * 2 + 1) (by omega)]
      simp [ints, (flat_at qs k hk).2]
set_option maxRecDepth 100000 in
set_option maxHeartbeats 1000000 in
theorem eqS_same (v u : Value) (ps : List (Int × Int)) (w : World) (hv : PAt w w.heap.size v ps) (hu : PAt w w.heap.size u ps) (hl : ps.length ≤ 1048576) :
    Calls Try.prog 76 #[v, u] w fun e w' => e = .returned (.bool true) ∧ Below w.heap.size w w' := by
  obtain ⟨a, c, rfl, ha⟩ := hv
  obtain ⟨b, d, rfl, hb⟩ := hu
  have HA := Lib.hid ha
  have HB := Lib.hid hb
  clear ha hb
  have hl2 : (ps.length : Int) ≤ 1048576 := by omega
  go_enter Try.func76, Try.ntmps76
  go_wp2
  go_loopw [5] (fun i wr => ∃ k : Nat, k ≤ ps.length ∧ i = .int .i64 (k : Int) ∧ Below w.heap.size w wr) (fun i _ => ps.length - (intOf i).toNat)
  case atStart => exact ⟨0, Nat.zero_le _, rfl, Below.refl _ _⟩
  case round =>
    obtain ⟨k, hk, rfl, hbw⟩ := hrel
    have hsz := hbw.size
    by_cases hlt : k < ps.length
    · obtain ⟨b1, off1, rfl, hs1, c1, c2⟩ := HA.out k hlt
      obtain ⟨b2, off2, rfl, hs2, c3, c4⟩ := HB.out k hlt
      have c1' : wr.cell? ⟨b1, off1 + k * 2, none⟩ = some (.int .i64 ps[k].1) := by rw [hbw.cell (p := ⟨b1, off1 + k * 2, none⟩) hs1]; exact c1
      have c2' : wr.cell? ⟨b1, off1 + k * 2 + 1, none⟩ = some (.int .i64 ps[k].2) := by rw [hbw.cell (p := ⟨b1, off1 + k * 2 + 1, none⟩) hs1]; exact c2
      have c3' : wr.cell? ⟨b2, off2 + k * 2, none⟩ = some (.int .i64 ps[k].1) := by rw [hbw.cell (p := ⟨b2, off2 + k * 2, none⟩) hs2]; exact c3
      have c4' : wr.cell? ⟨b2, off2 + k * 2 + 1, none⟩ = some (.int .i64 ps[k].2) := by rw [hbw.cell (p := ⟨b2, off2 + k * 2 + 1, none⟩) hs2]; exact c4
      have HW := Lib.hid hbw
      have hk0 : 0 ≤ (k : Int) := by omega
      have hk1 : (k : Int) < (ps.length : Int) := by omega
      have t1 : b1 < wr.heap.size := by omega
      have t2 : b2 < wr.heap.size := by omega
      clear hbw c1 c2 c3 c4
      generalize ps[k] = x at c1' c2' c3' c4'
      obtain ⟨x1, x2⟩ := x
      go_wp2_with fail
      go_region_with (go_at_call 73; refine (eqSpot_same _ _ _).mono ?_; rintro e w2 ⟨rfl, o1, o2, hw2⟩; have HW2 := Lib.hid hw2; clear hw2)
      all_goals go_wp2
      all_goals go_roundw
      all_goals first
        | exact ⟨k + 1, by omega, by go_num, by rw [HW2.out]; exact ((bdrew HW.out).alloc (by simpa using hsz) _).alloc (by simp; omega) _⟩
        | (simp [intOf]; omega)
    · obtain rfl : k = ps.length := by omega
      go_wp2
      go_ret
      exact ⟨rfl, hbw⟩
end Go.Proofs.Ytemhmejjmhbfdaa.pairs
