/- The table of distances, of the program and of the model. -/
import Derived.Test.YtkiimdfnobcdpaaWithin
import Derived.Test.YtkiimdfnobcdpaaTRows
namespace Go.Proofs.Ytkiimdfnobcdpaa.sines
open Go.ChangeShapes Go.WideShapes Go.ChangeAt Go.RowKit Go.Proofs.Ytkiimdfnobcdpaa.spots Go.Proofs.Ytkiimdfnobcdpaa.irows Go.Proofs.Ytkiimdfnobcdpaa.pairs Go.Proofs.Ytkiimdfnobcdpaa.trows

def tabK (ps : List (Int × Int)) (k : Nat) : List (List Int) := (ps.take k).map fun p => rowD ps p.1 p.2
def tabD (ps : List (Int × Int)) : List (List Int) := ps.map fun p => rowD ps p.1 p.2
theorem tabD_len (ps : List (Int × Int)) : (tabD ps).length = ps.length := by simp [tabD]
theorem tabK_len (ps : List (Int × Int)) (k : Nat) (h : k ≤ ps.length) : (tabK ps k).length = k := by simp [tabK]; omega
theorem tabK_all (ps : List (Int × Int)) : tabK ps ps.length = tabD ps := by simp [tabK, tabD]
theorem tabK_succ (ps : List (Int × Int)) (k : Nat) (h : k < ps.length) : tabK ps (k + 1) = tabK ps k ++ [rowD ps ps[k].1 ps[k].2] := by
  unfold tabK
  rw [List.take_add_one, List.map_append, List.getElem?_eq_getElem h]
  rfl
theorem tabD_at (ps : List (Int × Int)) (i : Nat) (h : i < ps.length) : (tabD ps)[i]'(by rw [tabD_len]; exact h) = rowD ps ps[i].1 ps[i].2 := by simp [tabD]
theorem tabK_at (ps : List (Int × Int)) (k i : Nat) (hk : k ≤ ps.length) (h : i < k) : (tabK ps k)[i]'(by rw [tabK_len ps k hk]; exact h) = rowD ps ps[i].1 ps[i].2 := by simp [tabK]
/-- The distance of two places of a list. -/
def dd (ps : List (Int × Int)) (i j : Nat) : Int := if h : i < ps.length ∧ j < ps.length then distL ps[i].1 ps[i].2 ps[j].1 ps[j].2 else 0
theorem dd_of {ps : List (Int × Int)} {i j : Nat} (hi : i < ps.length) (hj : j < ps.length) : dd ps i j = distL ps[i].1 ps[i].2 ps[j].1 ps[j].2 := by simp [dd, hi, hj]
theorem dd_bounds (ps : List (Int × Int)) (i j : Nat) : 0 ≤ dd ps i j ∧ dd ps i j ≤ 648000 := by
  unfold dd
  split
  · exact distL_bounds _ _ _ _
  · omega
theorem dd_sym (ps : List (Int × Int)) (i j : Nat) : dd ps i j = dd ps j i := by
  unfold dd
  by_cases h : i < ps.length ∧ j < ps.length
  · have h' : j < ps.length ∧ i < ps.length := ⟨h.2, h.1⟩
    rw [dif_pos h, dif_pos h', distL_sym]
  · have h' : ¬ (j < ps.length ∧ i < ps.length) := fun e => h ⟨e.2, e.1⟩
    rw [dif_neg h, dif_neg h']
theorem dd_self (ps : List (Int × Int)) (i : Nat) : dd ps i i = 0 := by
  unfold dd
  split
  · exact distL_self _ _
  · rfl
/-- What is read of the table. -/
def DAt (w : World) (B : Nat) (v : Value) (ps : List (Int × Int)) : Prop :=
  ∃ a c, v = .slice a ps.length c ∧ ∀ i, i < ps.length → ∃ b ar cr, a = some ⟨b, 0, none⟩ ∧ b < B ∧ w.cell? ⟨b, i, none⟩ = some (.slice ar ps.length cr) ∧
    ∀ j, j < ps.length → ∃ g, ar = some ⟨g, 0, none⟩ ∧ g < B ∧ w.cell? ⟨g, j, none⟩ = some (.int .i64 (dd ps i j))
theorem dat_of {w : World} {B : Nat} {v : Value} {ps : List (Int × Int)} (h : TAt w B v (tabD ps)) : DAt w B v ps := by
  obtain ⟨a, c, e, h⟩ := h
  rw [tabD_len] at e
  refine ⟨a, c, e, fun i hi => ?_⟩
  obtain ⟨b, ar, cr, e1, e2, e3, e4⟩ := h i (by rw [tabD_len]; exact hi)
  have hr := tabD_at ps i hi
  have hit : i < (tabD ps).length := by rw [tabD_len]; exact hi
  have hrl : (tabD ps)[i].length = ps.length := by rw [hr, rowD_len]
  refine ⟨b, ar, cr, e1, e2, by rw [e3, hrl], fun j hj => ?_⟩
  obtain ⟨g, f1, f2, f3⟩ := e4 j (by rw [hrl]; exact hj)
  refine ⟨g, f1, f2, ?_⟩
  rw [f3, dd_of hi hj]
  congr 2
  simp only [hr]
  exact rowD_at ps _ _ j hj
theorem dat_keep {w w' : World} {B : Nat} {v : Value} {ps : List (Int × Int)} (h : DAt w B v ps) (hb : Below B w w') : DAt w' B v ps := by
  obtain ⟨a, c, e, h⟩ := h
  refine ⟨a, c, e, fun i hi => ?_⟩
  obtain ⟨b, ar, cr, e1, e2, e3, e4⟩ := h i hi
  refine ⟨b, ar, cr, e1, e2, by rw [hb.cell (p := ⟨b, i, none⟩) e2]; exact e3, fun j hj => ?_⟩
  obtain ⟨g, f1, f2, f3⟩ := e4 j hj
  exact ⟨g, f1, f2, by rw [hb.cell (p := ⟨g, j, none⟩) f2]; exact f3⟩
theorem dat_up {w : World} {B B' : Nat} {v : Value} {ps : List (Int × Int)} (h : DAt w B v ps) (hB : B ≤ B') : DAt w B' v ps := by
  obtain ⟨a, c, e, h⟩ := h
  refine ⟨a, c, e, fun i hi => ?_⟩
  obtain ⟨b, ar, cr, e1, e2, e3, e4⟩ := h i hi
  refine ⟨b, ar, cr, e1, by omega, e3, fun j hj => ?_⟩
  obtain ⟨g, f1, f2, f3⟩ := e4 j hj
  exact ⟨g, f1, by omega, f3⟩
theorem own_ge {w : World} {B : Nat} {v : Value} {zs : List Int} (h : IRow w B v zs) : ∀ b, v.ownBlock = some b → B ≤ b := fun b hb => (World.ownsRow.lt h b hb).1

set_option maxHeartbeats 400000 in
theorem between_any (v : Value) (ps : List (Int × Int)) (i j : Nat) (w : World) (B : Nat) (h : DAt w B v ps) (hi : i < ps.length) (hj : j < ps.length) :
    Calls Try.prog 41 #[v, .int .i64 (i : Int), .int .i64 (j : Int)] w fun e w' => e = .returned (.int .i64 (dd ps i j)) ∧ w = w' := by
  obtain ⟨a, c, rfl, h⟩ := h
  obtain ⟨b, ar, cr, rfl, _, c1, h2⟩ := h i hi
  obtain ⟨g, rfl, _, c2⟩ := h2 j hj
  have i0 : 0 ≤ (i : Int) := by omega
  have i1 : (i : Int) < (ps.length : Int) := by omega
  have j0 : 0 ≤ (j : Int) := by omega
  have j1 : (j : Int) < (ps.length : Int) := by omega
  generalize dd ps i j = d at c2
  clear h h2
  go_enter Try.func41, Try.ntmps41
  go_wp2
  go_ret
  exact ⟨rfl, rfl⟩

theorem distancesFrom_rel (v : Value) (ps : List (Int × Int)) (a b : Int) (W w : World) (h : Below W.heap.size W w) (hv : PAt W W.heap.size v ps) (hl : ps.length ≤ 1048576) (hk : okL ps = true) (ha : okB a b = true) :
    Calls Try.prog 37 #[.agg #[.int .i64 a, .int .i64 b], v] w fun e w' => ∃ u, e = .returned u ∧ IRow w' W.heap.size u (rowD ps a b) ∧ Below W.heap.size W w' :=
  (distancesFrom_any v ps a b w (pat_up (pat_keep hv h) h.size) hl hk ha).mono fun _ _ ⟨u, h1, h2, h3⟩ => ⟨u, h1, irow_up h2 h.size, h.trans (h3.mono h.size)⟩

set_option maxRecDepth 100000 in
set_option maxHeartbeats 2000000 in
theorem distancesOf_any (v : Value) (ps : List (Int × Int)) (w : World) (hv : PAt w w.heap.size v ps) (hl : ps.length ≤ 12) (hk : okL ps = true) :
    Calls Try.prog 29 #[v] w fun e w' => ∃ u, e = .returned u ∧ TRow w' w.heap.size w'.heap.size u (tabD ps) ∧ Below w.heap.size w w' := by
  have HV := Lib.hid hv
  obtain ⟨ar, c, rfl, hc⟩ := hv
  obtain ⟨i0, hi, hz0, hz1, hz2⟩ := info_parts info_row
  obtain ⟨w1, hmk, hown0, hg0⟩ := run_make_full (P := Try.prog) (w := w) w.heap.size 56 29 i0 (.slice none 0 0) 1 Try.underlying56 hi hz0 hz1 .i64 .i64 ps.length (by rw [hz2]; omega) (by unfold maxLen; omega) (Nat.le_refl _)
  have HC := Lib.hid hc
  have HK := Lib.hid hk
  have G0 := Lib.hid (show Below w.heap.size w w1 from (Below.refl _ _).grown hg0 (Nat.le_refl _) (by simp))
  have hlt0 : w.heap.size < w1.heap.size := (World.ownsRow.lt hown0 _ rfl).2
  have H0 := Lib.hid (tm_start hown0 hlt0)
  clear hc hk hown0 hg0
  have hl2 : (ps.length : Int) ≤ 12 := by omega
  go_enter Try.func29, Try.ntmps29
  go_wp2
  clear hmk
  go_loopw [11] (fun i wr => ∃ k : Nat, k ≤ ps.length ∧ i = .int .i64 (k : Int) ∧ (∃ C vs, C ≤ wr.heap.size ∧ TM wr w.heap.size C w.heap.size ps.length vs (tabK ps k)) ∧ Below w.heap.size w wr) (fun i _ => ps.length - (intOf i).toNat)
  case atStart => exact ⟨0, Nat.zero_le _, rfl, ⟨_, _, Nat.le_refl _, H0.out⟩, G0.out⟩
  case round =>
    obtain ⟨k, hk, rfl, ⟨C, vs, hC, hr⟩, hb⟩ := hrel
    have HR := Lib.hid hr
    have HB := Lib.hid hb
    have hsz := hb.size
    have TL := Lib.hid (tabK_len ps k hk)
    have hws : w.heap.size < wr.heap.size := tm_lt hr
    clear hr hb
    by_cases hlt : k < ps.length
    · obtain ⟨bb, off, rfl, hbs, c1, c2⟩ := HC.out k hlt
      have c1' : wr.cell? ⟨bb, off + k * 2, none⟩ = some (.int .i64 ps[k].1) := by rw [HB.out.cell (p := ⟨bb, off + k * 2, none⟩) hbs]; exact c1
      have c2' : wr.cell? ⟨bb, off + k * 2 + 1, none⟩ = some (.int .i64 ps[k].2) := by rw [HB.out.cell (p := ⟨bb, off + k * 2 + 1, none⟩) hbs]; exact c2
      have hk0 : 0 ≤ (k : Int) := by omega
      have hk1 : (k : Int) < (ps.length : Int) := by omega
      have OK := Lib.hid (okL_at HK.out k hlt)
      have TS := Lib.hid (tabK_succ ps k hlt)
      clear c1 c2
      generalize ps[k] = x at c1' c2' OK TS
      obtain ⟨x1, x2⟩ := x
      go_wp2_with fail
      refine (distancesFrom_rel _ ps x1 x2 wr _ (by repeat (first | assumption | exact Below.refl _ _ | refine Below.drew ?_ | refine bdq ?_ _ | refine Below.alloc ?_ (by first | exact Nat.le_refl _ | omega | (simp; done) | (simp; omega)) _ | refine Below.setCell ?_ (by first | exact Nat.le_refl _ | omega | (simp; done) | (simp; omega)) _)) (pat_up (pat_keep HV.out HB.out) HB.out.size) (by omega) HK.out OK.out).mono ?_
      rintro e w2 ⟨u, rfl, hr2, hb2⟩
      have HM := Lib.hid (tm_keep HR.out (hb2.mono hC))
      obtain ⟨t0, f0⟩ := tm_cell HM.out (by rw [TL.out]; exact hlt)
      rw [TL.out] at t0 f0
      obtain ⟨⟨au, cu, rfl⟩, _⟩ := irow_shape hr2
      have HR2 := Lib.hid hr2
      have HB2 := Lib.hid hb2
      clear hr2 hb2
      go_wp2
      go_roundw
      case rel => exact ⟨k + 1, by omega, by go_num, ⟨_, _, Nat.le_refl _, by have := tm_store HM.out (by rw [TL.out]; exact hlt) (irow_up HR2.out hsz) (fun b hb => Nat.le_trans hC (own_ge HR2.out b hb)); rw [TL.out, ← TS.out] at this; exact this⟩, (HB.out.trans (HB2.out.mono hsz)).setCell (Nat.le_refl _) _⟩
      case measure => simp [intOf]; omega
    · obtain rfl : k = ps.length := by omega
      have HE := Lib.hid (tm_end HR.out TL.out)
      go_wp2
      go_ret
      exact ⟨_, rfl, by rw [← tabK_all]; exact trow_up HE.out (Nat.le_refl _) hC, HB.out⟩

end Go.Proofs.Ytkiimdfnobcdpaa.sines
