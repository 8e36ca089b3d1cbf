/- The distances of a place from all places of a list, of the program. -/
import Derived.Test.YtkiimdfnobcdpaaCodes
namespace Go.Proofs.Ytkiimdfnobcdpaa.sines
open Go.ChangeShapes Go.WideShapes Go.ChangeAt Go.RowKit Go.Proofs.Ytkiimdfnobcdpaa.spots Go.Proofs.Ytkiimdfnobcdpaa.irows Go.Proofs.Ytkiimdfnobcdpaa.pairs

def rowD (ps : List (Int × Int)) (a b : Int) : List Int := ps.map fun p => distL a b p.1 p.2
theorem rowD_len (ps : List (Int × Int)) (a b : Int) : (rowD ps a b).length = ps.length := by simp [rowD]
theorem rowD_at (ps : List (Int × Int)) (a b : Int) (k : Nat) (h : k < ps.length) : (rowD ps a b)[k]'(by rw [rowD_len]; exact h) = distL a b ps[k].1 ps[k].2 := by simp [rowD]
def nulls (n : Nat) : List Int := List.replicate n 0
def midI (zs : List Int) (k : Nat) : List Int := zs.take k ++ nulls (zs.length - k)
theorem midI_len (zs : List Int) (k : Nat) (h : k ≤ zs.length) : (midI zs k).length = zs.length := by simp [midI, nulls]; omega
theorem midI_end (zs : List Int) : midI zs zs.length = zs := by simp [midI, nulls]
theorem midI_set (zs : List Int) (k : Nat) (h : k < zs.length) : (ints (midI zs k)).set k (.int .i64 zs[k]) = ints (midI zs (k + 1)) := by
  rw [pairs.ints_set]
  congr 1
  unfold midI
  rw [List.set_append_right _ _ (by simp; omega), List.take_add_one, List.append_assoc]
  congr 1
  have e : zs.length - k = (zs.length - (k + 1)) + 1 := by omega
  rw [List.getElem?_eq_getElem h, e]
  simp [nulls, List.replicate_succ, show min k zs.length = k by omega]
theorem made_ints (n : Nat) : (madeCells (Value.int IntKind.i64 0).cells (n * 1)).toList = ints (nulls n) := by
  apply List.ext_getElem?
  intro j
  by_cases hj : j < n
  · simp [madeCells, ints, nulls, hj, Value.cells, Nat.mod_one]
  · simp [madeCells, ints, nulls, hj]
theorem irow_start {w : World} {B g n c : Nat} (zs : List Int) (h : w.ownsRow B 2 1 (.slice (some ⟨g, 0, none⟩) n c) n (madeCells (Value.int IntKind.i64 0).cells (n * 1)).toList) (hn : zs.length = n) : IRow w B (.slice (some ⟨g, 0, none⟩) n c) (midI zs 0) := by
  rw [made_ints] at h
  have e : midI zs 0 = nulls n := by simp [midI, hn]
  rw [e]
  unfold IRow
  rw [show (nulls n).length = n by simp [nulls]]
  exact h
theorem irow_cellw {w : World} {B g c n : Nat} {zs : List Int} (h : IRow w B (.slice (some ⟨g, 0, none⟩) n c) zs) (hn : zs.length = n) (k : Nat) (hk : k < n) : ∃ y, w.cell? ⟨g, k, none⟩ = some (.int .i64 y) ∧ w.frozen? ⟨g, k, none⟩ = false := by
  subst hn
  exact ⟨_, irow_cell h k hk, World.ownsRow.frozenAt h k⟩
theorem irow_at' {w : World} {B : Nat} {v : Value} {zs : List Int} (h : IRow w B v zs) : ∃ a c, v = .slice a zs.length c ∧ ∀ k, (hk : k < zs.length) → ∃ g, a = some ⟨g, 0, none⟩ ∧ B ≤ g ∧ g < w.heap.size ∧ w.cell? ⟨g, k, none⟩ = some (.int .i64 zs[k]) := by
  obtain ⟨⟨a, c, rfl⟩, _⟩ := irow_shape h
  refine ⟨a, c, rfl, fun k hk => ?_⟩
  obtain ⟨g, e, hB, hc⟩ := irow_at h k hk
  exact ⟨g, e, hB, World.block_lt_of_cell? _ _ hc, hc⟩

theorem distanceBetween_rel (a b c d : Int) (W0 w : World) (h : Below W0.heap.size W0 w) (ha : okB a b = true) (hc : okB c d = true) :
    Calls Try.prog 39 #[.agg #[.int .i64 a, .int .i64 b], .agg #[.int .i64 c, .int .i64 d]] w fun e w' => e = .returned (.int .i64 (distL a b c d)) ∧ Below W0.heap.size W0 w' :=
  (distanceBetween_any a b c d w ha hc).mono fun _ _ ⟨h1, hb⟩ => ⟨h1, h.trans (hb.mono h.size)⟩

theorem l05Distance_rel (a b c d : Int) (W0 w : World) (h : Below W0.heap.size W0 w) (ha : okB a b = true) (hc : okB c d = true) :
    Calls Try.prog 33 #[.agg #[.int .i64 a, .int .i64 b], .agg #[.int .i64 c, .int .i64 d]] w fun e w' => e = .returned (.int .i64 (distL a b c d)) ∧ Below W0.heap.size W0 w' :=
  (l05Distance_any a b c d w ha hc).mono fun _ _ ⟨h1, hb⟩ => ⟨h1, h.trans (hb.mono h.size)⟩

set_option maxRecDepth 100000 in
set_option maxHeartbeats 2000000 in
theorem distancesFrom_any (v : Value) (ps : List (Int × Int)) (a b : Int) (w : World) (hv : PAt w w.heap.size v ps) (hl : ps.length ≤ 1048576) (hk : okL ps = true) (ha : okB a b = true) :
    Calls Try.prog 37 #[.agg #[.int .i64 a, .int .i64 b], v] w fun e w' => ∃ u, e = .returned u ∧ IRow w' w.heap.size u (rowD ps a b) ∧ Below w.heap.size w w' := by
  obtain ⟨ar, c, rfl, hc⟩ := hv
  obtain ⟨i0, hi, hz0, hz1, hz2⟩ := info_parts info_int
  obtain ⟨w1, hmk, hown0, hg0⟩ := run_make_full (P := Try.prog) (w := w.alloc (.cells #[.int .i64 a, .int .i64 b] 35)) w.heap.size 29 2 i0 (.int .i64 0) 1 Try.underlying29 hi hz0 hz1 .i64 .i64 ps.length (by rw [hz2]; omega) (by unfold maxLen; omega) (by simp)
  rw [show (w.alloc (.cells #[.int .i64 a, .int .i64 b] 35)).heap.size = w.heap.size + 1 by simp] at hmk hown0
  have HC := Lib.hid hc
  have HK := Lib.hid hk
  have RL := Lib.hid (rowD_len ps a b)
  have H0 := Lib.hid (irow_start (rowD ps a b) hown0 (rowD_len ps a b))
  have G0 := Lib.hid (show Below w.heap.size w w1 from ((Below.refl _ _).alloc (Nat.le_refl _) _).grown hg0 (by simp) (by simp))
  have Q0 := Lib.hid (show w1.cell? ⟨w.heap.size, 0, none⟩ = some (.int .i64 a) ∧ w1.cell? ⟨w.heap.size, 1, none⟩ = some (.int .i64 b) from ⟨by rw [Below.cell (p := ⟨w.heap.size, 0, none⟩) (B := w.heap.size + 1) (Below.grown (Below.refl _ _) hg0 (by simp) (by simp)) (by simp)]; simp, by rw [Below.cell (p := ⟨w.heap.size, 1, none⟩) (B := w.heap.size + 1) (Below.grown (Below.refl _ _) hg0 (by simp) (by simp)) (by simp)]; simp⟩)
  clear hc hk hown0 hg0
  have hl2 : (ps.length : Int) ≤ 1048576 := by omega
  obtain ⟨zs, hzs⟩ : ∃ zs, Hid (rowD ps a b = zs) := ⟨_, Lib.hid rfl⟩
  have ZA := Lib.hid (show ∀ k, (h : k < ps.length) → (h2 : k < zs.length) → zs[k] = distL a b ps[k].1 ps[k].2 from fun k h h2 => by have := hzs.out; subst this; exact rowD_at ps a b k h)
  rw [hzs.out] at H0 RL ⊢
  have ZL := Lib.hid (show zs.length = ps.length from RL.out)
  clear RL
  go_enter Try.func37, Try.ntmps37
  go_wp2
  clear hmk
  go_loopw [13] (fun i wr => ∃ k : Nat, k ≤ ps.length ∧ i = .int .i64 (k : Int) ∧ IRow wr w.heap.size (.slice (some ⟨w.heap.size + 1, 0, none⟩) ps.length ps.length) (midI zs k) ∧ Below w.heap.size w wr ∧ wr.cell? ⟨w.heap.size, 0, none⟩ = some (.int .i64 a) ∧ wr.cell? ⟨w.heap.size, 1, none⟩ = some (.int .i64 b)) (fun i _ => ps.length - (intOf i).toNat)
  case atStart => exact ⟨0, Nat.zero_le _, rfl, H0.out, G0.out, Q0.out.1, Q0.out.2⟩
  case round =>
    obtain ⟨k, hk, rfl, hr, hb, q0, q1⟩ := hrel
    have HR := Lib.hid hr
    have HB := Lib.hid hb
    have hsz := hb.size
    have QQ := Lib.hid (And.intro q0 q1)
    have hws : w.heap.size < wr.heap.size := World.block_lt_of_cell? _ _ q0
    clear hr hb
    by_cases hlt : k < ps.length
    · have hws1 : w.heap.size + 1 < wr.heap.size := World.block_lt_of_cell? _ _ (irow_cellw HR.out (by rw [midI_len _ _ (by rw [ZL.out]; exact hk), ZL.out]) k hlt).choose_spec.1
      obtain ⟨bb, off, rfl, hbs, c1, c2⟩ := HC.out k hlt
      have c1' : wr.cell? ⟨bb, off + k * 2, none⟩ = some (.int .i64 ps[k].1) := by rw [HB.out.cell (p := ⟨bb, off + k * 2, none⟩) hbs]; exact c1
      have c2' : wr.cell? ⟨bb, off + k * 2 + 1, none⟩ = some (.int .i64 ps[k].2) := by rw [HB.out.cell (p := ⟨bb, off + k * 2 + 1, none⟩) hbs]; exact c2
      have hk0 : 0 ≤ (k : Int) := by omega
      have hk1 : (k : Int) < (ps.length : Int) := by omega
      have OK := Lib.hid (okL_at HK.out k hlt)
      have ZK := Lib.hid (ZA.out k hlt (by rw [ZL.out]; exact hlt))
      clear c1 c2
      generalize ps[k] = x at c1' c2' OK ZK
      obtain ⟨x1, x2⟩ := x
      go_wp2_with fail
      refine (distanceBetween_rel a b x1 x2 wr _ (by repeat (first | assumption | exact Below.refl _ _ | refine Below.drew ?_ | refine bdq ?_ _ | refine Below.alloc ?_ (by first | exact Nat.le_refl _ | omega | (simp; done) | (simp; omega)) _ | refine Below.setCell ?_ (by first | exact Nat.le_refl _ | omega | (simp; done) | (simp; omega)) _)) ha OK.out).mono ?_
      rintro e w2 ⟨rfl, hb2⟩
      obtain ⟨y, cy, fy⟩ := irow_cellw (irow_keep HR.out hb2) (by rw [midI_len _ _ (by rw [ZL.out]; exact hk), ZL.out]) k hlt
      have HB2 := Lib.hid hb2
      have p0 := Lib.hid ((hb2.cell (p := ⟨w.heap.size, 0, none⟩) hws).trans q0)
      have p1 := Lib.hid ((hb2.cell (p := ⟨w.heap.size, 1, none⟩) hws).trans q1)
      clear hb2 q0 q1
      obtain ⟨d, hd⟩ : ∃ d, Hid (distL a b x1 x2 = d) := ⟨_, Lib.hid rfl⟩
      rw [hd.out]
      go_wp2
      go_roundw
      case rel => exact ⟨k + 1, by omega, by go_num, irow_store (irow_keep HR.out HB2.out) (by rw [midI_len _ _ (by rw [ZL.out]; exact hk), ZL.out]) (by rw [← hd.out, ← ZK.out]; exact midI_set zs k (by rw [ZL.out]; exact hlt)) (by rw [midI_len _ _ (by rw [ZL.out]; exact hlt), ZL.out]), (HB.out.trans (HB2.out.mono hsz)).setCell (by simp) _, (((Below.refl (w.heap.size + 1) w2).setCell (by simp) _).cell (p := ⟨w.heap.size, 0, none⟩) (by simp)).trans p0.out, (((Below.refl (w.heap.size + 1) w2).setCell (by simp) _).cell (p := ⟨w.heap.size, 1, none⟩) (by simp)).trans p1.out⟩
      case measure => simp [intOf]; omega
    · obtain rfl : k = ps.length := by omega
      have HE := Lib.hid (show IRow wr w.heap.size (.slice (some ⟨w.heap.size + 1, 0, none⟩) ps.length ps.length) zs from by have := HR.out; rw [← ZL.out, midI_end] at this; rw [← ZL.out]; exact this)
      go_wp2
      go_ret
      exact ⟨_, rfl, HE.out, HB.out⟩

end Go.Proofs.Ytkiimdfnobcdpaa.sines
