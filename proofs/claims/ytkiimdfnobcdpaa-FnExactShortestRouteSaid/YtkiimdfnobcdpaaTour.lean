/- The program's sets of spots and its tour: contracts. -/
import Derived.Test.YtkiimdfnobcdpaaTabD
import Derived.Test.YtkiimdfnobcdpaaRouteM
import Derived.Great.Ranges
import Derived.Test.YtkiimdfnobcdpaaTabS
namespace Go.Proofs.Ytkiimdfnobcdpaa.sines
open Go.ChangeShapes Go.WideShapes Go.ChangeAt Go.RowKit Go.Proofs.Ytkiimdfnobcdpaa.spots Go.Proofs.Ytkiimdfnobcdpaa.irows Go.Proofs.Ytkiimdfnobcdpaa.pairs Go.Proofs.Ytkiimdfnobcdpaa.trows

theorem set_lt : ∀ v, v < 128 → ∀ i, i < 7 → v ||| 2 ^ i < 128 := by decide +kernel
/-- The tour's block: its table and what is kept for each set and spot. -/
def TourB (w : World) (g : Nat) (u : Value) (R : Nat → Nat → Int) : Prop :=
  ∃ cs : Array Value, w.heap[g]? = some (.cells cs 86 (0, 0)) ∧ cs.size = 897 ∧ cs[0]? = some u ∧ ∀ v l, v < 128 → l < 7 → cs[1 + v * 7 + l]? = some (.int .i64 (R v l))
theorem tour_cell {w : World} {g : Nat} {u : Value} {R : Nat → Nat → Int} (h : TourB w g u R) : g < w.heap.size ∧ w.cell? ⟨g, 0, none⟩ = some u ∧ (∀ j, w.frozen? ⟨g, j, none⟩ = false) ∧ ∀ v l, v < 128 → l < 7 → w.cell? ⟨g, 1 + v * 7 + l, none⟩ = some (.int .i64 (R v l)) := by
  obtain ⟨cs, h1, h2, h3, h4⟩ := h
  refine ⟨(Array.getElem?_eq_some_iff.1 h1).1, ?_, fun j => ?_, fun v l hv hl => ?_⟩
  · rw [cell_of_row w g 0 cs 86 (0, 0) h1]; exact h3
  · exact frozen_of_row w g j cs 86 h1
  · rw [cell_of_row w g _ cs 86 (0, 0) h1]; exact h4 v l hv hl
theorem tour_keep {w w' : World} {g : Nat} {u : Value} {R : Nat → Nat → Int} (h : TourB w g u R) (hb : Below w.heap.size w w') : TourB w' g u R := by
  obtain ⟨cs, h1, h2⟩ := h
  exact ⟨cs, by rw [hb.block g (Array.getElem?_eq_some_iff.1 h1).1]; exact h1, h2⟩
def upd (R : Nat → Nat → Int) (v l : Nat) (x : Int) : Nat → Nat → Int := fun a b => if a = v ∧ b = l then x else R a b
theorem tour_store {w : World} {g v l : Nat} {u : Value} {R : Nat → Nat → Int} (x : Int) (h : TourB w g u R) (hv : v < 128) (hl : l < 7) : TourB (w.setCell ⟨g, 1 + v * 7 + l, none⟩ (.int .i64 x)) g u (upd R v l x) := by
  obtain ⟨cs, h1, h2, h3, h4⟩ := h
  refine ⟨cs.setIfInBounds (1 + v * 7 + l) (.int .i64 x), heap_setCell_same w g _ cs 86 _ h1, by simpa using h2, ?_, fun a b ha hb => ?_⟩
  · rw [Array.getElem?_setIfInBounds_ne (by omega)]; exact h3
  · unfold upd
    by_cases e : a = v ∧ b = l
    · obtain ⟨rfl, rfl⟩ := e
      rw [if_pos ⟨rfl, rfl⟩, Array.getElem?_setIfInBounds_self_of_lt (by omega)]
    · rw [if_neg e, Array.getElem?_setIfInBounds_ne (by omega)]
      exact h4 a b ha hb
def Small (R : Nat → Nat → Int) : Prop := ∀ v l, 0 ≤ R v l ∧ R v l ≤ 100000000

theorem has_bits : ∀ v : Nat, v < 128 → ∀ i : Nat, i < 7 → (bits BinOp.and IntKind.u64 ((v : Int) / 2 ^ i) 1 == 1) = v.testBit i := by decide +kernel
theorem with_bits : ∀ v : Nat, v < 128 → ∀ i : Nat, i < 7 → bits BinOp.or IntKind.u64 (v : Int) (IntKind.u64.wrap (2 ^ i)) = ((v ||| 2 ^ i : Nat) : Int) := by decide +kernel
theorem ret_u {a b : Int} (h : a = b) : Ending.returned (.int .u64 a) = .returned (.int .u64 b) := by rw [h]

set_option maxHeartbeats 1000000 in
theorem has_any (v i : Nat) (w : World) (hv : v < 128) (hi : i < 7) :
    Calls Try.prog 51 #[.int .u64 (v : Int), .int .i64 (i : Int)] w fun e w' => e = .returned (.bool (v.testBit i)) ∧ w = w' := by
  have h0 : 0 ≤ (i : Int) := by omega
  have h1 : (i : Int) < 7 := by omega
  have v0 : 0 ≤ (v : Int) := by omega
  have v1 : (v : Int) < 128 := by omega
  go_enter Try.func51, Try.ntmps51
  go_wp2
  go_ret
  exact ⟨ret_bool (has_bits v hv i hi), rfl⟩

set_option maxHeartbeats 1000000 in
theorem with_any (v i : Nat) (w : World) (hv : v < 128) (hi : i < 7) :
    Calls Try.prog 50 #[.int .u64 (v : Int), .int .i64 (i : Int)] w fun e w' => e = .returned (.int .u64 ((v ||| 2 ^ i : Nat) : Int)) ∧ w = w' := by
  have h0 : 0 ≤ (i : Int) := by omega
  have h1 : (i : Int) < 7 := by omega
  have v0 : 0 ≤ (v : Int) := by omega
  have v1 : (v : Int) < 128 := by omega
  go_enter Try.func50, Try.ntmps50
  go_wp2
  go_ret
  exact ⟨ret_u (with_bits v hv i hi), rfl⟩

set_option maxRecDepth 100000 in
set_option maxHeartbeats 2000000 in
theorem through_any (g v l i : Nat) (u : Value) (R : Nat → Nat → Int) (ps : List (Int × Int)) (w : World) (hT : TourB w g u R) (hD : DAt w w.heap.size u ps) (hR : Small R) (hv : v < 128) (hl : l < ps.length) (hi : i < ps.length) (hn : ps.length ≤ 7) :
    Calls Try.prog 52 #[.pointer (some ⟨g, 0, none⟩), .int .u64 (v : Int), .int .i64 (l : Int), .int .i64 (i : Int)] w fun e w' => e = .returned (.int .i64 (dd ps l i + R (v ||| 2 ^ i) i)) ∧ ∃ q, w' = w.drewN q := by
  have HD := Lib.hid hD
  obtain ⟨au, cu, rfl, _⟩ := hD
  obtain ⟨g0, g1, _, g2⟩ := tour_cell hT
  have hs := set_lt v hv i (by omega)
  have g3 := g2 (v ||| 2 ^ i) i hs (by omega)
  obtain ⟨r1, r2⟩ := hR (v ||| 2 ^ i) i
  obtain ⟨d1, d2⟩ := dd_bounds ps l i
  obtain ⟨x, hx⟩ : ∃ x, Hid (R (v ||| 2 ^ i) i = x) := ⟨_, Lib.hid rfl⟩
  obtain ⟨d, hd⟩ : ∃ d, Hid (dd ps l i = d) := ⟨_, Lib.hid rfl⟩
  obtain ⟨s, hs2⟩ : ∃ s : Nat, Hid (v ||| 2 ^ i = s) := ⟨_, Lib.hid rfl⟩
  have BT := Lib.hid (fun (W : World) (h : DAt W w.heap.size (.slice au ps.length cu) ps) => between_any _ ps l i W _ h hl hi)
  have WT := Lib.hid (fun (W : World) => with_any v i W hv (by omega))
  rw [hx.out] at r1 r2 g3
  rw [hs2.out] at g3 hs
  rw [hd.out] at d1 d2
  rw [hx.out, hd.out]
  have s0 : 0 ≤ (s : Int) := by omega
  have s1 : (s : Int) < 128 := by omega
  have i0 : 0 ≤ (i : Int) := by omega
  have i1 : (i : Int) < 7 := by omega
  have dw : IntKind.i64.wrap (d + x) = d + x := IntWalk.i64_in _ (by omega)
  clear g2 hT hR
  go_enter Try.func52, Try.ntmps52
  go_wp2_with fail
  go_region_held3 (fun W => W.cell? ⟨g, 0, none⟩ = some (.slice au ps.length cu) ∧ W.cell? ⟨g, 1 + s * 7 + i, none⟩ = some (.int .i64 x)) (first | exact ⟨g1, g3⟩ | (simp [go_sem]; exact ⟨g1, g3⟩)) (first | (go_at_call 41; refine (BT.out _ (dat_keep HD.out (bdq (Below.refl _ _) _))).mono ?_; rw [hd.out]; rintro e w1 ⟨rfl, rfl⟩) | (go_at_call 41; refine (BT.out _ HD.out).mono ?_; rw [hd.out]; rintro e w1 ⟨rfl, rfl⟩) | (go_at_call 50; refine (WT.out _).mono ?_; rw [hs2.out]; rintro e w1 ⟨rfl, rfl⟩))
  all_goals go_wp2
  all_goals go_ret
  all_goals exact ⟨rfl, _, rfl⟩

def lensK (ps : List (Int × Int)) (R : Nat → Nat → Int) (v l : Nat) : Nat → List Int
  | 0 => []
  | k + 1 => if v.testBit k = true then lensK ps R v l k else lensK ps R v l k ++ [dd ps l k + R (v ||| 2 ^ k) k]
theorem lensK_len (ps : List (Int × Int)) (R : Nat → Nat → Int) (v l : Nat) : ∀ k, (lensK ps R v l k).length ≤ k
  | 0 => Nat.le_refl _
  | k + 1 => by
    have := lensK_len ps R v l k
    unfold lensK
    split
    · omega
    · simp; omega
theorem lensK_free (ps : List (Int × Int)) (R : Nat → Nat → Int) (v l : Nat) : ∀ k, lensK ps R v l k = (free k v).map (fun i => dd ps l i + R (v ||| 2 ^ i) i)
  | 0 => rfl
  | k + 1 => by
    have ih := lensK_free ps R v l k
    unfold lensK free
    rw [List.range_succ, List.filter_append, List.map_append, ih]
    cases hb : v.testBit k with
    | true => simp [free, hb]
    | false => simp [free, hb]

set_option maxRecDepth 100000 in
set_option maxHeartbeats 2000000 in
theorem lengths_any (g v l : Nat) (u : Value) (R : Nat → Nat → Int) (ps : List (Int × Int)) (w : World) (hT : TourB w g u R) (hD : DAt w w.heap.size u ps) (hR : Small R) (hv : v < 128) (hl : l < ps.length) (hn : ps.length ≤ 7) :
    Calls Try.prog 49 #[.pointer (some ⟨g, 0, none⟩), .int .u64 (v : Int), .int .i64 (l : Int)] w fun e w' => ∃ x, e = .returned x ∧ IRow w' w.heap.size x (lensK ps R v l ps.length) ∧ Below w.heap.size w w' := by
  obtain ⟨i0, hi, hz0, hz1, hz2⟩ := info_parts info_int
  have HT := Lib.hid hT
  have HD := Lib.hid hD
  obtain ⟨au, cu, rfl, _⟩ := hD
  obtain ⟨g0, g1, _, _⟩ := tour_cell hT
  have hn2 : (ps.length : Int) ≤ 7 := by omega
  clear hT
  go_enter Try.func49, Try.ntmps49
  go_wp2
  go_loopw [7, 14] (fun x i wr => ∃ k : Nat, k ≤ ps.length ∧ i = .int .i64 (k : Int) ∧ IRow wr w.heap.size x (lensK ps R v l k) ∧ Below w.heap.size w wr) (fun _ i _ => ps.length - (intOf i).toNat)
  case atStart => exact ⟨0, Nat.zero_le _, rfl, irow_nil _ _, Below.refl _ _⟩
  case round =>
    obtain ⟨k, hk, rfl, hr, hb⟩ := hrel
    have HR := Lib.hid hr
    have HB := Lib.hid hb
    have hsz := hb.size
    have LL := lensK_len ps R v l k
    have LS := Lib.hid (show lensK ps R v l (k + 1) = if v.testBit k = true then lensK ps R v l k else lensK ps R v l k ++ [dd ps l k + R (v ||| 2 ^ k) k] from rfl)
    clear hr hb
    by_cases hlt : k < ps.length
    · have hk0 : 0 ≤ (k : Int) := by omega
      have hk1 : (k : Int) < (ps.length : Int) := by omega
      obtain ⟨ns, hns⟩ : ∃ ns, Hid (lensK ps R v l k = ns) := ⟨_, Lib.hid rfl⟩
      rw [hns.out] at HR LL LS
      cases hbit : v.testBit k with
      | true =>
        have SM := Lib.hid (show lensK ps R v l (k + 1) = ns by rw [LS.out, if_pos hbit])
        go_wp2_with fail
        refine (has_any v k _ hv (by omega)).mono ?_
        rw [hbit]
        rintro e w' ⟨rfl, rfl⟩
        go_wp2
        go_roundw
        case rel => exact ⟨k + 1, by omega, by go_num, by rw [SM.out]; exact HR.out, HB.out⟩
        case measure => simp [intOf]; omega
      | false =>
        have SM := Lib.hid (show lensK ps R v l (k + 1) = ns ++ [dd ps l k + R (v ||| 2 ^ k) k] by rw [LS.out, if_neg (by rw [hbit]; decide)])
        go_wp2_with fail
        refine (has_any v k _ hv (by omega)).mono ?_
        rw [hbit]
        rintro e w' ⟨rfl, rfl⟩
        go_wp2_with fail
        refine (through_any g v l k _ R ps _ (tour_keep HT.out HB.out) (dat_up (dat_keep HD.out HB.out) hsz) hR hv hl hlt hn).mono ?_
        obtain ⟨d, hd⟩ : ∃ d, Hid (dd ps l k + R (v ||| 2 ^ k) k = d) := ⟨_, Lib.hid rfl⟩
        rw [hd.out] at SM ⊢
        rintro e w2 ⟨rfl, q, rfl⟩
        have HR2 := Lib.hid (irow_drew HR.out q)
        obtain ⟨W2, hW2⟩ : ∃ W2, Hid (wr.drewN q = W2) := ⟨_, Lib.hid rfl⟩
        rw [hW2.out] at HR2 ⊢
        have HB2 := Lib.hid (show Below w.heap.size w W2 by rw [← hW2.out]; exact bdq HB.out q)
        have hsz2 := HB2.out.size
        go_wp2_with (at_builtin; refine wpList_append_own _ rfl _ _ 29 rfl (w.heap.size) 2 i0 (.int .i64 0) 1 8 Try.underlying29 hi hz0 hz1 hz2 rfl (by decide) _ ns.length _ rfl (HR2.out.alloc _) ⟨W2.heap.size, 0, none⟩ 1 1 [.int .i64 d] rfl rfl (newI _ _ _ (by first | rfl | simp)) (cellI _) (by unfold maxLen; omega) (by omega) (by simp; omega) ?_; intro v1 w1 hown1 hg1 _)
        go_roundw
        case rel => exact ⟨k + 1, by omega, by go_num, by rw [SM.out]; exact snocI hown1, (HB2.out.alloc hsz2 _).grown hg1 (by simp; omega) (fun j hj => (HR2.out.lt j hj).1)⟩
        case measure => simp [intOf]; omega
    · obtain rfl : k = ps.length := by omega
      go_wp2
      go_ret
      exact ⟨_, rfl, HR.out, HB.out⟩

end Go.Proofs.Ytkiimdfnobcdpaa.sines
