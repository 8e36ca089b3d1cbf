/- The program's chains: lines. -/
import Derived.Test.YtemhmejjmhbfdaaChainI2
import Derived.Test.YtemhmejjmhbfdaaChainI5
import Derived.Deep.RegionHeld3
namespace Go.Proofs.Ytemhmejjmhbfdaa.sines
open Go.ChangeShapes Go.WideShapes Go.ChangeAt Go.RowKit Go.Proofs.Ytemhmejjmhbfdaa.spots Go.Proofs.Ytemhmejjmhbfdaa.irows Go.Proofs.Ytemhmejjmhbfdaa.pairsPlace
set_option linter.unusedSimpArgs false
set_option linter.unusedVariables false

theorem ret_k1P {a b : Int} (h : a = b) : Ending.returned (.int .i64 a) = .returned (.int .i64 b) := by rw [h]
/-- The squared distance of a place from a line, rounded up. -/
def sqF (a b p : Pl) : Int := if a = b then farI a p else (crossI a b p * crossI a b p + farI a b - 1) / farI a b
theorem far_pos {a b : Pl} (h : a ≠ b) : 1 ≤ farI a b := by
  have s1 := sq_nonneg' (b.1 - a.1)
  have s2 := sq_nonneg' (b.2 - a.2)
  have key : ∀ x : Int, x ≠ 0 → 1 ≤ x * x := fun x hx => by
    have := sq_nonneg' x
    have : x * x ≠ 0 := Int.mul_ne_zero hx hx
    omega
  unfold farI
  by_cases h1 : a.1 = b.1
  · have h2 : b.2 - a.2 ≠ 0 := fun e => h (Prod.ext h1 (by omega))
    have := key _ h2; omega
  · have := key (b.1 - a.1) (by omega); omega
theorem sqF_bounds {a b p : Pl} (ha : okP a = true) (hb : okP b = true) (hp : okP p = true) : 0 ≤ sqF a b p ∧ sqF a b p ≤ 64000000000000 := by
  unfold sqF
  split
  · have := farI_bounds ha hp; omega
  · rename_i h
    have f := far_pos h
    obtain ⟨c1, c2⟩ := crossSq_bounds ha hb hp
    refine ⟨Int.ediv_nonneg (by omega) (by omega), ?_⟩
    have e : (crossI a b p * crossI a b p + farI a b - 1) / farI a b ≤ crossI a b p * crossI a b p := by
      have h1 : crossI a b p * crossI a b p + farI a b - 1 < (crossI a b p * crossI a b p + 1) * farI a b := by
        have : crossI a b p * crossI a b p ≤ crossI a b p * crossI a b p * farI a b := by
          have := Int.mul_le_mul_of_nonneg_left f c1
          omega
        have e2 : (crossI a b p * crossI a b p + 1) * farI a b = crossI a b p * crossI a b p * farI a b + farI a b := by grind
        omega
      have := Int.ediv_lt_of_lt_mul (by omega) h1
      omega
    omega
theorem sqF_near (a b p : Pl) (d : Int) : nearB a b p d = decide (sqF a b p ≤ d * d) := by
  unfold nearB sqF
  by_cases h : a = b
  · rw [if_pos h, if_pos h]
  · rw [if_neg h, if_neg h]
    have f := far_pos h
    have : crossI a b p * crossI a b p ≤ d * d * farI a b ↔ (crossI a b p * crossI a b p + farI a b - 1) / farI a b ≤ d * d := by
      have e2 := Int.ediv_lt_iff_lt_mul (a := crossI a b p * crossI a b p + farI a b - 1) (b := d * d + 1) (show 0 < farI a b by omega)
      have e : (d * d + 1) * farI a b = d * d * farI a b + farI a b := by grind
      rw [e] at e2
      omega
    simp only [this]
/-- The greatest one of the first m ones behind i. -/
def apartN (ps : List Pl) (i k : Nat) : Nat → Int
  | 0 => 0
  | m + 1 => max (apartN ps i k m) (sqF (pAt ps i) (pAt ps k) (pAt ps (i + 1 + m)))
theorem apartN_bounds {ps : List Pl} {i k : Nat} (ho : ∀ j, j < ps.length → okP (pAt ps j) = true) (hi : i < ps.length) (hk : k < ps.length) : ∀ m, i + 1 + m ≤ ps.length → 0 ≤ apartN ps i k m ∧ apartN ps i k m ≤ 64000000000000
  | 0, _ => by simp [apartN]
  | m + 1, h => by
    have h1 := apartN_bounds ho hi hk m (by omega)
    have h2 := sqF_bounds (ho i hi) (ho k hk) (ho (i + 1 + m) (by omega))
    unfold apartN
    omega
theorem apartN_le {ps : List Pl} {i k : Nat} {d : Int} (h0 : 0 ≤ d * d) : ∀ m, apartN ps i k m ≤ d * d ↔ ∀ j, i < j → j < i + 1 + m → nearB (pAt ps i) (pAt ps k) (pAt ps j) d = true
  | 0 => by
    simp only [apartN]
    exact ⟨fun _ j h1 h2 => by omega, fun _ => h0⟩
  | m + 1 => by
    have ih := apartN_le (ps := ps) (i := i) (k := k) h0 m
    have e := sqF_near (pAt ps i) (pAt ps k) (pAt ps (i + 1 + m)) d
    unfold apartN
    constructor
    · intro h j h1 h2
      by_cases hj : j = i + 1 + m
      · subst hj; rw [e]; simp only [decide_eq_true_eq]; omega
      · exact ih.1 (by omega) j h1 (by omega)
    · intro h
      have h1 := ih.2 (fun j h1 h2 => h j h1 (by omega))
      have h2 := h (i + 1 + m) (by omega) (by omega)
      rw [e] at h2
      simp only [decide_eq_true_eq] at h2
      omega
theorem within_apart {ps : List Pl} {i k : Nat} {d : Int} (h0 : 0 ≤ d * d) (hik : i < k) : withinB ps d i k = decide (apartN ps i k (k - i - 1) ≤ d * d) := by
  have h1 := apartN_le (ps := ps) (i := i) (k := k) h0 (k - i - 1)
  have h2 := withinB_iff (ps := ps) (d := d) (i := i) (k := k)
  rw [show i + 1 + (k - i - 1) = k by omega] at h1
  have : withinB ps d i k = true ↔ apartN ps i k (k - i - 1) ≤ d * d := h2.trans h1.symm
  by_cases h : apartN ps i k (k - i - 1) ≤ d * d
  · rw [this.2 h]; simp [h]
  · cases e : withinB ps d i k with
    | false => simp [h]
    | true => exact absurd (this.1 e) h
theorem quoP_any (n d : Int) (w : World) (n0 : 0 ≤ n) (n1 : n ≤ 64000000000000) (d1 : 1 ≤ d) (d2 : d ≤ 8000000) :
    Calls Try.prog 185 #[.int .i64 n, .int .i64 d] w fun e w' => e = .returned (.int .i64 ((n + d - 1) / d)) ∧ w = w' := by
  have q0 : 0 ≤ (n + d - 1) / d := Int.ediv_nonneg (by omega) (by omega)
  have q1 : (n + d - 1) / d ≤ n + d - 1 := Int.ediv_le_self _ (by omega)
  have k1 : IntKind.i64.wrap (n + d) = n + d := IntWalk.i64_in _ (by omega)
  have k2 : IntKind.i64.wrap (n + d - 1) = n + d - 1 := IntWalk.i64_in _ (by omega)
  have k3 : (n + d - 1).tdiv d = (n + d - 1) / d := Int.tdiv_eq_ediv_of_nonneg (by omega)
  have k4 : IntKind.i64.wrap ((n + d - 1) / d) = (n + d - 1) / d := IntWalk.i64_in _ (by omega)
  have hz : d ≠ 0 := by omega
  have hm : d ≠ -1 := by omega
  go_enter Try.func185, Try.ntmps185
  go_wp2
  go_ret
  exact ⟨ret_k1P (by first | rfl | simp only [k3, k4]), rfl⟩
/-- Three boxes in a row: what lies in them, and behind a call. -/
theorem boxes3 {w : World} {a1 a2 b1 b2 p1 p2 : Value} {T : TypeId} :
    (((w.alloc (.cells #[a1, a2] T)).alloc (.cells #[b1, b2] T)).alloc (.cells #[p1, p2] T)).cell? ⟨w.heap.size, 0, none⟩ = some a1 ∧
    (((w.alloc (.cells #[a1, a2] T)).alloc (.cells #[b1, b2] T)).alloc (.cells #[p1, p2] T)).cell? ⟨w.heap.size, 1, none⟩ = some a2 ∧
    (((w.alloc (.cells #[a1, a2] T)).alloc (.cells #[b1, b2] T)).alloc (.cells #[p1, p2] T)).cell? ⟨w.heap.size + 1, 0, none⟩ = some b1 ∧
    (((w.alloc (.cells #[a1, a2] T)).alloc (.cells #[b1, b2] T)).alloc (.cells #[p1, p2] T)).cell? ⟨w.heap.size + 1, 1, none⟩ = some b2 := by
  refine ⟨?_, ?_, ?_, ?_⟩
  · rw [World.cell?_alloc_past _ _ _ (by simp; omega), World.cell?_alloc_past _ _ _ (by simp)]; simp
  · rw [World.cell?_alloc_past _ _ _ (by simp; omega), World.cell?_alloc_past _ _ _ (by simp)]; simp
  · rw [World.cell?_alloc_past _ _ _ (by simp)]; rw [show w.heap.size + 1 = (w.alloc (.cells #[a1, a2] T)).heap.size by simp]; simp
  · rw [World.cell?_alloc_past _ _ _ (by simp)]; rw [show w.heap.size + 1 = (w.alloc (.cells #[a1, a2] T)).heap.size by simp]; simp
set_option maxRecDepth 100000 in
set_option maxHeartbeats 2000000 in
theorem squareFrom_any (a1 a2 b1 b2 p1 p2 : Int) (w : World) (ha : okP (a1, a2) = true) (hb : okP (b1, b2) = true) (hp : okP (p1, p2) = true) :
    Calls Try.prog 172 #[.agg #[.int .i64 a1, .int .i64 a2], .agg #[.int .i64 b1, .int .i64 b2], .agg #[.int .i64 p1, .int .i64 p2]] w fun e w' => e = .returned (.int .i64 (sqF (a1, a2) (b1, b2) (p1, p2))) ∧ Below w.heap.size w w' := by
  have B0 : Below w.heap.size w (((w.alloc (.cells #[.int .i64 a1, .int .i64 a2] 60)).alloc (.cells #[.int .i64 b1, .int .i64 b2] 60)).alloc (.cells #[.int .i64 p1, .int .i64 p2] 60)) := (((Below.refl _ _).alloc (Nat.le_refl _) _).alloc (by simp) _).alloc (by simp; omega) _
  obtain ⟨c0, c1', c2', c3'⟩ := boxes3 (w := w) (a1 := .int .i64 a1) (a2 := .int .i64 a2) (b1 := .int .i64 b1) (b2 := .int .i64 b2) (p1 := .int .i64 p1) (p2 := .int .i64 p2) (T := 60)
  have HB0 := Lib.hid B0
  clear B0
  by_cases h : (a1, a2) = (b1, b2)
  · obtain ⟨rfl, rfl⟩ : a1 = b1 ∧ a2 = b2 := by simpa using h
    have FA := Lib.hid (fun w => squareBetween_any a1 a2 p1 p2 w ha hp)
    have e : sqF (a1, a2) (a1, a2) (p1, p2) = farI (a1, a2) (p1, p2) := by unfold sqF; rw [if_pos rfl]
    rw [e]
    generalize farI (a1, a2) (p1, p2) = x at FA ⊢
    clear e h
    go_enter Try.func172, Try.ntmps172
    go_wp2_with (first | (go_at_call 184; refine (FA.out _).mono ?_; rintro e w1 ⟨rfl, hb1⟩))
    go_ret
    exact ⟨rfl, HB0.out.trans (hb1.mono HB0.out.size)⟩
  · have CR := Lib.hid (fun w => sideOf_any a1 a2 b1 b2 p1 p2 w ha hb hp)
    have FA := Lib.hid (fun w => squareBetween_any a1 a2 b1 b2 w ha hb)
    obtain ⟨c1, c2⟩ := crossSq_bounds ha hb hp
    obtain ⟨f1, f2⟩ := farI_bounds ha hb
    have f3 := far_pos h
    have e : sqF (a1, a2) (b1, b2) (p1, p2) = (crossI (a1, a2) (b1, b2) (p1, p2) * crossI (a1, a2) (b1, b2) (p1, p2) + farI (a1, a2) (b1, b2) - 1) / farI (a1, a2) (b1, b2) := by unfold sqF; rw [if_neg h]
    rw [e]
    generalize crossI (a1, a2) (b1, b2) (p1, p2) = x at CR c1 c2 ⊢
    generalize farI (a1, a2) (b1, b2) = y at FA f1 f2 f3 ⊢
    have QU := Lib.hid (fun w => quoP_any (x * x) y w c1 c2 f3 f2)
    have k2 : IntKind.i64.wrap (x * x) = x * x := IntWalk.i64_in _ (by omega)
    have hne : ¬ (a1 = b1 ∧ a2 = b2) := fun k => h (by rw [k.1, k.2])
    have hz : w.heap.size + 1 + 1 < (((w.alloc (.cells #[.int .i64 a1, .int .i64 a2] 60)).alloc (.cells #[.int .i64 b1, .int .i64 b2] 60)).alloc (.cells #[.int .i64 p1, .int .i64 p2] 60)).heap.size := by simp
    clear e h c1 c2 f1 f2 f3
    by_cases q1 : a1 = b1
    · have q2 : ¬ a2 = b2 := fun k => hne ⟨q1, k⟩
      subst q1
      go_enter Try.func172, Try.ntmps172
      go_wp2_with (first | (go_at_call 167; refine (CR.out _).mono ?_; rintro e w1 ⟨rfl, hb1⟩; have n0 := (hb1.cell (p := ⟨w.heap.size, 0, none⟩) (by simp; omega)).trans c0; have n1 := (hb1.cell (p := ⟨w.heap.size, 1, none⟩) (by simp; omega)).trans c1'; have n2 := (hb1.cell (p := ⟨w.heap.size + 1, 0, none⟩) (by simp)).trans c2'; have n3 := (hb1.cell (p := ⟨w.heap.size + 1, 1, none⟩) (by simp)).trans c3'; have HB1 := Lib.hid (HB0.out.trans (hb1.mono HB0.out.size)); clear hb1) | (go_at_call 184; refine (FA.out _).mono ?_; rintro e w2 ⟨rfl, hb2⟩; have HB2 := Lib.hid (HB1.out.trans (hb2.mono HB1.out.size)); clear hb2) | (go_at_call 185; refine (QU.out _).mono ?_; rintro e w' ⟨rfl, rfl⟩))
      go_ret
      exact ⟨rfl, HB2.out⟩
    · go_enter Try.func172, Try.ntmps172
      go_wp2_with (first | (go_at_call 167; refine (CR.out _).mono ?_; rintro e w1 ⟨rfl, hb1⟩; have n0 := (hb1.cell (p := ⟨w.heap.size, 0, none⟩) (by simp; omega)).trans c0; have n1 := (hb1.cell (p := ⟨w.heap.size, 1, none⟩) (by simp; omega)).trans c1'; have n2 := (hb1.cell (p := ⟨w.heap.size + 1, 0, none⟩) (by simp)).trans c2'; have n3 := (hb1.cell (p := ⟨w.heap.size + 1, 1, none⟩) (by simp)).trans c3'; have HB1 := Lib.hid (HB0.out.trans (hb1.mono HB0.out.size)); clear hb1) | (go_at_call 184; refine (FA.out _).mono ?_; rintro e w2 ⟨rfl, hb2⟩; have HB2 := Lib.hid (HB1.out.trans (hb2.mono HB1.out.size)); clear hb2) | (go_at_call 185; refine (QU.out _).mono ?_; rintro e w' ⟨rfl, rfl⟩))
      go_ret
      exact ⟨rfl, HB2.out⟩
theorem squareFrom_rel (a1 a2 b1 b2 p1 p2 : Int) (W0 w : World) (hw : Below W0.heap.size W0 w) (ha : okP (a1, a2) = true) (hb : okP (b1, b2) = true) (hp : okP (p1, p2) = true) :
    Calls Try.prog 172 #[.agg #[.int .i64 a1, .int .i64 a2], .agg #[.int .i64 b1, .int .i64 b2], .agg #[.int .i64 p1, .int .i64 p2]] w fun e w' => e = .returned (.int .i64 (sqF (a1, a2) (b1, b2) (p1, p2))) ∧ Below W0.heap.size W0 w' :=
  (squareFrom_any a1 a2 b1 b2 p1 p2 w ha hb hp).mono fun _ _ ⟨h1, k⟩ => ⟨h1, hw.trans (k.mono hw.size)⟩
theorem mayStand_any (i k a d : Int) (w : World) (d0 : 0 ≤ d) (d1 : d ≤ 3000) :
    Calls Try.prog 146 #[.agg #[.int .i64 i, .int .i64 k, .int .i64 a], .int .i64 d] w fun e w' => e = .returned (.bool (decide (a ≤ d * d))) ∧ Below w.heap.size w w' := by
  obtain ⟨s1, s2⟩ := boundSq d0 d1
  have k1 : IntKind.i64.wrap (d * d) = d * d := IntWalk.i64_in _ (by omega)
  go_enter Try.func146, Try.ntmps146
  go_wp2
  go_ret
  exact ⟨rfl, (Below.refl _ _).alloc (Nat.le_refl _) _⟩
theorem line_round {w wr w2 : World} {i k : Int} {x y : Int} {T U : TypeId} {zs : Array Value} (hwl : w.heap.size + 1 < wr.heap.size)
    (hL : wr.heap[w.heap.size + 1]? = some (.cells #[.int .i64 i, .int .i64 k, .int .i64 x] T (0, 0))) (hZ : wr.heap[w.heap.size]? = some (.cells #[.int .i64 0, .int .i64 0, .int .i64 0] T (0, 0)))
    (hB : Below w.heap.size w wr) (h5 : Below wr.heap.size wr (wr.alloc (.cells zs U))) (h2 : Below (wr.alloc (.cells zs U)).heap.size (wr.alloc (.cells zs U)) w2) :
    (w2.setCell ⟨w.heap.size + 1, 2, none⟩ (.int .i64 (if x < y then y else x))).heap[w.heap.size + 1]? = some (.cells #[.int .i64 i, .int .i64 k, .int .i64 (max x y)] T (0, 0)) ∧
    (w2.setCell ⟨w.heap.size + 1, 2, none⟩ (.int .i64 (if x < y then y else x))).heap[w.heap.size]? = some (.cells #[.int .i64 0, .int .i64 0, .int .i64 0] T (0, 0)) ∧
    Below w.heap.size w (w2.setCell ⟨w.heap.size + 1, 2, none⟩ (.int .i64 (if x < y then y else x))) := by
  have hB2 : Below wr.heap.size wr w2 := h5.trans (h2.mono (by simp))
  have g1 : w2.heap[w.heap.size + 1]? = some (.cells #[.int .i64 i, .int .i64 k, .int .i64 x] T (0, 0)) := by rw [hB2.block _ hwl]; exact hL
  have g2 : w2.heap[w.heap.size]? = some (.cells #[.int .i64 0, .int .i64 0, .int .i64 0] T (0, 0)) := by rw [hB2.block _ (by omega)]; exact hZ
  have e : (if x < y then y else x) = max x y := by split <;> omega
  rw [e]
  refine ⟨?_, ?_, ?_⟩
  · have := heap_setCell_same w2 (w.heap.size + 1) 2 _ _ (.int .i64 (max x y)) g1
    simpa using this
  · rw [heap_setCell_other _ _ _ _ (show w.heap.size ≠ w.heap.size + 1 by omega)]; exact g2
  · exact (hB.trans (hB2.mono hB.size)).setCell (show w.heap.size ≤ w.heap.size + 1 by omega) _
set_option maxRecDepth 100000 in
set_option maxHeartbeats 4000000 in
theorem lineThrough_any (v : Value) (ps : List (Int × Int)) (i k : Nat) (w : World) (hv : PAt w w.heap.size v ps) (hcap : ∀ a n c, v = .slice a n c → n ≤ c) (hl : ps.length ≤ 24) (hik : i < k) (hk : k < ps.length) (ho : ∀ j, j < ps.length → okP (pAt ps j) = true) :
    Calls Try.prog 145 #[v, .int .i64 (i : Int), .int .i64 (k : Int)] w fun e w' => e = .returned (.agg #[.int .i64 (i : Int), .int .i64 (k : Int), .int .i64 (apartN ps i k (k - i - 1))]) ∧ Below w.heap.size w w' := by
  obtain ⟨ar, c, rfl, hcl⟩ := hv
  have hcc := hcap _ _ _ rfl
  have HCL := Lib.hid hcl
  clear hcl hcap
  have hi0 : 0 ≤ (i : Int) := by omega
  have hk0 : 0 ≤ (k : Int) := by omega
  have hi1 : (i : Int) < (ps.length : Int) := by omega
  have hk1 : (k : Int) < (ps.length : Int) := by omega
  have ki : IntKind.i64.wrap ((i : Int) + 1) = (i : Int) + 1 := IntWalk.i64_in _ (by omega)
  obtain ⟨bi, oi, ra, hbi, i1, i2⟩ := HCL.out i (by omega)
  obtain ⟨bk, ok, rk, hbk, k1, k2⟩ := HCL.out k hk
  subst ra
  simp only [Option.some.injEq, Addr.mk.injEq, and_true] at rk
  obtain ⟨rfl, rfl⟩ := rk
  have oki := ho i (by omega)
  have okk := ho k hk
  rw [pat_of (by omega)] at i1 i2 k1 k2
  have HO := Lib.hid ho
  clear ho
  have hkc : (k : Int) ≤ (c : Int) := by omega
  have hik1 : (i : Int) + 1 ≤ (k : Int) := by omega
  go_enter Try.func145, Try.ntmps145
  have hAM := Lib.hid (fun m (h : i + 1 + m ≤ ps.length) => apartN_bounds (i := i) (k := k) HO.out (by omega) hk m h)
  go_wp2
  go_loopw [19] (fun x wr => ∃ m : Nat, m ≤ k - (i + 1) ∧ x = .int .i64 (m : Int) ∧ wr.heap[w.heap.size + 1]? = some (.cells #[.int .i64 (i : Int), .int .i64 (k : Int), .int .i64 (apartN ps i k m)] 151 (0, 0)) ∧ wr.heap[w.heap.size]? = some (.cells #[.int .i64 0, .int .i64 0, .int .i64 0] 151 (0, 0)) ∧ Below w.heap.size w wr) (fun x _ => k - (i + 1) - (intOf x).toNat)
  case atStart => exact ⟨0, Nat.zero_le _, rfl, by (rw [show w.heap.size + 1 = (w.alloc (.cells #[.int .i64 0, .int .i64 0, .int .i64 0] 151)).heap.size by simp]; exact heap_alloc_new _ _), by (rw [Below.heap_alloc _ _ _ (by simp)]; exact heap_alloc_new _ _), ((Below.refl _ _).alloc (Nat.le_refl _) _).alloc (by simp) _⟩
  case round =>
    obtain ⟨m, hm, rfl, hL, hZ, hb⟩ := hrel
    have HB := Lib.hid hb
    have hsz := hb.size
    have hwl : w.heap.size + 1 < wr.heap.size := (Array.getElem?_eq_some_iff.1 hL).1
    by_cases hlt : m < k - (i + 1)
    · obtain ⟨bj, oj, rj, hbj, j1, j2⟩ := HCL.out (i + 1 + m) (by omega)
      simp only [Option.some.injEq, Addr.mk.injEq, and_true] at rj
      obtain ⟨rfl, rfl⟩ := rj
      have okj := HO.out (i + 1 + m) (by omega)
      rw [pat_of (by omega)] at j1 j2
      have ej : oi + (i + 1 + m) * 2 = oi + (i + 1) * 2 + m * 2 := by omega
      rw [ej] at j1 j2
      have u1 := (hb.cell (p := ⟨bi, oi + i * 2, none⟩) hbi).trans i1
      have u2 := (hb.cell (p := ⟨bi, oi + i * 2 + 1, none⟩) hbi).trans i2
      have u3 := (hb.cell (p := ⟨bi, oi + k * 2, none⟩) hbi).trans k1
      have u4 := (hb.cell (p := ⟨bi, oi + k * 2 + 1, none⟩) hbi).trans k2
      have u5 := (hb.cell (p := ⟨bi, oi + (i + 1) * 2 + m * 2, none⟩) hbi).trans j1
      have u6 := (hb.cell (p := ⟨bi, oi + (i + 1) * 2 + m * 2 + 1, none⟩) hbi).trans j2
      have hbw : bi < wr.heap.size := by omega
      have hm0 : 0 ≤ (m : Int) := by omega
      have hm1 : (m : Int) < ((k - (i + 1) : Nat) : Int) := by omega
      have km : IntKind.i64.wrap ((m : Int) + 1) = (m : Int) + 1 := IntWalk.i64_in _ (by omega)
      have SR := Lib.hid (fun W w hw => squareFrom_rel (pAt ps i).1 (pAt ps i).2 (pAt ps k).1 (pAt ps k).2 (pAt ps (i + 1 + m)).1 (pAt ps (i + 1 + m)).2 W w hw oki okk okj)
      have eS : sqF ((pAt ps i).1, (pAt ps i).2) ((pAt ps k).1, (pAt ps k).2) ((pAt ps (i + 1 + m)).1, (pAt ps (i + 1 + m)).2) = sqF (pAt ps i) (pAt ps k) (pAt ps (i + 1 + m)) := rfl
      rw [eS] at SR
      have AP := Lib.hid (show apartN ps i k (m + 1) = max (apartN ps i k m) (sqF (pAt ps i) (pAt ps k) (pAt ps (i + 1 + m))) from rfl)
      generalize sqF (pAt ps i) (pAt ps k) (pAt ps (i + 1 + m)) = q at SR AP
      have HLx := Lib.hid hL
      have HZx := Lib.hid hZ
      clear eS j1 j2 hb okj ej hZ
      generalize (pAt ps i).1 = x1 at u1 SR
      generalize (pAt ps i).2 = x2 at u2 SR
      generalize (pAt ps k).1 = y1 at u3 SR
      generalize (pAt ps k).2 = y2 at u4 SR
      generalize (pAt ps (i + 1 + m)).1 = z1 at u5 SR
      generalize (pAt ps (i + 1 + m)).2 = z2 at u6 SR
      generalize apartN ps i k m = A at hL AP HLx
      have hbx : bi < (wr.alloc (.cells #[.int .i64 z1, .int .i64 z2] 60)).heap.size := by simp; omega
      have nz : wr.heap.size < (wr.alloc (.cells #[.int .i64 z1, .int .i64 z2] 60)).heap.size := by simp
      have nl : w.heap.size + 1 < (wr.alloc (.cells #[.int .i64 z1, .int .i64 z2] 60)).heap.size := by simp; omega
      have B5 := Lib.hid ((Below.refl wr.heap.size wr).alloc (Nat.le_refl _) (.cells #[.int .i64 z1, .int .i64 z2] 60))
      have m1 := (B5.out.cell (p := ⟨bi, oi + i * 2, none⟩) hbw).trans u1
      have m2 := (B5.out.cell (p := ⟨bi, oi + i * 2 + 1, none⟩) hbw).trans u2
      have m3 := (B5.out.cell (p := ⟨bi, oi + k * 2, none⟩) hbw).trans u3
      have m4 := (B5.out.cell (p := ⟨bi, oi + k * 2 + 1, none⟩) hbw).trans u4
      have m5 : (wr.alloc (.cells #[.int .i64 z1, .int .i64 z2] 60)).cell? ⟨wr.heap.size, 0, none⟩ = some (.int .i64 z1) := by simp
      have m6 : (wr.alloc (.cells #[.int .i64 z1, .int .i64 z2] 60)).cell? ⟨wr.heap.size, 1, none⟩ = some (.int .i64 z2) := by simp
      have hLw : (wr.alloc (.cells #[.int .i64 z1, .int .i64 z2] 60)).heap[w.heap.size + 1]? = some (.cells #[.int .i64 (i : Int), .int .i64 (k : Int), .int .i64 A] 151 (0, 0)) := by rw [B5.out.block _ hwl]; exact hL
      have m7 : (wr.alloc (.cells #[.int .i64 z1, .int .i64 z2] 60)).cell? ⟨w.heap.size + 1, 2, none⟩ = some (.int .i64 A) := by simp [World.cell?, hLw]
      have m8 : (wr.alloc (.cells #[.int .i64 z1, .int .i64 z2] 60)).frozen? ⟨w.heap.size + 1, 2, none⟩ = false := by simp [World.frozen?, hLw]
      clear hL hLw
      go_wp2_with fail
      go_region_with (go_at_call 172; refine (SR.out (wr.alloc (.cells #[.int .i64 z1, .int .i64 z2] 60)) _ (by repeat (first | assumption | exact Below.refl _ _ | refine Below.drew ?_ | refine bdP ?_ _))).mono ?_; rintro e w2 ⟨rfl, hb2⟩; have n1 := (hb2.cell (p := ⟨bi, oi + i * 2, none⟩) hbx).trans m1; have n2 := (hb2.cell (p := ⟨bi, oi + i * 2 + 1, none⟩) hbx).trans m2; have n3 := (hb2.cell (p := ⟨bi, oi + k * 2, none⟩) hbx).trans m3; have n4 := (hb2.cell (p := ⟨bi, oi + k * 2 + 1, none⟩) hbx).trans m4; have n5 := (hb2.cell (p := ⟨wr.heap.size, 0, none⟩) nz).trans m5; have n6 := (hb2.cell (p := ⟨wr.heap.size, 1, none⟩) nz).trans m6; have n7 := (hb2.cell (p := ⟨w.heap.size + 1, 2, none⟩) nl).trans m7; have n8 := (hb2.frozen (p := ⟨w.heap.size + 1, 2, none⟩) nl).trans m8)
      all_goals
        have E := Lib.hid (line_round (x := A) (y := q) hwl HLx.out HZx.out HB.out B5.out hb2)
        clear hb2 n1 n2 n3 n4 n5 n6 n7 n8
        go_wp2
        go_roundw
        case rel => exact ⟨m + 1, by omega, by go_num, by rw [AP.out]; exact E.out.1, E.out.2.1, E.out.2.2⟩
        case measure => simp [intOf]; omega
    · obtain rfl : m = k - (i + 1) := by omega
      have em : k - (i + 1) = k - i - 1 := by omega
      rw [em] at hL
      have hm2 : ¬ (((k - (i + 1) : Nat) : Int) < ((k - (i + 1) : Nat) : Int)) := by omega
      have z0 : wr.cell? ⟨w.heap.size, 0, none⟩ = some (.int .i64 0) := by simp [World.cell?, hZ]
      have z1 : wr.cell? ⟨w.heap.size, 1, none⟩ = some (.int .i64 0) := by simp [World.cell?, hZ]
      have z2 : wr.cell? ⟨w.heap.size, 2, none⟩ = some (.int .i64 0) := by simp [World.cell?, hZ]
      have y0 : wr.frozen? ⟨w.heap.size, 0, none⟩ = false := by simp [World.frozen?, hZ]
      have y1 : wr.frozen? ⟨w.heap.size, 1, none⟩ = false := by simp [World.frozen?, hZ]
      have y2 : wr.frozen? ⟨w.heap.size, 2, none⟩ = false := by simp [World.frozen?, hZ]
      have l0 : wr.cell? ⟨w.heap.size + 1, 0, none⟩ = some (.int .i64 (i : Int)) := by simp [World.cell?, hL]
      have l1 : wr.cell? ⟨w.heap.size + 1, 1, none⟩ = some (.int .i64 (k : Int)) := by simp [World.cell?, hL]
      have l2 : wr.cell? ⟨w.heap.size + 1, 2, none⟩ = some (.int .i64 (apartN ps i k (k - i - 1))) := by simp [World.cell?, hL]
      have HZx := Lib.hid hZ
      clear hL hZ hb
      obtain ⟨A, hA⟩ : ∃ A, Hid (apartN ps i k (k - i - 1) = A) := ⟨_, Lib.hid rfl⟩
      rw [hA.out] at l2
      have r1 := heap_setCell_same wr w.heap.size 0 _ _ (.int .i64 (i : Int)) HZx.out
      have r2 := heap_setCell_same _ w.heap.size 1 _ _ (.int .i64 (k : Int)) r1
      have r3 := heap_setCell_same _ w.heap.size 2 _ _ (.int .i64 A) r2
      have q0 : (((wr.setCell ⟨w.heap.size, 0, none⟩ (.int .i64 (i : Int))).setCell ⟨w.heap.size, 1, none⟩ (.int .i64 (k : Int))).setCell ⟨w.heap.size, 2, none⟩ (.int .i64 A)).cell? ⟨w.heap.size, 0, none⟩ = some (.int .i64 (i : Int)) := by simp [World.cell?, r3]
      have q1 : (((wr.setCell ⟨w.heap.size, 0, none⟩ (.int .i64 (i : Int))).setCell ⟨w.heap.size, 1, none⟩ (.int .i64 (k : Int))).setCell ⟨w.heap.size, 2, none⟩ (.int .i64 A)).cell? ⟨w.heap.size, 1, none⟩ = some (.int .i64 (k : Int)) := by simp [World.cell?, r3]
      have q2 : (((wr.setCell ⟨w.heap.size, 0, none⟩ (.int .i64 (i : Int))).setCell ⟨w.heap.size, 1, none⟩ (.int .i64 (k : Int))).setCell ⟨w.heap.size, 2, none⟩ (.int .i64 A)).cell? ⟨w.heap.size, 2, none⟩ = some (.int .i64 A) := by simp [World.cell?, r3]
      have BE := Lib.hid (show Below w.heap.size w (((wr.setCell ⟨w.heap.size, 0, none⟩ (.int .i64 (i : Int))).setCell ⟨w.heap.size, 1, none⟩ (.int .i64 (k : Int))).setCell ⟨w.heap.size, 2, none⟩ (.int .i64 A)) from ((HB.out.setCell (Nat.le_refl _) _).setCell (Nat.le_refl _) _).setCell (Nat.le_refl _) _)
      clear r1 r2 r3
      go_wp2
      exact bodyPost_ret (v := .agg #[.int .i64 (i : Int), .int .i64 (k : Int), .int .i64 A]) (by simp [results, Try.results145, go_sem, q0, q1, q2]) rfl ⟨by rw [hA.out], BE.out⟩
end Go.Proofs.Ytemhmejjmhbfdaa.sines
