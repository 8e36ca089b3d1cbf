/- The model's boxes of maps: contracts. -/
import Derived.Test.YtemhmejjmhbfdaaPlatesF
namespace Go.Proofs.Ytemhmejjmhbfdaa.sines
open Go.ChangeShapes Go.WideShapes Go.ChangeAt Go.RowKit Go.Proofs.Ytemhmejjmhbfdaa.spots Go.Proofs.Ytemhmejjmhbfdaa.pairs
set_option linter.unusedSimpArgs false
set_option linter.unusedVariables false

def drX (lat lon s : Int) (wave : Bool) : Int := if wave = true then waX lat lon s else near lon s
set_option maxRecDepth 100000 in
set_option maxHeartbeats 1000000 in
theorem l08Draw_any (lat lon s : Int) (wave : Bool) (w : World) (h : okB lat lon = true) (s0 : 1 ≤ s) (s1 : s ≤ 100000) :
    Calls Try.prog 100 #[.agg #[.int .i64 lat, .int .i64 lon], .int .i64 s, .bool wave] w fun e w' => e = .returned (.agg #[.int .i64 (drX lat lon s wave), .int .i64 (near lat s)]) ∧ Below w.heap.size w w' := by
  have PL := Lib.hid (fun W => l08Plate_any lat lon s W h s0 s1)
  have WL := Lib.hid (fun W => l08Wave_any lat lon s W h s0 s1)
  cases wave with
  | true =>
    rw [show drX lat lon s true = waX lat lon s by simp [drX]]
    generalize waX lat lon s = x at WL ⊢
    generalize near lat s = y at WL ⊢
    go_enter Try.func100, Try.ntmps100
    go_wp2_with fail
    refine (WL.out _).mono ?_
    rintro e w1 ⟨rfl, hb⟩
    obtain ⟨a1, a2, a3, a4, a5, a6, a7, a8⟩ := boxes2 hb
    obtain ⟨q0, q1, q2⟩ := stored2 a8 (.int .i64 x) (.int .i64 y)
    clear hb
    go_wp2
    exact bodyPost_ret (v := .agg #[.int .i64 x, .int .i64 y]) (by simp [results, Try.results100, go_sem, q0, q1, q2]) rfl ⟨rfl, by repeat (first | assumption | exact Below.refl _ _ | refine Below.drew ?_ | refine bdQ ?_ _ | refine Below.setCell ?_ (by first | exact Nat.le_refl _ | (simp; done) | (simp; omega)) _ | refine Below.alloc ?_ (by first | exact Nat.le_refl _ | (simp; done) | (simp; omega)) _)⟩
  | false =>
    rw [show drX lat lon s false = near lon s by simp [drX]]
    generalize near lon s = x at PL ⊢
    generalize near lat s = y at PL ⊢
    go_enter Try.func100, Try.ntmps100
    go_wp2_with fail
    refine (PL.out _).mono ?_
    rintro e w1 ⟨rfl, hb⟩
    obtain ⟨a1, a2, a3, a4, a5, a6, a7, a8⟩ := boxes2 hb
    obtain ⟨q0, q1, q2⟩ := stored2 a8 (.int .i64 x) (.int .i64 y)
    clear hb
    go_wp2
    exact bodyPost_ret (v := .agg #[.int .i64 x, .int .i64 y]) (by simp [results, Try.results100, go_sem, q0, q1, q2]) rfl ⟨rfl, by repeat (first | assumption | exact Below.refl _ _ | refine Below.drew ?_ | refine bdQ ?_ _ | refine Below.setCell ?_ (by first | exact Nat.le_refl _ | (simp; done) | (simp; omega)) _ | refine Below.alloc ?_ (by first | exact Nat.le_refl _ | (simp; done) | (simp; omega)) _)⟩
theorem l00MinP_any (a b : Int) (w : World) :
    Calls Try.prog 101 #[.int .i64 a, .int .i64 b] w fun e w' => e = .returned (.int .i64 (min a b)) ∧ w' = w := by
  by_cases h : a < b
  · rw [show min a b = a by omega]
    go_enter Try.func101, Try.ntmps101
    go_wp2
    all_goals (go_ret; exact ⟨rfl, rfl⟩)
  · rw [show min a b = b by omega]
    go_enter Try.func101, Try.ntmps101
    go_wp2
    all_goals (go_ret; exact ⟨rfl, rfl⟩)
theorem l00MaxP_any (a b : Int) (w : World) :
    Calls Try.prog 102 #[.int .i64 a, .int .i64 b] w fun e w' => e = .returned (.int .i64 (max a b)) ∧ w' = w := by
  by_cases h : b < a
  · rw [show max a b = a by omega]
    go_enter Try.func102, Try.ntmps102
    go_wp2
    all_goals (go_ret; exact ⟨rfl, rfl⟩)
  · rw [show max a b = b by omega]
    go_enter Try.func102, Try.ntmps102
    go_wp2
    all_goals (go_ret; exact ⟨rfl, rfl⟩)
/-! ### boxes of a call: two results, two corners, one place -/
abbrev cel (x y : Int) : Obj := .cells #[.int .i64 x, .int .i64 y] 29 (0, 0)
def Four (w W : World) (L : Nat) (lx ly hx hy : Int) : Prop :=
  W.heap[w.heap.size]? = some (cel 0 0) ∧ W.heap[w.heap.size + 1]? = some (cel 0 0) ∧ W.heap[L]? = some (cel lx ly) ∧ W.heap[L + 1]? = some (cel hx hy) ∧ w.heap.size + 1 < L ∧ Below w.heap.size w W
def Five (w W : World) (L F : Nat) (lx ly hx hy x y : Int) : Prop := Four w W L lx ly hx hy ∧ W.heap[F]? = some (cel x y) ∧ L + 1 < F
theorem lt_of {W : World} {n : Nat} {o : Obj} (h : W.heap[n]? = some o) : n < W.heap.size := (Array.getElem?_eq_some_iff.1 h).1
theorem four_keep {w W W' : World} {L : Nat} {lx ly hx hy : Int} (h : Four w W L lx ly hx hy) (hb : Below W.heap.size W W') : Four w W' L lx ly hx hy := by
  obtain ⟨h1, h2, h3, h4, h5, h6⟩ := h
  exact ⟨by rw [hb.block _ (lt_of h1)]; exact h1, by rw [hb.block _ (lt_of h2)]; exact h2, by rw [hb.block _ (lt_of h3)]; exact h3, by rw [hb.block _ (lt_of h4)]; exact h4, h5, h6.trans (hb.mono h6.size)⟩
theorem four_start {w W : World} {x y : Int} (h1 : W.heap[w.heap.size]? = some (cel 0 0)) (h2 : W.heap[w.heap.size + 1]? = some (cel 0 0)) (hB : Below w.heap.size w W) :
    Four w ((W.alloc (.cells #[.int .i64 x, .int .i64 y] 29)).alloc (.cells #[.int .i64 x, .int .i64 y] 29)) W.heap.size x y x y := by
  have e1 : (W.alloc (.cells #[.int .i64 x, .int .i64 y] 29)).heap.size = W.heap.size + 1 := by simp
  refine ⟨?_, ?_, ?_, ?_, lt_of h2, (hB.alloc hB.size _).alloc (by rw [e1]; have := hB.size; omega) _⟩
  · rw [Below.heap_alloc _ _ _ (by rw [e1]; have := lt_of h1; omega), Below.heap_alloc _ _ _ (lt_of h1)]; exact h1
  · rw [Below.heap_alloc _ _ _ (by rw [e1]; have := lt_of h2; omega), Below.heap_alloc _ _ _ (lt_of h2)]; exact h2
  · rw [Below.heap_alloc _ _ _ (by rw [e1]; omega)]; exact heap_alloc_new _ _
  · rw [← e1]; exact heap_alloc_new _ _
theorem five_start {w W : World} {L : Nat} {lx ly hx hy : Int} (h : Four w W L lx ly hx hy) (x y : Int) : Five w (W.alloc (.cells #[.int .i64 x, .int .i64 y] 29)) L W.heap.size lx ly hx hy x y :=
  ⟨four_keep h ((Below.refl _ _).alloc (Nat.le_refl _) _), heap_alloc_new _ _, lt_of h.2.2.2.1⟩
theorem five_drew {w W : World} {L F : Nat} {lx ly hx hy x y : Int} (h : Five w W L F lx ly hx hy x y) : Five w W.drew L F lx ly hx hy x y := ⟨four_keep h.1 (Below.drew (Below.refl _ _)), h.2.1, h.2.2⟩
theorem four_drew {w W : World} {L : Nat} {lx ly hx hy : Int} (h : Four w W L lx ly hx hy) : Four w W.drew L lx ly hx hy := four_keep h (Below.drew (Below.refl _ _))
theorem five_low {w W : World} {L F : Nat} {lx ly hx hy x y : Int} (h : Five w W L F lx ly hx hy x y) (a b : Int) : Five w ((W.setCell ⟨L, 0, none⟩ (.int .i64 a)).setCell ⟨L, 1, none⟩ (.int .i64 b)) L F a b hx hy x y := by
  obtain ⟨⟨h1, h2, h3, h4, h5, h6⟩, h7, h8⟩ := h
  have e1 := heap_setCell_same W L 0 _ _ (.int .i64 a) h3
  have e2 := heap_setCell_same _ L 1 _ _ (.int .i64 b) e1
  have ne : ∀ (k : Nat) (ob : Obj), k ≠ L → W.heap[k]? = some ob → ((W.setCell ⟨L, 0, none⟩ (.int .i64 a)).setCell ⟨L, 1, none⟩ (.int .i64 b)).heap[k]? = some ob := fun k ob hk hh => by
    rw [heap_setCell_other _ _ _ _ (show k ≠ L by omega), heap_setCell_other _ _ _ _ (show k ≠ L by omega)]; exact hh
  exact ⟨⟨ne _ _ (by omega) h1, ne _ _ (by omega) h2, by simpa using e2, ne _ _ (by omega) h4, h5, (h6.setCell (show w.heap.size ≤ L by omega) _).setCell (show w.heap.size ≤ L by omega) _⟩, ne _ _ (by omega) h7, h8⟩
theorem five_high {w W : World} {L F : Nat} {lx ly hx hy x y : Int} (h : Five w W L F lx ly hx hy x y) (a b : Int) : Five w ((W.setCell ⟨L + 1, 0, none⟩ (.int .i64 a)).setCell ⟨L + 1, 1, none⟩ (.int .i64 b)) L F lx ly a b x y := by
  obtain ⟨⟨h1, h2, h3, h4, h5, h6⟩, h7, h8⟩ := h
  have e1 := heap_setCell_same W (L + 1) 0 _ _ (.int .i64 a) h4
  have e2 := heap_setCell_same _ (L + 1) 1 _ _ (.int .i64 b) e1
  have ne : ∀ (k : Nat) (ob : Obj), k ≠ L + 1 → W.heap[k]? = some ob → ((W.setCell ⟨L + 1, 0, none⟩ (.int .i64 a)).setCell ⟨L + 1, 1, none⟩ (.int .i64 b)).heap[k]? = some ob := fun k ob hk hh => by
    rw [heap_setCell_other _ _ _ _ (show k ≠ L + 1 by omega), heap_setCell_other _ _ _ _ (show k ≠ L + 1 by omega)]; exact hh
  exact ⟨⟨ne _ _ (by omega) h1, ne _ _ (by omega) h2, ne _ _ (by omega) h3, by simpa using e2, h5, (h6.setCell (show w.heap.size ≤ L + 1 by omega) _).setCell (show w.heap.size ≤ L + 1 by omega) _⟩, ne _ _ (by omega) h7, h8⟩
theorem cel_cells {W : World} {n : Nat} {a b : Int} (h : W.heap[n]? = some (cel a b)) : W.cell? ⟨n, 0, none⟩ = some (.int .i64 a) ∧ W.cell? ⟨n, 1, none⟩ = some (.int .i64 b) ∧ W.frozen? ⟨n, 0, none⟩ = false ∧ W.frozen? ⟨n, 1, none⟩ = false :=
  ⟨by simp [World.cell?, h], by simp [World.cell?, h], by simp [World.frozen?, h], by simp [World.frozen?, h]⟩
/-- Both results behind their stores. -/
theorem both_stored {w W : World} (h1 : W.heap[w.heap.size]? = some (cel 0 0)) (h2 : W.heap[w.heap.size + 1]? = some (cel 0 0)) (hB : Below w.heap.size w W) (a b c d : Int) :
    (((((W.setCell ⟨w.heap.size, 0, none⟩ (.int .i64 a)).setCell ⟨w.heap.size, 1, none⟩ (.int .i64 b)).setCell ⟨w.heap.size + 1, 0, none⟩ (.int .i64 c)).setCell ⟨w.heap.size + 1, 1, none⟩ (.int .i64 d)).heap[w.heap.size]? = some (cel a b) ∧
    ((((W.setCell ⟨w.heap.size, 0, none⟩ (.int .i64 a)).setCell ⟨w.heap.size, 1, none⟩ (.int .i64 b)).setCell ⟨w.heap.size + 1, 0, none⟩ (.int .i64 c)).setCell ⟨w.heap.size + 1, 1, none⟩ (.int .i64 d)).heap[w.heap.size + 1]? = some (cel c d) ∧
    Below w.heap.size w ((((W.setCell ⟨w.heap.size, 0, none⟩ (.int .i64 a)).setCell ⟨w.heap.size, 1, none⟩ (.int .i64 b)).setCell ⟨w.heap.size + 1, 0, none⟩ (.int .i64 c)).setCell ⟨w.heap.size + 1, 1, none⟩ (.int .i64 d))) ∧
    (((((W.setCell ⟨w.heap.size + 1, 0, none⟩ (.int .i64 c)).setCell ⟨w.heap.size + 1, 1, none⟩ (.int .i64 d)).setCell ⟨w.heap.size, 0, none⟩ (.int .i64 a)).setCell ⟨w.heap.size, 1, none⟩ (.int .i64 b)).heap[w.heap.size]? = some (cel a b) ∧
    ((((W.setCell ⟨w.heap.size + 1, 0, none⟩ (.int .i64 c)).setCell ⟨w.heap.size + 1, 1, none⟩ (.int .i64 d)).setCell ⟨w.heap.size, 0, none⟩ (.int .i64 a)).setCell ⟨w.heap.size, 1, none⟩ (.int .i64 b)).heap[w.heap.size + 1]? = some (cel c d) ∧
    Below w.heap.size w ((((W.setCell ⟨w.heap.size + 1, 0, none⟩ (.int .i64 c)).setCell ⟨w.heap.size + 1, 1, none⟩ (.int .i64 d)).setCell ⟨w.heap.size, 0, none⟩ (.int .i64 a)).setCell ⟨w.heap.size, 1, none⟩ (.int .i64 b))) := by
  have set2 : ∀ (V : World) (n : Nat) (x y : Int), V.heap[n]? = some (cel 0 0) → ((V.setCell ⟨n, 0, none⟩ (.int .i64 x)).setCell ⟨n, 1, none⟩ (.int .i64 y)).heap[n]? = some (cel x y) := fun V n x y hh => by
    have e1 := heap_setCell_same V n 0 _ _ (.int .i64 x) hh
    have e2 := heap_setCell_same _ n 1 _ _ (.int .i64 y) e1
    simpa using e2
  have far : ∀ (V : World) (n k : Nat) (x y : Int) (ob : Obj), k ≠ n → V.heap[k]? = some ob → ((V.setCell ⟨n, 0, none⟩ (.int .i64 x)).setCell ⟨n, 1, none⟩ (.int .i64 y)).heap[k]? = some ob := fun V n k x y ob hk hh => by
    rw [heap_setCell_other _ _ _ _ (show k ≠ n by omega), heap_setCell_other _ _ _ _ (show k ≠ n by omega)]; exact hh
  refine ⟨⟨?_, ?_, ?_⟩, ⟨?_, ?_, ?_⟩⟩
  · exact far _ _ _ _ _ _ (by omega) (set2 _ _ _ _ h1)
  · exact set2 _ _ _ _ (far _ _ _ _ _ _ (by omega) h2)
  · exact (((hB.setCell (Nat.le_refl _) _).setCell (Nat.le_refl _) _).setCell (show w.heap.size ≤ w.heap.size + 1 by omega) _).setCell (show w.heap.size ≤ w.heap.size + 1 by omega) _
  · exact set2 _ _ _ _ (far _ _ _ _ _ _ (by omega) h1)
  · exact far _ _ _ _ _ _ (by omega) (set2 _ _ _ _ h2)
  · exact (((hB.setCell (show w.heap.size ≤ w.heap.size + 1 by omega) _).setCell (show w.heap.size ≤ w.heap.size + 1 by omega) _).setCell (Nat.le_refl _) _).setCell (Nat.le_refl _) _
theorem two_results {w w1 : World} (hb : Below ((w.alloc (.cells #[.int .i64 0, .int .i64 0] 29)).alloc (.cells #[.int .i64 0, .int .i64 0] 29)).heap.size ((w.alloc (.cells #[.int .i64 0, .int .i64 0] 29)).alloc (.cells #[.int .i64 0, .int .i64 0] 29)) w1) :
    w1.heap[w.heap.size]? = some (cel 0 0) ∧ w1.heap[w.heap.size + 1]? = some (cel 0 0) ∧ Below w.heap.size w w1 := by
  obtain ⟨a1, a2, a3, a4, a5, a6, a7, a8⟩ := boxes2 hb
  refine ⟨?_, a8, a7⟩
  have e1 : (w.alloc (.cells #[.int .i64 0, .int .i64 0] 29)).heap.size = w.heap.size + 1 := by simp
  have e2 : ((w.alloc (.cells #[.int .i64 0, .int .i64 0] 29)).alloc (.cells #[.int .i64 0, .int .i64 0] 29)).heap.size = w.heap.size + 2 := by simp
  rw [hb.block _ (by rw [e2]; omega), Below.heap_alloc _ _ _ (by rw [e1]; omega)]
  exact heap_alloc_new w _
/-! ### what the box is -/
def minN (g : Nat → Int) : Nat → Int
  | 0 => g 0
  | k + 1 => min (minN g k) (g (k + 1))
def maxN (g : Nat → Int) : Nat → Int
  | 0 => g 0
  | k + 1 => max (maxN g k) (g (k + 1))
theorem min_le_max (g : Nat → Int) : ∀ k, minN g k ≤ g 0 ∧ g 0 ≤ maxN g k
  | 0 => ⟨Int.le_refl _, Int.le_refl _⟩
  | k + 1 => by
    have := min_le_max g k
    simp only [minN, maxN]; omega
def fX (ps : List (Int × Int)) (s : Int) (wave : Bool) (j : Nat) : Int := drX (sAt ps j).1 (sAt ps j).2 s wave
def fY (ps : List (Int × Int)) (s : Int) (j : Nat) : Int := near (sAt ps j).1 s
def codeFB (ps : List (Int × Int)) (s : Int) : Int := if okL ps = true then (if ps.length ≤ 100 ∧ inB s 1 100000 = true then (if ps.length = 0 then 3 else 0) else 2) else 1
def boxV (ps : List (Int × Int)) (s : Int) (x : Int) : Int := if codeFB ps s = 0 then x else 0
theorem retFB {a b c d e a' b' c' d' e' : Int} (h1 : a = a') (h2 : b = b') (h3 : c = c') (h4 : d = d') (h5 : e = e') : Ending.returned (.tuple #[.agg #[.int .i64 a, .int .i64 b], .agg #[.int .i64 c, .int .i64 d], .int .i64 e]) = .returned (.tuple #[.agg #[.int .i64 a', .int .i64 b'], .agg #[.int .i64 c', .int .i64 d'], .int .i64 e']) := by rw [h1, h2, h3, h4, h5]
theorem codeFB_of {ps : List (Int × Int)} {s : Int} (h : codeFB ps s = 0) : okL ps = true ∧ ps.length ≤ 100 ∧ 0 < ps.length ∧ 1 ≤ s ∧ s ≤ 100000 := by
  unfold codeFB at h
  split at h
  · rename_i g
    split at h
    · rename_i g2
      split at h
      · omega
      · have := inB_of g2.2
        exact ⟨g, g2.1, by omega, this.1, this.2⟩
    · omega
  · omega
set_option maxRecDepth 100000 in
set_option maxHeartbeats 1000000 in
theorem specFlatBox_bad (v : Value) (ps : List (Int × Int)) (s : Int) (wave : Bool) (w : World) (hv : PAt w w.heap.size v ps) (hl : ps.length ≤ 1048576) (hc : codeFB ps s ≠ 0) :
    Calls Try.prog 27 #[v, .int .i64 s, .bool wave] w fun e w' => e = .returned (.tuple #[.agg #[.int .i64 0, .int .i64 0], .agg #[.int .i64 0, .int .i64 0], .int .i64 (codeFB ps s)]) ∧ Below w.heap.size w w' := by
  have B0 := Lib.hid (((Below.refl w.heap.size w).alloc (Nat.le_refl _) (.cells #[.int .i64 0, .int .i64 0] 29)).alloc (by simp) (.cells #[.int .i64 0, .int .i64 0] 29))
  have HV := Lib.hid (pat_up (pat_keep hv B0.out) B0.out.size)
  obtain ⟨ar, c, rfl, _⟩ := hv
  have hl2 : (ps.length : Int) ≤ 1048576 := by omega
  have SC := Lib.hid (fun W => l08Scale_any s W)
  cases hok : okL ps with
  | false =>
    rw [show codeFB ps s = 1 by simp [codeFB, hok]]
    go_enter Try.func27, Try.ntmps27
    go_wp2_with fail
    refine (l08List_any _ ps _ HV.out hl).mono ?_
    rw [hok]
    rintro e w1 ⟨rfl, hb⟩
    obtain ⟨r1, r2, r3⟩ := two_results hb
    obtain ⟨⟨k1, k2, k3⟩, _⟩ := both_stored r1 r2 r3 0 0 0 0
    obtain ⟨c1, c2, c3, c4⟩ := cel_cells r1
    obtain ⟨d1, d2, d3, d4⟩ := cel_cells r2
    clear hb r1 r2 r3
    go_wp2
    generalize (((w1.setCell ⟨w.heap.size, 0, none⟩ (.int .i64 0)).setCell ⟨w.heap.size, 1, none⟩ (.int .i64 0)).setCell ⟨w.heap.size + 1, 0, none⟩ (.int .i64 0)).setCell ⟨w.heap.size + 1, 1, none⟩ (.int .i64 0) = VF at *
    obtain ⟨e1, e2, _, _⟩ := cel_cells k1
    obtain ⟨f1, f2, _, _⟩ := cel_cells k2
    exact bodyPost_ret (v := .tuple #[.agg #[.int .i64 0, .int .i64 0], .agg #[.int .i64 0, .int .i64 0], .int .i64 1]) (by simp [results, Try.results27, go_sem, e1, e2, f1, f2]) rfl ⟨rfl, k3⟩
  | true =>
    by_cases h100 : 100 < ps.length
    · rw [show codeFB ps s = 2 by simp [codeFB, hok]; omega]
      have h1' : decide ((100 : Int) < (ps.length : Int)) = true := by simp; omega
      go_enter Try.func27, Try.ntmps27
      go_wp2_with fail
      refine (l08List_any _ ps _ HV.out hl).mono ?_
      rw [hok]
      rintro e w1 ⟨rfl, hb⟩
      obtain ⟨r1, r2, r3⟩ := two_results hb
      obtain ⟨⟨k1, k2, k3⟩, _⟩ := both_stored r1 r2 r3 0 0 0 0
      obtain ⟨c1, c2, c3, c4⟩ := cel_cells r1
      obtain ⟨d1, d2, d3, d4⟩ := cel_cells r2
      clear hb r1 r2 r3
      go_wp2
      generalize (((w1.setCell ⟨w.heap.size, 0, none⟩ (.int .i64 0)).setCell ⟨w.heap.size, 1, none⟩ (.int .i64 0)).setCell ⟨w.heap.size + 1, 0, none⟩ (.int .i64 0)).setCell ⟨w.heap.size + 1, 1, none⟩ (.int .i64 0) = VF at *
      obtain ⟨e1, e2, _, _⟩ := cel_cells k1
      obtain ⟨f1, f2, _, _⟩ := cel_cells k2
      exact bodyPost_ret (v := .tuple #[.agg #[.int .i64 0, .int .i64 0], .agg #[.int .i64 0, .int .i64 0], .int .i64 2]) (by simp [results, Try.results27, go_sem, e1, e2, f1, f2]) rfl ⟨rfl, k3⟩
    · have h1' : decide ((100 : Int) < (ps.length : Int)) = false := by simp; omega
      cases hs : inB s 1 100000 with
      | false =>
        rw [show codeFB ps s = 2 by simp [codeFB, hok, hs]]
        go_enter Try.func27, Try.ntmps27
        go_wp2_with fail
        refine (l08List_any _ ps _ HV.out hl).mono ?_
        rw [hok]
        rintro e w1 ⟨rfl, hb⟩
        obtain ⟨r1, r2, r3⟩ := two_results hb
        obtain ⟨⟨k1, k2, k3⟩, _⟩ := both_stored r1 r2 r3 0 0 0 0
        obtain ⟨c1, c2, c3, c4⟩ := cel_cells r1
        obtain ⟨d1, d2, d3, d4⟩ := cel_cells r2
        clear hb r1 r2 r3
        go_wp2_with (go_at_call 99; refine (SC.out _).mono ?_; rw [hs]; rintro e w' ⟨rfl, rfl⟩)
        generalize (((w1.setCell ⟨w.heap.size, 0, none⟩ (.int .i64 0)).setCell ⟨w.heap.size, 1, none⟩ (.int .i64 0)).setCell ⟨w.heap.size + 1, 0, none⟩ (.int .i64 0)).setCell ⟨w.heap.size + 1, 1, none⟩ (.int .i64 0) = VF at *
        obtain ⟨e1, e2, _, _⟩ := cel_cells k1
        obtain ⟨f1, f2, _, _⟩ := cel_cells k2
        exact bodyPost_ret (v := .tuple #[.agg #[.int .i64 0, .int .i64 0], .agg #[.int .i64 0, .int .i64 0], .int .i64 2]) (by simp [results, Try.results27, go_sem, e1, e2, f1, f2]) rfl ⟨rfl, k3⟩
      | true =>
        have h0 : ps.length = 0 := by
          by_cases h : ps.length = 0
          · exact h
          · exact absurd (show codeFB ps s = 0 by simp [codeFB, hok, hs, h]; omega) hc
        have h0' : ((ps.length : Int) == 0) = true := by simp [h0]
        have h0i : (ps.length : Int) = 0 := by omega
        rw [show codeFB ps s = 3 by simp [codeFB, hok, hs, h0]]
        clear h0
        go_enter Try.func27, Try.ntmps27
        go_wp2_with fail
        refine (l08List_any _ ps _ HV.out hl).mono ?_
        rw [hok]
        rintro e w1 ⟨rfl, hb⟩
        obtain ⟨r1, r2, r3⟩ := two_results hb
        obtain ⟨⟨k1, k2, k3⟩, _⟩ := both_stored r1 r2 r3 0 0 0 0
        obtain ⟨c1, c2, c3, c4⟩ := cel_cells r1
        obtain ⟨d1, d2, d3, d4⟩ := cel_cells r2
        clear hb r1 r2 r3
        go_wp2_with (go_at_call 99; refine (SC.out _).mono ?_; rw [hs]; rintro e w' ⟨rfl, rfl⟩)
        generalize (((w1.setCell ⟨w.heap.size, 0, none⟩ (.int .i64 0)).setCell ⟨w.heap.size, 1, none⟩ (.int .i64 0)).setCell ⟨w.heap.size + 1, 0, none⟩ (.int .i64 0)).setCell ⟨w.heap.size + 1, 1, none⟩ (.int .i64 0) = VF at *
        obtain ⟨e1, e2, _, _⟩ := cel_cells k1
        obtain ⟨f1, f2, _, _⟩ := cel_cells k2
        exact bodyPost_ret (v := .tuple #[.agg #[.int .i64 0, .int .i64 0], .agg #[.int .i64 0, .int .i64 0], .int .i64 3]) (by simp [results, Try.results27, go_sem, e1, e2, f1, f2]) rfl ⟨rfl, k3⟩
set_option maxRecDepth 100000 in
set_option maxHeartbeats 2000000 in
theorem specFlatBox_ok (v : Value) (ps : List (Int × Int)) (s : Int) (wave : Bool) (w : World) (hv : PAt w w.heap.size v ps) (hl : ps.length ≤ 100) (hn : 0 < ps.length) (hok : okL ps = true) (s0 : 1 ≤ s) (s1 : s ≤ 100000) :
    Calls Try.prog 27 #[v, .int .i64 s, .bool wave] w fun e w' => e = .returned (.tuple #[.agg #[.int .i64 (minN (fX ps s wave) (ps.length - 1)), .int .i64 (minN (fY ps s) (ps.length - 1))], .agg #[.int .i64 (maxN (fX ps s wave) (ps.length - 1)), .int .i64 (maxN (fY ps s) (ps.length - 1))], .int .i64 0]) ∧ Below w.heap.size w w' := by
  have B0 := Lib.hid (((Below.refl w.heap.size w).alloc (Nat.le_refl _) (.cells #[.int .i64 0, .int .i64 0] 29)).alloc (by simp) (.cells #[.int .i64 0, .int .i64 0] 29))
  have HV := Lib.hid (pat_up (pat_keep hv B0.out) B0.out.size)
  obtain ⟨ar, c, rfl, hcl⟩ := hv
  have HCL := Lib.hid hcl
  have HO := Lib.hid (okL_iff.1 hok)
  clear hcl
  have hs : inB s 1 100000 = true := by simp [inB]; omega
  have SC := Lib.hid (fun W => l08Scale_any s W)
  rw [hs] at SC
  have h1' : decide ((100 : Int) < (ps.length : Int)) = false := by simp; omega
  have h0' : ((ps.length : Int) == 0) = false := by rw [beq_eq_false_iff_ne]; omega
  have h0i : ¬ (ps.length : Int) = 0 := by omega
  have hl2 : (ps.length : Int) ≤ 100 := by omega
  have hp0 : (0 : Int) < (ps.length : Int) := by omega
  obtain ⟨b0, o0, ra, hb0, i1, i2⟩ := HCL.out 0 hn
  subst ra
  rw [sAt_of hn] at i1 i2
  simp only [Nat.zero_mul, Nat.add_zero] at i1 i2
  have D0 := Lib.hid (fun W => l08Draw_any (sAt ps 0).1 (sAt ps 0).2 s wave W (HO.out 0 hn) s0 s1)
  have eX : drX (sAt ps 0).1 (sAt ps 0).2 s wave = fX ps s wave 0 := rfl
  have eY : near (sAt ps 0).1 s = fY ps s 0 := rfl
  rw [eX, eY] at D0
  clear eX eY
  generalize (sAt ps 0).1 = x1 at i1 D0
  generalize (sAt ps 0).2 = x2 at i2 D0
  have M0 := Lib.hid (show fX ps s wave 0 = minN (fX ps s wave) 0 ∧ fY ps s 0 = minN (fY ps s) 0 ∧ fX ps s wave 0 = maxN (fX ps s wave) 0 ∧ fY ps s 0 = maxN (fY ps s) 0 from ⟨rfl, rfl, rfl, rfl⟩)
  go_enter Try.func27, Try.ntmps27
  go_wp2_with fail
  refine (l08List_any _ ps _ HV.out (by omega)).mono ?_
  rw [hok]
  rintro e w1 ⟨rfl, hb⟩
  obtain ⟨r1, r2, r3⟩ := two_results hb
  clear hb
  have u1 := (r3.cell (p := ⟨b0, o0, none⟩) hb0).trans i1
  have u2 := (r3.cell (p := ⟨b0, o0 + 1, none⟩) hb0).trans i2
  go_wp2_with fail
  refine (SC.out _).mono ?_
  rintro e w' ⟨rfl, rfl⟩
  go_wp2_with fail
  refine (D0.out _).mono ?_
  rintro e w2 ⟨rfl, hb⟩
  have FS := Lib.hid (four_start (x := fX ps s wave 0) (y := fY ps s 0) ((hb.block _ (lt_of r1)).trans r1) ((hb.block _ (lt_of r2)).trans r2) (r3.trans (hb.mono r3.size)))
  obtain ⟨m1, m2, m3, m4⟩ := M0.out
  clear hb r1 r2 r3 u1 u2 D0 M0
  go_wp2_with fail
  go_loopw [11] (fun i wr => ∃ k : Nat, 1 ≤ k ∧ k ≤ ps.length ∧ i = .int .i64 (k : Int) ∧ Four w wr w2.heap.size (minN (fX ps s wave) (k - 1)) (minN (fY ps s) (k - 1)) (maxN (fX ps s wave) (k - 1)) (maxN (fY ps s) (k - 1))) (fun i _ => ps.length - (intOf i).toNat)
  case atStart => exact ⟨1, Nat.le_refl _, hn, rfl, by rw [show 1 - 1 = 0 from rfl, ← m1, ← m2, ← m3, ← m4]; exact FS.out⟩
  case round =>
    obtain ⟨k, hk1, hk, rfl, hF⟩ := hrel
    have HF := Lib.hid hF
    have hb := hF.2.2.2.2.2
    have hsz := hb.size
    clear hF m1 m2 m3 m4
    by_cases hlt : k < ps.length
    · obtain ⟨b, off, rk, hbs, j1, j2⟩ := HCL.out k hlt
      simp only [Option.some.injEq, Addr.mk.injEq, and_true] at rk
      obtain ⟨rfl, rfl⟩ := rk
      rw [sAt_of hlt] at j1 j2
      have u1 := (hb.cell (p := ⟨b0, o0 + k * 2, none⟩) hbs).trans j1
      have u2 := (hb.cell (p := ⟨b0, o0 + k * 2 + 1, none⟩) hbs).trans j2
      have hk0 : 0 ≤ (k : Int) := by omega
      have hki : (k : Int) < (ps.length : Int) := by omega
      have DK := Lib.hid (fun W => l08Draw_any (sAt ps k).1 (sAt ps k).2 s wave W (HO.out k hlt) s0 s1)
      have eX : drX (sAt ps k).1 (sAt ps k).2 s wave = fX ps s wave k := rfl
      have eY : near (sAt ps k).1 s = fY ps s k := rfl
      rw [eX, eY] at DK
      have NX := Lib.hid (show minN (fX ps s wave) (k + 1 - 1) = min (minN (fX ps s wave) (k - 1)) (fX ps s wave k) by obtain ⟨j, rfl⟩ : ∃ j, k = j + 1 := ⟨k - 1, by omega⟩; rfl)
      have NY := Lib.hid (show minN (fY ps s) (k + 1 - 1) = min (minN (fY ps s) (k - 1)) (fY ps s k) by obtain ⟨j, rfl⟩ : ∃ j, k = j + 1 := ⟨k - 1, by omega⟩; rfl)
      have XX := Lib.hid (show maxN (fX ps s wave) (k + 1 - 1) = max (maxN (fX ps s wave) (k - 1)) (fX ps s wave k) by obtain ⟨j, rfl⟩ : ∃ j, k = j + 1 := ⟨k - 1, by omega⟩; rfl)
      have XY := Lib.hid (show maxN (fY ps s) (k + 1 - 1) = max (maxN (fY ps s) (k - 1)) (fY ps s k) by obtain ⟨j, rfl⟩ : ∃ j, k = j + 1 := ⟨k - 1, by omega⟩; rfl)
      clear eX eY j1 j2 hb
      generalize (sAt ps k).1 = y1 at u1 DK
      generalize (sAt ps k).2 = y2 at u2 DK
      generalize fX ps s wave k = x at DK NX XX
      generalize fY ps s k = y at DK NY XY
      generalize minN (fX ps s wave) (k - 1) = lx at HF NX
      generalize minN (fY ps s) (k - 1) = ly at HF NY
      generalize maxN (fX ps s wave) (k - 1) = hx at HF XX
      generalize maxN (fY ps s) (k - 1) = hy at HF XY
      go_wp2_with fail
      refine (DK.out _).mono ?_
      rintro e w5 ⟨rfl, hb5⟩
      have V1 := Lib.hid (five_start (four_keep HF.out hb5) x y)
      clear hb5 u1 u2
      go_wp2_with fail
      generalize hFn : w5.heap.size = F at *
      generalize w5.alloc (.cells #[.int .i64 x, .int .i64 y] 29) = V at *
      have V2 := Lib.hid (five_drew V1.out)
      obtain ⟨a1, a2, a3, a4⟩ := cel_cells V2.out.1.2.2.1
      obtain ⟨f1, f2, _, _⟩ := cel_cells V2.out.2.1
      go_still_tail 11, (by kernel_rfl)
      change wpStill _ _ V.drew (fun a' => wpList _ _ _ _ a' V.drew) _ _
      generalize V.drew = V' at *
      repeat still_step
      still_call (l00MinP_any _ _ _)
      repeat still_step
      still_call (l00MinP_any _ _ _)
      repeat still_step
      refine wpStill_nil ?_
      have V3 := Lib.hid (five_low V2.out (min lx x) (min ly y))
      go_wp2_with fail
      clear a1 a2 a3 a4 f1 f2
      generalize (V'.setCell ⟨w2.heap.size, 0, none⟩ (.int .i64 (min lx x))).setCell ⟨w2.heap.size, 1, none⟩ (.int .i64 (min ly y)) = U at *
      have U2 := Lib.hid (five_drew V3.out)
      obtain ⟨a1, a2, a3, a4⟩ := cel_cells U2.out.1.2.2.2.1
      obtain ⟨f1, f2, _, _⟩ := cel_cells U2.out.2.1
      go_still_tail 11, (by kernel_rfl)
      change wpStill _ _ U.drew (fun a' => wpList _ _ _ _ a' U.drew) _ _
      generalize U.drew = U' at *
      repeat still_step
      still_call (l00MaxP_any _ _ _)
      repeat still_step
      still_call (l00MaxP_any _ _ _)
      repeat still_step
      refine wpStill_nil ?_
      have U3 := Lib.hid (five_high U2.out (max hx x) (max hy y))
      go_wp2
      go_roundw
      case rel => exact ⟨k + 1, by omega, by omega, by go_num, by rw [NX.out, NY.out, XX.out, XY.out]; exact U3.out.1⟩
      case measure => simp [intOf]; omega
    · obtain rfl : k = ps.length := by omega
      have HD := Lib.hid (four_drew HF.out)
      obtain ⟨lx, hlx⟩ : ∃ x, Hid (minN (fX ps s wave) (ps.length - 1) = x) := ⟨_, Lib.hid rfl⟩
      obtain ⟨ly, hly⟩ : ∃ x, Hid (minN (fY ps s) (ps.length - 1) = x) := ⟨_, Lib.hid rfl⟩
      obtain ⟨hx, hhx⟩ : ∃ x, Hid (maxN (fX ps s wave) (ps.length - 1) = x) := ⟨_, Lib.hid rfl⟩
      obtain ⟨hy, hhy⟩ : ∃ x, Hid (maxN (fY ps s) (ps.length - 1) = x) := ⟨_, Lib.hid rfl⟩
      rw [hlx.out, hly.out, hhx.out, hhy.out] at HF HD
      obtain ⟨⟨k1, k2, k3⟩, ⟨l1, l2, l3⟩⟩ := both_stored HF.out.1 HF.out.2.1 HF.out.2.2.2.2.2 lx ly hx hy
      obtain ⟨c1, c2, c3, c4⟩ := cel_cells HF.out.1
      obtain ⟨d1, d2, d3, d4⟩ := cel_cells HF.out.2.1
      obtain ⟨a1, a2, _, _⟩ := cel_cells HF.out.2.2.1
      obtain ⟨f1, f2, _, _⟩ := cel_cells HF.out.2.2.2.1
      have hLw := HF.out.2.2.2.2.1
      have g1 : w.heap.size ≠ w2.heap.size := by omega
      have g2 : w.heap.size ≠ w2.heap.size + 1 := by omega
      have g3 : w.heap.size + 1 ≠ w2.heap.size := by omega
      have g4 : w.heap.size + 1 ≠ w2.heap.size + 1 := by omega
      have g5 : w.heap.size ≠ w.heap.size + 1 := by omega
      have far : ∀ (n q : Nat) (u v : Value) (o : Nat), n ≠ q → ((wr.setCell ⟨n, 0, none⟩ u).setCell ⟨n, 1, none⟩ v).cell? ⟨q, o, none⟩ = wr.cell? ⟨q, o, none⟩ := fun n q u v o h => by
        rw [World.cell?_setCell_far _ _ _ _ (show n ≠ q from h), World.cell?_setCell_far _ _ _ _ (show n ≠ q from h)]
      have s1 := (far _ _ (.int .i64 lx) (.int .i64 ly) 0 g1).trans a1
      have s2 := (far _ _ (.int .i64 lx) (.int .i64 ly) 1 g1).trans a2
      have s3 := (far _ _ (.int .i64 lx) (.int .i64 ly) 0 g2).trans f1
      have s4 := (far _ _ (.int .i64 lx) (.int .i64 ly) 1 g2).trans f2
      have s5 := (far _ _ (.int .i64 lx) (.int .i64 ly) 0 g5).trans d1
      have s6 := (far _ _ (.int .i64 lx) (.int .i64 ly) 1 g5).trans d2
      have t1 := (far _ _ (.int .i64 hx) (.int .i64 hy) 0 g3).trans a1
      have t2 := (far _ _ (.int .i64 hx) (.int .i64 hy) 1 g3).trans a2
      have t3 := (far _ _ (.int .i64 hx) (.int .i64 hy) 0 g4).trans f1
      have t4 := (far _ _ (.int .i64 hx) (.int .i64 hy) 1 g4).trans f2
      have t5 := (far _ _ (.int .i64 hx) (.int .i64 hy) 0 (Ne.symm g5)).trans c1
      have t6 := (far _ _ (.int .i64 hx) (.int .i64 hy) 1 (Ne.symm g5)).trans c2
      have EX := Lib.hid (show Ending.returned (.tuple #[.agg #[.int .i64 lx, .int .i64 ly], .agg #[.int .i64 hx, .int .i64 hy], .int .i64 0]) = Ending.returned (.tuple #[.agg #[.int .i64 (minN (fX ps s wave) (ps.length - 1)), .int .i64 (minN (fY ps s) (ps.length - 1))], .agg #[.int .i64 (maxN (fX ps s wave) (ps.length - 1)), .int .i64 (maxN (fY ps s) (ps.length - 1))], .int .i64 0]) from by rw [hlx.out, hly.out, hhx.out, hhy.out])
      clear hb far
      go_wp2
      go_region
      all_goals go_wp2
      · generalize (((wr.setCell ⟨w.heap.size, 0, none⟩ (.int .i64 lx)).setCell ⟨w.heap.size, 1, none⟩ (.int .i64 ly)).setCell ⟨w.heap.size + 1, 0, none⟩ (.int .i64 hx)).setCell ⟨w.heap.size + 1, 1, none⟩ (.int .i64 hy) = VF at *
        obtain ⟨p1, p2, _, _⟩ := cel_cells k1
        obtain ⟨q1, q2, _, _⟩ := cel_cells k2
        exact bodyPost_ret (v := .tuple #[.agg #[.int .i64 lx, .int .i64 ly], .agg #[.int .i64 hx, .int .i64 hy], .int .i64 0]) (by simp [results, Try.results27, go_sem, p1, p2, q1, q2]) rfl ⟨EX.out, Below.drew k3⟩
theorem specFlatBox_any (v : Value) (ps : List (Int × Int)) (s : Int) (wave : Bool) (w : World) (hv : PAt w w.heap.size v ps) (hl : ps.length ≤ 1048576) :
    Calls Try.prog 27 #[v, .int .i64 s, .bool wave] w fun e w' => e = .returned (.tuple #[.agg #[.int .i64 (boxV ps s (minN (fX ps s wave) (ps.length - 1))), .int .i64 (boxV ps s (minN (fY ps s) (ps.length - 1)))], .agg #[.int .i64 (boxV ps s (maxN (fX ps s wave) (ps.length - 1))), .int .i64 (boxV ps s (maxN (fY ps s) (ps.length - 1)))], .int .i64 (codeFB ps s)]) ∧ Below w.heap.size w w' := by
  by_cases hc : codeFB ps s = 0
  · obtain ⟨hok, h1, hn, h2, h3⟩ := codeFB_of hc
    simp only [boxV, hc, if_true]
    exact specFlatBox_ok v ps s wave w hv h1 hn hok h2 h3
  · simp only [boxV, hc, if_false]
    exact specFlatBox_bad v ps s wave w hv hl hc
end Go.Proofs.Ytemhmejjmhbfdaa.sines
