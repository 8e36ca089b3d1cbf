/- The neighbours of all lands as bits: contracts of the program. -/
import Derived.Test.YtemhmejjmhbfdaaDoorColsP4
import Derived.Test.YtemhmejjmhbfdaaDoorColsN
import Derived.StillTailTactics
import Derived.BigQuiet
namespace Go.Proofs.YtemhmejjmhbfdaaDoor.sines
open Go.ChangeShapes Go.WideShapes Go.ChangeAt Go.RowKit Go.Proofs.YtemhmejjmhbfdaaDoor.spots Go.Proofs.YtemhmejjmhbfdaaDoor.irows Go.Proofs.YtemhmejjmhbfdaaDoor.pairsBorder
set_option linter.unusedSimpArgs false
set_option linter.unusedVariables false

/-! ### rows of sets -/
def us (n : Nat) (f : Nat → Nat) : List Value := (List.range n).map fun j => Value.int .u64 (f j : Int)
theorem us_len (n : Nat) (f : Nat → Nat) : (us n f).length = n := by simp [us]
theorem us_set {n : Nat} {f : Nat → Nat} {i : Nat} (x : Nat) (hi : i < n) : (us n f).set i (.int .u64 (x : Int)) = us n fun j => if j = i then x else f j := by
  apply List.ext_getElem?
  intro j
  unfold us
  rw [List.getElem?_set]
  by_cases hj : j < n
  · by_cases e : i = j
    · subst e; simp [hj]
    · have e' : ¬ j = i := fun k => e k.symm
      simp [hj, e, e']
  · by_cases e : i = j
    · omega
    · simp [hj, e]
theorem info_set : (Tryd.prog.info? 50).map (fun i => (i.zero, i.size, i.bytes)) = some (some (.int .u64 0), 1, 8) := by kernel_rfl
theorem made_us (n : Nat) : (madeCells (Value.int IntKind.u64 0).cells (n * 1)).toList = us n fun _ => 0 := by
  apply List.ext_getElem?
  intro j
  by_cases hj : j < n
  · simp [madeCells, us, hj, Value.cells, Nat.mod_one]
  · simp [madeCells, us, hj]
/-- A made row of n sets in a block of its own. -/
def URow (w : World) (B g n : Nat) (f : Nat → Nat) : Prop := w.ownsRow B 50 1 (.slice (some ⟨g, 0, none⟩) n n) n (us n f)
theorem urow_cell {w : World} {B g n : Nat} {f : Nat → Nat} (h : URow w B g n f) {k : Nat} (hk : k < n) : w.cell? ⟨g, k, none⟩ = some (.int .u64 (f k : Int)) ∧ w.frozen? ⟨g, k, none⟩ = false := by
  refine ⟨?_, World.ownsRow.frozenAt h k⟩
  rw [World.ownsRow.cellAt h k (by omega)]
  simp [us, hk]
theorem urow_keep {w w' : World} {B g n : Nat} {f : Nat → Nat} (h : URow w B g n f) (hb : Below w.heap.size w w') : URow w' B g n f := by
  refine ⟨h.1, ?_⟩
  rcases h.2 with hn | ⟨g', cap, cur, hv, hg1, hg2, hg3⟩
  · exact .inl hn
  · exact .inr ⟨g', cap, cur, hv, hg1, by rw [hb.block g' (Array.getElem?_eq_some_iff.1 hg2).1]; exact hg2, hg3⟩
theorem urow_alloc {w : World} {B g n : Nat} {f : Nat → Nat} (h : URow w B g n f) (o : Obj) : URow (w.alloc o) B g n f := urow_keep h ((Below.refl _ _).alloc (Nat.le_refl _) _)
theorem urow_store {w : World} {B g n : Nat} {f : Nat → Nat} (h : URow w B g n f) {k : Nat} (hk : k < n) (x : Nat) : URow (w.setCell ⟨g, k, none⟩ (.int .u64 (x : Int))) B g n (fun j => if j = k then x else f j) := by
  have := (World.ownsRow.stored h k (.int .u64 (x : Int))).1
  rw [us_set x hk] at this
  exact this
theorem urow_congr {w : World} {B g n : Nat} {f f' : Nat → Nat} (h : URow w B g n f) (he : ∀ j, j < n → f j = f' j) : URow w B g n f' := by
  unfold URow at h ⊢
  rw [show us n f' = us n f from List.map_congr_left fun j hj => by rw [he j (List.mem_range.1 hj)]]
  exact h
/-- The neighbours of all lands, as they are read. -/
def MAt (w : World) (B : Nat) (v : Value) (n : Nat) (M : Nat → Nat) : Prop := ∃ g, v = .slice (some ⟨g, 0, none⟩) n n ∧ g < B ∧ ∀ k, k < n → w.cell? ⟨g, k, none⟩ = some (.int .u64 (M k : Int))
theorem mat_keep {w w' : World} {B : Nat} {v : Value} {n : Nat} {M : Nat → Nat} (h : MAt w B v n M) (hb : Below B w w') : MAt w' B v n M := by
  obtain ⟨g, rfl, h1, h2⟩ := h
  exact ⟨g, rfl, h1, fun k hk => (hb.cell (p := ⟨g, k, none⟩) h1).trans (h2 k hk)⟩
theorem mat_up {w : World} {B B' : Nat} {v : Value} {n : Nat} {M : Nat → Nat} (h : MAt w B v n M) (hB : B ≤ B') : MAt w B' v n M := by
  obtain ⟨g, rfl, h1, h2⟩ := h
  exact ⟨g, rfl, by omega, h2⟩
/-- .. in a block of the call's own. -/
def MOwn (w : World) (B : Nat) (v : Value) (n : Nat) (M : Nat → Nat) : Prop := ∃ gm, v = .slice (some ⟨gm, 0, none⟩) n n ∧ B ≤ gm ∧ ∃ cs t, w.heap[gm]? = some (.cells cs t (0, 0)) ∧ ∀ k, k < n → cs[k]? = some (.int .u64 (M k : Int))
theorem mown_at {w : World} {B : Nat} {v : Value} {n : Nat} {M : Nat → Nat} (h : MOwn w B v n M) : MAt w w.heap.size v n M := by
  obtain ⟨gm, rfl, _, cs, t, h2, h3⟩ := h
  refine ⟨gm, rfl, (Array.getElem?_eq_some_iff.1 h2).1, fun k hk => ?_⟩
  rw [cell_of_row _ _ _ _ _ _ h2]
  exact h3 k hk
theorem mown_keep {w w' : World} {B : Nat} {v : Value} {n : Nat} {M : Nat → Nat} (h : MOwn w B v n M) (hb : Below w.heap.size w w') : MOwn w' B v n M := by
  obtain ⟨gm, rfl, h1, cs, t, h2, h3⟩ := h
  exact ⟨gm, rfl, h1, cs, t, by rw [hb.block _ (Array.getElem?_eq_some_iff.1 h2).1]; exact h2, h3⟩
theorem urow_own {w : World} {B g n : Nat} {f : Nat → Nat} (h : URow w B g n f) (hn : 1 ≤ n) : MOwn w B (.slice (some ⟨g, 0, none⟩) n n) n f := by
  rcases h.2 with ⟨hv, h0⟩ | ⟨g', cap, cur, hv, hg1, hg2, hg3⟩
  · simp at hv
  · simp at hv
    obtain ⟨rfl, _⟩ := hv
    refine ⟨g, rfl, hg1, cur, _, hg2, fun k hk => ?_⟩
    rw [← cell_of_row w g k cur _ (0, 0) hg2]
    exact (urow_cell h hk).1
theorem urow_mat {w : World} {B g n : Nat} {f : Nat → Nat} (h : URow w B g n f) (hn : 1 ≤ n) : MAt w w.heap.size (.slice (some ⟨g, 0, none⟩) n n) n f :=
  ⟨g, rfl, World.block_lt_of_cell? _ _ (urow_cell h (show 0 < n by omega)).1, fun k hk => (urow_cell h hk).1⟩

/-! ### the neighbours as bits -/
/-- The set of the lands below k for which f holds. -/
def maskOf (f : Nat → Bool) : Nat → Nat
  | 0 => 0
  | k + 1 => maskOf f k ||| (if f k = true then 2 ^ k else 0)
theorem maskOf_bit (f : Nat → Bool) : ∀ k i : Nat, (maskOf f k).testBit i = (decide (i < k) && f i)
  | 0, i => by simp [maskOf]
  | k + 1, i => by
    rw [maskOf, Nat.testBit_or, maskOf_bit f k i]
    by_cases hf : f k = true
    · rw [if_pos hf, Nat.testBit_two_pow]
      by_cases e : k = i
      · subst e; simp [hf]
      · have : decide (i < k + 1) = decide (i < k) := by rw [Bool.eq_iff_iff]; simp; omega
        simp [e, this]
    · rw [if_neg hf, Nat.zero_testBit]
      by_cases e : k = i
      · subst e; simp [hf]
      · have : decide (i < k + 1) = decide (i < k) := by rw [Bool.eq_iff_iff]; simp; omega
        simp [this]
theorem maskOf_lt (f : Nat → Bool) (k : Nat) : maskOf f k < 2 ^ k := by
  apply Nat.lt_pow_two_of_testBit
  intro i hi
  rw [maskOf_bit]
  simp; omega
theorem mask_ext {a b : Nat} (h : ∀ i, a.testBit i = b.testBit i) : a = b := Nat.eq_of_testBit_eq h
/-- The neighbours of land a among the first k borders. -/
def nbM (ps : List (Int × Int)) (k : Nat) (a : Nat) : Nat := maskOf (fun x => (ps.take k).any fun p => joins p (a : Int) (x : Int)) 10
theorem nbM_lt (ps : List (Int × Int)) (k a : Nat) : nbM ps k a < 1024 := maskOf_lt _ 10
theorem nbM_zero (ps : List (Int × Int)) (a : Nat) : nbM ps 0 a = 0 := by
  apply mask_ext; intro i; rw [nbM, maskOf_bit]; simp
theorem nbM_step {ps : List (Int × Int)} {k x1 x2 : Nat} (hk : k < ps.length) (h : bAt ps k = ((x1 : Int), (x2 : Int))) (h1 : x1 < x2) (h2 : x2 < 10) (j : Nat) :
    nbM ps (k + 1) j = if j = x2 then nbM ps k x2 ||| 2 ^ x1 else if j = x1 then nbM ps k x1 ||| 2 ^ x2 else nbM ps k j := by
  have hj : ∀ a x : Nat, joins ((x1 : Int), (x2 : Int)) (a : Int) (x : Int) = (decide (x1 = a ∧ x2 = x) || decide (x2 = a ∧ x1 = x)) := fun a x => by
    rw [Bool.eq_iff_iff]; simp only [joins, Bool.or_eq_true, decide_eq_true_eq]; omega
  apply mask_ext
  intro i
  by_cases e2 : j = x2
  · subst e2
    rw [if_pos rfl, Nat.testBit_or, Nat.testBit_two_pow, nbM, nbM, maskOf_bit, maskOf_bit, take_any hk, h, hj]
    by_cases e : x1 = i
    · subst e; simp; omega
    · have : ¬ (x1 = j ∧ j = i) := by omega
      simp [e, this]
  · rw [if_neg e2]
    by_cases e1 : j = x1
    · subst e1
      rw [if_pos rfl, Nat.testBit_or, Nat.testBit_two_pow, nbM, nbM, maskOf_bit, maskOf_bit, take_any hk, h, hj]
      by_cases e : x2 = i
      · subst e; simp; omega
      · have : ¬ (x2 = j ∧ j = i) := by omega
        simp [e, this]
    · rw [if_neg e1, nbM, nbM, maskOf_bit, maskOf_bit, take_any hk, h, hj]
      have n1 : ¬ (x1 = j ∧ x2 = i) := by omega
      have n2 : ¬ (x2 = j ∧ x1 = i) := by omega
      simp [n1, n2]
/-- The neighbours of all lands. -/
def maskN (ps : List (Int × Int)) (a : Nat) : Nat := nbM ps ps.length a
theorem maskN_bit (ps : List (Int × Int)) (a x : Nat) (hx : x < 10) : (maskN ps a).testBit x = nbr ps (a : Int) (x : Int) := by
  rw [maskN, nbM, maskOf_bit, List.take_length, nbr]; simp [hx]
set_option maxRecDepth 100000 in
set_option maxHeartbeats 4000000 in
theorem landMapOf_any (n : Int) (v : Value) (ps : List (Int × Int)) (w : World) (hv : PAt w w.heap.size v ps) (hok : validC n ps = true) :
    Calls Tryd.prog 15 #[.int .i64 n, v] w fun e w' => ∃ u, e = .returned u ∧ MOwn w' w.heap.size u n.toNat (maskN ps) ∧ Below w.heap.size w w' := by
  obtain ⟨i0, hi, hz0, hz1, hz2⟩ := info_parts info_set
  obtain ⟨n0, n1, hl30, hf⟩ := validC_facts hok
  obtain ⟨N, rfl⟩ : ∃ N : Nat, n = (N : Int) := ⟨n.toNat, by omega⟩
  rw [Int.toNat_natCast]
  obtain ⟨a, c, rfl, hcl⟩ := hv
  have HCL := Lib.hid hcl
  have HF := Lib.hid hf
  clear hcl hf hok
  have hl2 : (ps.length : Int) ≤ 30 := by omega
  obtain ⟨w2, hmk1, hown1, hg1⟩ := run_make_full (P := Tryd.prog) (w := w) w.heap.size 41 50 i0 (.int .u64 0) 1 Tryd.underlying41 hi hz0 hz1 .i64 .i64 N (by rw [hz2]; omega) (by unfold maxLen; omega) (by simp)
  rw [made_us] at hown1
  have R1 := Lib.hid (show URow w2 w.heap.size w.heap.size N (fun _ => 0) from hown1)
  have B1 := Lib.hid ((Below.refl w.heap.size w).grown hg1 (by simp) (by simp))
  clear hown1 hg1
  go_enter Tryd.func15, Tryd.ntmps15
  go_wp2
  clear hmk1
  go_loopw [12] (fun i wr => ∃ k : Nat, k ≤ ps.length ∧ i = .int .i64 (k : Int) ∧ URow wr w.heap.size w.heap.size N (nbM ps k) ∧ Below w.heap.size w wr) (fun i _ => ps.length - (intOf i).toNat)
  case atStart => exact ⟨0, Nat.zero_le _, rfl, urow_congr R1.out fun j _ => (nbM_zero ps j).symm, B1.out⟩
  case round =>
    obtain ⟨k, hk, rfl, hr, hb⟩ := hrel
    have HR := Lib.hid hr
    have HB := Lib.hid hb
    clear hr
    by_cases hlt : k < ps.length
    · have hk0 : 0 ≤ (k : Int) := by omega
      have hk1 : (k : Int) < (ps.length : Int) := by omega
      obtain ⟨b, off, rfl, hbs, c1, c2⟩ := HCL.out k hlt
      rw [bAt_of hlt] at c1 c2
      have u1 := (hb.cell (p := ⟨b, off + k * 2, none⟩) hbs).trans c1
      have u2 := (hb.cell (p := ⟨b, off + k * 2 + 1, none⟩) hbs).trans c2
      obtain ⟨x1, x2, hx, o1, o2⟩ : ∃ x1 x2 : Nat, bAt ps k = ((x1 : Int), (x2 : Int)) ∧ x1 < x2 ∧ x2 < N := by
        have := HF.out k hlt
        exact ⟨(bAt ps k).1.toNat, (bAt ps k).2.toNat, by rw [Int.toNat_of_nonneg (by omega), Int.toNat_of_nonneg (by omega)], by omega, by omega⟩
      have ST := Lib.hid (fun j => nbM_step hlt hx o1 (by omega) j)
      have L1 := nbM_lt ps k x1
      have L2 := nbM_lt ps k x2
      rw [hx] at u1 u2
      simp only at u1 u2
      have a0 : 0 ≤ (x1 : Int) := by omega
      have a1 : (x1 : Int) < (N : Int) := by omega
      have b0 : 0 ≤ (x2 : Int) := by omega
      have b1 : (x2 : Int) < (N : Int) := by omega
      have hw1 : w.heap.size < wr.heap.size := World.block_lt_of_cell? _ _ (urow_cell HR.out (show 0 < N by omega)).1
      clear c1 c2 hx hb
      have W1 := Lib.hid (fun W => bitWith_any (nbM ps k x1) x2 W L1 (by omega))
      have W2 := Lib.hid (fun W => bitWith_any (nbM ps k x2) x1 W L2 (by omega))
      generalize nbM ps k = F1 at HR ST W1 W2 L1 L2
      go_wp2_with fail
      have HR0 := Lib.hid (urow_alloc HR.out (.cells #[.int .i64 (x1 : Int), .int .i64 (x2 : Int)] 58))
      have HB0 := Lib.hid (HB.out.alloc HB.out.size (.cells #[.int .i64 (x1 : Int), .int .i64 (x2 : Int)] 58))
      have e1 : (wr.alloc (.cells #[.int .i64 (x1 : Int), .int .i64 (x2 : Int)] 58)).cell? ⟨wr.heap.size, 0, none⟩ = some (.int .i64 (x1 : Int)) := by simp
      have e2 : (wr.alloc (.cells #[.int .i64 (x1 : Int), .int .i64 (x2 : Int)] 58)).cell? ⟨wr.heap.size, 1, none⟩ = some (.int .i64 (x2 : Int)) := by simp
      generalize wr.alloc (.cells #[.int .i64 (x1 : Int), .int .i64 (x2 : Int)] 58) = V0 at *
      obtain ⟨r1, q1⟩ := urow_cell HR0.out (show x1 < N by omega)
      go_still_tail 12, (by kernel_rfl)
      change wpStill _ _ V0.drew (fun a' => wpList _ _ _ _ a' V0.drew) _ _
      have HRd := Lib.hid (urow_keep HR0.out (Below.drew (Below.refl _ V0)))
      have HBd := Lib.hid (Below.drew HB0.out)
      replace e1 : V0.drew.cell? ⟨wr.heap.size, 0, none⟩ = some (.int .i64 (x1 : Int)) := e1
      replace e2 : V0.drew.cell? ⟨wr.heap.size, 1, none⟩ = some (.int .i64 (x2 : Int)) := e2
      replace r1 : V0.drew.cell? ⟨w.heap.size, x1, none⟩ = some (.int .u64 (F1 x1 : Int)) := r1
      replace q1 : V0.drew.frozen? ⟨w.heap.size, x1, none⟩ = false := q1
      clear HR0 HB0
      generalize V0.drew = V at *
      clear V0
      repeat still_step
      still_call ((W1.out _).mono fun _ _ h => ⟨h.1, h.2.symm⟩)
      repeat still_step
      refine wpStill_nil ?_
      have HR1 := Lib.hid (urow_store HRd.out (show x1 < N by omega) (F1 x1 ||| 2 ^ x2))
      have HB1 := Lib.hid (HBd.out.setCell (p := ⟨w.heap.size, x1, none⟩) (Nat.le_refl _) (.int .u64 ((F1 x1 ||| 2 ^ x2 : Nat) : Int)))
      have g1 := (World.cell?_setCell_far V ⟨w.heap.size, x1, none⟩ ⟨wr.heap.size, 0, none⟩ (.int .u64 ((F1 x1 ||| 2 ^ x2 : Nat) : Int)) (show w.heap.size ≠ wr.heap.size by omega)).trans e1
      have g2 := (World.cell?_setCell_far V ⟨w.heap.size, x1, none⟩ ⟨wr.heap.size, 1, none⟩ (.int .u64 ((F1 x1 ||| 2 ^ x2 : Nat) : Int)) (show w.heap.size ≠ wr.heap.size by omega)).trans e2
      clear W1 HRd HBd
      go_wp2_with fail
      generalize V.setCell ⟨w.heap.size, x1, none⟩ (.int .u64 ((F1 x1 ||| 2 ^ x2 : Nat) : Int)) = V1 at *
      obtain ⟨r2, q2⟩ := urow_cell HR1.out (show x2 < N by omega)
      rw [if_neg (show ¬ x2 = x1 by omega)] at r2
      go_still_tail 12, (by kernel_rfl)
      change wpStill _ _ V1.drew (fun a' => wpList _ _ _ _ a' V1.drew) _ _
      have HRd := Lib.hid (urow_keep HR1.out (Below.drew (Below.refl _ V1)))
      have HBd := Lib.hid (Below.drew HB1.out)
      replace g1 : V1.drew.cell? ⟨wr.heap.size, 0, none⟩ = some (.int .i64 (x1 : Int)) := g1
      replace g2 : V1.drew.cell? ⟨wr.heap.size, 1, none⟩ = some (.int .i64 (x2 : Int)) := g2
      replace r2 : V1.drew.cell? ⟨w.heap.size, x2, none⟩ = some (.int .u64 (F1 x2 : Int)) := r2
      replace q2 : V1.drew.frozen? ⟨w.heap.size, x2, none⟩ = false := q2
      clear HR1 HB1 e1 e2 r1 q1 u1 u2
      generalize V1.drew = V2 at *
      clear V1 V
      repeat still_step
      still_call ((W2.out _).mono fun _ _ h => ⟨h.1, h.2.symm⟩)
      repeat still_step
      refine wpStill_nil ?_
      have HR3 := Lib.hid (urow_congr (f' := nbM ps (k + 1)) (urow_store HRd.out (show x2 < N by omega) (F1 x2 ||| 2 ^ x1)) (fun j _ => by
        rw [ST.out j]))
      have HB3 := Lib.hid (HBd.out.setCell (p := ⟨w.heap.size, x2, none⟩) (Nat.le_refl _) (.int .u64 ((F1 x2 ||| 2 ^ x1 : Nat) : Int)))
      clear W2 HRd HBd
      go_wp2_with fail
      go_roundw
      case rel => exact ⟨k + 1, by omega, by go_num, HR3.out, HB3.out⟩
      case measure => simp [intOf]; omega
    · obtain rfl : k = ps.length := by omega
      clear hb
      go_wp2
      go_ret
      exact ⟨_, rfl, urow_own HR.out (by omega), HB.out⟩
theorem rowP_cell (u : Nat) (f : Nat → Nat) (w : World) : ∀ c, c < 10 → (w.alloc (.cells (rowP u f) 70)).cell? ⟨w.heap.size, 1 + c, none⟩ = some (.int .u64 (f c : Int)) := fun c hc => by
  have hg : (w.alloc (.cells (rowP u f) 70)).heap[w.heap.size]? = some (.cells (rowP u f) 70 (0, 0)) := heap_alloc_new w _
  rw [cell_of_row _ _ _ _ _ _ hg]
  obtain rfl | rfl | rfl | rfl | rfl | rfl | rfl | rfl | rfl | rfl : c = 0 ∨ c = 1 ∨ c = 2 ∨ c = 3 ∨ c = 4 ∨ c = 5 ∨ c = 6 ∨ c = 7 ∨ c = 8 ∨ c = 9 := by omega
  all_goals rfl
set_option maxRecDepth 100000 in
set_option maxHeartbeats 4000000 in
theorem mayHave_any (mv : Value) (n : Nat) (M : Nat → Nat) (u : Nat) (f : Nat → Nat) (x c : Nat) (w : World) (hM : MAt w w.heap.size mv n M) (hx : x < n) (hn : n ≤ 10) (hc : c < 10) (hf : f c < 1024) (hm : M x < 1024) :
    Calls Tryd.prog 34 #[mv, encP u f, .int .i64 (x : Int), .int .i64 (c : Int)] w fun e w' => e = .returned (.bool (decide (f c &&& M x = 0))) ∧ Below w.heap.size w w' := by
  obtain ⟨g, rfl, hg, hcl⟩ := hM
  have v1 := rowP_cell u f w c hc
  have BB := Lib.hid ((Below.refl w.heap.size w).alloc (Nat.le_refl _) (.cells (rowP u f) 70))
  have v2 := (BB.out.cell (p := ⟨g, x, none⟩) hg).trans (hcl x hx)
  have EB := Lib.hid (bits_and_u64n (f c) (M x) (by omega) (by omega))
  have c0 : 0 ≤ (c : Int) := by omega
  have c1 : (c : Int) < 10 := by omega
  have x0 : 0 ≤ (x : Int) := by omega
  have x1 : (x : Int) < (n : Int) := by omega
  clear hcl hf hm
  generalize hF : f c = F at v1 EB ⊢
  generalize hG : M x = G at v2 EB ⊢
  unfold encP
  generalize rowP u f = C at v1 v2 BB ⊢
  clear hF hG
  go_enter Tryd.func34, Tryd.ntmps34
  go_wp2
  go_quiet (fail)
  go_wp2
  go_ret
  exact ⟨retB9 (by rw [EB.out]; rw [Bool.eq_iff_iff]; simp), bdQ9 BB.out _⟩
end Go.Proofs.YtemhmejjmhbfdaaDoor.sines
