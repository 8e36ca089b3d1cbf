/- Paintings given out one by one: contracts of the program. -/
import Derived.Test.YtemhmejjmhbfdaaDoorColsP5
import Derived.RangeFuncNested
import Derived.RangeFuncBound
import Derived.RangeFuncCalls
import Derived.RangeFuncLeaves
import Derived.RangeFuncBox
import Derived.Shelf.Abstract
import Derived.Shelf.RegionOpen
import Derived.OwnWalkIn
import Derived.TacticsInMore
import Derived.LoopNIn
import Derived.LoopIn
namespace Go.Proofs.YtemhmejjmhbfdaaDoor.sines
open Go.ChangeShapes Go.WideShapes Go.ChangeAt Go.RowKit Go.Shelf Go.Proofs.YtemhmejjmhbfdaaDoor.spots Go.Proofs.YtemhmejjmhbfdaaDoor.irows Go.Proofs.YtemhmejjmhbfdaaDoor.pairsBorder
attribute [local go_sem] Oper.semAt_some
set_option linter.unusedSimpArgs false
set_option linter.unusedVariables false

/-! ### paintings of the first lands -/
def setsL (cs : List Int) (c : Nat) : Nat := maskOf (fun i => decide (cAt cs (i : Int) = (c : Int))) cs.length
def encL (cs : List Int) : Value := encP (usedL cs) (setsL cs)
theorem maskOf_congr {f g : Nat → Bool} : ∀ {k : Nat}, (∀ i, i < k → f i = g i) → maskOf f k = maskOf g k
  | 0, _ => rfl
  | k + 1, h => by rw [maskOf, maskOf, maskOf_congr (fun i hi => h i (by omega)), h k (by omega)]
theorem setsL_snoc (cs : List Int) (c : Nat) : setsL (cs ++ [(c : Int)]) = updS (setsL cs) c cs.length := by
  funext j
  have e0 : maskOf (fun i => decide (cAt (cs ++ [(c : Int)]) (i : Int) = (j : Int))) cs.length = maskOf (fun i => decide (cAt cs (i : Int) = (j : Int))) cs.length :=
    maskOf_congr fun i hi => by rw [cAt_app_lt (by omega) (by omega)]
  simp only [setsL, updS, List.length_append, List.length_cons, List.length_nil, Nat.zero_add]
  rw [maskOf, e0, cAt_app_at]
  by_cases h : j = c
  · subst h; simp
  · have : ¬ (c : Int) = (j : Int) := by omega
    simp [h, this]
theorem setsL_lt {cs : List Int} (h : cs.length ≤ 10) (j : Nat) : setsL cs j < 1024 :=
  Nat.lt_of_lt_of_le (maskOf_lt _ _) (Nat.pow_le_pow_right (by omega) h)
theorem and_zero {a b : Nat} : a &&& b = 0 ↔ ∀ i, ¬ (a.testBit i = true ∧ b.testBit i = true) := by
  constructor
  · intro h i ⟨h1, h2⟩
    have : (a &&& b).testBit i = true := by rw [Nat.testBit_and, h1, h2]; rfl
    rw [h] at this; simp at this
  · intro h
    apply Nat.eq_of_testBit_eq
    intro i
    rw [Nat.testBit_and, Nat.zero_testBit]
    have := h i
    cases h1 : a.testBit i <;> cases h2 : b.testBit i <;> simp_all
theorem free_bits {ps : List (Int × Int)} {cs : List Int} (ho : okPs ps) (hl : cs.length < 10) (c : Nat) : decide (setsL cs c &&& maskN ps cs.length = 0) = freeC ps cs (c : Int) := by
  rw [Bool.eq_iff_iff, decide_eq_true_eq, and_zero]
  simp only [freeC, List.all_eq_true, Bool.not_eq_true', Bool.and_eq_false_iff, decide_eq_false_iff_not]
  constructor
  · intro h p hp
    obtain ⟨o1, o2⟩ := ho p hp
    by_cases e : p.2 = (cs.length : Int)
    · right
      intro e2
      refine h p.1.toNat ⟨?_, ?_⟩
      · rw [setsL, maskOf_bit, Int.toNat_of_nonneg o1]; simp [e2]; omega
      · rw [maskN_bit _ _ _ (by omega), Int.toNat_of_nonneg o1, nbr, List.any_eq_true]
        exact ⟨p, hp, by simp [joins, e]⟩
    · exact .inl e
  · rintro h i ⟨h1, h2⟩
    rw [setsL, maskOf_bit] at h1
    simp only [Bool.and_eq_true, decide_eq_true_eq] at h1
    rw [maskN_bit _ _ _ (by omega), nbr, List.any_eq_true] at h2
    obtain ⟨p, hp, hj⟩ := h2
    obtain ⟨o1, o2⟩ := ho p hp
    simp only [joins, Bool.or_eq_true, decide_eq_true_eq] at hj
    rcases h p hp with e | e
    · omega
    · rcases hj with ⟨a, b⟩ | ⟨a, b⟩
      · omega
      · rw [b] at e; exact e h1.2
theorem enc_snoc (cs : List Int) (c : Nat) : encL (cs ++ [(c : Int)]) = encP (max (usedL cs) (c + 1)) (updS (setsL cs) c cs.length) := by
  rw [encL, usedL_snoc, setsL_snoc, Int.toNat_natCast]
/-! ### what a round keeps -/
/-- No cells have turned but those of block g. -/
def KpX (g : Nat) (A C : World) : Prop := A.heap.size ≤ C.heap.size ∧ ∀ i cs t fr, i ≠ g → A.heap[i]? = some (.cells cs t fr) → C.heap[i]? = some (.cells cs t fr)
theorem kpX_t {g : Nat} {A C D : World} (h : KpX g A C) (k : KpX g C D) : KpX g A D := ⟨Nat.le_trans h.1 k.1, fun i cs t fr hi hc => k.2 i cs t fr hi (h.2 i cs t fr hi hc)⟩
theorem kpX_b {g : Nat} {w : World} (W : World) (l : Nat) (o o' : Obj) (hl : w.heap.size ≤ l) (h : W.heap[l]? = some o) (ho : o.isCells = false) (_ : o.isWalk = false) : KpX g W (W.putObj l o') :=
  ⟨by simp, fun i cs t fr hi hc => by
    have : i ≠ l := fun e => by subst e; rw [h] at hc; cases hc; simp [Obj.isCells] at ho
    rw [World.putObj_heap_other this]; exact hc⟩
theorem kpX_of {g : Nat} {A C : World} (h : Below A.heap.size A C) : KpX g A C :=
  ⟨h.size, fun i cs t fr _ hc => by rw [h.block i (Array.getElem?_eq_some_iff.1 hc).1]; exact hc⟩
/-- The neighbours of all lands lie in a block of their own. -/
def MBl (w : World) (g : Nat) (v : Value) (n : Nat) (M : Nat → Nat) : Prop := ∃ gm, v = .slice (some ⟨gm, 0, none⟩) n n ∧ gm ≠ g ∧ ∃ cs t, w.heap[gm]? = some (.cells cs t (0, 0)) ∧ ∀ k, k < n → cs[k]? = some (.int .u64 (M k : Int))
theorem mbl_keep {w w' : World} {g : Nat} {v : Value} {n : Nat} {M : Nat → Nat} (h : MBl w g v n M) (hb : KpX g w w') : MBl w' g v n M := by
  obtain ⟨gm, rfl, h1, cs, t, h2, h3⟩ := h
  exact ⟨gm, rfl, h1, cs, t, hb.2 _ _ _ _ h1 h2, h3⟩
theorem mbl_at {w : World} {g : Nat} {v : Value} {n : Nat} {M : Nat → Nat} (h : MBl w g v n M) : MAt w w.heap.size v n M := by
  obtain ⟨gm, rfl, h1, cs, t, h2, h3⟩ := h
  refine ⟨gm, rfl, (Array.getElem?_eq_some_iff.1 h2).1, fun k hk => ?_⟩
  rw [cell_of_row _ _ _ _ _ _ h2]
  exact h3 k hk
theorem grown_of {A C : World} (h : Below A.heap.size A C) : A.grownBy C none := ⟨h.os, h.tape, h.output, h.size, fun i hi _ => h.block i hi⟩
/-- How many there are at most. -/
theorem canon_len (ps : List (Int × Int)) (m : Nat) : ∀ (r : Nat) (cs : List Int), (canon ps m r cs).length ≤ m ^ r
  | 0, cs => by simp [canon]
  | r + 1, cs => by
    rw [canon, List.length_flatMap]
    have : ∀ l : List Nat, ((l.map fun (c : Nat) => (if freeC ps cs (c : Int) = true then canon ps m r (cs ++ [(c : Int)]) else []).length).sum) ≤ l.length * m ^ r := by
      intro l
      induction l with
      | nil => simp
      | cons c l ih =>
        have h1 : (if freeC ps cs (c : Int) = true then canon ps m r (cs ++ [(c : Int)]) else []).length ≤ m ^ r := by
          split
          · exact canon_len ps m r _
          · simp
        rw [List.map_cons, List.sum_cons, List.length_cons, Nat.succ_mul]
        omega
    refine Nat.le_trans (this _) ?_
    rw [List.length_range, Nat.pow_succ, Nat.mul_comm]
    exact Nat.mul_le_mul_left _ (Nat.min_le_right _ _)
/-- The paintings that begin with one of the first k colours. -/
def canonK (ps : List (Int × Int)) (m r : Nat) (cs : List Int) (k : Nat) : List (List Int) := (List.range k).flatMap fun (c : Nat) => if freeC ps cs (c : Int) = true then canon ps m r (cs ++ [(c : Int)]) else []
theorem canonK_succ (ps : List (Int × Int)) (m r : Nat) (cs : List Int) (k : Nat) : canonK ps m r cs (k + 1) = canonK ps m r cs k ++ (if freeC ps cs (k : Int) = true then canon ps m r (cs ++ [(k : Int)]) else []) := by
  simp [canonK, List.range_succ]
theorem canonK_pre {ps : List (Int × Int)} {m r : Nat} {cs : List Int} {k j : Nat} (h : k ≤ j) : canonK ps m r cs k <+: canonK ps m r cs j := by
  obtain ⟨d, rfl⟩ : ∃ d, j = k + d := ⟨j - k, by omega⟩
  refine ⟨((List.range d).map (k + ·)).flatMap fun (c : Nat) => if freeC ps cs (c : Int) = true then canon ps m r (cs ++ [(c : Int)]) else [], ?_⟩
  rw [canonK, canonK, List.range_add, List.flatMap_append]
theorem canonK_all (ps : List (Int × Int)) (m r : Nat) (cs : List Int) : canonK ps m r cs (min (usedL cs + 1) m) = canon ps m (r + 1) cs := rfl
end Go.Proofs.YtemhmejjmhbfdaaDoor.sines
