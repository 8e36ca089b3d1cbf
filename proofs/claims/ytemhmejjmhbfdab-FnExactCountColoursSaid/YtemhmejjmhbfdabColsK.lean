/- The model's numbers of colours: the sums over sets. -/
import Derived.Test.YtemhmejjmhbfdabColsB
import Derived.StillTailTactics
namespace Go.Proofs.Ytemhmejjmhbfdab.sines
open Go.ChangeShapes Go.WideShapes Go.ChangeAt Go.RowKit Go.Proofs.Ytemhmejjmhbfdab.spots Go.Proofs.Ytemhmejjmhbfdab.irows Go.Proofs.Ytemhmejjmhbfdab.pairsBorder
set_option linter.unusedSimpArgs false
set_option linter.unusedVariables false

/-! ### rows of truth values -/
def bools (bs : List Bool) : List Value := bs.map Value.bool
theorem info_bool : (Try.prog.info? 4).map (fun i => (i.zero, i.size, i.bytes)) = some (some (.bool false), 1, 1) := by kernel_rfl
def BRow (w : World) (B : Nat) (v : Value) (bs : List Bool) : Prop := w.ownsRow B 4 1 v bs.length (bools bs)
theorem brow_made (w : World) (B : Nat) (h : B ≤ w.heap.size) : BRow (w.alloc (.cells #[] 4)) B (.slice (some ⟨w.heap.size, 0, none⟩) 0 0) [] := World.ownsRow_made w #[] 0 h (by decide) rfl
theorem brow_shape {w : World} {B : Nat} {v : Value} {bs : List Bool} (h : BRow w B v bs) : ∃ a c, v = .slice a bs.length c := by
  rcases h.2 with ⟨hv, h0⟩ | ⟨g, cap, cur, hv, hB, _⟩
  · exact ⟨none, 0, by rw [hv, h0]⟩
  · exact ⟨_, _, hv⟩
theorem brow_at {w : World} {B : Nat} {a : Option Addr} {c : Nat} {bs : List Bool} (h : BRow w B (.slice a bs.length c) bs) (k : Nat) (hk : k < bs.length) : ∃ g, a = some ⟨g, 0, none⟩ ∧ w.cell? ⟨g, k, none⟩ = some (.bool bs[k]) := by
  rcases h.2 with ⟨hv, h0⟩ | ⟨g, cap, cur, hv, hB, hr⟩
  · omega
  · simp at hv
    obtain ⟨rfl, rfl⟩ := hv
    refine ⟨g, rfl, ?_⟩
    rw [World.ownsRow.cellAt h k (by omega)]
    simp [bools, hk]
theorem brow_keep {w w' : World} {B : Nat} {v : Value} {bs : List Bool} (h : BRow w B v bs) (hb : Below w.heap.size w w') : BRow w' B v bs := by
  refine ⟨h.1, ?_⟩
  rcases h.2 with hn | ⟨g, cap, cur, hv, hg1, hg2, hg3⟩
  · exact .inl hn
  · exact .inr ⟨g, cap, cur, hv, hg1, by rw [hb.block g (Array.getElem?_eq_some_iff.1 hg2).1]; exact hg2, hg3⟩
theorem newB (w : World) (s : Bool) (n : Nat) (h : w.heap.size = n) : ∀ j u, ([.bool s] : List Value)[j]? = some u → (w.alloc (.cells #[.bool s] 4)).cell? ((⟨n, 0, none⟩ : Addr).add j) = some u := by
  subst h
  intro j u hj
  obtain ⟨h1, h2⟩ := List.getElem?_eq_some_iff.1 hj
  have : j = 0 := by simp at h1; omega
  subst this
  simp at h2
  subst h2
  simp [Addr.add]
theorem cellB (s : Bool) : ∀ u ∈ ([.bool s] : List Value), u.oneCell' = true := fun u hu => by simp at hu; subst hu; rfl
theorem snocB {w : World} {B : Nat} {v : Value} {o : List Bool} {x : Bool} (h : w.ownsRow B 4 1 v (o.length + 1) (bools o ++ [.bool x])) : BRow w B v (o ++ [x]) := by
  unfold BRow
  rw [show (o ++ [x]).length = o.length + 1 by simp, show bools (o ++ [x]) = bools o ++ [.bool x] by simp [bools]]
  exact h
/-! ### how many there are at most -/
theorem partC_few (m : Nat) : ∀ n s : Nat, (partC m n s).length ≤ (m + 1) ^ n
  | 0, _ => by simp [partC]
  | n + 1, s => by
    have ih := partC_few m n (s / 2)
    rw [Nat.pow_succ]
    have hm : (m + 1) ^ n * (m + 1) = m * (m + 1) ^ n + (m + 1) ^ n := by rw [Nat.mul_add, Nat.mul_one, Nat.mul_comm]
    have hL : ∀ r : Nat, ((List.range r).flatMap fun (c : Nat) => (partC m n (s / 2)).map ((c : Int) :: ·)).length = r * (partC m n (s / 2)).length := by
      intro r
      induction r with
      | zero => simp
      | succ r ihr => rw [List.range_succ, List.flatMap_append, List.length_append, ihr, Nat.add_mul]; simp
    rw [partC]
    split
    · rw [hL]
      have := Nat.mul_le_mul_left m ih
      omega
    · rw [List.length_map]; omega
theorem sumL_le {α : Type} {f : α → Nat} (h : ∀ x, f x ≤ 1) : ∀ l : List α, sumL f l ≤ l.length
  | [] => by simp [sumL]
  | x :: l => by rw [sumL_cons]; have := sumL_le h l; have := h x; simp; omega
theorem sumL_sub {α : Type} (f : α → Nat) (q : α → Bool) : ∀ l : List α, sumL f (l.filter q) ≤ sumL f l
  | [] => by simp [sumL]
  | x :: l => by
    have := sumL_sub f q l
    by_cases h : q x = true
    · rw [List.filter_cons_of_pos h, sumL_cons, sumL_cons]; omega
    · rw [List.filter_cons_of_neg h, sumL_cons]; omega
theorem waysC_few (ps : List (Int × Int)) (n m s : Nat) : waysC ps n m s ≤ (m + 1) ^ n := by
  refine Nat.le_trans (sumL_le (fun x => by split <;> omega) _) (partC_few m n s)
theorem ways_bound {ps : List (Int × Int)} {n m s : Nat} (hn : n ≤ 10) (hm : m ≤ 6) : waysC ps n m s ≤ 282475249 := by
  have h1 := waysC_few ps n m s
  have h2 : (m + 1) ^ n ≤ 7 ^ n := Nat.pow_le_pow_left (by omega) n
  have h3 : 7 ^ n ≤ 7 ^ 10 := Nat.pow_le_pow_right (by omega) hn
  have : (7 : Nat) ^ 10 = 282475249 := by decide
  omega
/-- What is added for one set. -/
def addF (ps : List (Int × Int)) (n m s : Nat) (q : Nat) : Nat := if apartM ps q = true then waysC ps n m (s - q) else 0
theorem added_le {ps : List (Int × Int)} {n m s p : Nat} (hp : ∀ q ∈ ps, 0 ≤ q.1 ∧ q.1 < q.2 ∧ q.2 < (n : Int)) : addedC (addF ps n m s) n s p ≤ waysC ps n (m + 1) s := by
  rw [waysC_step hp]
  exact sumL_sub _ _ _
end Go.Proofs.Ytemhmejjmhbfdab.sines
