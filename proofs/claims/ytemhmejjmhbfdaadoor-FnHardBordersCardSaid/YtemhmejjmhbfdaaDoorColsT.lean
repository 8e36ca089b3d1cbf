/- Each border counts for two neighbours. -/
import Derived.Test.YtemhmejjmhbfdaaDoorCols
namespace Go.Proofs.YtemhmejjmhbfdaaDoor.sines
set_option linter.unusedSimpArgs false
set_option linter.unusedVariables false

def landsL (n : Nat) : List Int := (List.range n).map Int.ofNat
theorem landsL_succ (n : Nat) : landsL (n + 1) = landsL n ++ [(n : Int)] := by simp [landsL, List.range_succ]
theorem one_none (v : Int) : ∀ n : Nat, (n : Int) ≤ v → sumL (fun y : Int => if y = v then 1 else 0) (landsL n) = 0
  | 0, _ => rfl
  | n + 1, h => by
    rw [landsL_succ, sumL_app, one_none v n (by omega), sumL_cons, sumL_nil, if_neg (by omega)]
theorem one_in (v : Int) (v0 : 0 ≤ v) : ∀ n : Nat, v < (n : Int) → sumL (fun y : Int => if y = v then 1 else 0) (landsL n) = 1
  | 0, h => by omega
  | n + 1, h => by
    rw [landsL_succ, sumL_app, sumL_cons, sumL_nil]
    by_cases e : (n : Int) = v
    · rw [one_none v n (by omega), if_pos e]
    · rw [one_in v v0 n (by omega), if_neg e]
theorem pair_in (u v : Int) (u0 : 0 ≤ u) (v0 : 0 ≤ v) (n : Nat) (u1 : u < n) (v1 : v < n) : sumL (fun a : Int => sumL (fun y : Int => if a = u ∧ y = v then 1 else 0) (landsL n)) (landsL n) = 1 := by
  refine Eq.trans (sumL_congr (g := fun a : Int => if a = u then 1 else 0) fun a _ => ?_) (one_in u u0 n u1)
  by_cases e : a = u
  · rw [if_pos e]
    exact Eq.trans (sumL_congr (g := fun y : Int => if y = v then 1 else 0) fun y _ => by simp [e]) (one_in v v0 n v1)
  · rw [if_neg e]
    exact Eq.trans (sumL_congr (g := fun _ : Int => 0) fun y _ => by simp [e]) (sumL_zero _)
theorem two_in {p : Int × Int} {n : Nat} (h0 : 0 ≤ p.1) (h1 : p.1 < p.2) (h2 : p.2 < n) : sumL (fun a : Int => sumL (fun y : Int => if joins p a y = true then 1 else 0) (landsL n)) (landsL n) = 2 := by
  have e : ∀ a y : Int, (if joins p a y = true then 1 else 0) = (if a = p.1 ∧ y = p.2 then 1 else 0) + (if a = p.2 ∧ y = p.1 then 1 else 0) := fun a y => by
    simp only [joins, Bool.or_eq_true, decide_eq_true_eq]
    split <;> split <;> split <;> omega
  have e2 : sumL (fun a : Int => sumL (fun y : Int => if joins p a y = true then 1 else 0) (landsL n)) (landsL n) = sumL (fun a : Int => sumL (fun y : Int => if a = p.1 ∧ y = p.2 then 1 else 0) (landsL n) + sumL (fun y : Int => if a = p.2 ∧ y = p.1 then 1 else 0) (landsL n)) (landsL n) :=
    sumL_congr fun a _ => by rw [← sumL_add]; exact sumL_congr fun y _ => e a y
  rw [e2, sumL_add, pair_in _ _ h0 (by omega) n (by omega) h2, pair_in _ _ (by omega) h0 n h2 (by omega)]
/-- No two borders join the same lands. -/
def apartB (ps : List (Int × Int)) : Prop := ps.Pairwise fun p q => ∀ a x, joins p a x = true → joins q a x = false
theorem apartB_of {n : Int} {ps : List (Int × Int)} (h : validC n ps = true) : apartB ps := by
  refine List.pairwise_iff_getElem.2 fun i j hi hj hij a x hx => ?_
  rw [bAt_of hi] at hx
  rw [bAt_of hj]
  exact joins_once h hj hij hx
theorem nbr_sum (a y : Int) : ∀ ps : List (Int × Int), apartB ps → (if nbr ps a y = true then 1 else 0) = sumL (fun p => if joins p a y = true then 1 else 0) ps
  | [], _ => by simp [nbr, sumL_nil]
  | p :: ps, h => by
    obtain ⟨h1, h2⟩ := List.pairwise_cons.1 h
    rw [sumL_cons, ← nbr_sum a y ps h2]
    have e : nbr (p :: ps) a y = (joins p a y || nbr ps a y) := rfl
    rw [e]
    by_cases hj : joins p a y = true
    · have hn : nbr ps a y = false := by
        rw [nbr, List.any_eq_false]
        intro q hq
        rw [h1 q hq a y hj]; simp
      simp [hj, hn]
    · simp [hj]
theorem sum_const {α : Type} (c : Nat) : ∀ l : List α, sumL (fun _ => c) l = c * l.length
  | [] => rfl
  | x :: l => by rw [sumL_cons, sum_const c l, List.length_cons, Nat.mul_succ, Nat.add_comm]
/-- The neighbours of all lands are twice the borders. -/
theorem both_two {n : Int} {ps : List (Int × Int)} (h : validC n ps = true) : sumL (fun a => (nextOf n ps a).length) (landsL n.toNat) = 2 * ps.length := by
  obtain ⟨n0, _, _, hf⟩ := validC_facts h
  have e1 : sumL (fun a => (nextOf n ps a).length) (landsL n.toNat) = sumL (fun a => sumL (fun y => sumL (fun p => if joins p a y = true then 1 else 0) ps) (landsL n.toNat)) (landsL n.toNat) := by
    refine sumL_congr fun a _ => ?_
    show (((List.range n.toNat).map Int.ofNat).filter fun x => nbr ps a x).length = _
    rw [← sumL_count]
    exact sumL_congr fun y _ => nbr_sum a y ps (apartB_of h)
  have e2 : sumL (fun a => sumL (fun y => sumL (fun p => if joins p a y = true then 1 else 0) ps) (landsL n.toNat)) (landsL n.toNat) = sumL (fun a => sumL (fun p => sumL (fun y => if joins p a y = true then 1 else 0) (landsL n.toNat)) ps) (landsL n.toNat) :=
    sumL_congr fun a _ => sumL_swap (fun y p => if joins p a y = true then 1 else 0) _ _
  rw [e1, e2, sumL_swap, ← sum_const 2 ps]
  refine sumL_congr fun p hp => ?_
  obtain ⟨i, hi, rfl⟩ := List.mem_iff_getElem.1 hp
  rw [bAt_of hi]
  obtain ⟨f0, f1, f2⟩ := hf i hi
  exact two_in f0 f1 (by omega)
end Go.Proofs.YtemhmejjmhbfdaaDoor.sines
