/- Colours by an order are right. -/
import Derived.Test.YtemhmejjmhbfdabDoorColsG2
import Derived.Test.YtemhmejjmhbfdabDoorColsM
import Derived.Test.YtemhmejjmhbfdabDoorColsX
namespace Go.Proofs.YtemhmejjmhbfdabDoor.sines
set_option linter.unusedSimpArgs false
set_option linter.unusedVariables false

/-- The borders whose lands are both among some lands have different colours; no other land has one. -/
def GInv (ps : List (Int × Int)) (L : List Int) (F : Nat → Int) : Prop :=
  (∀ j : Nat, ((j : Int)) ∉ L → F j = -1) ∧ (∀ j : Nat, (j : Int) ∈ L → 0 ≤ F j) ∧ ∀ p ∈ ps, p.1 ∈ L → p.2 ∈ L → F p.1.toNat ≠ F p.2.toNat
theorem ginv_step {n : Int} {ps : List (Int × Int)} {L : List Int} {F : Nat → Int} {x : Int} (hv : validC n ps = true) (h : GInv ps L F) (hx : x ∉ L) (x0 : 0 ≤ x) : GInv ps (L ++ [x]) (stepG n ps F x) := by
  obtain ⟨h1, h2, h3⟩ := h
  obtain ⟨o1, o2⟩ := okPs_of hv
  have hmex := (mexC_facts (usedG n ps F x)).2
  have key : ∀ y, nbr ps x y = true → F y.toNat ≠ ((mexC (usedG n ps F x) : Nat) : Int) := fun y hy e =>
    hmex (by rw [← e]; exact List.mem_map.2 ⟨y, (nextOf_iff hv).2 hy, rfl⟩)
  refine ⟨fun j hj => ?_, fun j hj => ?_, fun p hp ha hb => ?_⟩
  · rw [List.mem_append, List.mem_singleton] at hj
    have hne : j ≠ x.toNat := fun e => hj (.inr (by omega))
    simp only [stepG, if_neg hne]
    exact h1 j (fun e => hj (.inl e))
  · simp only [stepG]
    split
    · omega
    · rename_i hne
      rw [List.mem_append, List.mem_singleton] at hj
      rcases hj with hj | hj
      · exact h2 j hj
      · omega
  · have hpp := o1 p hp
    rw [List.mem_append, List.mem_singleton] at ha hb
    have nb : ∀ y, joins p x y = true → nbr ps x y = true := fun y hy => List.any_eq_true.2 ⟨p, hp, hy⟩
    rcases ha with ha | ha <;> rcases hb with hb | hb
    · have n1 : p.1.toNat ≠ x.toNat := fun e => hx (by rw [← show p.1 = x by omega]; exact ha)
      have n2 : p.2.toNat ≠ x.toNat := fun e => hx (by rw [← show p.2 = x by omega]; exact hb)
      simp only [stepG, if_neg n1, if_neg n2]
      exact h3 p hp ha hb
    · have n1 : p.1.toNat ≠ x.toNat := by omega
      have n2 : p.2.toNat = x.toNat := by omega
      simp only [stepG, if_neg n1, if_pos n2]
      exact key p.1 (nb _ (by simp [joins, hb]))
    · have n1 : p.1.toNat = x.toNat := by omega
      have n2 : p.2.toNat ≠ x.toNat := by omega
      simp only [stepG, if_pos n1, if_neg n2]
      exact fun e => key p.2 (nb _ (by simp [joins, ha])) e.symm
    · omega
theorem ginv_all {n : Int} {ps : List (Int × Int)} {os : List Int} (hv : validC n ps = true) (ho : orderOk n os = true) : ∀ k, k ≤ os.length → GInv ps (os.take k) (greedyF n ps (os.take k))
  | 0, _ => ⟨fun _ _ => rfl, fun j h => by simp at h, fun p _ h => by simp at h⟩
  | k + 1, hk => by
    obtain ⟨_, of⟩ := orderOk_facts ho
    obtain ⟨f0, f1, f2⟩ := of k (by omega)
    rw [greedyF_snoc n ps os k (by omega)]
    have := ginv_step (x := zAt os k) hv (ginv_all hv ho k (by omega)) f2 f0
    rwa [show os.take (k + 1) = os.take k ++ [zAt os k] by rw [← List.take_append_getElem (show k < os.length by omega), zAt_eq (show k < os.length by omega)]]
/-- An order has each land. -/
theorem order_has {n : Int} {os : List Int} (ho : orderOk n os = true) {j : Int} (j0 : 0 ≤ j) (j1 : j < n) : j ∈ os := by
  obtain ⟨hl, of⟩ := orderOk_facts ho
  apply Classical.byContradiction
  intro hj
  have nd : os.Nodup := List.pairwise_iff_getElem.2 fun a b ha hb hab e => (of b hb).2.2 (by
    rw [zAt_eq hb, ← e, List.mem_iff_getElem]
    exact ⟨a, by rw [List.length_take]; omega, by rw [List.getElem_take]⟩)
  have := nodup_few n.toNat (j :: os) (List.nodup_cons.2 ⟨hj, nd⟩) (fun x hx => by
    rcases List.mem_cons.1 hx with rfl | hx
    · omega
    · obtain ⟨q, hq, e⟩ := List.mem_iff_getElem.1 hx
      have := of q hq
      rw [zAt_eq hq, e] at this
      omega)
  rw [List.length_cons] at this
  omega
theorem greedy_right {n : Int} {ps : List (Int × Int)} {os : List Int} (hv : validC n ps = true) (ho : orderOk n os = true) : rightC ps (greedyC n ps os) = true ∧ (greedyC n ps os).length = n.toNat ∧ ∀ d ∈ greedyC n ps os, 0 ≤ d := by
  have hi := ginv_all hv ho os.length (Nat.le_refl _)
  rw [List.take_length] at hi
  obtain ⟨h1, h2, h3⟩ := hi
  obtain ⟨o1, o2⟩ := okPs_of hv
  refine ⟨?_, by rw [greedyC, rowF_len], fun d hd => ?_⟩
  · rw [rightC, List.all_eq_true]
    intro p hp
    have a := o1 p hp
    have b := o2 p hp
    have c : ∀ i : Int, 0 ≤ i → i < n → cAt (greedyC n ps os) i = greedyF n ps os i.toNat := fun i i0 i1 => by
      have hk : i.toNat < n.toNat := by omega
      simp [cAt, greedyC, rowF, List.getD_eq_getElem?_getD, List.getElem?_map, List.getElem?_range hk]
    rw [c _ (by omega) (by omega), c _ (by omega) (by omega), bne_iff_ne]
    exact h3 p hp (order_has ho (by omega) (by omega)) (order_has ho (by omega) (by omega))
  · obtain ⟨q, hq, e⟩ := List.mem_iff_getElem.1 hd
    rw [greedyC, rowF_len] at hq
    have hm := order_has ho (j := (q : Int)) (by omega) (by omega)
    have := h2 q hm
    simp only [greedyC, rowF, List.getElem_map, List.getElem_range] at e
    omega
end Go.Proofs.YtemhmejjmhbfdabDoor.sines
