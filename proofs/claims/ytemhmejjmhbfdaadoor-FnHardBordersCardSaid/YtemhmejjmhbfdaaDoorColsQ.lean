/- What the function of hard borders wants of the mathematics: without a border as many colours are enough, or one fewer; what rises. -/
import Derived.Test.YtemhmejjmhbfdaaDoorColsH
import Derived.Test.YtemhmejjmhbfdaaDoorColsX
import Derived.Test.YtemhmejjmhbfdaaDoorRises
namespace Go.Proofs.YtemhmejjmhbfdaaDoor.sines
open Go.Proofs.YtemhmejjmhbfdaaDoor.rises
set_option linter.unusedSimpArgs false
set_option linter.unusedVariables false

theorem rightC_of_sub {ps qs : List (Int × Int)} {cs : List Int} (h : ∀ p ∈ qs, p ∈ ps) (hr : rightC ps cs = true) : rightC qs cs = true := by
  rw [rightC, List.all_eq_true] at hr ⊢
  exact fun p hp => hr p (h p hp)
theorem delB_sub {ps : List (Int × Int)} {i : Nat} : ∀ p ∈ delB ps i, p ∈ ps := fun p hp => by
  rcases List.mem_append.1 hp with h | h
  · exact List.mem_of_mem_take h
  · exact List.mem_of_mem_drop h
theorem delB_has {ps : List (Int × Int)} {i : Nat} (hi : i < ps.length) : ∀ p ∈ ps, p = ps[i] ∨ p ∈ delB ps i := fun p hp => by
  obtain ⟨k, hk, rfl⟩ := List.mem_iff_getElem.1 hp
  rcases Nat.lt_trichotomy k i with h | h | h
  · exact .inr (List.mem_append.2 (.inl (List.mem_iff_getElem.2 ⟨k, by rw [List.length_take]; omega, by rw [List.getElem_take]⟩)))
  · subst h; exact .inl rfl
  · exact .inr (List.mem_append.2 (.inr (List.mem_iff_getElem.2 ⟨k - (i + 1), by rw [List.length_drop]; omega, by
      rw [List.getElem_drop]; congr 1; omega⟩)))
/-- Without a border as many colours are enough. -/
theorem fewest_del_le {n : Int} {ps : List (Int × Int)} {i : Nat} (h : validC n ps = true) (hi : i < ps.length) : fewest n (delB ps i) ≤ fewest n ps := by
  obtain ⟨_, _, a, _⟩ := fewest_is h
  obtain ⟨cs, hc⟩ := Option.isSome_iff_exists.1 a
  obtain ⟨h1, h2, h3⟩ := firstC_some hc
  exact fewest_le (validC_del h hi) h2 h3 (rightC_of_sub delB_sub h1)
theorem cAt_set {cs : List Int} {i x j : Int} (i0 : 0 ≤ i) (i1 : i < cs.length) (j0 : 0 ≤ j) : cAt (cs.set i.toNat x) j = if j = i then x else cAt cs j := by
  unfold cAt
  rw [List.getD_eq_getElem?_getD, List.getD_eq_getElem?_getD, List.getElem?_set]
  by_cases e : j = i
  · subst e
    rw [if_pos rfl, if_pos rfl, if_pos (by omega)]; rfl
  · rw [if_neg (by omega), if_neg e]
/-- One colour more is enough with it. -/
theorem fewest_le_del {n : Int} {ps : List (Int × Int)} {i : Nat} (h : validC n ps = true) (hi : i < ps.length) : fewest n ps ≤ fewest n (delB ps i) + 1 := by
  have hv := validC_del h hi
  obtain ⟨f1, _, a, _⟩ := fewest_is hv
  obtain ⟨cs, hc⟩ := Option.isSome_iff_exists.1 a
  obtain ⟨h1, h2, h3⟩ := firstC_some hc
  obtain ⟨o1, o2⟩ := okPs_of h
  have q1 := o1 ps[i] (List.getElem_mem hi)
  have q2 := o2 ps[i] (List.getElem_mem hi)
  have below : ∀ j : Int, 0 ≤ j → j < n → cAt cs j < fewest n (delB ps i) := fun j j0 j1 => by
    have hj : j.toNat < cs.length := by omega
    have := (h3 _ (List.getElem_mem hj)).2
    rw [cAt, List.getD_eq_getElem?_getD, List.getElem?_eq_getElem hj]
    simpa using this
  refine fewest_le h (cs := cs.set ps[i].2.toNat (fewest n (delB ps i))) (by rw [List.length_set, h2]) (fun d hd => ?_) ?_
  · rcases List.mem_or_eq_of_mem_set hd with hd | rfl
    · have := h3 d hd; omega
    · omega
  · rw [rightC, List.all_eq_true] at h1 ⊢
    intro p hp
    have a := o1 p hp
    have b := o2 p hp
    have b1 := below p.1 (by omega) (by omega)
    have b2 := below p.2 (by omega) (by omega)
    rw [bne_iff_ne, cAt_set (by omega) (by omega) (by omega), cAt_set (by omega) (by omega) (by omega)]
    split <;> split
    · omega
    · omega
    · omega
    · rcases delB_has hi p hp with e | e
      · rename_i n2; exact absurd (by rw [e]) n2
      · simpa using h1 p e
/-- The hard borders rise. -/
theorem hardL_rises (n : Int) (ps : List (Int × Int)) (k : Nat) : RisesTo (hardL n ps k) (k : Int) := by
  refine ⟨fun z hz => ?_, ?_⟩
  · obtain ⟨q, hq, rfl⟩ := List.mem_map.1 hz
    have := List.mem_range.1 (List.mem_filter.1 hq).1
    simp only [Int.ofNat_eq_natCast]; omega
  · refine List.pairwise_map.2 ((List.pairwise_lt_range.filter _).imp ?_)
    intro a b hab
    simp only [Int.ofNat_eq_natCast]; omega
theorem nextN_rises (ps : List (Int × Int)) (a : Int) (k : Nat) : RisesTo (nextN ps a k) (k : Int) := by
  refine ⟨fun z hz => by obtain ⟨h0, h1, _⟩ := nextN_mem.1 hz; exact ⟨h0, h1⟩, ?_⟩
  refine List.Pairwise.filter _ (List.pairwise_map.2 (List.pairwise_lt_range.imp ?_))
  intro a b hab
  simp only [Int.ofNat_eq_natCast]; omega
theorem hardL_mem {n : Int} {ps : List (Int × Int)} {k i : Nat} (hi : i < k) : (i : Int) ∈ hardL n ps k ↔ hardB n ps i = true := by
  unfold hardL
  rw [List.mem_map]
  constructor
  · rintro ⟨q, hq, e⟩
    simp only [Int.ofNat_eq_natCast] at e
    obtain rfl : q = i := by omega
    exact (List.mem_filter.1 hq).2
  · exact fun h => ⟨i, List.mem_filter.2 ⟨List.mem_range.2 hi, h⟩, rfl⟩
end Go.Proofs.YtemhmejjmhbfdaaDoor.sines
