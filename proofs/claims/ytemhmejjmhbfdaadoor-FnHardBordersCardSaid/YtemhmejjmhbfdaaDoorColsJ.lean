/- Paintings up to the names of colours, and how many colours there are: mathematics. -/
import Derived.Test.YtemhmejjmhbfdaaDoorColsX
namespace Go.Proofs.YtemhmejjmhbfdaaDoor.sines
set_option linter.unusedSimpArgs false
set_option linter.unusedVariables false

/-- The greatest colour and one more. -/
def usedL (cs : List Int) : Nat := cs.foldl (fun u c => max u (c.toNat + 1)) 0
theorem usedL_snoc (cs : List Int) (c : Int) : usedL (cs ++ [c]) = max (usedL cs) (c.toNat + 1) := by simp [usedL, List.foldl_append]
theorem used_from : ∀ (cs : List Int) (u : Nat), u ≤ cs.foldl (fun u c => max u (c.toNat + 1)) u ∧ ∀ d ∈ cs, d.toNat < cs.foldl (fun u c => max u (c.toNat + 1)) u
  | [], u => ⟨Nat.le_refl _, by simp⟩
  | c :: cs, u => by
    obtain ⟨h1, h2⟩ := used_from cs (max u (c.toNat + 1))
    simp only [List.foldl_cons]
    refine ⟨by omega, fun d hd => ?_⟩
    rcases List.mem_cons.1 hd with rfl | hd
    · omega
    · exact h2 d hd
theorem usedL_lt {cs : List Int} {d : Int} (h : d ∈ cs) : d.toNat < usedL cs := (used_from cs 0).2 d h
/-- Right paintings in which a colour is there only behind all lesser ones, of r lands more. -/
def canon (ps : List (Int × Int)) (m : Nat) : Nat → List Int → List (List Int)
  | 0, cs => [cs]
  | r + 1, cs => (List.range (min (usedL cs + 1) m)).flatMap fun (c : Nat) => if freeC ps cs c = true then canon ps m r (cs ++ [(c : Int)]) else []
/-- In how many ways u colours are replaced by different ones of m. -/
def fallN (m : Nat) : Nat → Nat
  | 0 => 1
  | u + 1 => fallN m u * (m - u)
theorem fallN_pos {m : Nat} : ∀ {u : Nat}, u ≤ m → 0 < fallN m u
  | 0, _ => by simp [fallN]
  | u + 1, h => Nat.mul_pos (fallN_pos (by omega)) (by omega)
/-- The number of right completions by r lands more. -/
def cntS (ps : List (Int × Int)) (m : Nat) : Nat → List Int → Nat
  | 0, _ => 1
  | r + 1, cs => sumL (fun (c : Nat) => if freeC ps cs c = true then cntS ps m r (cs ++ [(c : Int)]) else 0) (List.range m)
def swp (a b x : Nat) : Nat := if x = a then b else if x = b then a else x
theorem sumL_two (g : Nat → Nat) {m a b : Nat} (ha : a < m) (hb : b < m) (hab : a ≠ b) : sumL g (List.range m) = sumL g ((List.range m).filter fun x => decide (x ≠ a) && decide (x ≠ b)) + g a + g b := by
  have e1 := sumL_filter_new g (P := fun x => decide (x ≠ a) && decide (x ≠ b)) (Q := fun x => decide (x ≠ b)) (x := a) (l := List.range m) List.nodup_range (List.mem_range.2 ha) (by simp) (by simp [hab]) (fun y _ hy => by simp [hy])
  have e2 := sumL_filter_new g (P := fun x => decide (x ≠ b)) (Q := fun _ => true) (x := b) (l := List.range m) List.nodup_range (List.mem_range.2 hb) (by simp) rfl (fun y _ hy => by simp [hy])
  rw [List.filter_eq_self.2 (fun _ _ => rfl)] at e2
  omega
theorem sumL_swp (f : Nat → Nat) {m a b : Nat} (ha : a < m) (hb : b < m) : sumL (fun c => f (swp a b c)) (List.range m) = sumL f (List.range m) := by
  by_cases hab : a = b
  · subst hab
    refine sumL_congr fun x _ => ?_
    unfold swp; split <;> simp_all
  · rw [sumL_two (fun c => f (swp a b c)) ha hb hab, sumL_two f ha hb hab]
    have h1 : sumL (fun c => f (swp a b c)) ((List.range m).filter fun x => decide (x ≠ a) && decide (x ≠ b)) = sumL f ((List.range m).filter fun x => decide (x ≠ a) && decide (x ≠ b)) := by
      refine sumL_congr fun x hx => ?_
      simp only [List.mem_filter, Bool.and_eq_true, decide_eq_true_eq] at hx
      simp [swp, hx.2.1, hx.2.2]
    rw [h1]
    have h2 : swp a b a = b := by simp [swp]
    have h3 : swp a b b = a := by unfold swp; split <;> simp_all
    rw [h2, h3]; omega
def swi (a b : Nat) (x : Int) : Int := if x = (a : Int) then b else if x = (b : Int) then a else x
theorem swi_nat (a b x : Nat) : swi a b (x : Int) = ((swp a b x : Nat) : Int) := by
  unfold swi swp
  by_cases h1 : x = a
  · simp [h1]
  · by_cases h2 : x = b
    · subst h2; simp [h1]
    · rw [if_neg (by omega), if_neg (by omega), if_neg h1, if_neg h2]
theorem swi_inj (a b : Nat) {x y : Int} : swi a b x = swi a b y ↔ x = y := by
  constructor
  · intro h; unfold swi at h
    (repeat' split at h) <;> omega
  · rintro rfl; rfl
theorem freeC_swi {ps : List (Int × Int)} {cs : List Int} (ho : okPs ps) (a b : Nat) (c : Int) : freeC ps (cs.map (swi a b)) (swi a b c) = freeC ps cs c := by
  unfold freeC
  rw [Bool.eq_iff_iff, List.all_eq_true, List.all_eq_true]
  refine forall_congr' fun p => forall_congr' fun hp => ?_
  rw [List.length_map]
  by_cases e : p.2 = (cs.length : Int)
  · obtain ⟨o1, o2⟩ := ho p hp
    have hl : p.1.toNat < cs.length := by omega
    have : cAt (cs.map (swi a b)) p.1 = swi a b (cAt cs p.1) := by
      simp only [cAt, List.getD_eq_getElem?_getD, List.getElem?_map, List.getElem?_eq_getElem hl, Option.map_some, Option.getD_some]
    rw [this]
    simp only [e, decide_true, Bool.true_and, swi_inj]
  · simp [e]
theorem cntS_swi {ps : List (Int × Int)} {m a b : Nat} (ho : okPs ps) (ha : a < m) (hb : b < m) : ∀ (r : Nat) (cs : List Int), cntS ps m r (cs.map (swi a b)) = cntS ps m r cs
  | 0, _ => rfl
  | r + 1, cs => by
    rw [cntS, cntS, ← sumL_swp (fun (c : Nat) => if freeC ps (cs.map (swi a b)) c = true then cntS ps m r (cs.map (swi a b) ++ [(c : Int)]) else 0) ha hb]
    refine sumL_congr fun c _ => ?_
    rw [← swi_nat, freeC_swi ho]
    have e : cs.map (swi a b) ++ [swi a b (c : Int)] = (cs ++ [(c : Int)]).map (swi a b) := by simp
    rw [e, cntS_swi ho ha hb r]
theorem swi_fix {cs : List Int} {a b : Nat} (h0 : ∀ d ∈ cs, 0 ≤ d) (ha : usedL cs ≤ a) (hb : usedL cs ≤ b) : cs.map (swi a b) = cs := by
  conv => rhs; rw [← List.map_id cs]
  refine List.map_congr_left fun d hd => ?_
  have h1 := usedL_lt hd
  have h2 := h0 d hd
  unfold swi
  rw [if_neg (by omega), if_neg (by omega)]; rfl
/-- All new colours are alike. -/
theorem cnt_new {ps : List (Int × Int)} {m a b r : Nat} {cs : List Int} (ho : okPs ps) (h0 : ∀ d ∈ cs, 0 ≤ d) (ha : usedL cs ≤ a) (hb : usedL cs ≤ b) (am : a < m) (bm : b < m) : cntS ps m r (cs ++ [(a : Int)]) = cntS ps m r (cs ++ [(b : Int)]) := by
  have := cntS_swi ho am bm r (cs ++ [(b : Int)])
  rw [List.map_append, swi_fix h0 ha hb] at this
  rw [← this]
  congr 2
  simp only [List.map_cons, List.map_nil, swi_nat, swp]
  by_cases e : b = a
  · simp [e]
  · simp [e]
theorem free_new {ps : List (Int × Int)} {c : Nat} {cs : List Int} (ho : okPs ps) (hc : usedL cs ≤ c) : freeC ps cs (c : Int) = true := by
  unfold freeC
  rw [List.all_eq_true]
  intro p hp
  by_cases e : p.2 = (cs.length : Int)
  · obtain ⟨o1, o2⟩ := ho p hp
    have hl : p.1.toNat < cs.length := by omega
    have hm : cAt cs p.1 ∈ cs := by
      simp only [cAt, List.getD_eq_getElem?_getD, List.getElem?_eq_getElem hl, Option.getD_some]
      exact List.getElem_mem _
    have := usedL_lt hm
    simp only [e, decide_true, Bool.true_and, Bool.not_eq_true', decide_eq_false_iff_not]
    intro h; rw [h] at this; omega
  · simp [e]
theorem sumL_mul {α : Type} (k : Nat) (f : α → Nat) : ∀ l : List α, sumL (fun x => k * f x) l = k * sumL f l
  | [] => by simp [sumL_nil]
  | x :: l => by rw [sumL_cons, sumL_cons, sumL_mul k f l, Nat.mul_add]
theorem sumL_const {α : Type} (k : Nat) : ∀ l : List α, sumL (fun _ => k) l = l.length * k
  | [] => by simp [sumL_nil]
  | x :: l => by rw [sumL_cons, sumL_const k l, List.length_cons, Nat.succ_mul]; omega
theorem canon_sum {ps : List (Int × Int)} {m : Nat} (ho : okPs ps) : ∀ (r : Nat) (cs : List Int), (∀ d ∈ cs, 0 ≤ d) → usedL cs ≤ m → sumL (fun es => fallN m (usedL es)) (canon ps m r cs) = fallN m (usedL cs) * cntS ps m r cs
  | 0, cs, _, _ => by simp [canon, cntS, sumL_cons, sumL_nil]
  | r + 1, cs, h0, hu => by
    rw [canon, cntS, sumL_flat]
    have hpos : ∀ c : Nat, ∀ d ∈ cs ++ [(c : Int)], 0 ≤ d := fun c d hd => by
      rcases List.mem_append.1 hd with h | h
      · exact h0 d h
      · simp at h; omega
    have old : ∀ c, c < usedL cs → sumL (fun es => fallN m (usedL es)) (if freeC ps cs (c : Int) = true then canon ps m r (cs ++ [(c : Int)]) else []) = fallN m (usedL cs) * (if freeC ps cs (c : Int) = true then cntS ps m r (cs ++ [(c : Int)]) else 0) := fun c hc => by
      by_cases hf : freeC ps cs (c : Int) = true
      · have eu : usedL (cs ++ [(c : Int)]) = usedL cs := by rw [usedL_snoc]; omega
        rw [if_pos hf, if_pos hf, canon_sum ho r _ (hpos c) (by rw [eu]; exact hu), eu]
      · rw [if_neg hf, if_neg hf, sumL_nil]; simp
    by_cases hlt : usedL cs < m
    · rw [show min (usedL cs + 1) m = usedL cs + 1 by omega, List.range_succ, sumL_app, sumL_cons, sumL_nil, Nat.add_zero]
      have eu : usedL (cs ++ [((usedL cs : Nat) : Int)]) = usedL cs + 1 := by rw [usedL_snoc]; omega
      have hr : List.range m = List.range (usedL cs) ++ (List.range (m - usedL cs)).map (usedL cs + ·) := by
        rw [← List.range_add]; congr 1; omega
      rw [hr, sumL_app, sumL_map, Nat.mul_add, sumL_congr (fun c hc => old c (List.mem_range.1 hc)), sumL_mul]
      rw [if_pos (free_new ho (Nat.le_refl _)), canon_sum ho r _ (hpos _) (by rw [eu]; omega), eu]
      have hn : sumL (fun x => if freeC ps cs ((usedL cs + x : Nat) : Int) = true then cntS ps m r (cs ++ [((usedL cs + x : Nat) : Int)]) else 0) (List.range (m - usedL cs)) = sumL (fun _ => cntS ps m r (cs ++ [((usedL cs : Nat) : Int)])) (List.range (m - usedL cs)) := by
        refine sumL_congr fun x hx => ?_
        have hx' := List.mem_range.1 hx
        rw [if_pos (free_new ho (by omega)), cnt_new ho h0 (a := usedL cs + x) (b := usedL cs) (by omega) (by omega) (by omega) (by omega)]
      rw [hn, sumL_const, List.length_range, fallN, Nat.mul_assoc]
    · have e : usedL cs = m := by omega
      rw [show min (usedL cs + 1) m = m by omega, ← sumL_mul]
      exact sumL_congr fun c hc => old c (by have := List.mem_range.1 hc; omega)
theorem cnt_is {ps : List (Int × Int)} {m : Nat} (ho : okPs ps) : ∀ (r : Nat) (cs : List Int), partR ps cs → (∀ p ∈ ps, p.2 < ((cs.length + r : Nat) : Int)) → cntS ps m r cs = ((allC m r).filter fun ds => rightC ps (cs ++ ds)).length
  | 0, cs, h, hn => by
    have : rightC ps (cs ++ []) = true := by rw [List.append_nil]; exact (rightC_part (by simpa using hn)).2 h
    rw [List.append_nil] at this
    simp [cntS, allC, this]
  | r + 1, cs, h, hn => by
    rw [cntS, ← sumL_count, allC, sumL_flat]
    refine sumL_congr fun c _ => ?_
    rw [sumL_map]
    by_cases hf : freeC ps cs (c : Int) = true
    · rw [if_pos hf, cnt_is ho r (cs ++ [(c : Int)]) ((partR_step ho h).2 hf) (fun p hp => by have := hn p hp; simp; omega), ← sumL_count]
      refine sumL_congr fun ds _ => ?_
      rw [show cs ++ [(c : Int)] ++ ds = cs ++ (c : Int) :: ds by simp]
    · rw [if_neg hf]
      refine (sumL_zero (allC m r)).symm.trans (sumL_congr fun ds hd => ?_)
      rw [if_neg]
      intro hr
      apply hf
      have hlen := (allC_len hd).1
      have hp := (rightC_part (cs := cs ++ (c : Int) :: ds) (fun p hp => by have := hn p hp; simp [hlen]; omega)).1 hr
      rw [show cs ++ (c : Int) :: ds = cs ++ [(c : Int)] ++ ds by simp] at hp
      exact (partR_step ho h).1 (partR_pre ho hp)
/-- The number of right colours, by paintings up to the names of colours. -/
theorem countC_canon {n : Int} {ps : List (Int × Int)} (h : validC n ps = true) (m : Int) : sumL (fun es => fallN m.toNat (usedL es)) (canon ps m.toNat n.toNat []) = countC n ps m := by
  obtain ⟨h1, h2⟩ := okPs_of h
  obtain ⟨n0, n1, _⟩ := validC_facts h
  rw [canon_sum h1 n.toNat [] (by simp) (by simp [usedL]), cnt_is h1 n.toNat [] (fun p hp hl => by have := h1 p hp; simp at hl; omega) (fun p hp => by have := h2 p hp; simp; omega)]
  simp [usedL, fallN, countC]
theorem canon_used {ps : List (Int × Int)} {m : Nat} : ∀ (r : Nat) (cs : List Int), usedL cs ≤ m → ∀ es ∈ canon ps m r cs, usedL es ≤ m
  | 0, cs, h, es, he => by simp [canon] at he; rw [he]; exact h
  | r + 1, cs, h, es, he => by
    simp only [canon, List.mem_flatMap, List.mem_range] at he
    obtain ⟨c, hc, he⟩ := he
    by_cases hf : freeC ps cs (c : Int) = true
    · rw [if_pos hf] at he
      exact canon_used r _ (by rw [usedL_snoc]; omega) es he
    · rw [if_neg hf] at he; cases he
/-- There is such a painting just if there are right colours. -/
theorem canon_any {n : Int} {ps : List (Int × Int)} (h : validC n ps = true) (m : Int) : decide (canon ps m.toNat n.toNat [] ≠ []) = (firstC n ps m).isSome := by
  rw [← countC_pos m, ← countC_canon h m]
  cases e : canon ps m.toNat n.toNat [] with
  | nil => simp [sumL_nil]
  | cons x l =>
    have hx := canon_used (ps := ps) (m := m.toNat) n.toNat [] (by simp [usedL]) x (by rw [e]; simp)
    have := fallN_pos hx
    rw [sumL_cons]
    simp; omega
end Go.Proofs.YtemhmejjmhbfdaaDoor.sines
