/- Which lands of a grid are neighbours: mathematics. -/
import Derived.Test.YtpekchihdmhkkaaGridC
namespace Go.Proofs.Ytpekchihdmhkkaa.stab
open Go
set_option linter.unusedSimpArgs false
set_option linter.unusedVariables false

def pairB (c d a b : UInt8) : Bool := (c == a && d == b) || (c == b && d == a)
def cellM (ps : List ByteArray) (n : Nat) (a b : UInt8) (i k : Nat) : Bool :=
  pairB (bAt (sAt ps i) k) (bAt (sAt ps i) ((k + 1) % n)) a b || (decide (i + 1 < ps.length) && pairB (bAt (sAt ps i) k) (bAt (sAt ps (i + 1)) k) a b)
def rowM (ps : List ByteArray) (n : Nat) (a b : UInt8) (i k : Nat) : Bool := (List.range k).any (cellM ps n a b i)
def gridM (ps : List ByteArray) (n : Nat) (a b : UInt8) (i : Nat) : Bool := (List.range i).any fun i => rowM ps n a b i n
def meetG (ps : List ByteArray) (n : Nat) (a b : UInt8) : Bool := gridM ps n a b ps.length
theorem rowM_zero (ps : List ByteArray) (n : Nat) (a b : UInt8) (i : Nat) : rowM ps n a b i 0 = false := rfl
theorem gridM_zero (ps : List ByteArray) (n : Nat) (a b : UInt8) : gridM ps n a b 0 = false := rfl
theorem rowM_succ (ps : List ByteArray) (n : Nat) (a b : UInt8) (i k : Nat) : rowM ps n a b i (k + 1) = (rowM ps n a b i k || cellM ps n a b i k) := by simp [rowM, List.range_succ]
theorem gridM_succ (ps : List ByteArray) (n : Nat) (a b : UInt8) (i : Nat) : gridM ps n a b (i + 1) = (gridM ps n a b i || rowM ps n a b i n) := by simp [gridM, List.range_succ]
theorem meet_of_cell {ps : List ByteArray} {n : Nat} {a b : UInt8} {i k : Nat} (hi : i < ps.length) (hk : k < n) (h : cellM ps n a b i k = true) : meetG ps n a b = true := by
  simp only [meetG, gridM, rowM, List.any_eq_true, List.mem_range]
  exact ⟨i, hi, k, hk, h⟩
theorem cell_of_meet {ps : List ByteArray} {n : Nat} {a b : UInt8} (h : meetG ps n a b = true) : ∃ i k, i < ps.length ∧ k < n ∧ cellM ps n a b i k = true := by
  simp only [meetG, gridM, rowM, List.any_eq_true, List.mem_range] at h
  obtain ⟨i, hi, k, hk, h⟩ := h
  exact ⟨i, k, hi, hk, h⟩
/-- The pairs of one land with the first k ones. -/
def innerP (L : List UInt8) (m : UInt8 → UInt8 → Bool) (i k : Nat) : List ByteArray := ((List.range k).filter fun j => decide (i < j) && m (L.getD i 0) (L.getD j 0)).map fun j => txt [L.getD i 0, L.getD j 0]
def outerP (L : List UInt8) (m : UInt8 → UInt8 → Bool) : Nat → List ByteArray
  | 0 => []
  | i + 1 => outerP L m i ++ innerP L m i L.length
theorem innerP_start (L : List UInt8) (m : UInt8 → UInt8 → Bool) (i : Nat) : innerP L m i (i + 1) = [] := by
  unfold innerP
  rw [List.map_eq_nil_iff, List.filter_eq_nil_iff]
  intro j hj
  have := List.mem_range.1 hj
  simp; omega
theorem innerP_succ (L : List UInt8) (m : UInt8 → UInt8 → Bool) (i k : Nat) (h : i < k) : innerP L m i (k + 1) = innerP L m i k ++ (if m (L.getD i 0) (L.getD k 0) = true then [txt [L.getD i 0, L.getD k 0]] else []) := by
  unfold innerP
  rw [List.range_succ, List.filter_append, List.map_append]
  congr 1
  by_cases e : m (L.getD i 0) (L.getD k 0) = true
  · rw [if_pos e, List.filter_cons_of_pos (by rw [decide_eq_true h, Bool.true_and]; exact e)]; rfl
  · have e2 : (decide (i < k) && m (L.getD i 0) (L.getD k 0)) = false := by rw [Bool.eq_false_iff.2 e, Bool.and_false]
    rw [if_neg e]
    simp only [List.filter_cons, e2, Bool.false_eq_true, if_false, List.filter_nil, List.map_nil]
theorem innerP_len (L : List UInt8) (m : UInt8 → UInt8 → Bool) (i k : Nat) : (innerP L m i k).length ≤ k := by
  unfold innerP
  rw [List.length_map]
  exact Nat.le_trans (List.length_filter_le _ _) (by simp)
theorem outerP_len (L : List UInt8) (m : UInt8 → UInt8 → Bool) : ∀ i, (outerP L m i).length ≤ i * L.length
  | 0 => by simp [outerP]
  | i + 1 => by
    have h1 := outerP_len L m i
    have h2 := innerP_len L m i L.length
    rw [outerP, List.length_append, Nat.succ_mul]; omega
def bordersG (ps : List ByteArray) : List ByteArray := outerP (landsC (cellsG ps)) (meetG ps (sAt ps 0).size) (landsC (cellsG ps)).length
theorem landsC_len (cs : List UInt8) : (landsC cs).length ≤ 26 := landsTo_len cs 26
theorem mem_outerP {L : List UInt8} {m : UInt8 → UInt8 → Bool} : ∀ {i : Nat} {s : ByteArray}, s ∈ outerP L m i ↔ ∃ p j, p < i ∧ p < j ∧ j < L.length ∧ m (L.getD p 0) (L.getD j 0) = true ∧ s = txt [L.getD p 0, L.getD j 0]
  | 0, s => by simp [outerP]
  | i + 1, s => by
    rw [outerP, List.mem_append, mem_outerP]
    simp only [innerP, List.mem_map, List.mem_filter, List.mem_range, Bool.and_eq_true, decide_eq_true_eq]
    constructor
    · rintro (⟨p, j, h1, h2, h3, h4, h5⟩ | ⟨j, ⟨h1, h2, h3⟩, h4⟩)
      · exact ⟨p, j, by omega, h2, h3, h4, h5⟩
      · exact ⟨i, j, by omega, h2, h1, h3, h4.symm⟩
    · rintro ⟨p, j, h1, h2, h3, h4, h5⟩
      by_cases e : p = i
      · subst e
        exact .inr ⟨j, ⟨h3, h2, h4⟩, h5.symm⟩
      · exact .inl ⟨p, j, by omega, h2, h3, h4, h5⟩
theorem lands_lt {cs : List UInt8} {p j : Nat} (h : p < j) (hj : j < (landsC cs).length) : (landsC cs).getD p 0 < (landsC cs).getD j 0 := by
  rw [getD_lt (by omega), getD_lt hj]
  exact List.pairwise_iff_getElem.1 (landsC_sorted cs) p j (by omega) hj h
def lst (s : ByteArray) : List UInt8 := s.data.toList
theorem lst_txt (l : List UInt8) : lst (txt l) = l := by simp [lst, txt]
theorem mem_bordersG {ps : List ByteArray} {l : List UInt8} : l ∈ (bordersG ps).map lst ↔ ∃ a b : UInt8, smallB a = true ∧ a ∈ cellsG ps ∧ smallB b = true ∧ b ∈ cellsG ps ∧ a < b ∧ meetG ps (sAt ps 0).size a b = true ∧ l = [a, b] := by
  rw [List.mem_map]
  constructor
  · rintro ⟨s, hs, rfl⟩
    obtain ⟨p, j, h1, h2, h3, h4, rfl⟩ := mem_outerP.1 hs
    have m1 := mem_landsC.1 (show (landsC (cellsG ps)).getD p 0 ∈ landsC (cellsG ps) by rw [getD_lt h1]; exact List.getElem_mem h1)
    have m2 := mem_landsC.1 (show (landsC (cellsG ps)).getD j 0 ∈ landsC (cellsG ps) by rw [getD_lt h3]; exact List.getElem_mem h3)
    exact ⟨_, _, m1.1, m1.2, m2.1, m2.2, lands_lt h2 h3, h4, lst_txt _⟩
  · rintro ⟨a, b, a1, a2, b1, b2, hab, hm, rfl⟩
    obtain ⟨p, hp, rfl⟩ := List.mem_iff_getElem.1 (mem_landsC.2 ⟨a1, a2⟩)
    obtain ⟨j, hj, rfl⟩ := List.mem_iff_getElem.1 (mem_landsC.2 ⟨b1, b2⟩)
    have hpj : p < j := by
      rcases Nat.lt_trichotomy p j with h | h | h
      · exact h
      · subst h; exact absurd hab (by simp)
      · have := List.pairwise_iff_getElem.1 (landsC_sorted (cellsG ps)) j p hj hp h
        rw [UInt8.lt_iff_toNat_lt] at hab this
        omega
    refine ⟨txt [(landsC (cellsG ps))[p], (landsC (cellsG ps))[j]], mem_outerP.2 ⟨p, j, hp, hpj, hj, ?_, ?_⟩, lst_txt _⟩
    · rw [getD_lt hp, getD_lt hj]; exact hm
    · rw [getD_lt hp, getD_lt hj]
/-- What the program puts down at a cell and its neighbour. -/
def keyP (x y : UInt8) : List (List UInt8) := if (x ≠ 46 ∧ y ≠ 46) ∧ x < y then [[x, y]] else []
def keysZ (cs : List UInt8) (x : UInt8) (zs : List Nat) : List (List UInt8) := (zs.map fun z => keyP x (cs.getD z 0)).flatten
def keysC (cs : List UInt8) (L n : Nat) : Nat → List (List UInt8)
  | 0 => []
  | c + 1 => keysC cs L n c ++ keysZ cs (cs.getD c 0) (nbrs L n c)
theorem keysZ_nil (cs : List UInt8) (x : UInt8) : keysZ cs x [] = [] := rfl
theorem keysZ_step (cs : List UInt8) (x : UInt8) (zs : List Nat) (k : Nat) (h : k < zs.length) : keysZ cs x (zs.take (k + 1)) = keysZ cs x (zs.take k) ++ keyP x (cs.getD (zs.getD k 0) 0) := by
  rw [List.take_succ_eq_append_getElem h]
  unfold keysZ
  rw [List.map_append, List.flatten_append]
  congr 1
  simp [h]
theorem keyP_len (x y : UInt8) : (keyP x y).length ≤ 1 := by unfold keyP; split <;> simp
theorem keysZ_len (cs : List UInt8) (x : UInt8) : ∀ zs : List Nat, (keysZ cs x zs).length ≤ zs.length
  | [] => by simp [keysZ]
  | z :: zs => by
    have h1 := keysZ_len cs x zs
    have h2 := keyP_len x (cs.getD z 0)
    simp only [keysZ, List.map_cons, List.flatten_cons, List.length_append, List.length_cons] at h1 ⊢
    omega
theorem keysC_len (cs : List UInt8) (L n : Nat) : ∀ c, (keysC cs L n c).length ≤ 6 * c
  | 0 => by simp [keysC]
  | c + 1 => by
    have h1 := keysC_len cs L n c
    have h2 := keysZ_len cs (cs.getD c 0) (nbrs L n c)
    have h3 := nbrs_len L n c
    rw [keysC, List.length_append]; omega
theorem mem_keysC {cs : List UInt8} {L n : Nat} {l : List UInt8} : ∀ {c : Nat}, l ∈ keysC cs L n c ↔ ∃ p z, p < c ∧ z ∈ nbrs L n p ∧ (cs.getD p 0 ≠ 46 ∧ cs.getD z 0 ≠ 46) ∧ cs.getD p 0 < cs.getD z 0 ∧ l = [cs.getD p 0, cs.getD z 0]
  | 0 => by simp [keysC]
  | c + 1 => by
    rw [keysC, List.mem_append, mem_keysC]
    have hZ : l ∈ keysZ cs (cs.getD c 0) (nbrs L n c) ↔ ∃ z ∈ nbrs L n c, (cs.getD c 0 ≠ 46 ∧ cs.getD z 0 ≠ 46) ∧ cs.getD c 0 < cs.getD z 0 ∧ l = [cs.getD c 0, cs.getD z 0] := by
      simp only [keysZ, List.mem_flatten, List.mem_map]
      constructor
      · rintro ⟨_, ⟨z, hz, rfl⟩, hl⟩
        unfold keyP at hl
        split at hl
        · rename_i h
          exact ⟨z, hz, h.1, h.2, by simpa using hl⟩
        · simp at hl
      · rintro ⟨z, hz, h1, h2, rfl⟩
        exact ⟨_, ⟨z, hz, rfl⟩, by unfold keyP; rw [if_pos ⟨h1, h2⟩]; simp⟩
    rw [hZ]
    constructor
    · rintro (⟨p, z, h1, h2⟩ | ⟨z, h⟩)
      · exact ⟨p, z, by omega, h2⟩
      · exact ⟨c, z, by omega, h⟩
    · rintro ⟨p, z, h1, h2⟩
      by_cases e : p = c
      · subst e; exact .inr ⟨z, h2⟩
      · exact .inl ⟨p, z, by omega, h2⟩
theorem mem_nbrs {m n i k z : Nat} (hi : i < m) (hk : k < n) : z ∈ nbrs (m * n) n (i * n + k) ↔ (0 < i ∧ z = (i - 1) * n + k) ∨ (i + 1 < m ∧ z = (i + 1) * n + k) ∨ (k + 1 < n ∧ z = i * n + (k + 1)) ∨ (k ≠ 0 ∧ z = i * n + (k - 1)) ∨ (k + 1 = n ∧ z = i * n) ∨ (k = 0 ∧ z = i * n + (n - 1)) := by
  rw [nbrs_parts hi hk]
  have one : ∀ (c : Prop) [Decidable c] (y : Nat), z ∈ (if c then [y] else []) ↔ c ∧ z = y := fun c _ y => by
    by_cases h : c
    · simp [h]
    · simp [h]
  simp only [List.mem_append, one, or_assoc]
theorem small_ne {a : UInt8} (h : smallB a = true) : a ≠ 46 := by
  rintro rfl
  simp [smallB] at h
theorem keys_are {ps : List ByteArray} {n : Nat} (g : Grid ps n) (l : List UInt8) : l ∈ keysC (cellsG ps) (cellsG ps).length n (cellsG ps).length ↔ l ∈ (bordersG ps).map lst := by
  have hn : (sAt ps 0).size = n := g.size 0 g.m1
  rw [mem_bordersG, mem_keysC, hn, g.len]
  have at_lt : ∀ a b, a < ps.length → b < n → a * n + b < ps.length * n := fun a b ha hb => by
    have := Nat.mul_le_mul_right n (show a + 1 ≤ ps.length from ha)
    rw [Nat.succ_mul] at this
    omega
  have inC : ∀ i k, i < ps.length → k < n → bAt (sAt ps i) k ∈ cellsG ps := fun i k hi hk => by
    rw [← g.at hi hk, getD_lt (by rw [g.len]; exact at_lt i k hi hk)]
    exact List.getElem_mem _
  have small : ∀ i k, i < ps.length → k < n → bAt (sAt ps i) k ≠ 46 → smallB (bAt (sAt ps i) k) = true := fun i k hi hk h => by
    have := g.cell i hi k hk
    simp only [cellB, Bool.or_eq_true, beq_iff_eq] at this
    exact this.resolve_left h
  have meet : ∀ i k i' k', i < ps.length → k < n → i' < ps.length → k' < n → i' * n + k' ∈ nbrs (ps.length * n) n (i * n + k) → meetG ps n (bAt (sAt ps i) k) (bAt (sAt ps i') k') = true := fun i k i' k' hi hk hi' hk' h => by
    have inj : ∀ a b, b < n → i' * n + k' = a * n + b → i' = a ∧ k' = b := fun a b hb e => by
      have e1 := mod_of (i := i') hk'
      rw [e, mod_of hb] at e1
      refine ⟨?_, e1.symm⟩
      subst e1
      exact Nat.eq_of_mul_eq_mul_right (by omega) (show i' * n = a * n by omega)
    rcases (mem_nbrs hi hk).1 h with ⟨h1, h2⟩ | ⟨h1, h2⟩ | ⟨h1, h2⟩ | ⟨h1, h2⟩ | ⟨h1, h2⟩ | ⟨h1, h2⟩
    · obtain ⟨rfl, rfl⟩ := inj _ _ hk h2
      refine meet_of_cell hi' hk ?_
      have e : i - 1 + 1 = i := by omega
      simp [cellM, e, hi, pairB]
    · obtain ⟨rfl, rfl⟩ := inj _ _ hk h2
      refine meet_of_cell hi hk ?_
      simp [cellM, h1, pairB]
    · obtain ⟨rfl, rfl⟩ := inj _ _ h1 h2
      refine meet_of_cell hi hk ?_
      simp [cellM, Nat.mod_eq_of_lt h1, pairB]
    · obtain ⟨rfl, rfl⟩ := inj _ _ (by omega) h2
      refine meet_of_cell hi' hk' ?_
      have e : k - 1 + 1 = k := by omega
      simp [cellM, e, Nat.mod_eq_of_lt hk, pairB]
    · obtain ⟨rfl, rfl⟩ := inj i 0 (by omega) (by omega)
      refine meet_of_cell hi hk ?_
      simp [cellM, h1, pairB]
    · obtain ⟨rfl, rfl⟩ := inj _ _ (by omega) h2
      refine meet_of_cell hi' hk' ?_
      have e : n - 1 + 1 = n := by omega
      simp [cellM, e, h1, pairB]
  constructor
  · rintro ⟨p, z, hp, hz, ⟨h1, h2⟩, h3, rfl⟩
    have hk := Nat.mod_lt p g.n1
    have hi : p / n < ps.length := Nat.div_lt_of_lt_mul (by rw [Nat.mul_comm]; exact hp)
    have ep : p = p / n * n + p % n := by rw [Nat.mul_comm]; exact (Nat.div_add_mod p n).symm
    rw [ep] at hz
    have hzl := nbrs_lt hi hk z hz
    have hk' := Nat.mod_lt z g.n1
    have hi' : z / n < ps.length := Nat.div_lt_of_lt_mul (by rw [Nat.mul_comm]; exact hzl)
    have ez : z = z / n * n + z % n := by rw [Nat.mul_comm]; exact (Nat.div_add_mod z n).symm
    have cp : (cellsG ps).getD p 0 = bAt (sAt ps (p / n)) (p % n) := by rw [← g.at hi hk, ← ep]
    have cz : (cellsG ps).getD z 0 = bAt (sAt ps (z / n)) (z % n) := by rw [← g.at hi' hk', ← ez]
    rw [cp] at h1 h3
    rw [cz] at h2 h3
    rw [cp, cz]
    rw [ez] at hz
    exact ⟨_, _, small _ _ hi hk h1, inC _ _ hi hk, small _ _ hi' hk' h2, inC _ _ hi' hk', h3, meet _ _ _ _ hi hk hi' hk' hz, rfl⟩
  · rintro ⟨a, b, a1, _, b1, _, hab, hm, rfl⟩
    have put : ∀ i k i' k', i < ps.length → k < n → i' < ps.length → k' < n → i' * n + k' ∈ nbrs (ps.length * n) n (i * n + k) → bAt (sAt ps i) k = a → bAt (sAt ps i') k' = b → ∃ p z, p < ps.length * n ∧ z ∈ nbrs (ps.length * n) n p ∧ ((cellsG ps).getD p 0 ≠ 46 ∧ (cellsG ps).getD z 0 ≠ 46) ∧ (cellsG ps).getD p 0 < (cellsG ps).getD z 0 ∧ [a, b] = [(cellsG ps).getD p 0, (cellsG ps).getD z 0] := fun i k i' k' hi hk hi' hk' h ea eb =>
      ⟨i * n + k, i' * n + k', at_lt i k hi hk, h, by rw [g.at hi hk, g.at hi' hk', ea, eb]; exact ⟨small_ne a1, small_ne b1⟩, by rw [g.at hi hk, g.at hi' hk', ea, eb]; exact hab, by rw [g.at hi hk, g.at hi' hk', ea, eb]⟩
    obtain ⟨i, k, hi, hk, hc⟩ := cell_of_meet hm
    have hk2 := Nat.mod_lt (k + 1) g.n1
    have east : i * n + (k + 1) % n ∈ nbrs (ps.length * n) n (i * n + k) := by
      rw [mem_nbrs hi hk]
      by_cases h : k + 1 < n
      · rw [Nat.mod_eq_of_lt h]; exact .inr (.inr (.inl ⟨h, rfl⟩))
      · have e : k + 1 = n := by omega
        rw [e, Nat.mod_self]; exact .inr (.inr (.inr (.inr (.inl ⟨rfl, by omega⟩))))
    have west : i * n + k ∈ nbrs (ps.length * n) n (i * n + (k + 1) % n) := by
      rw [mem_nbrs hi hk2]
      by_cases h : k + 1 < n
      · rw [Nat.mod_eq_of_lt h]; exact .inr (.inr (.inr (.inl ⟨by omega, by omega⟩)))
      · have e : k + 1 = n := by omega
        rw [e, Nat.mod_self]; exact .inr (.inr (.inr (.inr (.inr ⟨rfl, by omega⟩))))
    simp only [cellM, pairB, Bool.or_eq_true, Bool.and_eq_true, beq_iff_eq, decide_eq_true_eq] at hc
    rcases hc with (⟨ea, eb⟩ | ⟨eb, ea⟩) | ⟨hs, (⟨ea, eb⟩ | ⟨eb, ea⟩)⟩
    · exact put i k i _ hi hk hi hk2 east ea eb
    · exact put i _ i k hi hk2 hi hk west ea eb
    · exact put i k (i + 1) k hi hk hs hk ((mem_nbrs hi hk).2 (.inr (.inl ⟨hs, rfl⟩))) ea eb
    · exact put (i + 1) k i k hs hk hi hk ((mem_nbrs hs hk).2 (.inl ⟨by omega, by simp⟩)) ea eb
theorem pair_lt {a b c d : UInt8} (h : a < c ∨ (a = c ∧ b < d)) : ([a, b] : List UInt8) < [c, d] := by
  rw [List.cons_lt_cons_iff]
  rcases h with h | ⟨h, h2⟩
  · exact .inl h
  · exact .inr ⟨h, by rw [List.cons_lt_cons_iff]; exact .inl h2⟩
theorem outerP_sorted {L : List UInt8} (hL : L.Pairwise (· < ·)) (m : UInt8 → UInt8 → Bool) : ∀ i, i ≤ L.length → (outerP L m i).Pairwise fun s t => lst s < lst t
  | 0, _ => by simp [outerP]
  | i + 1, h => by
    have lt : ∀ p j, p < j → j < L.length → L.getD p 0 < L.getD j 0 := fun p j hp hj => by
      rw [getD_lt (by omega), getD_lt hj]
      exact List.pairwise_iff_getElem.1 hL p j (by omega) hj hp
    rw [outerP, List.pairwise_append]
    refine ⟨outerP_sorted hL m i (by omega), ?_, ?_⟩
    · unfold innerP
      rw [List.pairwise_map]
      apply List.Pairwise.imp_of_mem (R := (· < ·)) (S := fun j j' => lst (txt [L.getD i 0, L.getD j 0]) < lst (txt [L.getD i 0, L.getD j' 0]))
      · intro j j' _ h2 hlt
        rw [lst_txt, lst_txt]
        have := List.mem_range.1 (List.mem_filter.1 h2).1
        exact pair_lt (.inr ⟨rfl, lt j j' hlt this⟩)
      · exact List.pairwise_lt_range.filter _
    · intro s hs t ht
      obtain ⟨p, j, h1, h2, h3, _, rfl⟩ := mem_outerP.1 hs
      simp only [innerP, List.mem_map, List.mem_filter, List.mem_range] at ht
      obtain ⟨j', _, rfl⟩ := ht
      rw [lst_txt, lst_txt]
      exact pair_lt (.inl (lt p i h1 (by omega)))
theorem bordersG_sorted (ps : List ByteArray) : ((bordersG ps).map lst).Pairwise (· < ·) := by
  rw [List.pairwise_map]
  exact outerP_sorted (landsC_sorted _) _ _ (Nat.le_refl _)
end Go.Proofs.Ytpekchihdmhkkaa.stab
