/- Coasts by the sheet's numbers of cells: mathematics. -/
import Derived.Test.YtpekchihdmhkkaaGridN3
namespace Go.Proofs.Ytpekchihdmhkkaa.stab
open Go
set_option linter.unusedSimpArgs false
set_option linter.unusedVariables false

def seaSum (cs : List UInt8) (zs : List Nat) : Nat := (zs.map fun z => seaN (cs.getD z 0)).sum
theorem seaSum_nil (cs : List UInt8) : seaSum cs [] = 0 := rfl
theorem seaSum_app (cs : List UInt8) (a b : List Nat) : seaSum cs (a ++ b) = seaSum cs a + seaSum cs b := by simp [seaSum]
theorem seaSum_one (cs : List UInt8) (z : Nat) : seaSum cs [z] = seaN (cs.getD z 0) := by simp [seaSum]
theorem seaSum_step (cs : List UInt8) (zs : List Nat) (k : Nat) (h : k < zs.length) : seaSum cs (zs.take (k + 1)) = seaSum cs (zs.take k) + seaN (cs.getD (zs.getD k 0) 0) := by
  rw [List.take_succ_eq_append_getElem h, seaSum_app, seaSum_one]
  congr 3
  simp [h]
theorem seaSum_le (cs : List UInt8) : ∀ zs : List Nat, seaSum cs zs ≤ zs.length
  | [] => Nat.le_refl _
  | z :: zs => by
    have := seaSum_le cs zs
    have h := seaN_le (cs.getD z 0)
    simp only [seaSum, List.map_cons, List.sum_cons, List.length_cons] at this ⊢
    omega
def coastCells (cs : List UInt8) (L n : Nat) (b : UInt8) : Nat → Nat
  | 0 => 0
  | c + 1 => coastCells cs L n b c + (if cs.getD c 0 = b then seaSum cs (nbrs L n c) else 0)
theorem nbrs_len (L n c : Nat) : (nbrs L n c).length ≤ 6 := by
  unfold nbrs
  have := onS_len L n c
  have := ovC_len n c
  rw [List.length_append]; omega
theorem coastCells_le (cs : List UInt8) (L n : Nat) (b : UInt8) : ∀ c, coastCells cs L n b c ≤ 6 * c
  | 0 => Nat.le_refl _
  | c + 1 => by
    have := coastCells_le cs L n b c
    have h1 := seaSum_le cs (nbrs L n c)
    have h2 := nbrs_len L n c
    rw [coastCells]; split <;> omega
theorem mod_of {n i k : Nat} (hk : k < n) : (i * n + k) % n = k := by rw [Nat.add_comm, Nat.add_mul_mod_self_right, Nat.mod_eq_of_lt hk]
theorem mod_next {n i k : Nat} (hk : k < n) : (i * n + k + 1) % n ≠ 0 ↔ k + 1 < n := by
  by_cases h : k + 1 < n
  · rw [Nat.add_assoc, mod_of h]; omega
  · have e : i * n + k + 1 = (i + 1) * n := by rw [Nat.succ_mul]; omega
    rw [e, Nat.mul_mod_left]; omega
/-- All that is taken of the neighbours, place by place. -/
theorem nbrs_parts {m n i k : Nat} (hi : i < m) (hk : k < n) :
    nbrs (m * n) n (i * n + k) = ((if 0 < i then [(i - 1) * n + k] else []) ++ (if i + 1 < m then [(i + 1) * n + k] else [])) ++ (if k + 1 < n then [i * n + (k + 1)] else []) ++ (if k ≠ 0 then [i * n + (k - 1)] else []) ++ ((if k + 1 = n then [i * n] else []) ++ (if k = 0 then [i * n + (n - 1)] else [])) := by
  have hmn : (i + 1) * n ≤ m * n := Nat.mul_le_mul_right n hi
  have hs : (i + 1) * n = i * n + n := Nat.succ_mul i n
  have e1 : (n ≤ i * n + k) ↔ 0 < i := by
    constructor
    · intro h
      rcases Nat.eq_zero_or_pos i with rfl | h2
      · simp at h; omega
      · exact h2
    · intro h
      have := Nat.mul_le_mul_right n h
      omega
  have e2 : (i * n + k + n < m * n) ↔ i + 1 < m := by
    constructor
    · intro h
      by_cases h2 : i + 1 < m
      · exact h2
      · have : m = i + 1 := by omega
        subst this
        omega
    · intro h
      have := Nat.mul_le_mul_right n (show i + 2 ≤ m from h)
      have e : (i + 2) * n = i * n + n + n := by rw [show i + 2 = (i + 1) + 1 from rfl, Nat.succ_mul, hs]
      omega
  have e4 := mod_of (i := i) hk
  have e3 := mod_next (i := i) hk
  have e5 : (i * n + k = i * n + k - (i * n + k) % n + n - 1) ↔ k + 1 = n := by rw [e4]; omega
  have e6 : (i * n + k = i * n + k - (i * n + k) % n) ↔ k = 0 := by rw [e4]; omega
  have e7 : (i * n + k) % n ≠ 0 ↔ k ≠ 0 := by rw [e4]
  unfold nbrs onS on3 on2 on1 ovC ov1
  simp only [List.nil_append]
  congr 1
  · congr 1
    · congr 1
      · congr 1
        · by_cases h : 0 < i
          · rw [if_pos (e1.2 h), if_pos h]
            have : i * n = (i - 1) * n + n := by rw [← Nat.succ_mul]; congr 1; omega
            congr 1; omega
          · rw [if_neg (fun g => h (e1.1 g)), if_neg h]
        · by_cases h : i + 1 < m
          · rw [if_pos (e2.2 h), if_pos h]; congr 1; omega
          · rw [if_neg (fun g => h (e2.1 g)), if_neg h]
      · by_cases h : k + 1 < n
        · rw [if_pos (e3.2 h), if_pos h]; rfl
        · rw [if_neg (fun g => h (e3.1 g)), if_neg h]
    · by_cases h : k ≠ 0
      · rw [if_pos (e7.2 h), if_pos h]; congr 1; omega
      · rw [if_neg (fun g => h (e7.1 g)), if_neg h]
  · congr 1
    · by_cases h : k + 1 = n
      · rw [if_pos (e5.2 h), if_pos h, e4]; congr 1; omega
      · rw [if_neg (fun g => h (e5.1 g)), if_neg h]
    · by_cases h : k = 0
      · rw [if_pos (e6.2 h), if_pos h, e4]; congr 1; omega
      · rw [if_neg (fun g => h (e6.1 g)), if_neg h]
theorem nbrs_lt {m n i k : Nat} (hi : i < m) (hk : k < n) : ∀ z ∈ nbrs (m * n) n (i * n + k), z < m * n := by
  have at_lt : ∀ a b, a < m → b < n → a * n + b < m * n := fun a b ha hb => by
    have := Nat.mul_le_mul_right n (show a + 1 ≤ m from ha)
    rw [Nat.succ_mul] at this
    omega
  intro z hz
  rw [nbrs_parts hi hk] at hz
  simp only [List.mem_append] at hz
  rcases hz with (((h | h) | h) | h) | (h | h)
  · split at h
    · simp at h; subst h; exact at_lt _ _ (by omega) hk
    · simp at h
  · split at h
    · simp at h; subst h; exact at_lt _ _ (by omega) hk
    · simp at h
  · split at h
    · simp at h; subst h; exact at_lt _ _ hi (by omega)
    · simp at h
  · split at h
    · simp at h; subst h; exact at_lt _ _ hi (by omega)
    · simp at h
  · split at h
    · simp at h; subst h; have := at_lt i 0 hi (by omega); simpa using this
    · simp at h
  · split at h
    · simp at h; subst h; exact at_lt _ _ hi (by omega)
    · simp at h
theorem nbrs_ne {m n i k : Nat} (hi : i < m) (hk : k < n) : 0 < (onS (m * n) n (i * n + k)).length + (ovC n (i * n + k)).length := by
  have h := nbrs_parts hi hk
  rw [← List.length_append]
  show 0 < (nbrs (m * n) n (i * n + k)).length
  rw [h]
  by_cases h0 : k + 1 < n
  · simp only [if_pos h0, List.length_append, List.length_cons]; omega
  · have h1 : k + 1 = n := by omega
    simp only [if_pos h1, List.length_append, List.length_cons]; omega
theorem sea_edges {ps : List ByteArray} {n : Nat} (h : Grid ps n) {i k : Nat} (hi : i < ps.length) (hk : k < n) : seaSum (cellsG ps) (nbrs (ps.length * n) n (i * n + k)) = edges ps n i k := by
  rw [nbrs_parts hi hk]
  simp only [seaSum_app]
  have P : ∀ (p : Prop) [Decidable p] (z : Nat), seaSum (cellsG ps) (if p then [z] else []) = if p then seaN ((cellsG ps).getD z 0) else 0 := fun p _ z => by
    split
    · exact seaSum_one _ _
    · rfl
  simp only [P]
  unfold edges
  have hE : (if k + 1 < n then seaN ((cellsG ps).getD (i * n + (k + 1)) 0) else 0) + (if k + 1 = n then seaN ((cellsG ps).getD (i * n) 0) else 0) = seaN (bAt (sAt ps i) ((k + 1) % n)) := by
    by_cases h1 : k + 1 < n
    · rw [if_pos h1, if_neg (by omega), h.at hi h1, Nat.mod_eq_of_lt h1, Nat.add_zero]
    · have h2 : k + 1 = n := by omega
      rw [if_neg h1, if_pos h2, h2, Nat.mod_self, ← h.at hi (show 0 < n by omega), Nat.zero_add, Nat.add_zero]
  have hW : (if k ≠ 0 then seaN ((cellsG ps).getD (i * n + (k - 1)) 0) else 0) + (if k = 0 then seaN ((cellsG ps).getD (i * n + (n - 1)) 0) else 0) = seaN (bAt (sAt ps i) ((k + n - 1) % n)) := by
    by_cases h1 : k = 0
    · subst h1
      rw [if_neg (by simp), if_pos rfl, h.at hi (show n - 1 < n by omega), Nat.zero_add, Nat.zero_add, Nat.mod_eq_of_lt (show n - 1 < n by omega)]
    · rw [if_pos h1, if_neg h1, h.at hi (show k - 1 < n by omega), Nat.add_zero, show k + n - 1 = (k - 1) + n by omega, Nat.add_mod_right, Nat.mod_eq_of_lt (show k - 1 < n by omega)]
  have hN : (if 0 < i then seaN ((cellsG ps).getD ((i - 1) * n + k) 0) else 0) = (if 0 < i then seaN (bAt (sAt ps (i - 1)) k) else 0) := by
    split
    · rw [h.at (by omega) hk]
    · rfl
  have hS : (if i + 1 < ps.length then seaN ((cellsG ps).getD ((i + 1) * n + k) 0) else 0) = (if i + 1 < ps.length then seaN (bAt (sAt ps (i + 1)) k) else 0) := by
    split
    · rw [h.at (by assumption) hk]
    · rfl
  rw [hN, hS, ← hE, ← hW]
  omega
theorem coast_row {ps : List ByteArray} {n : Nat} (h : Grid ps n) (b : UInt8) {i : Nat} (hi : i < ps.length) : ∀ k, k ≤ n → coastCells (cellsG ps) (ps.length * n) n b (i * n + k) = coastCells (cellsG ps) (ps.length * n) n b (i * n) + coastR ps n b i k
  | 0, _ => rfl
  | k + 1, hk => by
    have ih := coast_row h b hi k (by omega)
    rw [← Nat.add_assoc, coastCells, ih, coastR, h.at hi (show k < n by omega), sea_edges h hi (show k < n by omega)]
    omega
theorem coast_eq {ps : List ByteArray} {n : Nat} (h : Grid ps n) (b : UInt8) : ∀ i, i ≤ ps.length → coastCells (cellsG ps) (ps.length * n) n b (i * n) = coastTo ps n b i
  | 0, _ => by rw [Nat.zero_mul]; rfl
  | i + 1, hi => by
    rw [Nat.succ_mul, coast_row h b (show i < ps.length by omega) n (Nat.le_refl n), coast_eq h b i (by omega), coastTo]
theorem coast_all {ps : List ByteArray} {n : Nat} (h : Grid ps n) (b : UInt8) : coastCells (cellsG ps) (cellsG ps).length n b (cellsG ps).length = coastG ps n b := by
  rw [h.len]
  exact coast_eq h b ps.length (Nat.le_refl _)
def wideG' (ps : List ByteArray) : Nat := (sAt ps 0).size
def valCoast (ps : List ByteArray) (land : ByteArray) : Int := if codeG ps land = 0 then (coastG ps (wideG' ps) (bAt land 0) : Int) else 0
end Go.Proofs.Ytpekchihdmhkkaa.stab
