/- Grids as lists of texts: which are valid, counts, lands, coasts. No program stands here. -/
import Derived.Test.YtpekchihdmhkkaaSTab
namespace Go.Proofs.Ytpekchihdmhkkaa.stab
open Go Go.Proofs.Ytpekchihdmhkkaa.split
set_option linter.unusedSimpArgs false
set_option linter.unusedVariables false

def bAt (s : ByteArray) (k : Nat) : UInt8 := s.data.toList.getD k 0
theorem getD_lt {l : List UInt8} {k : Nat} (h : k < l.length) : l.getD k 0 = l[k] := by simp [List.getD, h]
theorem size_list (s : ByteArray) : s.data.toList.length = s.size := by simp
theorem bAt_eq {s : ByteArray} {k : Nat} (h : k < s.size) : bAt s k = s[k] := by
  cases s with
  | mk d =>
    have hd : k < d.size := h
    show d.toList.getD k 0 = d[k]
    simp [List.getD, hd]
def smallB (b : UInt8) : Bool := decide (97 ≤ b.toNat ∧ b.toNat ≤ 122)
def cellB (b : UInt8) : Bool := b == 46 || smallB b
def rowOk (n : Nat) (s : ByteArray) : Bool := decide (s.size = n) && (decide (1 ≤ s.size) && decide (s.size ≤ 32)) && s.data.toList.all cellB
def okG (ps : List ByteArray) : Bool := decide (1 ≤ ps.length ∧ ps.length ≤ 16) && ps.all (rowOk (sAt ps 0).size)
/-- How many of the first k bytes are c. -/
def cntB (s : ByteArray) (c : UInt8) (k : Nat) : Nat := (s.data.toList.take k).count c
theorem cntB_zero (s : ByteArray) (c : UInt8) : cntB s c 0 = 0 := by simp [cntB]
theorem cntB_succ {s : ByteArray} {c : UInt8} {k : Nat} (h : k < s.size) : cntB s c (k + 1) = cntB s c k + (if bAt s k = c then 1 else 0) := by
  have hl : k < s.data.toList.length := by rw [size_list]; exact h
  unfold cntB bAt
  rw [List.take_succ_eq_append_getElem hl, List.count_append, List.count_singleton, getD_lt hl]
  by_cases e : s.data.toList[k] = c <;> simp [e]
theorem cntB_le (s : ByteArray) (c : UInt8) (k : Nat) : cntB s c k ≤ k := Nat.le_trans List.count_le_length (by simp; omega)
def cntG (ps : List ByteArray) (c : UInt8) : Nat → Nat
  | 0 => 0
  | i + 1 => cntG ps c i + cntB (sAt ps i) c (sAt ps i).size
def cellsG (ps : List ByteArray) : List UInt8 := (ps.map fun p => p.data.toList).flatten
theorem take_flat (ps : List ByteArray) (c : UInt8) : ∀ i, i ≤ ps.length → cntG ps c i = (cellsG (ps.take i)).count c
  | 0, _ => by simp [cntG, cellsG]
  | i + 1, h => by
    have hi : i < ps.length := by omega
    rw [cntG, take_flat ps c i (by omega), List.take_succ_eq_append_getElem hi]
    have e : (sAt ps i).data.toList.take (sAt ps i).size = (sAt ps i).data.toList := by rw [List.take_of_length_le]; rw [size_list]; exact Nat.le_refl _
    simp only [cellsG, List.map_append, List.flatten_append, List.count_append, List.map_cons, List.map_nil, List.flatten_cons, List.flatten_nil, List.append_nil, cntB, e]
    rw [sAt_eq hi]
theorem cntG_all (ps : List ByteArray) (c : UInt8) : cntG ps c ps.length = (cellsG ps).count c := by
  rw [take_flat ps c ps.length (Nat.le_refl _), List.take_length]
/-- What a valid grid says. -/
structure Grid (ps : List ByteArray) (n : Nat) : Prop where
  m1 : 1 ≤ ps.length
  m2 : ps.length ≤ 16
  n1 : 1 ≤ n
  n2 : n ≤ 32
  size : ∀ i, i < ps.length → (sAt ps i).size = n
  cell : ∀ i, i < ps.length → ∀ k, k < n → cellB (bAt (sAt ps i) k) = true
theorem grid_of {ps : List ByteArray} (h : okG ps = true) : Grid ps (sAt ps 0).size := by
  simp only [okG, Bool.and_eq_true, decide_eq_true_eq, List.all_eq_true, rowOk] at h
  obtain ⟨⟨h1, h2⟩, h3⟩ := h
  have each : ∀ i, i < ps.length → (sAt ps i).size = (sAt ps 0).size ∧ 1 ≤ (sAt ps i).size ∧ (sAt ps i).size ≤ 32 ∧ ∀ b ∈ (sAt ps i).data.toList, cellB b = true := fun i hi => by
    obtain ⟨⟨a, b, c⟩, d⟩ := h3 ps[i] (List.getElem_mem hi)
    rw [sAt_eq hi]
    exact ⟨a, b, c, d⟩
  refine ⟨h1, h2, (each 0 (by omega)).2.1, (each 0 (by omega)).2.2.1, fun i hi => (each i hi).1, fun i hi k hk => ?_⟩
  have hl : k < (sAt ps i).data.toList.length := by rw [size_list, (each i hi).1]; exact hk
  unfold bAt
  rw [getD_lt hl]
  exact (each i hi).2.2.2 _ (List.getElem_mem hl)
theorem okG_of {ps : List ByteArray} {n : Nat} (h : Grid ps n) : okG ps = true := by
  have h0 : (sAt ps 0).size = n := h.size 0 h.m1
  simp only [okG, Bool.and_eq_true, decide_eq_true_eq, List.all_eq_true, rowOk]
  refine ⟨⟨h.m1, h.m2⟩, fun s hs => ?_⟩
  obtain ⟨i, hi, rfl⟩ := List.mem_iff_getElem.1 hs
  have hz := h.size i hi
  have hc := h.cell i hi
  rw [sAt_eq hi] at hz hc
  refine ⟨⟨by rw [hz, h0], by rw [hz]; exact h.n1, by rw [hz]; exact h.n2⟩, fun b hb => ?_⟩
  obtain ⟨k, hk, rfl⟩ := List.mem_iff_getElem.1 hb
  have := hc k (by rw [← hz, ← size_list]; exact hk)
  unfold bAt at this
  rwa [getD_lt hk] at this
theorem flat_len {ps : List ByteArray} {n : Nat} (h : ∀ i, i < ps.length → (sAt ps i).size = n) : (cellsG ps).length = ps.length * n := by
  induction ps with
  | nil => simp [cellsG]
  | cons p ps ih =>
    have h0 := h 0 (by simp)
    have e : (cellsG (p :: ps)) = p.data.toList ++ cellsG ps := by simp [cellsG]
    rw [e, List.length_append, ih (fun i hi => by have := h (i + 1) (by simpa using hi); simpa [sAt] using this), size_list]
    have : p.size = n := by simpa [sAt] using h0
    rw [this, List.length_cons, Nat.succ_mul, Nat.add_comm]
theorem flat_at : ∀ {ps : List ByteArray} {n : Nat}, (∀ i, i < ps.length → (sAt ps i).size = n) → ∀ i k, i < ps.length → k < n → (cellsG ps).getD (i * n + k) 0 = bAt (sAt ps i) k := by
  intro ps
  induction ps with
  | nil => intro n _ i k hi; simp at hi
  | cons p ps ih =>
    intro n h i k hi hk
    have h0 : p.size = n := by simpa [sAt] using h 0 (by simp)
    have e : (cellsG (p :: ps)) = p.data.toList ++ cellsG ps := by simp [cellsG]
    have hl : p.data.toList.length = n := by rw [size_list, h0]
    rw [e]
    cases i with
    | zero =>
      rw [Nat.zero_mul, Nat.zero_add]
      show (p.data.toList ++ cellsG ps).getD k 0 = bAt p k
      unfold bAt
      simp only [List.getD_eq_getElem?_getD]
      rw [List.getElem?_append_left (by omega)]
    | succ i =>
      have hs : sAt (p :: ps) (i + 1) = sAt ps i := by simp [sAt]
      rw [hs, ← ih (fun j hj => by have := h (j + 1) (by simpa using hj); simpa [sAt] using this) i k (by simpa using hi) hk]
      simp only [List.getD_eq_getElem?_getD]
      rw [List.getElem?_append_right (by rw [hl, Nat.succ_mul]; omega)]
      rw [hl, show (i + 1) * n + k - n = i * n + k by rw [Nat.succ_mul]; omega]
theorem Grid.len {ps : List ByteArray} {n : Nat} (h : Grid ps n) : (cellsG ps).length = ps.length * n := flat_len h.size
theorem Grid.len_le {ps : List ByteArray} {n : Nat} (h : Grid ps n) : (cellsG ps).length ≤ 512 := by
  rw [h.len]
  exact Nat.le_trans (Nat.mul_le_mul h.m2 h.n2) (by decide)
theorem Grid.at {ps : List ByteArray} {n : Nat} (h : Grid ps n) {i k : Nat} (hi : i < ps.length) (hk : k < n) : (cellsG ps).getD (i * n + k) 0 = bAt (sAt ps i) k := flat_at h.size i k hi hk
/-- The first k letters of which there are cells. -/
def landsTo (cs : List UInt8) (k : Nat) : List UInt8 := ((List.range k).map fun i => UInt8.ofNat (97 + i)).filter fun c => decide (0 < cs.count c)
def landsC (cs : List UInt8) : List UInt8 := landsTo cs 26
theorem landsTo_zero (cs : List UInt8) : landsTo cs 0 = [] := rfl
theorem landsTo_succ (cs : List UInt8) (k : Nat) : landsTo cs (k + 1) = landsTo cs k ++ (if 0 < cs.count (UInt8.ofNat (97 + k)) then [UInt8.ofNat (97 + k)] else []) := by
  unfold landsTo
  rw [List.range_succ, List.map_append, List.filter_append]
  by_cases e : 0 < cs.count (UInt8.ofNat (97 + k))
  · rw [if_pos e, List.map_cons, List.map_nil, List.filter_cons_of_pos (by simpa only [decide_eq_true_eq] using e)]; rfl
  · rw [if_neg e, List.map_cons, List.map_nil, List.filter_cons_of_neg (by simpa only [decide_eq_true_eq] using e)]; rfl
theorem landsTo_len (cs : List UInt8) (k : Nat) : (landsTo cs k).length ≤ k := Nat.le_trans (List.length_filter_le _ _) (by simp)
theorem mem_landsC {cs : List UInt8} {c : UInt8} : c ∈ landsC cs ↔ smallB c = true ∧ c ∈ cs := by
  unfold landsC landsTo smallB
  simp only [List.mem_filter, List.mem_map, List.mem_range, decide_eq_true_eq, List.count_pos_iff]
  constructor
  · rintro ⟨⟨i, hi, rfl⟩, h2⟩
    refine ⟨?_, h2⟩
    rw [UInt8.toNat_ofNat']
    omega
  · rintro ⟨h1, h2⟩
    refine ⟨⟨c.toNat - 97, by omega, ?_⟩, h2⟩
    rw [show 97 + (c.toNat - 97) = c.toNat by omega]
    exact UInt8.ofNat_toNat
theorem landsC_sorted (cs : List UInt8) : (landsC cs).Pairwise (fun a b => a < b) := by
  unfold landsC landsTo
  apply List.Pairwise.filter
  have : (List.range 26).Pairwise (fun a b => a < b ∧ b < 26) := by decide
  rw [List.pairwise_map]
  refine this.imp fun {a b} h => ?_
  rw [UInt8.lt_iff_toNat_lt, UInt8.toNat_ofNat', UInt8.toNat_ofNat']
  omega
/-- A text of bytes. -/
def txt (l : List UInt8) : ByteArray := ⟨l.toArray⟩
theorem txt_size (l : List UInt8) : (txt l).size = l.length := by simp [txt, ByteArray.size]
def isL (s : ByteArray) : Bool := decide (s.size = 1) && smallB (bAt s 0)
def codeG (ps : List ByteArray) (land : ByteArray) : Int :=
  if okG ps = true then (if isL land = true then (if 0 < (cellsG ps).count (bAt land 0) then 0 else 3) else 2) else 1
/-- The edges of the cell i, k towards the sea. -/
def seaN (b : UInt8) : Nat := if b = 46 then 1 else 0
def edges (ps : List ByteArray) (n i k : Nat) : Nat :=
  seaN (bAt (sAt ps i) ((k + 1) % n)) + seaN (bAt (sAt ps i) ((k + n - 1) % n)) + (if 0 < i then seaN (bAt (sAt ps (i - 1)) k) else 0) + (if i + 1 < ps.length then seaN (bAt (sAt ps (i + 1)) k) else 0)
theorem seaN_le (b : UInt8) : seaN b ≤ 1 := by unfold seaN; split <;> omega
theorem edges_le (ps : List ByteArray) (n i k : Nat) : edges ps n i k ≤ 4 := by
  unfold edges
  have h1 := seaN_le (bAt (sAt ps i) ((k + 1) % n))
  have h2 := seaN_le (bAt (sAt ps i) ((k + n - 1) % n))
  have h3 := seaN_le (bAt (sAt ps (i - 1)) k)
  have h4 := seaN_le (bAt (sAt ps (i + 1)) k)
  split <;> split <;> omega
def coastR (ps : List ByteArray) (n : Nat) (c : UInt8) (i : Nat) : Nat → Nat
  | 0 => 0
  | k + 1 => coastR ps n c i k + (if bAt (sAt ps i) k = c then edges ps n i k else 0)
def coastTo (ps : List ByteArray) (n : Nat) (c : UInt8) : Nat → Nat
  | 0 => 0
  | i + 1 => coastTo ps n c i + coastR ps n c i n
def coastG (ps : List ByteArray) (n : Nat) (c : UInt8) : Nat := coastTo ps n c ps.length
theorem coastR_le (ps : List ByteArray) (n : Nat) (c : UInt8) (i : Nat) : ∀ k, coastR ps n c i k ≤ 4 * k
  | 0 => Nat.le_refl _
  | k + 1 => by
    have := coastR_le ps n c i k
    have h := edges_le ps n i k
    rw [coastR]; split <;> omega
theorem coastTo_le (ps : List ByteArray) (n : Nat) (c : UInt8) : ∀ i, coastTo ps n c i ≤ 4 * n * i
  | 0 => Nat.le_refl _
  | i + 1 => by
    have := coastTo_le ps n c i
    have h := coastR_le ps n c i n
    rw [coastTo, Nat.mul_succ]; omega
end Go.Proofs.Ytpekchihdmhkkaa.stab
