/- Numerals: what a text of digits spells, and that the decimal form of a number is read back. No program stands here. -/
import Derived.Lib.ItoaNum
import Derived.Lib.ItoaMem
import Derived.Lib.ParseIntB
namespace Go.Proofs.YtbnihalbepffoaaDoor.num
open Go

def AllD (l : List UInt8) : Prop := ∀ c ∈ l, 48 ≤ c.toNat ∧ c.toNat ≤ 57
def numA (acc : Nat) (l : List UInt8) : Nat := l.foldl (fun a c => a * 10 + (c.toNat - 48)) acc
theorem numA_nil (acc : Nat) : numA acc [] = acc := rfl
theorem numA_cons (acc : Nat) (c : UInt8) (l : List UInt8) : numA acc (c :: l) = numA (acc * 10 + (c.toNat - 48)) l := by simp only [numA, List.foldl_cons]
theorem numA_snoc (acc : Nat) (l : List UInt8) (c : UInt8) : numA acc (l ++ [c]) = numA acc l * 10 + (c.toNat - 48) := by simp [numA]
theorem numA_ge (l : List UInt8) : ∀ (acc : Nat), acc ≤ numA acc l := by
  induction l with
  | nil => intro acc; exact Nat.le_refl _
  | cons c l ih =>
    intro acc
    have h := ih (acc * 10 + (c.toNat - 48))
    rw [numA_cons]
    generalize numA (acc * 10 + (c.toNat - 48)) l = z at *
    omega
theorem numA_lt_acc (l : List UInt8) : ∀ (acc : Nat), AllD l → numA acc l < (acc + 1) * 10 ^ l.length := by
  induction l with
  | nil => intro acc _; simp [numA]
  | cons c l ih =>
    intro acc h
    have h1 := ih (acc * 10 + (c.toNat - 48)) fun d hd => h d (by simp [hd])
    have h2 := h c (by simp)
    rw [numA_cons, List.length_cons, Nat.pow_succ]
    have h3 : acc * 10 + (c.toNat - 48) + 1 ≤ (acc + 1) * 10 := by omega
    have h4 := Nat.mul_le_mul_right (10 ^ l.length) h3
    have h5 : (acc + 1) * 10 * 10 ^ l.length = (acc + 1) * (10 ^ l.length * 10) := by rw [Nat.mul_assoc, Nat.mul_comm 10]
    omega
theorem numA_lt (l : List UInt8) (h : AllD l) : numA 0 l < 10 ^ l.length := by
  have := numA_lt_acc l 0 h
  omega
theorem dec_digit (u : Nat) : (UInt8.ofNat (48 + u % 10)).toNat = 48 + u % 10 := by rw [UInt8.toNat_ofNat']; omega
theorem allD_dec (u : Nat) : AllD (Lib.decDigits u) := by
  induction u using Nat.strongRecOn with
  | _ u ih =>
    intro c hc
    rw [Lib.decDigits] at hc
    split at hc
    · obtain rfl := List.mem_singleton.1 hc
      have e : UInt8.ofNat (48 + u) = UInt8.ofNat (48 + u % 10) := by rw [Nat.mod_eq_of_lt (by assumption)]
      rw [e, dec_digit]; omega
    · rcases List.mem_append.1 hc with hc | hc
      · exact ih (u / 10) (by omega) c hc
      · obtain rfl := List.mem_singleton.1 hc
        rw [dec_digit]; omega
theorem numA_dec (u : Nat) : numA 0 (Lib.decDigits u) = u := by
  induction u using Nat.strongRecOn with
  | _ u ih =>
    rw [Lib.decDigits]
    split
    · have : UInt8.ofNat (48 + u) = UInt8.ofNat (48 + u % 10) := by rw [Nat.mod_eq_of_lt (by assumption)]
      rw [this]
      simp only [numA, List.foldl_cons, List.foldl_nil, dec_digit]; omega
    · rw [numA_snoc, ih (u / 10) (by omega), dec_digit]; omega
theorem dec_len_le : ∀ (k u : Nat), 0 < k → u < 10 ^ k → (Lib.decDigits u).length ≤ k
  | 0, _, h, _ => absurd h (Nat.lt_irrefl _)
  | k + 1, u, _, hu => by
    rw [Lib.decDigits]
    split
    · simp
    · rename_i h10
      have hk : 0 < k := by
        rcases Nat.eq_zero_or_pos k with rfl | h
        · simp at hu; omega
        · exact h
      rw [Nat.pow_succ] at hu
      have := dec_len_le k (u / 10) hk (by omega)
      simp; omega
theorem dec_ne (u : Nat) : Lib.decDigits u ≠ [] := by rw [Lib.decDigits]; split <;> simp
theorem dec_len_pos (u : Nat) : 1 ≤ (Lib.decDigits u).length := by
  cases h : Lib.decDigits u with
  | nil => exact absurd h (dec_ne u)
  | cons a l => simp
theorem parse_digits : ∀ (l : List UInt8) (acc : Nat), AllD l → numA acc l ≤ 999999999999999999 → Lib.parseUintM (2 ^ 64 - 1) acc l = .ok (numA acc l)
  | [], _, _, _ => rfl
  | c :: l, acc, h, hb => by
    have h1 := h c (by simp)
    have h2 := numA_ge l (acc * 10 + (c.toNat - 48))
    rw [numA_cons] at hb ⊢
    rw [Lib.parseUintM, if_pos h1, if_neg (by omega), if_neg (by omega)]
    exact parse_digits l _ (fun d hd => h d (by simp [hd])) hb

/-- A text is the decimal form of a number of at most 18 digits. -/
def IsForm (l : List UInt8) (n : Int) : Prop := -999999999999999999 ≤ n ∧ n ≤ 999999999999999999 ∧ Lib.itoa n = l
theorem first_dec (u : Nat) (c : UInt8) (r : List UInt8) (h : Lib.decDigits u = c :: r) : 48 ≤ c.toNat ∧ c.toNat ≤ 57 := allD_dec u c (by rw [h]; simp)
theorem parse_form {l : List UInt8} {n : Int} (h : IsForm l n) : Lib.parseIntB 64 l = .ok n := by
  obtain ⟨h1, h2, rfl⟩ := h
  by_cases hn : n < 0
  · obtain ⟨u, hu, rfl⟩ : ∃ u : Nat, 1 ≤ u ∧ n = -(u : Int) := ⟨n.natAbs, by omega, by omega⟩
    rw [Lib.itoa_neg u hu]
    have e : Lib.parseUintB 64 (Lib.decDigits u) = .ok u := by
      rw [Lib.parseUintB, if_neg (dec_ne u), parse_digits _ 0 (allD_dec u) (by rw [numA_dec]; omega), numA_dec]
    simp only [Lib.parseIntB]
    have e1 : (45 : UInt8).toNat = 45 := rfl
    rw [e1, if_pos (Or.inr rfl), e]
    simp
    omega
  · obtain ⟨u, rfl⟩ := Int.eq_ofNat_of_zero_le (by omega : 0 ≤ n)
    rw [Lib.itoa_nonneg u]
    have e : Lib.parseUintB 64 (Lib.decDigits u) = .ok u := by
      rw [Lib.parseUintB, if_neg (dec_ne u), parse_digits _ 0 (allD_dec u) (by rw [numA_dec]; omega), numA_dec]
    cases hd : Lib.decDigits u with
    | nil => exact absurd hd (dec_ne u)
    | cons c r =>
      have hc := first_dec u c r hd
      rw [hd] at e
      simp only [Lib.parseIntB]
      rw [if_neg (by omega), e]
      have : ¬ c.toNat = 45 := by omega
      simp [this]
      omega
theorem form_inj {l : List UInt8} {a b : Int} (ha : IsForm l a) (hb : IsForm l b) : a = b := by
  have h1 := parse_form ha
  have h2 := parse_form hb
  rw [h1] at h2
  injection h2
open Classical in
/-- Whether a text is such a form, and of which number. -/
noncomputable def readB (l : List UInt8) : Bool := decide (∃ n, IsForm l n)
open Classical in
noncomputable def readV (l : List UInt8) : Int := if h : ∃ n, IsForm l n then h.choose else 0
theorem read_yes {l : List UInt8} {n : Int} (h : IsForm l n) : readB l = true ∧ readV l = n := by
  have he : ∃ n, IsForm l n := ⟨n, h⟩
  refine ⟨by simp [readB, he], ?_⟩
  unfold readV
  rw [dif_pos he]
  exact form_inj he.choose_spec h
theorem read_no {l : List UInt8} (h : ∀ n, ¬ IsForm l n) : readB l = false ∧ readV l = 0 := by
  have he : ¬ ∃ n, IsForm l n := fun ⟨n, g⟩ => h n g
  exact ⟨by simp [readB, he], by simp [readV, he]⟩
/-- The number that the digits behind the sign spell. -/
def spelt (l : List UInt8) : Int := match l with | [] => 0 | c :: r => if c.toNat = 45 then -(numA 0 r : Int) else (numA 0 (c :: r) : Int)
def body (l : List UInt8) : List UInt8 := match l with | [] => [] | c :: r => if c.toNat = 45 then r else c :: r
theorem form_body {l : List UInt8} {n : Int} (h : IsForm l n) : 1 ≤ (body l).length ∧ (body l).length ≤ 18 ∧ AllD (body l) ∧ spelt l = n := by
  obtain ⟨h1, h2, rfl⟩ := h
  by_cases hn : n < 0
  · obtain ⟨u, hu, rfl⟩ : ∃ u : Nat, 1 ≤ u ∧ n = -(u : Int) := ⟨n.natAbs, by omega, by omega⟩
    rw [Lib.itoa_neg u hu]
    have e1 : (45 : UInt8).toNat = 45 := rfl
    simp only [body, spelt, e1, if_true, numA_dec]
    exact ⟨dec_len_pos u, dec_len_le 18 u (by decide) (by omega), allD_dec u, trivial⟩
  · obtain ⟨u, rfl⟩ := Int.eq_ofNat_of_zero_le (by omega : 0 ≤ n)
    rw [Lib.itoa_nonneg u]
    cases hd : Lib.decDigits u with
    | nil => exact absurd hd (dec_ne u)
    | cons c r =>
      have hc := first_dec u c r hd
      have : ¬ c.toNat = 45 := by omega
      simp only [body, spelt, this, if_false]
      rw [← hd]
      exact ⟨dec_len_pos u, dec_len_le 18 u (by decide) (by omega), allD_dec u, by rw [numA_dec]⟩
theorem spelt_bound {l : List UInt8} (h1 : (body l).length ≤ 18) (h2 : AllD (body l)) : -999999999999999999 ≤ spelt l ∧ spelt l ≤ 999999999999999999 := by
  have h3 := numA_lt _ h2
  have h4 : 10 ^ (body l).length ≤ 10 ^ 18 := Nat.pow_le_pow_right (by decide) h1
  cases l with
  | nil => simp [spelt]
  | cons c r =>
    simp only [spelt, body] at *
    split at h3 <;> simp_all <;> omega
theorem not_form {l : List UInt8} (h : (body l).length < 1 ∨ 18 < (body l).length ∨ ¬ AllD (body l)) (n : Int) : ¬ IsForm l n := fun g => by
  obtain ⟨h1, h2, h3, _⟩ := form_body g
  rcases h with h | h | h
  · omega
  · omega
  · exact h h3
theorem not_form_ne {l : List UInt8} (h : Lib.itoa (spelt l) ≠ l) (n : Int) : ¬ IsForm l n := fun g => by
  obtain ⟨_, _, _, rfl⟩ := form_body g
  exact h g.2.2
theorem form_of_eq {l : List UInt8} (h1 : (body l).length ≤ 18) (h2 : AllD (body l)) (h : Lib.itoa (spelt l) = l) : IsForm l (spelt l) :=
  ⟨(spelt_bound h1 h2).1, (spelt_bound h1 h2).2, h⟩
end Go.Proofs.YtbnihalbepffoaaDoor.num
