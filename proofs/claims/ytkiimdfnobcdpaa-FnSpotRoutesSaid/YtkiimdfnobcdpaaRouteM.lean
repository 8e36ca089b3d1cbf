/- Shortest routes: what the program keeps by sets, and what the model finds by going through all orders. -/
import Derived.Test.YtkiimdfnobcdpaaCodes
namespace Go.Proofs.Ytkiimdfnobcdpaa.sines
/-- The first least one of some numbers, by a value. -/
def amin (h : Nat → Int) : List Nat → Option Nat
  | [] => none
  | x :: xs => match amin h xs with
    | none => some x
    | some y => if h y < h x then some y else some x
theorem amin_spec (h : Nat → Int) : ∀ xs x, amin h xs = some x → x ∈ xs ∧ ∀ y ∈ xs, h x ≤ h y
  | [], x, e => by simp [amin] at e
  | z :: zs, x, e => by
    unfold amin at e
    cases hz : amin h zs with
    | none =>
      rw [hz] at e
      cases e
      have : zs = [] := by
        cases zs with
        | nil => rfl
        | cons a ys =>
          unfold amin at hz
          split at hz
          · cases hz
          · split at hz <;> cases hz
      subst this
      simp
    | some y =>
      rw [hz] at e
      obtain ⟨i1, i2⟩ := amin_spec h zs y hz
      simp only at e
      split at e
      · cases e
        refine ⟨List.mem_cons_of_mem _ i1, fun w hw => ?_⟩
        rcases List.mem_cons.1 hw with rfl | hw
        · omega
        · exact i2 w hw
      · cases e
        refine ⟨List.mem_cons_self, fun w hw => ?_⟩
        rcases List.mem_cons.1 hw with rfl | hw
        · exact Int.le_refl _
        · have := i2 w hw; omega
theorem amin_some (h : Nat → Int) : ∀ xs, xs ≠ [] → ∃ x, amin h xs = some x
  | [], e => absurd rfl e
  | z :: zs, _ => by
    unfold amin
    split
    · exact ⟨_, rfl⟩
    · split <;> exact ⟨_, rfl⟩
/-- All those ahead of the first least one are greater. -/
theorem amin_first (h : Nat → Int) : ∀ xs x, xs.Pairwise (· < ·) → amin h xs = some x → ∀ y ∈ xs, y < x → h x < h y
  | [], x, _, e => by simp [amin] at e
  | z :: zs, x, hp, e => by
    obtain ⟨p1, p2⟩ := List.pairwise_cons.1 hp
    unfold amin at e
    cases hz : amin h zs with
    | none =>
      rw [hz] at e
      cases e
      intro y hy hlt
      rcases List.mem_cons.1 hy with rfl | hy
      · omega
      · have := p1 y hy; omega
    | some y =>
      rw [hz] at e
      obtain ⟨i1, i2⟩ := amin_spec h zs y hz
      have i3 := amin_first h zs y p2 hz
      simp only at e
      split at e
      · cases e
        intro w hw hlt
        rcases List.mem_cons.1 hw with rfl | hw
        · assumption
        · exact i3 w hw hlt
      · cases e
        intro w hw hlt
        rcases List.mem_cons.1 hw with rfl | hw
        · omega
        · have := p1 w hw; omega
/-- The spots of n that a set has not. -/
def free (n v : Nat) : List Nat := (List.range n).filter fun i => !v.testBit i
theorem free_mem {n v i : Nat} : i ∈ free n v ↔ i < n ∧ v.testBit i = false := by simp [free]
theorem free_rises (n v : Nat) : (free n v).Pairwise (· < ·) := List.Pairwise.filter _ List.pairwise_lt_range
theorem free_facts : ∀ n, n < 8 → ∀ v, v < 2 ^ n → ∀ i, i < n → v.testBit i = false → (free n (v ||| 2 ^ i)).length + 1 = (free n v).length ∧ v < v ||| 2 ^ i ∧ v ||| 2 ^ i < 2 ^ n := by decide +kernel
theorem free_none : ∀ n, n < 8 → ∀ v, v < 2 ^ n → v ≠ 2 ^ n - 1 → free n v ≠ [] := by decide +kernel
theorem free_all : ∀ n, n < 8 → free n (2 ^ n - 1) = [] := by decide +kernel
theorem free_one : ∀ n, n < 8 → 0 < n → (free n 1).length = n - 1 ∧ 1 < 2 ^ n := by decide +kernel
theorem free_with {n v i : Nat} (x : Nat) : x ∈ free n (v ||| 2 ^ i) ↔ x ∈ free n v ∧ x ≠ i := by
  rw [free_mem, free_mem, Nat.testBit_or, Nat.testBit_two_pow]
  constructor
  · rintro ⟨h1, h2⟩
    simp at h2
    exact ⟨⟨h1, h2.1⟩, fun e => h2.2 e.symm⟩
  · rintro ⟨⟨h1, h2⟩, h3⟩
    simp [h1, h2]
    exact fun e => h3 e.symm
/-- The least length of a way through all that a set has not. -/
def TF (d : Nat → Nat → Int) (n : Nat) : Nat → Nat → Nat → Int
  | 0, _, _ => 0
  | k + 1, v, l => match amin (fun i => d l i + TF d n k (v ||| 2 ^ i) i) (free n v) with
    | some i => d l i + TF d n k (v ||| 2 ^ i) i
    | none => 0
/-- Its spots, the first ones of several. -/
def GF (d : Nat → Nat → Int) (n : Nat) : Nat → Nat → Nat → List Nat
  | 0, _, _ => []
  | k + 1, v, l => match amin (fun i => d l i + TF d n k (v ||| 2 ^ i) i) (free n v) with
    | some i => i :: GF d n k (v ||| 2 ^ i) i
    | none => []
def TT (d : Nat → Nat → Int) (n v l : Nat) : Int := TF d n (free n v).length v l
def HH (d : Nat → Nat → Int) (n v l i : Nat) : Int := d l i + TT d n (v ||| 2 ^ i) i
theorem TF_nonneg {d : Nat → Nat → Int} (hd : ∀ i j, 0 ≤ d i j) (n : Nat) : ∀ k v l, 0 ≤ TF d n k v l
  | 0, _, _ => Int.le_refl _
  | k + 1, v, l => by
    unfold TF
    split
    · rename_i i _
      have := hd l i
      have := TF_nonneg hd n k (v ||| 2 ^ i) i
      omega
    · exact Int.le_refl _
theorem TF_le {d : Nat → Nat → Int} {D : Int} (hd : ∀ i j, d i j ≤ D) (hD : 0 ≤ D) (n : Nat) : ∀ k v l, TF d n k v l ≤ D * (k : Int)
  | 0, _, _ => by simp [TF]
  | k + 1, v, l => by
    have e : D * ((k + 1 : Nat) : Int) = D * (k : Int) + D := by rw [Int.natCast_add, Int.mul_add]; simp
    unfold TF
    split
    · rename_i i _
      have := hd l i
      have := TF_le hd hD n k (v ||| 2 ^ i) i
      omega
    · have : 0 ≤ D * ((k + 1 : Nat) : Int) := Int.mul_nonneg hD (by omega)
      exact this
/-- One step: the value by the first least next spot. -/
theorem TT_step {d : Nat → Nat → Int} {n v l : Nat} (hn : n < 8) (hv : v < 2 ^ n) (hf : free n v ≠ []) : ∃ x, amin (HH d n v l) (free n v) = some x ∧ x ∈ free n v ∧ TT d n v l = HH d n v l x ∧
    GF d n (free n v).length v l = x :: GF d n (free n (v ||| 2 ^ x)).length (v ||| 2 ^ x) x ∧ (∀ y ∈ free n v, HH d n v l x ≤ HH d n v l y) ∧ (∀ y ∈ free n v, y < x → HH d n v l x < HH d n v l y) := by
  obtain ⟨k, hk⟩ : ∃ k, (free n v).length = k + 1 := by
    cases h : free n v with
    | nil => exact absurd h hf
    | cons a ys => exact ⟨ys.length, rfl⟩
  have hl : ∀ i ∈ free n v, (free n (v ||| 2 ^ i)).length = k := fun i hi => by
    obtain ⟨h1, h2⟩ := free_mem.1 hi
    have := (free_facts n hn v hv i h1 h2).1
    omega
  have e : ∀ i ∈ free n v, (fun i => d l i + TF d n k (v ||| 2 ^ i) i) i = HH d n v l i := fun i hi => by
    show d l i + TF d n k (v ||| 2 ^ i) i = d l i + TF d n (free n (v ||| 2 ^ i)).length (v ||| 2 ^ i) i
    rw [hl i hi]
  have ea : amin (fun i => d l i + TF d n k (v ||| 2 ^ i) i) (free n v) = amin (HH d n v l) (free n v) := by
    have gen : ∀ xs : List Nat, (∀ i ∈ xs, i ∈ free n v) → amin (fun i => d l i + TF d n k (v ||| 2 ^ i) i) xs = amin (HH d n v l) xs := by
      intro xs
      induction xs with
      | nil => intro _; rfl
      | cons a ys ih =>
        intro hs
        have iha := ih (fun i hi => hs i (List.mem_cons_of_mem _ hi))
        unfold amin
        rw [iha]
        cases hq : amin (HH d n v l) ys with
        | none => rfl
        | some y =>
          have hy := (amin_spec _ ys y hq).1
          have e1 := e y (hs y (List.mem_cons_of_mem _ hy))
          have e2 := e a (hs a List.mem_cons_self)
          simp only at e1 e2
          simp only [e1, e2]
    exact gen _ (fun i hi => hi)
  obtain ⟨x, hx⟩ := amin_some (HH d n v l) _ hf
  obtain ⟨hm, hle⟩ := amin_spec _ _ _ hx
  refine ⟨x, hx, hm, ?_, ?_, hle, amin_first _ _ _ (free_rises n v) hx⟩
  · unfold TT
    rw [hk]
    have ex := e x hm
    simp only at ex
    unfold TF
    rw [ea, hx]
    exact ex
  · rw [hk, hl x hm]
    conv => lhs; unfold GF
    rw [ea, hx]
theorem TT_none {d : Nat → Nat → Int} {n v l : Nat} (hf : free n v = []) : TT d n v l = 0 := by simp [TT, hf, TF]
theorem GF_none {d : Nat → Nat → Int} {n v l : Nat} (hf : free n v = []) : GF d n (free n v).length v l = [] := by simp [hf, GF]
/-- What the program keeps for a set and a spot is the least value of its list. -/
theorem TT_list {d : Nat → Nat → Int} {n v l : Nat} (hn : n < 8) (hv : v < 2 ^ n) (hf : free n v ≠ []) : at0 ((free n v).map (HH d n v l)) (fminL ((free n v).map (HH d n v l))) = TT d n v l := by
  obtain ⟨x, _, hm, hT, _, hle, _⟩ := TT_step (d := d) (l := l) hn hv hf
  have hpos : 0 < ((free n v).map (HH d n v l)).length := by
    rw [List.length_map]
    exact List.length_pos_iff.2 hf
  have hlt := fminL_lt hpos
  have hmem : at0 ((free n v).map (HH d n v l)) (fminL ((free n v).map (HH d n v l))) ∈ (free n v).map (HH d n v l) := by
    rw [at0_of hlt]; exact List.getElem_mem _
  obtain ⟨y, hy, hy2⟩ := List.mem_map.1 hmem
  obtain ⟨j, hj, hj2⟩ := List.mem_iff_getElem.1 (List.mem_map_of_mem (f := HH d n v l) hm)
  have h1 := fmin_le (at0 ((free n v).map (HH d n v l))) ((free n v).map (HH d n v l)).length j hj
  rw [at0_of hj, hj2] at h1
  have h2 := hle y hy
  unfold fminL at *
  omega
/-! The model's walk: all orders, one after the other. -/
def loopW (f : Nat → List Nat × Int → List Nat × Int) : Nat → List Nat × Int → List Nat × Int
  | 0, s => s
  | k + 1, s => f k (loopW f k s)
def walkF (d : Nat → Nat → Int) (n : Nat) : Nat → List Nat → Int → List Nat × Int → List Nat × Int
  | 0, os, len, s => if 0 ≤ s.2 ∧ s.2 ≤ len then s else (os, len)
  | m + 1, os, len, s => if 0 ≤ s.2 ∧ s.2 ≤ len then s else loopW (fun i s => if i ∈ os then s else walkF d n m (os ++ [i]) (len + d (os.getLastD 0) i) s) n s
/-- A better one replaces what is kept. -/
def impr (G : Nat → List Nat) (F : Nat → Int) (i : Nat) (s : List Nat × Int) : List Nat × Int := if s.2 < 0 ∨ F i < s.2 then (G i, F i) else s
theorem impr_fold (G : Nat → List Nat) (F : Nat → Int) (hF : ∀ i, 0 ≤ F i) : ∀ xs : List Nat, xs.Pairwise (· < ·) → ∀ s : List Nat × Int,
    xs.foldl (fun s i => impr G F i s) s = match amin F xs with | none => s | some x => if s.2 < 0 ∨ F x < s.2 then (G x, F x) else s
  | [], _, s => rfl
  | z :: zs, hp, s => by
    have ih := impr_fold G F hF zs (List.pairwise_cons.1 hp).2 (impr G F z s)
    rw [List.foldl_cons, ih]
    conv => rhs; unfold amin
    have hz := hF z
    cases hq : amin F zs with
    | none => rfl
    | some y =>
      have hy := hF y
      show (if (impr G F z s).2 < 0 ∨ F y < (impr G F z s).2 then (G y, F y) else impr G F z s) = match (if F y < F z then some y else some z) with | none => s | some x => if s.2 < 0 ∨ F x < s.2 then (G x, F x) else s
      by_cases c1 : s.2 < 0 ∨ F z < s.2
      · have e1 : impr G F z s = (G z, F z) := if_pos c1
        rw [e1]
        by_cases c2 : F y < F z
        · rw [if_pos c2, if_pos (.inr c2)]
          show _ = if s.2 < 0 ∨ F y < s.2 then (G y, F y) else s
          rw [if_pos (by omega)]
        · rw [if_neg c2, if_neg (by show ¬ (F z < 0 ∨ F y < F z); omega)]
          show _ = if s.2 < 0 ∨ F z < s.2 then (G z, F z) else s
          rw [if_pos c1]
      · have e1 : impr G F z s = s := if_neg c1
        rw [e1]
        by_cases c2 : F y < F z
        · rw [if_pos c2]
        · rw [if_neg c2, if_neg (by omega)]
          show _ = if s.2 < 0 ∨ F z < s.2 then (G z, F z) else s
          rw [if_neg c1]
theorem loopW_fold (f : Nat → List Nat × Int → List Nat × Int) (p : Nat → Bool) (g : Nat → List Nat × Int → List Nat × Int) (n : Nat) (h0 : ∀ i, i < n → p i = false → ∀ s, f i s = s) (h1 : ∀ i, i < n → p i = true → ∀ s, f i s = g i s) : ∀ k, k ≤ n → ∀ s,
    loopW f k s = ((List.range k).filter p).foldl (fun s i => g i s) s
  | 0, _, s => rfl
  | k + 1, hk, s => by
    have ih := loopW_fold f p g n h0 h1 k (by omega) s
    rw [loopW, ih, List.range_succ, List.filter_append, List.foldl_append]
    cases hp : p k with
    | false =>
      have e : List.filter p [k] = [] := by simp [hp]
      rw [h0 k (by omega) hp, e]
      rfl
    | true =>
      have e : List.filter p [k] = [k] := by simp [hp]
      rw [h1 k (by omega) hp, e]
      rfl
/-- The set of the spots of an order. -/
def InSet (n v : Nat) (os : List Nat) : Prop := ∀ i, i < n → (v.testBit i = true ↔ i ∈ os)
theorem inset_with {n v : Nat} {os : List Nat} (h : InSet n v os) (i : Nat) : InSet n (v ||| 2 ^ i) (os ++ [i]) := fun j hj => by
  rw [Nat.testBit_or, Nat.testBit_two_pow, List.mem_append, List.mem_singleton, ← h j hj]
  simp only [Bool.or_eq_true, decide_eq_true_eq]
  constructor <;> (rintro (a | a) <;> first | exact .inl a | exact .inr a.symm)
/-- The model's walk keeps the first shortest way, if it is shorter than what is kept. -/
theorem walkF_eq {d : Nat → Nat → Int} (hd : ∀ i j, 0 ≤ d i j) {n : Nat} (hn : n < 8) : ∀ m v os len (s : List Nat × Int), v < 2 ^ n → (free n v).length = m → InSet n v os → 0 ≤ len →
    walkF d n m os len s = if s.2 < 0 ∨ len + TT d n v (os.getLastD 0) < s.2 then (os ++ GF d n m v (os.getLastD 0), len + TT d n v (os.getLastD 0)) else s
  | 0, v, os, len, s, hv, hm, hs, hl => by
    have hf : free n v = [] := List.length_eq_zero_iff.1 hm
    rw [TT_none hf]
    unfold walkF GF
    by_cases c : 0 ≤ s.2 ∧ s.2 ≤ len
    · rw [if_pos c, if_neg (by omega)]
    · rw [if_neg c, if_pos (by omega)]
      simp
  | m + 1, v, os, len, s, hv, hm, hs, hl => by
    have hf : free n v ≠ [] := fun e => by rw [e] at hm; simp at hm
    obtain ⟨x, hx, hxm, hT, hG, hle, _⟩ := TT_step (d := d) (l := os.getLastD 0) hn hv hf
    have hTn : 0 ≤ TT d n v (os.getLastD 0) := TF_nonneg hd _ _ _ _
    unfold walkF
    by_cases c : 0 ≤ s.2 ∧ s.2 ≤ len
    · rw [if_pos c, if_neg (by omega)]
    · rw [if_neg c]
      have step := loopW_fold (fun i s => if i ∈ os then s else walkF d n m (os ++ [i]) (len + d (os.getLastD 0) i) s) (fun i => !v.testBit i)
        (impr (fun i => os ++ [i] ++ GF d n m (v ||| 2 ^ i) i) (fun i => len + HH d n v (os.getLastD 0) i)) n
        (fun i hi hp s => by
          have : i ∈ os := (hs i hi).1 (by simpa using hp)
          simp [this])
        (fun i hi hp s => by
          have hb : v.testBit i = false := by simpa using hp
          have hni : i ∉ os := fun e => by have := (hs i hi).2 e; rw [hb] at this; cases this
          obtain ⟨f1, f2, f3⟩ := free_facts n hn v hv i hi hb
          have := walkF_eq hd hn m (v ||| 2 ^ i) (os ++ [i]) (len + d (os.getLastD 0) i) s f3 (by omega) (inset_with hs i) (by have := hd (os.getLastD 0) i; omega)
          have el : (os ++ [i]).getLastD 0 = i := by simp [List.getLastD_eq_getLast?]
          rw [el] at this
          simp only [if_neg hni]
          rw [this]
          have ea : len + d (os.getLastD 0) i + TT d n (v ||| 2 ^ i) i = len + HH d n v (os.getLastD 0) i := by unfold HH; omega
          rw [ea]
          rfl) n (Nat.le_refl _) s
      rw [step]
      have fold := impr_fold (fun i => os ++ [i] ++ GF d n m (v ||| 2 ^ i) i) (fun i => len + HH d n v (os.getLastD 0) i) (fun i => by
        have := hd (os.getLastD 0) i
        have := TF_nonneg hd n (free n (v ||| 2 ^ i)).length (v ||| 2 ^ i) i
        unfold HH TT
        omega) (free n v) (free_rises n v) s
      have am : amin (fun i => len + HH d n v (os.getLastD 0) i) (free n v) = some x := by
        have gen : ∀ xs : List Nat, amin (fun i => len + HH d n v (os.getLastD 0) i) xs = amin (HH d n v (os.getLastD 0)) xs := by
          intro xs
          induction xs with
          | nil => rfl
          | cons a ys ih =>
            unfold amin
            rw [ih]
            cases amin (HH d n v (os.getLastD 0)) ys with
            | none => rfl
            | some y =>
              simp only
              by_cases c : HH d n v (os.getLastD 0) y < HH d n v (os.getLastD 0) a
              · rw [if_pos c, if_pos (by omega)]
              · rw [if_neg c, if_neg (by omega)]
        rw [gen, hx]
      rw [am] at fold
      have efree : (List.range n).filter (fun i => !v.testBit i) = free n v := rfl
      rw [efree, fold]
      simp only
      rw [hT]
      have eG : GF d n (m + 1) v (os.getLastD 0) = x :: GF d n m (v ||| 2 ^ x) x := by
        rw [← hm, hG]
        obtain ⟨h1, h2⟩ := free_mem.1 hxm
        have := (free_facts n hn v hv x h1 h2).1
        rw [show (free n (v ||| 2 ^ x)).length = m by omega]
      rw [eG]
      by_cases c2 : s.2 < 0 ∨ len + HH d n v (os.getLastD 0) x < s.2
      · rw [if_pos c2, if_pos c2]
        simp
      · rw [if_neg c2, if_neg c2]

end Go.Proofs.Ytkiimdfnobcdpaa.sines
