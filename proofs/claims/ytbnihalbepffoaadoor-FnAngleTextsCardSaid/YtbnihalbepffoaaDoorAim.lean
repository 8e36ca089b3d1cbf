/- A signed angle is read: contracts of the program's function. -/
import Derived.Test.YtbnihalbepffoaaDoorIdx
namespace Go.Proofs.YtbnihalbepffoaaDoor.dec
open Go.ChangeShapes Go.WideShapes Go.ChangeAt Go.RowKit Go.Proofs.YtbnihalbepffoaaDoor.num Go.Proofs.YtbnihalbepffoaaDoor.bld Go.Proofs.YtbnihalbepffoaaDoor.split

/-- The text l is the text of the signed angle a. -/
def IsAng (p m : UInt8) (l : List UInt8) (a : Int) : Prop := -1299599 ≤ a ∧ a ≤ 1299599 ∧ angL p m a = l
theorem ang_plus {p m : UInt8} {F : List UInt8} {n : Int} (h : IsSize F n) : IsAng p m (F ++ [p]) n := by
  obtain ⟨h1, h2, rfl⟩ := h
  refine ⟨by omega, by omega, ?_⟩
  rw [angL, if_neg (by omega), show max n (-n) = n by omega]
theorem ang_minus {p m : UInt8} {F : List UInt8} {n : Int} (h : IsSize F n) (h0 : 0 < n) : IsAng p m (F ++ [m]) (-n) := by
  obtain ⟨h1, h2, rfl⟩ := h
  refine ⟨by omega, by omega, ?_⟩
  rw [angL, if_pos (by omega), show max (-n) (- -n) = n by omega]
theorem size_low {F : List UInt8} {n : Int} (h : IsSize F n) : ∀ c ∈ F, c.toNat ≤ 57 := by
  obtain ⟨h1, h2, h3, h4, h5, h6, h7, h8, _⟩ := size_split h
  intro c hc
  rw [h1] at hc
  rcases List.mem_append.1 hc with hc | hc
  · exact (itoa_allD h3 c hc).2
  rcases List.mem_cons.1 hc with rfl | hc
  · decide
  rcases List.mem_append.1 hc with hc | hc
  · exact ((pair_num h5 (by omega)).1 c hc).2
  rcases List.mem_cons.1 hc with rfl | hc
  · decide
  · exact ((pair_num h7 (by omega)).1 c hc).2
theorem ang_split {p m : UInt8} {l : List UInt8} {a : Int} (h : IsAng p m l a) : ∃ F c, l = F ++ [c] ∧ IsSize F (max a (-a)) ∧ c = if a < 0 then m else p := by
  obtain ⟨h1, h2, h3⟩ := h
  exact ⟨_, _, h3.symm, ⟨by omega, by omega, rfl⟩, rfl⟩
theorem first_one {p m : UInt8} {c0 c : UInt8} {T : List UInt8} (h0 : c0 = p ∨ c0 = m) : ∀ (F G : List UInt8), F ++ c0 :: T = G ++ [c] → (∀ x ∈ F, x ≠ p ∧ x ≠ m) → (∀ x ∈ G, x ≠ p ∧ x ≠ m) → F = G ∧ T = [] ∧ c0 = c
  | [], [], h, _, _ => by simp at h; exact ⟨rfl, h.2, h.1⟩
  | [], g :: G, h, _, hG => by
    simp at h
    have := hG g (by simp)
    rw [← h.1] at this
    rcases h0 with e | e
    · exact absurd e this.1
    · exact absurd e this.2
  | x :: F, [], h, _, _ => by simp at h
  | x :: F, g :: G, h, hF, hG => by
    simp only [List.cons_append, List.cons.injEq] at h
    obtain ⟨e1, e2, e3⟩ := first_one h0 F G h.2 (fun y hy => hF y (by simp [hy])) (fun y hy => hG y (by simp [hy]))
    exact ⟨by rw [h.1, e1], e2, e3⟩
/-- A text that is parted at its first letter: what it says. -/
theorem ang_parts {p m : UInt8} (hp : 57 < p.toNat) (hm : 57 < m.toNat) {F T : List UInt8} {c0 : UInt8} {a : Int} (h0 : c0 = p ∨ c0 = m) (hF : ∀ x ∈ F, x ≠ p ∧ x ≠ m) (h : IsAng p m (F ++ c0 :: T) a) :
    IsSize F (max a (-a)) ∧ T = [] ∧ c0 = if a < 0 then m else p := by
  obtain ⟨G, c, e, hs, hc⟩ := ang_split h
  obtain ⟨e1, e2, e3⟩ := first_one h0 F G e hF (fun x hx => by
    have := size_low hs x hx
    exact ⟨fun q => by rw [q] at this; omega, fun q => by rw [q] at this; omega⟩)
  exact ⟨by rw [e1]; exact hs, e2, by rw [e3]; exact hc⟩
theorem ang_none {p m : UInt8} {l : List UInt8} (h : ∀ x ∈ l, x ≠ p ∧ x ≠ m) (a : Int) : ¬ IsAng p m l a := fun g => by
  obtain ⟨G, c, e, hs, hc⟩ := ang_split g
  have := h c (by rw [e]; simp)
  rw [hc] at this
  split at this
  · exact this.2 rfl
  · exact this.1 rfl
theorem ang_inj {p m : UInt8} (hpm : p ≠ m) {l : List UInt8} {a b : Int} (ha : IsAng p m l a) (hb : IsAng p m l b) : a = b := by
  obtain ⟨F, c, e1, s1, c1⟩ := ang_split ha
  obtain ⟨G, d, e2, s2, c2⟩ := ang_split hb
  rw [e1] at e2
  have h1 := List.append_inj' e2 rfl
  have h2 : c = d := by simpa using h1.2
  rw [h1.1] at s1
  have h3 := size_inj s1 s2
  rw [c1, c2] at h2
  by_cases ha0 : a < 0 <;> by_cases hb0 : b < 0
  · omega
  · rw [if_pos ha0, if_neg hb0] at h2; exact absurd h2.symm hpm
  · rw [if_neg ha0, if_pos hb0] at h2; exact absurd h2 hpm
  · omega
open Classical in
noncomputable def aimB (p m : UInt8) (l : List UInt8) : Bool := decide (∃ a, IsAng p m l a)
open Classical in
noncomputable def aimV (p m : UInt8) (l : List UInt8) : Int := if h : ∃ a, IsAng p m l a then h.choose else 0
theorem aim_yes {p m : UInt8} (hpm : p ≠ m) {l : List UInt8} {a : Int} (h : IsAng p m l a) : aimB p m l = true ∧ aimV p m l = a := by
  have he : ∃ n, IsAng p m l n := ⟨a, h⟩
  refine ⟨by simp [aimB, he], ?_⟩
  unfold aimV
  rw [dif_pos he]
  exact ang_inj hpm he.choose_spec h
theorem aim_no {p m : UInt8} {l : List UInt8} (h : ∀ a, ¬ IsAng p m l a) : aimB p m l = false ∧ aimV p m l = 0 := by
  have he : ¬ ∃ n, IsAng p m l n := fun ⟨n, g⟩ => h n g
  exact ⟨by simp [aimB, he], by simp [aimV, he]⟩
theorem aim_is {p m : UInt8} {l : List UInt8} (h : aimB p m l = true) : IsAng p m l (aimV p m l) := by
  have he : ∃ n, IsAng p m l n := by simpa [aimB] using h
  unfold aimV
  rw [dif_pos he]
  exact he.choose_spec
theorem ret_aim {p m : UInt8} {l : List UInt8} {v : Int} {b : Bool} (h : aimB p m l = b ∧ aimV p m l = v) : Ending.returned (.tuple #[.int .i64 v, .bool b]) = .returned (.tuple #[.int .i64 (aimV p m l), .bool (aimB p m l)]) := by rw [h.1, h.2]
theorem free_list {p m : UInt8} {s : ByteArray} {k : Nat} (hf : Free p m s k) : ∀ x ∈ (s.extract 0 k).data.toList, x ≠ p ∧ x ≠ m := by
  intro x hx
  rw [ext_list, List.drop_zero, Nat.sub_zero] at hx
  obtain ⟨j, hj, e⟩ := List.mem_iff_getElem.1 hx
  have hjs : j < s.size := by simp at hj; omega
  have hjk : j < k := by simp at hj; omega
  have := hf j hjs hjk
  rw [List.getElem_take] at e
  have e2 : s[j] = x := by rw [← e]; rfl
  rwa [e2] at this
theorem cut_at (s : ByteArray) (k : Nat) (h : k < s.size) : s.data.toList = (s.extract 0 k).data.toList ++ (s.extract k s.size).data.toList ∧ (s.extract k s.size).data.toList = s[k] :: s.data.toList.drop (k + 1) := by
  have hl : s.data.toList.length = s.size := by simp
  refine ⟨?_, ?_⟩
  · rw [ext_list s 0 k, ext_list s k s.size, List.drop_zero, Nat.sub_zero, List.take_of_length_le (l := s.data.toList.drop k) (by rw [List.length_drop]; omega), List.take_append_drop]
  · rw [ext_list, List.take_of_length_le (by rw [List.length_drop]; omega), drop_cons s k h]
theorem sizeV_bounds (l : List UInt8) : 0 ≤ sizeV l ∧ sizeV l ≤ 1299599 := by
  by_cases h : ∃ n, IsSize l n
  · obtain ⟨n, hn⟩ := h
    rw [(size_yes hn).2]
    exact ⟨hn.1, hn.2.1⟩
  · rw [(size_no fun a g => h ⟨a, g⟩).2]; omega
theorem size_is {l : List UInt8} (h : sizeB l = true) : IsSize l (sizeV l) := by
  have he : ∃ n, IsSize l n := by simpa [sizeB] using h
  unfold sizeV
  rw [dif_pos he]
  exact he.choose_spec
theorem not_size {l : List UInt8} (h : sizeB l = false) (a : Int) : ¬ IsSize l a := fun g => by rw [(size_yes g).1] at h; cases h
theorem bytes_ext {r : ByteArray} {l : List UInt8} (h : r.data.toList = l) : r = ⟨l.toArray⟩ := by rw [← h]

end Go.Proofs.YtbnihalbepffoaaDoor.dec
