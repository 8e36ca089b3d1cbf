/- The size of an angle is read: contracts of the program's functions. -/
import Derived.Test.YtbnihalbepffoaaDoorHourP
import Derived.Test.YtbnihalbepffoaaDoorSpotT
namespace Go.Proofs.YtbnihalbepffoaaDoor.dec
open Go.ChangeShapes Go.WideShapes Go.ChangeAt Go.RowKit Go.Proofs.YtbnihalbepffoaaDoor.num Go.Proofs.YtbnihalbepffoaaDoor.bld

/-- The text l is the text of the size n. -/
def IsSize (l : List UInt8) (n : Int) : Prop := 0 ≤ n ∧ n ≤ 1299599 ∧ sizeL n = l
theorem size_split {l : List UInt8} {n : Int} (h : IsSize l n) : l = Lib.itoa (n / 3600) ++ 46 :: (pair (n / 60 % 60) ++ 46 :: pair (n % 60)) ∧ IsForm (Lib.itoa (n / 3600)) (n / 3600) ∧ 0 ≤ n / 3600 ∧ n / 3600 ≤ 360 ∧ 0 ≤ n / 60 % 60 ∧ n / 60 % 60 ≤ 59 ∧ 0 ≤ n % 60 ∧ n % 60 ≤ 59 ∧ n = 3600 * (n / 3600) + 60 * (n / 60 % 60) + n % 60 := by
  obtain ⟨h1, h2, rfl⟩ := h
  refine ⟨by simp [sizeL], ⟨by omega, by omega, rfl⟩, by omega, by omega, by omega, by omega, by omega, by omega, by omega⟩
theorem size_cut {l : List UInt8} {n : Int} (h : IsSize l n) : cutL 46 l = (Lib.itoa (n / 3600), pair (n / 60 % 60) ++ 46 :: pair (n % 60), true) ∧ cutL 46 (cutL 46 l).2.1 = (pair (n / 60 % 60), pair (n % 60), true) := by
  obtain ⟨h1, h2, h3, h4, h5, h6, h7, h8, h9⟩ := size_split h
  have e : cutL 46 l = (Lib.itoa (n / 3600), pair (n / 60 % 60) ++ 46 :: pair (n % 60), true) := by
    conv => lhs; rw [h1]
    exact cutL_at 46 _ _ (not_in (itoa_allD h3) (by decide))
  refine ⟨e, ?_⟩
  rw [e]
  exact cutL_at 46 _ _ (not_in (pair_num h5 (by omega)).1 (by decide))
theorem size_inj {l : List UInt8} {a b : Int} (ha : IsSize l a) (hb : IsSize l b) : a = b := by
  obtain ⟨_, a2, a3, a4, a5, a6, a7, a8, a9⟩ := size_split ha
  obtain ⟨_, b2, b3, b4, b5, b6, b7, b8, b9⟩ := size_split hb
  have c1 := (size_cut ha).1.symm.trans (size_cut hb).1
  have c2 := (size_cut ha).2.symm.trans (size_cut hb).2
  have e1 := congrArg Prod.fst c1
  have e2 := congrArg Prod.fst c2
  have e3 := congrArg (fun x => x.2.1) c2
  simp only at e1 e2 e3
  rw [e1] at a2
  have e4 := form_inj a2 b2
  have p1 := (pair_num a5 (by omega)).2
  have p2 := (pair_num b5 (by omega)).2
  have q1 := (pair_num a7 (by omega)).2
  have q2 := (pair_num b7 (by omega)).2
  rw [e2] at p1
  rw [e3] at q1
  omega
open Classical in
noncomputable def sizeB (l : List UInt8) : Bool := decide (∃ a, IsSize l a)
open Classical in
noncomputable def sizeV (l : List UInt8) : Int := if h : ∃ a, IsSize l a then h.choose else 0
theorem size_yes {l : List UInt8} {a : Int} (h : IsSize l a) : sizeB l = true ∧ sizeV l = a := by
  have he : ∃ n, IsSize l n := ⟨a, h⟩
  refine ⟨by simp [sizeB, he], ?_⟩
  unfold sizeV
  rw [dif_pos he]
  exact size_inj he.choose_spec h
theorem size_no {l : List UInt8} (h : ∀ a, ¬ IsSize l a) : sizeB l = false ∧ sizeV l = 0 := by
  have he : ¬ ∃ n, IsSize l n := fun ⟨n, g⟩ => h n g
  exact ⟨by simp [sizeB, he], by simp [sizeV, he]⟩
/-- The parts that the program reads. -/
theorem ret_parts {l : List UInt8} {a b c : Int} {t : Bool} (h : sizeB l = t ∧ sizeV l / 3600 = a ∧ sizeV l / 60 % 60 = b ∧ sizeV l % 60 = c) : Ending.returned (.tuple #[.agg #[.int .i64 a, .int .i64 b, .int .i64 c], .bool t]) = .returned (.tuple #[.agg #[.int .i64 (sizeV l / 3600), .int .i64 (sizeV l / 60 % 60), .int .i64 (sizeV l % 60)], .bool (sizeB l)]) := by rw [h.1, h.2.1, h.2.2.1, h.2.2.2]
theorem parts_no {l : List UInt8} (h : ∀ a, ¬ IsSize l a) : sizeB l = false ∧ sizeV l / 3600 = 0 ∧ sizeV l / 60 % 60 = 0 ∧ sizeV l % 60 = 0 := by
  obtain ⟨h1, h2⟩ := size_no h
  rw [h2]; exact ⟨h1, by decide, by decide, by decide⟩
theorem size_reads {l : List UInt8} {n : Int} (h : IsSize l n) : readB (cut1 46 l).data.toList = true ∧ readV (cut1 46 l).data.toList = n / 3600 ∧ twoB 57 (cut1 46 (cut2 46 l).data.toList).data.toList = true ∧ twoV 57 (cut1 46 (cut2 46 l).data.toList).data.toList = n / 60 % 60 ∧ twoB 57 (cut2 46 (cut2 46 l).data.toList).data.toList = true ∧ twoV 57 (cut2 46 (cut2 46 l).data.toList).data.toList = n % 60 ∧ 0 ≤ n / 3600 ∧ n / 3600 ≤ 360 ∧ n / 60 % 60 ≤ 59 ∧ n % 60 ≤ 59 := by
  obtain ⟨_, h2, h3, h4, h5, h6, h7, h8, h9⟩ := size_split h
  have hc := size_cut h
  have ht : Two 57 (pair (n / 60 % 60)) := pair_two h5 (by omega) (by omega)
  have hu : Two 57 (pair (n % 60)) := pair_two h7 (by omega) (by omega)
  rw [c1, c1, c2, c2, hc.2, hc.1]
  exact ⟨(read_yes h2).1, (read_yes h2).2, by simp [twoB, ht], by simp [twoV, ht, (pair_num h5 (by omega)).2], by simp [twoB, hu], by simp [twoV, hu, (pair_num h7 (by omega)).2], h3, h4, h6, h8⟩
theorem splitc {c : UInt8} : ∀ {l : List UInt8}, (cutL c l).2.2 = true → l = (cutL c l).1 ++ c :: (cutL c l).2.1
  | [], h => by simp [cutL] at h
  | x :: l, h => by
    by_cases hx : x = c
    · simp [cutL, hx]
    · simp [cutL, hx] at h ⊢
      exact splitc h
theorem cutL_or (c : UInt8) : ∀ l : List UInt8, (cutL c l).2.2 = true ∨ cutL c l = (l, [], false)
  | [] => .inr rfl
  | x :: l => by
    by_cases hx : x = c
    · exact .inl (by simp [cutL, hx])
    · rcases cutL_or c l with h | h
      · exact .inl (by simp [cutL, hx, h])
      · exact .inr (by simp [cutL, hx, h])
theorem size_of {l : List UInt8} (h1 : readB (cutL 46 l).1 = true) (h2 : Two 57 (cutL 46 (cutL 46 l).2.1).1) (h3 : Two 57 (cutL 46 (cutL 46 l).2.1).2.1) (h4 : 0 ≤ readV (cutL 46 l).1) (h5 : readV (cutL 46 l).1 ≤ 360) (h6 : (numA 0 (cutL 46 (cutL 46 l).2.1).1 : Int) ≤ 59) (h7 : (numA 0 (cutL 46 (cutL 46 l).2.1).2.1 : Int) ≤ 59) : IsSize l (readV (cutL 46 l).1 * 3600 + (numA 0 (cutL 46 (cutL 46 l).2.1).1 : Int) * 60 + (numA 0 (cutL 46 (cutL 46 l).2.1).2.1 : Int)) := by
  have e2 : (cutL 46 (cutL 46 l).2.1).2.2 = true := by
    rcases cutL_or 46 (cutL 46 l).2.1 with h | h
    · exact h
    · rw [h] at h3; have := h3.1; simp at this
  have s2 := splitc e2
  have e1 : (cutL 46 l).2.2 = true := by
    rcases cutL_or 46 l with h | h
    · exact h
    · rw [h] at h2; have := h2.1; simp [cutL] at this
  have s1 := splitc e1
  obtain ⟨q1, _⟩ := two_pair (by decide) h2
  obtain ⟨q2, _⟩ := two_pair (by decide) h3
  have hf := (read_form h1).2.2
  have m0 : (0 : Int) ≤ (numA 0 (cutL 46 (cutL 46 l).2.1).1 : Int) := by omega
  have m1 : (0 : Int) ≤ (numA 0 (cutL 46 (cutL 46 l).2.1).2.1 : Int) := by omega
  generalize (numA 0 (cutL 46 (cutL 46 l).2.1).1 : Int) = m at *
  generalize (numA 0 (cutL 46 (cutL 46 l).2.1).2.1 : Int) = k at *
  generalize readV (cutL 46 l).1 = n at *
  refine ⟨by omega, by omega, ?_⟩
  rw [sizeL, show (n * 3600 + m * 60 + k) / 3600 = n by omega, show (n * 3600 + m * 60 + k) / 60 % 60 = m by omega, show (n * 3600 + m * 60 + k) % 60 = k by omega, hf, q1, q2]
  conv => rhs; rw [s1, s2]
  simp
theorem partsOf_far (n : Int) (w : World) (h0 : 0 ≤ n) (h1 : n ≤ 1400000) :
    Calls Tryd.prog 90 #[.int .i64 n] w fun e w' => e = .returned (.agg #[.int .i64 (n / 3600), .int .i64 (n / 60 % 60), .int .i64 (n % 60)]) ∧ ∃ o, w' = w.alloc o := by
  have hm : n % 3600 / 60 = n / 60 % 60 := by omega
  go_enter Tryd.func90, Tryd.ntmps90
  go_wp2
  exact bodyPost_ret (v := .agg #[.int .i64 (n / 3600), .int .i64 (n / 60 % 60), .int .i64 (n % 60)]) (by simp [results, Tryd.results90, go_sem]) rfl ⟨rfl, _, rfl⟩
theorem size_any (a b c : Int) (w : World) (h0 : 0 ≤ a) (h1 : a ≤ 1000) (h2 : 0 ≤ b) (h3 : b ≤ 1000) (h4 : 0 ≤ c) (h5 : c ≤ 1000) :
    Calls Tryd.prog 99 #[.agg #[.int .i64 a, .int .i64 b, .int .i64 c]] w fun e w' => e = .returned (.int .i64 (a * 3600 + b * 60 + c)) ∧ ∃ o, w' = w.alloc o := by
  go_enter Tryd.func99, Tryd.ntmps99
  go_wp2
  go_ret
  exact ⟨rfl, _, rfl⟩

end Go.Proofs.YtbnihalbepffoaaDoor.dec
