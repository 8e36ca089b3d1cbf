/- Numbers are read: contracts of the program's function and of the model's. -/
import Derived.Test.YtbnihalbepffoaaDoorFmt
import Derived.Test.YtbnihalbepffoaaDoorNum
namespace Go.Proofs.YtbnihalbepffoaaDoor.dec
open Go.ChangeShapes Go.WideShapes Go.ChangeAt Go.RowKit Go.Proofs.YtbnihalbepffoaaDoor.num

def dgB (n : Int) : Bool := decide (48 ≤ n ∧ n ≤ 57)
theorem ret_bool {a b : Bool} (h : a = b) : Ending.returned (.bool a) = .returned (.bool b) := by rw [h]
theorem l01Digit_any (n : Int) (w : World) :
    Calls Tryd.prog 137 #[.int .u8 n] w fun e w' => e = .returned (.bool (dgB n)) ∧ w = w' := by
  by_cases h3 : n < 48
  · go_enter Tryd.func137, Tryd.ntmps137
    go_wp2
    all_goals (go_ret; exact ⟨ret_bool (by rw [Bool.eq_iff_iff]; simp [dgB]; omega), rfl⟩)
  · go_enter Tryd.func137, Tryd.ntmps137
    go_wp2
    all_goals (go_ret; exact ⟨ret_bool (by rw [Bool.eq_iff_iff]; simp [dgB]; omega), rfl⟩)
theorem toList_ne {s : ByteArray} (h : 0 < s.size) : s.toList.isEmpty = false := by
  have e : s.toList.length = s.size := by rw [ByteArray.toList_eq]; rfl
  cases hl : s.toList with
  | nil => rw [hl] at e; simp at e; omega
  | cons a l => rfl
theorem take_snoc (s : ByteArray) (k : Nat) (h : k < s.size) : s.data.toList.take (k + 1) = s.data.toList.take k ++ [s[k]] := by
  rw [List.take_succ_eq_append_getElem (by simpa using h)]; rfl
theorem num_step (t : ByteArray) (k : Nat) (h : k < t.size) (h1 : dgB (t[k].toNat : Int) = true) : 10 * (numA 0 (t.data.toList.take k) : Int) + ((t[k].toNat : Int) - 48) = (numA 0 (t.data.toList.take (k + 1)) : Int) := by
  simp [dgB] at h1
  rw [take_snoc t k h, numA_snoc]
  omega
theorem all_step (t : ByteArray) (k : Nat) (h : k < t.size) (h0 : AllD (t.data.toList.take k)) (h1 : dgB (t[k].toNat : Int) = true) : AllD (t.data.toList.take (k + 1)) := by
  simp [dgB] at h1
  intro c hc
  rw [take_snoc t k h] at hc
  rcases List.mem_append.1 hc with hc | hc
  · exact h0 c hc
  · obtain rfl := List.mem_singleton.1 hc; omega
theorem num_bound (t : ByteArray) (k : Nat) (h : k < t.size) (h18 : t.size ≤ 18) (h0 : AllD (t.data.toList.take k)) : (numA 0 (t.data.toList.take k) : Int) ≤ 99999999999999999 := by
  have h1 := numA_lt _ h0
  have h2 : (t.data.toList.take k).length ≤ 17 := by simp; omega
  have h3 : 10 ^ (t.data.toList.take k).length ≤ 10 ^ 17 := Nat.pow_le_pow_right (by decide) h2
  omega
theorem not_all (t : ByteArray) (k : Nat) (h : k < t.size) (h1 : dgB (t[k].toNat : Int) = false) : ¬ AllD t.data.toList := fun g => by
  have := g t[k] (List.getElem_mem (l := t.data.toList) (by simpa using h))
  simp [dgB] at h1
  omega
theorem all_take (t : ByteArray) (h0 : AllD (t.data.toList.take t.size)) : AllD t.data.toList := by
  rwa [List.take_of_length_le (by simp)] at h0
theorem num_take (t : ByteArray) : numA 0 (t.data.toList.take t.size) = numA 0 t.data.toList := by
  rw [List.take_of_length_le (by simp)]
theorem ret_read {l : List UInt8} {v : Int} {b : Bool} (h : readB l = b ∧ readV l = v) : Ending.returned (.tuple #[.int .i64 v, .bool b]) = .returned (.tuple #[.int .i64 (readV l), .bool (readB l)]) := by rw [h.1, h.2]
theorem data_cons (s : ByteArray) (hp : 0 < s.size) : s.data.toList = s[0] :: (s.extract 1 s.size).data.toList := by
  have e : (s.extract 1 s.size).data.toList = s.data.toList.drop 1 := by
    simp [ByteArray.data_extract]
    exact List.take_of_length_le (by simp)
  rw [e]
  cases h : s.data.toList with
  | nil => have : s.size = 0 := by have := congrArg List.length h; simpa using this
           omega
  | cons a l =>
    have : s[0] = a := by
      have e2 : s[0] = s.data.toList[0]'(by rw [h]; simp) := rfl
      rw [e2]; simp [h]
    rw [this]; rfl

theorem fin_no {s : ByteArray} {X : Int} (hX : spelt s.data.toList = X) (h : (!(Lib.itoa X == s.toList)) = true) : readB s.data.toList = false ∧ readV s.data.toList = 0 := by
  refine read_no (not_form_ne ?_)
  rw [hX]
  intro e
  rw [e, ByteArray.toList_eq] at h
  simp at h
theorem fin_yes {s : ByteArray} {X : Int} (hX : spelt s.data.toList = X) (h : (!(Lib.itoa X == s.toList)) = false) (h1 : (body s.data.toList).length ≤ 18) (h2 : AllD (body s.data.toList)) : readB s.data.toList = true ∧ readV s.data.toList = X := by
  rw [ByteArray.toList_eq] at h
  have e : Lib.itoa (spelt s.data.toList) = s.data.toList := by rw [hX]; simpa using h
  have := read_yes (form_of_eq h1 h2 e)
  rwa [hX] at this
theorem num_all (t : ByteArray) (h18 : t.size ≤ 18) (h0 : AllD t.data.toList) : (numA 0 (t.data.toList.take t.size) : Int) ≤ 999999999999999999 := by
  have h1 := numA_lt _ h0
  have h2 : t.data.toList.length ≤ 18 := by simp; omega
  have h3 : 10 ^ t.data.toList.length ≤ 10 ^ 18 := Nat.pow_le_pow_right (by decide) h2
  rw [num_take]
  omega
set_option maxHeartbeats 1000000 in
theorem l01Number_neg (s : ByteArray) (w : World) (hs : s.size ≤ maxLen) (hp : 0 < s.size) (hm : s[0].toNat = 45) :
    Calls Tryd.prog 118 #[.string s] w fun e w' => e = .returned (.tuple #[.int .i64 (readV s.data.toList), .bool (readB s.data.toList)]) ∧ Below w.heap.size w w' := by
  unfold maxLen at hs
  have hne : s.toList.isEmpty = false := toList_ne hp
  have hne2 : ¬ s.toList = [] := by simpa using hne
  have hma : (((s[0].toNat : Nat) : Int) == 45) = true := by simp [hm]
  have BD0 : (s.extract 1 s.size).data.toList = body s.data.toList := by rw [data_cons s hp]; simp [body, hm]
  have SP0 : spelt s.data.toList = -(numA 0 (s.extract 1 s.size).data.toList : Int) := by rw [data_cons s hp]; simp [spelt, hm]
  have BD1 := Lib.hid BD0
  have SP1 := Lib.hid SP0
  clear BD0 SP0
  have HM := Lib.hid hm
  clear hm
  by_cases c1 : s.size - 1 < 1
  · have c1a : ((s.size - 1 : Nat) : Int) < 1 := by omega
    go_enter Tryd.func118, Tryd.ntmps118
    go_wp2
    go_ret2
    exact ⟨ret_read (read_no (not_form (.inl (by rw [← BD1.out]; simp; omega)))), Below.refl _ _⟩
  have c1a : 1 ≤ ((s.size - 1 : Nat) : Int) := by omega
  by_cases c2 : 18 < s.size - 1
  · have c2a : 18 < ((s.size - 1 : Nat) : Int) := by omega
    go_enter Tryd.func118, Tryd.ntmps118
    go_wp2
    go_ret2
    exact ⟨ret_read (read_no (not_form (.inr (.inl (by rw [← BD1.out]; simp; omega))))), Below.refl _ _⟩
  have c2a : ((s.size - 1 : Nat) : Int) ≤ 18 := by omega
  have TS0 : (s.extract 1 s.size).size = s.size - 1 := by simp
  have TS := Lib.hid TS0
  clear TS0
  go_enter Tryd.func118, Tryd.ntmps118
  go_wp2
  generalize s.extract 1 s.size = t at *
  have h18 : t.size ≤ 18 := by have := TS.out; omega
  have hlt2 : t.size < s.size := by have := TS.out; omega
  obtain ⟨BD⟩ : ∃ _ : Hid (body s.data.toList = t.data.toList), True := ⟨Lib.hid BD1.out.symm, trivial⟩
  clear c1 c2 c1a c2a
  go_loop [5, 6] (fun n i => ∃ k : Nat, k ≤ t.size ∧ i = .int .i64 k ∧ n = .int .i64 (numA 0 (t.data.toList.take k) : Nat) ∧ AllD (t.data.toList.take k)) (fun _ i => t.size - (intOf i).toNat)
  case atStart => exact ⟨0, Nat.zero_le _, rfl, rfl, fun c hc => by simp at hc⟩
  case round =>
    obtain ⟨k, hk, rfl, rfl, hall⟩ := hrel
    have HA := Lib.hid hall
    clear hall
    by_cases hlt : k < t.size
    · have hb := num_bound t k hlt h18 HA.out
      cases h1 : dgB (t[k].toNat : Int) with
      | true =>
        have hd : 48 ≤ (t[k].toNat : Int) ∧ (t[k].toNat : Int) ≤ 57 := by simpa [dgB] using h1
        have hd1 := hd.1
        have hd2 := hd.2
        have NS := Lib.hid (num_step t k hlt h1)
        clear hd
        go_wp2_with (go_at_call 137; refine (l01Digit_any _ _).mono ?_; rintro e w' ⟨rfl, rfl⟩)
        go_round
        case rel => exact ⟨k + 1, by omega, by go_num, by rw [← NS.out], all_step t k hlt HA.out h1⟩
        case measure => simp [intOf]; omega
      | false =>
        have NA := Lib.hid (not_all t k hlt h1)
        go_wp2_with (go_at_call 137; refine (l01Digit_any _ _).mono ?_; rintro e w' ⟨rfl, rfl⟩)
        go_ret2
        exact ⟨ret_read (read_no (not_form (.inr (.inr (by rw [BD.out]; exact NA.out))))), Below.refl _ _⟩
    · obtain rfl : k = t.size := by omega
      have hnt := num_take t
      have hat := all_take t HA.out
      have hbt := num_all t h18 hat
      have HNT := Lib.hid hnt
      have HAT := Lib.hid hat
      clear hnt hat
      have hb2 : -9223372036854775808 ≤ -(numA 0 (t.data.toList.take t.size) : Int) := by omega
      have hb3 : -(numA 0 (t.data.toList.take t.size) : Int) ≤ 9223372036854775807 := by omega
      have hb2' := Lib.hid hb2
      have hb3' := Lib.hid hb3
      clear hb2 hb3
      go_wp2_with (go_at_call 127; refine (l01Dec_any _ _ hb2'.out hb3'.out).mono ?_; rintro e w1 ⟨rfl, hb1⟩)
      · have h : (!(Lib.itoa (-(numA 0 (t.data.toList.take t.size) : Int)) == s.toList)) = true := by assumption
        go_ret2
        exact ⟨ret_read (fin_no (by rw [SP1.out, HNT.out]) h), hb1⟩
      · have h : (!(Lib.itoa (-(numA 0 (t.data.toList.take t.size) : Int)) == s.toList)) = false := by assumption
        go_ret2
        exact ⟨ret_read (fin_yes (by rw [SP1.out, HNT.out]) h (by rw [BD.out]; simpa using h18) (by rw [BD.out]; exact HAT.out)), hb1⟩

set_option maxHeartbeats 1000000 in
theorem l01Number_pos (s : ByteArray) (w : World) (hs : s.size ≤ maxLen) (hp : 0 < s.size) (hm : ¬ s[0].toNat = 45) :
    Calls Tryd.prog 118 #[.string s] w fun e w' => e = .returned (.tuple #[.int .i64 (readV s.data.toList), .bool (readB s.data.toList)]) ∧ Below w.heap.size w w' := by
  unfold maxLen at hs
  have hne : s.toList.isEmpty = false := toList_ne hp
  have hne2 : ¬ s.toList = [] := by simpa using hne
  have hma : (((s[0].toNat : Nat) : Int) == 45) = false := by simp; omega
  have BD0 : body s.data.toList = s.data.toList := by rw [data_cons s hp]; simp [body, hm]
  have SP0 : spelt s.data.toList = (numA 0 s.data.toList : Int) := by rw [data_cons s hp]; simp [spelt, hm]
  have BD := Lib.hid BD0
  have SP1 := Lib.hid SP0
  clear BD0 SP0
  have HM := Lib.hid hm
  clear hm
  have c1a : 1 ≤ (s.size : Int) := by omega
  by_cases c2 : 18 < s.size
  · have c2a : 18 < (s.size : Int) := by omega
    go_enter Tryd.func118, Tryd.ntmps118
    go_wp2
    go_ret2
    exact ⟨ret_read (read_no (not_form (.inr (.inl (by rw [BD.out]; simp; omega))))), Below.refl _ _⟩
  have c2a : (s.size : Int) ≤ 18 := by omega
  have h18 : s.size ≤ 18 := by omega
  go_enter Tryd.func118, Tryd.ntmps118
  go_wp2
  clear c2 c1a c2a
  go_loop [5, 6] (fun n i => ∃ k : Nat, k ≤ s.size ∧ i = .int .i64 k ∧ n = .int .i64 (numA 0 (s.data.toList.take k) : Nat) ∧ AllD (s.data.toList.take k)) (fun _ i => s.size - (intOf i).toNat)
  case atStart => exact ⟨0, Nat.zero_le _, rfl, rfl, fun c hc => by simp at hc⟩
  case round =>
    obtain ⟨k, hk, rfl, rfl, hall⟩ := hrel
    have HA := Lib.hid hall
    clear hall
    by_cases hlt : k < s.size
    · have hb := num_bound s k hlt h18 HA.out
      cases h1 : dgB (s[k].toNat : Int) with
      | true =>
        have hd : 48 ≤ (s[k].toNat : Int) ∧ (s[k].toNat : Int) ≤ 57 := by simpa [dgB] using h1
        have hd1 := hd.1
        have hd2 := hd.2
        have NS := Lib.hid (num_step s k hlt h1)
        clear hd
        go_wp2_with (go_at_call 137; refine (l01Digit_any _ _).mono ?_; rintro e w' ⟨rfl, rfl⟩)
        go_round
        case rel => exact ⟨k + 1, by omega, by go_num, by rw [← NS.out], all_step s k hlt HA.out h1⟩
        case measure => simp [intOf]; omega
      | false =>
        have NA := Lib.hid (not_all s k hlt h1)
        go_wp2_with (go_at_call 137; refine (l01Digit_any _ _).mono ?_; rintro e w' ⟨rfl, rfl⟩)
        go_ret2
        exact ⟨ret_read (read_no (not_form (.inr (.inr (by rw [BD.out]; exact NA.out))))), Below.refl _ _⟩
    · obtain rfl : k = s.size := by omega
      have hnt := num_take s
      have hat := all_take s HA.out
      have hbt := num_all s h18 hat
      have HNT := Lib.hid hnt
      have HAT := Lib.hid hat
      clear hnt hat
      have hb2 : -9223372036854775808 ≤ (numA 0 (s.data.toList.take s.size) : Int) := by omega
      have hb3 : (numA 0 (s.data.toList.take s.size) : Int) ≤ 9223372036854775807 := by omega
      have hb2' := Lib.hid hb2
      have hb3' := Lib.hid hb3
      clear hb2 hb3
      go_wp2_with (go_at_call 127; refine (l01Dec_any _ _ hb2'.out hb3'.out).mono ?_; rintro e w1 ⟨rfl, hb1⟩)
      · have h : (!(Lib.itoa ((numA 0 (s.data.toList.take s.size) : Int)) == s.toList)) = true := by assumption
        go_ret2
        exact ⟨ret_read (fin_no (by rw [SP1.out, HNT.out]) h), hb1⟩
      · have h : (!(Lib.itoa ((numA 0 (s.data.toList.take s.size) : Int)) == s.toList)) = false := by assumption
        go_ret2
        exact ⟨ret_read (fin_yes (by rw [SP1.out, HNT.out]) h (by rw [BD.out]; simpa using h18) (by rw [BD.out]; exact HAT.out)), hb1⟩

theorem l01Number_any (s : ByteArray) (w : World) (hs : s.size ≤ maxLen) :
    Calls Tryd.prog 118 #[.string s] w fun e w' => e = .returned (.tuple #[.int .i64 (readV s.data.toList), .bool (readB s.data.toList)]) ∧ Below w.heap.size w w' := by
  by_cases h0 : s.size = 0
  · obtain rfl : s = ByteArray.empty := ByteArray.size_eq_zero_iff.1 h0
    go_enter Tryd.func118, Tryd.ntmps118
    go_wp2
    go_ret2
    exact ⟨ret_read (read_no (not_form (.inl (by decide)))), Below.refl _ _⟩
  · by_cases hm : (s[0]'(by omega)).toNat = 45
    · exact l01Number_neg s w hs (by omega) hm
    · exact l01Number_pos s w hs (by omega) hm

end Go.Proofs.YtbnihalbepffoaaDoor.dec
