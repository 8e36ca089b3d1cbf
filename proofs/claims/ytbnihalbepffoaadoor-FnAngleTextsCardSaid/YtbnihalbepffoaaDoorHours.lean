/- Two digits, and hours: contracts of the program and of the model. -/
import Derived.Test.YtbnihalbepffoaaDoorReadImpl
import Derived.Lib.Hide
namespace Go.Proofs.YtbnihalbepffoaaDoor.dec
open Go.ChangeShapes Go.WideShapes Go.ChangeAt Go.RowKit Go.Proofs.YtbnihalbepffoaaDoor.num

theorem cat (a b : List UInt8) : (⟨a.toArray⟩ : ByteArray) ++ ⟨b.toArray⟩ = ⟨(a ++ b).toArray⟩ := by
  apply ByteArray.ext
  simp
theorem ret_sb {a b : ByteArray} (h : a = b) : Ending.returned (.string a) = .returned (.string b) := by rw [h]
theorem itoa_len (n : Int) (h0 : -9223372036854775808 ≤ n) (h1 : n ≤ 9223372036854775807) : (Lib.itoa n).length ≤ 21 := Lib.itoa_length_le n h0 h1
/-- The two digits of a number below 100. -/
def pair (n : Int) : List UInt8 := Lib.itoa (n / 10) ++ Lib.itoa (n % 10)
theorem itoa_one {n : Int} (h1 : 0 ≤ n) (h2 : n ≤ 9) : Lib.itoa n = [UInt8.ofNat (48 + n.toNat)] := by
  obtain ⟨u, rfl⟩ := Int.eq_ofNat_of_zero_le h1
  rw [Lib.itoa_nonneg, Lib.decDigits, dif_pos (by omega)]
  rfl
theorem pair_small {n : Int} (h1 : 0 ≤ n) (h2 : n < 10) : 48 :: Lib.itoa n = pair n := by
  rw [pair, itoa_one (by omega) (by omega : n / 10 ≤ 9), show n / 10 = 0 by omega, show n % 10 = n by omega]
  rfl
theorem pair_big {n : Int} (h1 : 10 ≤ n) (h2 : n ≤ 99) : Lib.itoa n = pair n := by
  rw [pair, itoa_one (by omega) (by omega : n / 10 ≤ 9), itoa_one (by omega) (by omega : n % 10 ≤ 9)]
  obtain ⟨u, rfl⟩ := Int.eq_ofNat_of_zero_le (by omega : 0 ≤ n)
  rw [Lib.itoa_nonneg, Lib.decDigits, dif_neg (by omega), Lib.decDigits, dif_pos (by omega)]
  rfl
theorem pair_len {n : Int} (h1 : 0 ≤ n) (h2 : n ≤ 99) : (pair n).length = 2 := by
  rw [pair, itoa_one (by omega) (by omega : n / 10 ≤ 9), itoa_one (by omega) (by omega : n % 10 ≤ 9)]
  rfl
set_option maxHeartbeats 400000 in
theorem l02Pair_any (n : Int) (w : World) (h1 : 0 ≤ n) (h2 : n ≤ 99) :
    Calls Tryd.prog 128 #[.int .i64 n] w fun e w' => e = .returned (.string ⟨(pair n).toArray⟩) ∧ Below w.heap.size w w' := by
  have k1 := Lib.hid (show -9223372036854775808 ≤ n / 10 by omega)
  have k2 := Lib.hid (show n / 10 ≤ 9223372036854775807 by omega)
  have k3 := Lib.hid (show -9223372036854775808 ≤ n % 10 by omega)
  have k4 := Lib.hid (show n % 10 ≤ 9223372036854775807 by omega)
  have l1 := itoa_len _ k1.out k2.out
  have l2 := itoa_len _ k3.out k4.out
  go_enter Tryd.func128, Tryd.ntmps128
  go_wp2_with fail
  refine (l01Dec_any _ _ k1.out k2.out).mono ?_
  rintro e w1 ⟨rfl, hb1⟩
  go_wp2_with fail
  refine (l01Dec_any _ _ k3.out k4.out).mono ?_
  rintro e w2 ⟨rfl, hb2⟩
  go_wp2
  go_ret
  exact ⟨ret_sb (by rw [cat, pair]), hb1.trans (hb2.mono hb1.size)⟩
set_option maxHeartbeats 400000 in
theorem twoDigits_any (n : Int) (w : World) (h1 : 0 ≤ n) (h2 : n ≤ 99) (ht : Lib.TabIs Tryd.prog w "internal/strconv.uint64pow10" .u64 Lib.pow10Tab) :
    Calls Tryd.prog 58 #[.int .i64 n] w fun e w' => e = .returned (.string ⟨(pair n).toArray⟩) ∧ Below w.heap.size w w' := by
  have k1 := Lib.hid (show -9223372036854775808 ≤ n by omega)
  have k2 := Lib.hid (show n ≤ 9223372036854775807 by omega)
  have l1 := itoa_len _ k1.out k2.out
  have HT := Lib.hid ht
  clear ht
  by_cases hn : n < 10
  · go_enter Tryd.func58, Tryd.ntmps58
    go_wp2_with (go_at_call 57; refine (Decimal_any _ _ k1.out k2.out HT.out).mono ?_; rintro e w1 ⟨rfl, hbw1⟩)
    go_ret
    exact ⟨ret_sb (a := ⟨(48 :: Lib.itoa n).toArray⟩) (by rw [pair_small h1 hn]), hbw1⟩
  · go_enter Tryd.func58, Tryd.ntmps58
    go_wp2_with (go_at_call 57; refine (Decimal_any _ _ k1.out k2.out HT.out).mono ?_; rintro e w1 ⟨rfl, hbw1⟩)
    go_ret
    exact ⟨ret_sb (by rw [pair_big (by omega) h2]), hbw1⟩
/-- The text of hours. -/
def hourL (n : Int) : List UInt8 := Lib.itoa (n / 54000) ++ [104] ++ pair (n % 54000 / 900) ++ [109]

theorem hour_cat (n : Int) : (⟨(Lib.itoa (n / 54000)).toArray⟩ : ByteArray) ++ ⟨#[104]⟩ ++ ⟨(pair (n % 54000 / 900)).toArray⟩ ++ ⟨#[109]⟩ = ⟨(hourL n).toArray⟩ := by
  rw [show (⟨#[104]⟩ : ByteArray) = ⟨[104].toArray⟩ from rfl, show (⟨#[109]⟩ : ByteArray) = ⟨[109].toArray⟩ from rfl, cat, cat, cat, hourL]
theorem l00In_any (n a b : Int) (w : World) :
    Calls Tryd.prog 84 #[.int .i64 n, .int .i64 a, .int .i64 b] w fun e w' => e = .returned (.bool (inB n a b)) ∧ w = w' := by
  by_cases h1 : a ≤ n
  · by_cases h2 : n ≤ b
    · go_enter Tryd.func84, Tryd.ntmps84
      go_wp2
      all_goals (go_ret; exact ⟨ret_bool (by rw [Bool.eq_iff_iff]; simp [inB]; omega), rfl⟩)
    · go_enter Tryd.func84, Tryd.ntmps84
      go_wp2
      all_goals (go_ret; exact ⟨ret_bool (by rw [Bool.eq_iff_iff]; simp [inB]; omega), rfl⟩)
  · have h1' : decide (a ≤ n) = false := by simpa using h1
    go_enter Tryd.func84, Tryd.ntmps84
    go_wp2
    all_goals (go_ret; exact ⟨ret_bool (by rw [Bool.eq_iff_iff]; simp [inB]; omega), rfl⟩)
def hourOk (n : Int) : Prop := 0 ≤ n ∧ n ≤ 1295999 ∧ n % 900 = 0
instance (n : Int) : Decidable (hourOk n) := by unfold hourOk; infer_instance
/-- What 'HourText' gives. -/
def hourT (n : Int) : List UInt8 := if hourOk n then hourL n else []

set_option maxRecDepth 100000 in
set_option maxHeartbeats 400000 in
theorem HourText_any (n : Int) (w : World) (ht : Lib.TabIs Tryd.prog w "internal/strconv.uint64pow10" .u64 Lib.pow10Tab) :
    Calls Tryd.prog 13 #[.int .i64 n] w fun e w' => e = .returned (.string ⟨(hourT n).toArray⟩) ∧ Below w.heap.size w w' := by
  have HT := Lib.hid ht
  clear ht
  cases hb : inB n 0 1295999 with
  | false =>
    have HB := Lib.hid hb
    go_enter Tryd.func13, Tryd.ntmps13
    go_wp2_with (go_at_call 56; refine (within_any _ _ _ _).mono ?_; rintro e w' ⟨rfl, rfl⟩)
    go_ret
    exact ⟨ret_sb (a := ⟨[].toArray⟩) (by rw [hourT, if_neg (by have := HB.out; simp [inB] at this; unfold hourOk; omega)]), Below.refl _ _⟩
  | true =>
    have hn0 := (inB_of hb).1
    have hn1 := (inB_of hb).2
    by_cases hm : n % 900 = 0
    · have hma : ((n % 900) != 0) = false := by simp [hm]
      have HM := Lib.hid hm
      clear hm
      have HB := Lib.hid (inB_of hb)
      have k1 := Lib.hid (show -9223372036854775808 ≤ n / 54000 by have := HB.out; omega)
      have k2 := Lib.hid (show n / 54000 ≤ 9223372036854775807 by have := HB.out; omega)
      have k3 := Lib.hid (show 0 ≤ n % 54000 / 900 by have := HB.out; omega)
      have k4 := Lib.hid (show n % 54000 / 900 ≤ 99 by have := HB.out; omega)
      have l1 := itoa_len _ k1.out k2.out
      have l2 := Nat.le_of_eq (pair_len k3.out k4.out)
      go_enter Tryd.func13, Tryd.ntmps13
      go_wp2_with (go_at_call 56; refine (within_any _ _ _ _).mono ?_; rintro e w' ⟨rfl, rfl⟩)
      refine (Decimal_any _ _ k1.out k2.out HT.out).mono ?_
      rintro e w1 ⟨rfl, hb1⟩
      go_wp2_with fail
      refine (twoDigits_any _ _ k3.out k4.out (pow_below HT.out hb1)).mono ?_
      rintro e w2 ⟨rfl, hb2⟩
      go_wp2
      go_ret
      exact ⟨ret_sb (by rw [hour_cat, hourT, if_pos ⟨HB.out.1, HB.out.2, HM.out⟩]), hb1.trans (hb2.mono hb1.size)⟩
    · have hma : ((n % 900) != 0) = true := by simpa using hm
      have HM := Lib.hid hm
      clear hm
      go_enter Tryd.func13, Tryd.ntmps13
      go_wp2_with (go_at_call 56; refine (within_any _ _ _ _).mono ?_; rintro e w' ⟨rfl, rfl⟩)
      go_ret
      exact ⟨ret_sb (a := ⟨[].toArray⟩) (by rw [hourT, if_neg (fun h => HM.out h.2.2)]), Below.refl _ _⟩

end Go.Proofs.YtbnihalbepffoaaDoor.dec
