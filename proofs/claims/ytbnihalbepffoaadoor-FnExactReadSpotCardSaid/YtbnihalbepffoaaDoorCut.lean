/- A text is cut at a byte; two digits are read. -/
import Derived.Test.YtbnihalbepffoaaDoorShelf2
import Derived.Test.YtbnihalbepffoaaDoorHours
import Derived.Test.YtbnihalbepffoaaDoorSplit
import Derived.Lib.IndexLaws
import Derived.Laws.RangeAny
namespace Go.Proofs.YtbnihalbepffoaaDoor.dec
open Go.ChangeShapes Go.WideShapes Go.ChangeAt Go.RowKit Go.Proofs.YtbnihalbepffoaaDoor.num

/-- What stands before and behind the first byte c. -/
def cutL (c : UInt8) : List UInt8 → List UInt8 × List UInt8 × Bool
  | [] => ([], [], false)
  | x :: r => if x = c then ([], r, true) else (x :: (cutL c r).1, (cutL c r).2.1, (cutL c r).2.2)
theorem cutL_no (c : UInt8) : ∀ l : List UInt8, c ∉ l → cutL c l = (l, [], false)
  | [], _ => rfl
  | x :: l, h => by
    have hx : ¬ x = c := fun e => h (by simp [e])
    have hp : c ∉ l := fun e => h (by simp [e])
    simp [cutL, hx, cutL_no c l hp]
theorem cutL_at (c : UInt8) : ∀ p r : List UInt8, c ∉ p → cutL c (p ++ c :: r) = (p, r, true)
  | [], r, _ => by simp [cutL]
  | x :: p, r, h => by
    have hx : ¬ x = c := fun e => h (by simp [e])
    have hp : c ∉ p := fun e => h (by simp [e])
    simp [cutL, hx, cutL_at c p r hp]
theorem cutL_len (c : UInt8) : ∀ l : List UInt8, (cutL c l).1.length ≤ l.length ∧ (cutL c l).2.1.length ≤ l.length
  | [] => by simp [cutL]
  | x :: l => by
    have := cutL_len c l
    simp only [cutL]
    split
    · simp
    · simp; omega
theorem index_cases (s : ByteArray) (c : UInt8) : (Lib.indexByte s.data.toList c = -1 ∧ c ∉ s.data.toList) ∨ ∃ k : Nat, Lib.indexByte s.data.toList c = k ∧ k < s.size ∧ cutL c s.data.toList = ((s.extract 0 k).data.toList, (s.extract (k + 1) s.size).data.toList, true) := by
  have h0 := Lib.indexByte_ge s.data.toList c
  by_cases h : Lib.indexByte s.data.toList c = -1
  · refine .inl ⟨h, fun hm => ?_⟩
    obtain ⟨k, hk⟩ := List.mem_iff_getElem?.1 hm
    exact Lib.indexByte_none h k hk
  · obtain ⟨k, hk⟩ := Int.eq_ofNat_of_zero_le (by omega : 0 ≤ Lib.indexByte s.data.toList c)
    have hs := Lib.indexByte_some hk
    obtain ⟨hlt, hc⟩ := List.getElem?_eq_some_iff.1 hs.1
    have hlt2 : k < s.size := by simpa using hlt
    refine .inr ⟨k, hk, hlt2, ?_⟩
    have e : s.data.toList = s.data.toList.take k ++ c :: s.data.toList.drop (k + 1) := by
      rw [← hc, ← List.drop_eq_getElem_cons hlt, List.take_append_drop]
    have hno : c ∉ s.data.toList.take k := fun hm => by
      obtain ⟨j, hj⟩ := List.mem_iff_getElem?.1 hm
      have hjk : j < k := by
        have := (List.getElem?_eq_some_iff.1 hj).1
        simp at this; omega
      rw [List.getElem?_take_of_lt hjk] at hj
      exact hs.2 j hjk hj
    rw [split.ext_list, split.ext_list]
    conv => lhs; rw [e]
    rw [cutL_at c _ _ hno]
    simp
    exact (List.take_of_length_le (by simp)).symm
theorem mkb (s : ByteArray) : (⟨s.data.toList.toArray⟩ : ByteArray) = s := by
  apply ByteArray.ext; simp
theorem below_drewN {B : Nat} {a w : World} (h : Below B a w) (q : Nat) : Below B a (w.drewN q) := ⟨h.os, h.tape, h.output, h.size, h.block⟩
/-- The cut's answer. -/
def cut1 (c : UInt8) (l : List UInt8) : ByteArray := ⟨(cutL c l).1.toArray⟩
def cut2 (c : UInt8) (l : List UInt8) : ByteArray := ⟨(cutL c l).2.1.toArray⟩
def cut3 (c : UInt8) (l : List UInt8) : Bool := (cutL c l).2.2
theorem ret_cut_no {s : ByteArray} {c : UInt8} (h : c ∉ s.data.toList) : Ending.returned (.tuple #[.string s, .string ⟨#[]⟩, .bool false]) = .returned (.tuple #[.string (cut1 c s.data.toList), .string (cut2 c s.data.toList), .bool (cut3 c s.data.toList)]) := by
  rw [cut1, cut2, cut3, cutL_no c _ h]
theorem ret_cut_at {s : ByteArray} {c : UInt8} {k : Nat} (h : cutL c s.data.toList = ((s.extract 0 k).data.toList, (s.extract (k + 1) s.size).data.toList, true)) : Ending.returned (.tuple #[.string (s.extract 0 k), .string (s.extract (k + 1) s.size), .bool true]) = .returned (.tuple #[.string (cut1 c s.data.toList), .string (cut2 c s.data.toList), .bool (cut3 c s.data.toList)]) := by
  rw [cut1, cut2, cut3, h]
set_option maxHeartbeats 400000 in
theorem liteCut (s : ByteArray) (c : UInt8) (w : World) (hs : s.size ≤ maxLen) :
    Calls Tryd.prog 95 #[.string s, .string ⟨#[c]⟩] w fun e w' => e = .returned (.tuple #[.string (cut1 c s.data.toList), .string (cut2 c s.data.toList), .bool (cut3 c s.data.toList)]) ∧ Below w.heap.size w w' := by
  unfold maxLen at hs
  rcases index_cases s c with ⟨hi, hno⟩ | ⟨k, hi, hk, hc⟩
  · have HI := Lib.hid hi
    clear hi
    go_enter Tryd.func95, Tryd.ntmps95
    go_wp2_with (go_at_call 121; refine (Tryd.stringslite_Index_one s c _).mono ?_; rw [HI.out]; rintro e w' ⟨rfl, rfl⟩)
    go_ret3
    exact ⟨ret_cut_no hno, Below.refl _ _⟩
  · have HI := Lib.hid hi
    have HC := Lib.hid hc
    clear hi hc
    have hw : IntKind.i64.wrap ((k : Int) + 1) = (k : Int) + 1 := by simp [IntKind.wrap, IntKind.bits, IntKind.signed]; omega
    go_enter Tryd.func95, Tryd.ntmps95
    go_wp2_with (go_at_call 121; refine (Tryd.stringslite_Index_one s c _).mono ?_; rw [HI.out]; rintro e w' ⟨rfl, rfl⟩)
    go_quiet (fail)
    go_wp2
    go_ret3
    exact ⟨ret_cut_at HC.out, below_drewN (Below.refl _ _) _⟩
theorem Cut_any (s : ByteArray) (c : UInt8) (w : World) (hs : s.size ≤ maxLen) :
    Calls Tryd.prog 54 #[.string s, .string ⟨#[c]⟩] w fun e w' => e = .returned (.tuple #[.string (cut1 c s.data.toList), .string (cut2 c s.data.toList), .bool (cut3 c s.data.toList)]) ∧ Below w.heap.size w w' := by
  go_enter Tryd.func54, Tryd.ntmps54
  go_wp2_with (go_at_call 95; refine (liteCut s c _ hs).mono ?_; rintro e w1 ⟨rfl, hb1⟩)
  go_ret3
  exact ⟨rfl, hb1⟩

theorem isDigit_any (n : Int) (w : World) :
    Calls Tryd.prog 102 #[.int .i32 n] w fun e w' => e = .returned (.bool (dgB n)) ∧ w = w' := by
  by_cases h3 : n < 48
  · go_enter Tryd.func102, Tryd.ntmps102
    go_wp2
    all_goals (go_ret; exact ⟨ret_bool (by rw [Bool.eq_iff_iff]; simp [dgB]; omega), rfl⟩)
  · go_enter Tryd.func102, Tryd.ntmps102
    go_wp2
    all_goals (go_ret; exact ⟨ret_bool (by rw [Bool.eq_iff_iff]; simp [dgB]; omega), rfl⟩)
/-- Two digits, the first up to m. -/
def Two (m : Nat) (l : List UInt8) : Prop := l.length = 2 ∧ AllD l ∧ ∀ c, l[0]? = some c → c.toNat ≤ m
open Classical in
noncomputable def twoB (m : Nat) (l : List UInt8) : Bool := decide (Two m l)
open Classical in
noncomputable def twoV (m : Nat) (l : List UInt8) : Int := if Two m l then (numA 0 l : Int) else 0
theorem ret_two_no {m : Nat} {l : List UInt8} (h : ¬ Two m l) : Ending.returned (.tuple #[.int .i64 0, .bool false]) = .returned (.tuple #[.int .i64 (twoV m l), .bool (twoB m l)]) := by
  simp [twoV, twoB, h]
theorem ret_two_yes {m : Nat} {l : List UInt8} {v : Int} (h : Two m l) (hv : v = (numA 0 l : Int)) : Ending.returned (.tuple #[.int .i64 v, .bool true]) = .returned (.tuple #[.int .i64 (twoV m l), .bool (twoB m l)]) := by
  simp [twoV, twoB, h, hv]
theorem dgB_hi {n : Int} (h : 128 ≤ n) : dgB n = false := by simp [dgB]; omega
theorem two_bad {m : Nat} {s : ByteArray} {k : Nat} (h : k < s.size) (h1 : dgB (s[k].toNat : Int) = false) : ¬ Two m s.data.toList := fun g => not_all s k h h1 g.2.1
theorem two_len {m : Nat} {s : ByteArray} (h : s.size ≠ 2) : ¬ Two m s.data.toList := fun g => h (by have := g.1; simpa using this)
theorem dig_le {s : ByteArray} {k : Nat} (h : k < s.size) (g : AllD s.data.toList) : s[k].toNat ≤ 57 := (g s[k] (List.getElem_mem (l := s.data.toList) (by simpa using h))).2
set_option maxHeartbeats 1000000 in
theorem readTwo_any (s : ByteArray) (w : World) :
    Calls Tryd.prog 60 #[.string s] w fun e w' => e = .returned (.tuple #[.int .i64 (twoV 57 s.data.toList), .bool (twoB 57 s.data.toList)]) ∧ Below w.heap.size w w' := by
  by_cases h0 : s.size = 2
  · have h18 : s.size ≤ 18 := by omega
    have hsz : ((s.size : Int) != 2) = false := by simp; omega
    go_enter Tryd.func60, Tryd.ntmps60
    go_wp2
    go_loopw [4, 6] (fun n _ w' => ∃ pos : Nat, w' = w.iter s pos ∧ pos ≤ s.size ∧ n = .int .i64 (numA 0 (s.data.toList.take pos) : Nat) ∧ AllD (s.data.toList.take pos)) (fun _ _ w' => s.size - w'.iterPos w.heap.size)
    case atStart => exact ⟨0, rfl, Nat.zero_le _, rfl, fun c hc => by simp at hc⟩
    case round =>
      obtain ⟨pos, rfl, hps, rfl, hall⟩ := hrel
      have HA := Lib.hid hall
      clear hall
      by_cases hp : pos < s.size
      · by_cases ha : s[pos].toNat < 128
        · have hnx : ∀ ty, (Instr.next (.pointer (some ⟨w.heap.size, 0, none⟩)) true ty).run Tryd.prog (w.iter s pos) = _ := fun ty => run_next_ascii w s pos ty hp ha
          have hb := num_bound s pos hp h18 HA.out
          cases h1 : dgB (s[pos].toNat : Int) with
          | true =>
            have hd : 48 ≤ (s[pos].toNat : Int) ∧ (s[pos].toNat : Int) ≤ 57 := by simpa [dgB] using h1
            have hd1 := hd.1
            have hd2 := hd.2
            have NS := Lib.hid (num_step s pos hp h1)
            clear hd
            go_wp2_with (go_at_call 102; refine (isDigit_any _ _).mono ?_; rintro e w' ⟨rfl, rfl⟩)
            go_roundw
            case rel => exact ⟨pos + 1, rfl, by omega, by rw [← NS.out], all_step s pos hp HA.out h1⟩
            case measure => simp; omega
          | false =>
            go_wp2_with (go_at_call 102; refine (isDigit_any _ _).mono ?_; rintro e w' ⟨rfl, rfl⟩)
            go_ret2
            exact ⟨ret_two_no (two_bad hp h1), (Below.refl _ _).alloc (Nat.le_refl _) _⟩
        · have hnx : ∀ ty, (Instr.next (.pointer (some ⟨w.heap.size, 0, none⟩)) true ty).run Tryd.prog (w.iter s pos) = _ := fun ty => run_next_any w s pos ty hp
          have hd := decode_high s pos hp (by omega)
          have HB := Lib.hid (two_bad (m := 57) hp (dgB_hi (by omega)))
          generalize Utf8.decode s pos = rw at *
          obtain ⟨r, wd⟩ := rw
          have h2 : dgB (r : Int) = false := dgB_hi (by have := hd.1; simp at this; omega)
          go_wp2_with (go_at_call 102; refine (isDigit_any _ _).mono ?_; rintro e w' ⟨rfl, rfl⟩)
          go_ret2
          exact ⟨ret_two_no HB.out, (Below.refl _ _).alloc (Nat.le_refl _) _⟩
      · have hnx : ∀ ty, (Instr.next (.pointer (some ⟨w.heap.size, 0, none⟩)) true ty).run Tryd.prog (w.iter s pos) = _ := fun ty => run_next_end w s pos ty hp
        go_wp2
        go_ret2
        obtain rfl : pos = s.size := by omega
        have HD := all_take s HA.out
        exact ⟨ret_two_yes ⟨by simpa using h0, HD, fun c hc => (HD c (List.mem_of_getElem? hc)).2⟩ (by rw [num_take]), (Below.refl _ _).alloc (Nat.le_refl _) _⟩
  · have hsz : ((s.size : Int) != 2) = true := by simp; omega
    go_enter Tryd.func60, Tryd.ntmps60
    go_wp2
    go_ret2
    exact ⟨ret_two_no (two_len h0), Below.refl _ _⟩

theorem list_two {s : ByteArray} (h : s.size = 2) : s.data.toList = [s[0], s[1]] := by
  have e0 : s.data.toList.length = 2 := by simpa using h
  match hl : s.data.toList, e0 with
  | [a, b], _ =>
    have h0 : s[0] = a := by
      have : s[0] = s.data.toList[0]'(by omega) := rfl
      rw [this]; simp [hl]
    have h1 : s[1] = b := by
      have : s[1] = s.data.toList[1]'(by omega) := rfl
      rw [this]; simp [hl]
    rw [h0, h1]
theorem two_iff {m : Nat} {s : ByteArray} (h : s.size = 2) (hm : m ≤ 57) : Two m s.data.toList ↔ 48 ≤ s[0].toNat ∧ s[0].toNat ≤ m ∧ 48 ≤ s[1].toNat ∧ s[1].toNat ≤ 57 := by
  rw [list_two h]
  simp only [Two, AllD, List.length_cons, List.length_nil, List.mem_cons, List.not_mem_nil, or_false, forall_eq_or_imp, forall_eq, List.getElem?_cons_zero, Option.some.injEq]
  constructor
  · rintro ⟨_, ⟨h1, h2⟩, h3⟩
    have := h3 _ rfl
    omega
  · rintro ⟨h1, h2, h3, h4⟩
    exact ⟨by simp, ⟨⟨h1, by omega⟩, h3, h4⟩, fun c hc => by subst hc; exact h2⟩
set_option maxHeartbeats 1000000 in
theorem l02Two_any (s : ByteArray) (w : World) :
    Calls Tryd.prog 119 #[.string s] w fun e w' => e = .returned (.tuple #[.int .i64 (twoV 53 s.data.toList), .bool (twoB 53 s.data.toList)]) ∧ Below w.heap.size w w' := by
  by_cases h0 : s.size = 2
  · have hsz : ((s.size : Int) != 2) = false := by simp; omega
    by_cases hb : Two 53 s.data.toList
    · obtain ⟨h1, h2, h3, h4⟩ := (two_iff h0 (by decide)).1 hb
      have HB := Lib.hid hb
      clear hb
      have f1 : decide ((s[0].toNat : Int) < 48) = false := by simp; omega
      have f2 : decide (53 < (s[0].toNat : Int)) = false := by simp; omega
      have f3 : decide ((s[1].toNat : Int) < 48) = false := by simp; omega
      have f4 : decide (57 < (s[1].toNat : Int)) = false := by simp; omega
      go_enter Tryd.func119, Tryd.ntmps119
      go_wp2
      go_quiet (fail)
      go_wp2
      go_ret2
      exact ⟨ret_two_yes HB.out (by rw [list_two h0]; simp [numA]; omega), below_drewN (Below.refl _ _) _⟩
    · have HB := Lib.hid hb
      have hb2 := mt (two_iff h0 (by decide)).2 hb
      clear hb
      by_cases h1 : s[0].toNat < 48
      · have f1 : decide ((s[0].toNat : Int) < 48) = true := by simp; omega
        go_enter Tryd.func119, Tryd.ntmps119
        go_wp2
        all_goals (go_ret2; exact ⟨ret_two_no HB.out, Below.refl _ _⟩)
      · have f1 : decide ((s[0].toNat : Int) < 48) = false := by simp; omega
        by_cases h2 : 53 < s[0].toNat
        · have f2 : decide (53 < (s[0].toNat : Int)) = true := by simp; omega
          go_enter Tryd.func119, Tryd.ntmps119
          go_wp2
          all_goals (go_ret2; exact ⟨ret_two_no HB.out, Below.refl _ _⟩)
        · have f2 : decide (53 < (s[0].toNat : Int)) = false := by simp; omega
          by_cases h3 : s[1].toNat < 48
          · have f3 : decide ((s[1].toNat : Int) < 48) = true := by simp; omega
            go_enter Tryd.func119, Tryd.ntmps119
            go_wp2
            all_goals (go_ret2; exact ⟨ret_two_no HB.out, Below.refl _ _⟩)
          · have f3 : decide ((s[1].toNat : Int) < 48) = false := by simp; omega
            have f4 : decide (57 < (s[1].toNat : Int)) = true := by simp; omega
            go_enter Tryd.func119, Tryd.ntmps119
            go_wp2
            all_goals (go_ret2; exact ⟨ret_two_no HB.out, Below.refl _ _⟩)
  · have hsz : ((s.size : Int) != 2) = true := by simp; omega
    go_enter Tryd.func119, Tryd.ntmps119
    go_wp2
    all_goals (go_ret2; exact ⟨ret_two_no (two_len h0), Below.refl _ _⟩)

end Go.Proofs.YtbnihalbepffoaaDoor.dec
