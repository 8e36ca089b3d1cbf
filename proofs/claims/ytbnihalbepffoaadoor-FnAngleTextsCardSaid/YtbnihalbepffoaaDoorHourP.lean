/- Hours are read: what a text of hours says, and the contracts of the program's function and of the model's. -/
import Derived.Test.YtbnihalbepffoaaDoorCut
namespace Go.Proofs.YtbnihalbepffoaaDoor.dec
open Go.ChangeShapes Go.WideShapes Go.ChangeAt Go.RowKit Go.Proofs.YtbnihalbepffoaaDoor.num

theorem read_form {l : List UInt8} (h : readB l = true) : IsForm l (readV l) := by
  have he : ∃ n, IsForm l n := by simpa [readB] using h
  have := read_yes he.choose_spec
  rw [this.2]; exact he.choose_spec
theorem itoa_allD {n : Int} (h : 0 ≤ n) : AllD (Lib.itoa n) := by
  obtain ⟨u, rfl⟩ := Int.eq_ofNat_of_zero_le h
  rw [Lib.itoa_nonneg]; exact allD_dec u
theorem not_in {l : List UInt8} {c : UInt8} (h : AllD l) (hc : c.toNat < 48 ∨ 57 < c.toNat) : c ∉ l := fun g => by have := h c g; omega
theorem pair_eq {n : Int} (h1 : 0 ≤ n) (h2 : n ≤ 99) : ∃ a b : UInt8, pair n = [a, b] ∧ (a.toNat : Int) = 48 + n / 10 ∧ (b.toNat : Int) = 48 + n % 10 := by
  refine ⟨_, _, by rw [pair, itoa_one (by omega) (by omega : n / 10 ≤ 9), itoa_one (by omega) (by omega : n % 10 ≤ 9)]; rfl, ?_, ?_⟩
  · rw [UInt8.toNat_ofNat']; omega
  · rw [UInt8.toNat_ofNat']; omega
theorem pair_num {n : Int} (h1 : 0 ≤ n) (h2 : n ≤ 99) : AllD (pair n) ∧ (numA 0 (pair n) : Int) = n := by
  obtain ⟨a, b, e, ha, hb⟩ := pair_eq h1 h2
  rw [e]
  refine ⟨fun c hc => ?_, ?_⟩
  · rcases List.mem_cons.1 hc with rfl | hc
    · omega
    · obtain rfl := List.mem_singleton.1 hc; omega
  · simp only [numA, List.foldl_cons, List.foldl_nil]; omega
theorem pair_two {m : Nat} {n : Int} (h1 : 0 ≤ n) (h2 : n ≤ 99) (h3 : n / 10 + 48 ≤ m) : Two m (pair n) := by
  refine ⟨pair_len h1 h2, (pair_num h1 h2).1, fun c hc => ?_⟩
  obtain ⟨a, b, e, ha, hb⟩ := pair_eq h1 h2
  rw [e] at hc
  simp at hc; subst hc; omega
theorem two_pair {m : Nat} {l : List UInt8} (_ : m ≤ 57) (h : Two m l) : pair (numA 0 l) = l ∧ (numA 0 l : Int) ≤ 10 * (m - 48) + 9 := by
  obtain ⟨h1, h2, h3⟩ := h
  match l, h1 with
  | [a, b], _ =>
    have ha := h2 a (by simp)
    have hb := h2 b (by simp)
    have hm2 := h3 a (by simp)
    have e : (numA 0 [a, b] : Int) = 10 * ((a.toNat : Int) - 48) + ((b.toNat : Int) - 48) := by
      simp only [numA, List.foldl_cons, List.foldl_nil]; omega
    refine ⟨?_, by omega⟩
    obtain ⟨x, y, ep, hx, hy⟩ := pair_eq (n := (numA 0 [a, b] : Int)) (by omega) (by omega)
    rw [ep]
    have e1 : x = a := UInt8.toNat_inj.1 (by omega)
    have e2 : y = b := UInt8.toNat_inj.1 (by omega)
    rw [e1, e2]
/-- The text l is the text of the angle a. -/
def IsHour (l : List UInt8) (a : Int) : Prop := hourOk a ∧ hourL a = l
theorem hour_split {l : List UInt8} {a : Int} (h : IsHour l a) : l = Lib.itoa (a / 54000) ++ 104 :: (pair (a % 54000 / 900) ++ [109]) ∧ IsForm (Lib.itoa (a / 54000)) (a / 54000) ∧ 0 ≤ a / 54000 ∧ a / 54000 ≤ 23 ∧ 0 ≤ a % 54000 / 900 ∧ a % 54000 / 900 ≤ 59 ∧ a = 54000 * (a / 54000) + 900 * (a % 54000 / 900) := by
  obtain ⟨⟨h1, h2, h3⟩, rfl⟩ := h
  refine ⟨by simp [hourL], ⟨by omega, by omega, rfl⟩, by omega, by omega, by omega, by omega, by omega⟩
theorem hour_cut {l : List UInt8} {a : Int} (h : IsHour l a) : cutL 104 l = (Lib.itoa (a / 54000), pair (a % 54000 / 900) ++ [109], true) ∧ cutL 109 (cutL 104 l).2.1 = (pair (a % 54000 / 900), [], true) := by
  obtain ⟨h1, h2, h3, h4, h5, h6, h7⟩ := hour_split h
  have e : cutL 104 l = (Lib.itoa (a / 54000), pair (a % 54000 / 900) ++ [109], true) := by
    rw [h1]; exact cutL_at 104 _ _ (not_in (itoa_allD h3) (by decide))
  refine ⟨e, ?_⟩
  rw [e]
  exact cutL_at 109 _ [] (not_in (pair_num h5 (by omega)).1 (by decide))
theorem hour_inj {l : List UInt8} {a b : Int} (ha : IsHour l a) (hb : IsHour l b) : a = b := by
  obtain ⟨_, a2, a3, a4, a5, a6, a7⟩ := hour_split ha
  obtain ⟨_, b2, b3, b4, b5, b6, b7⟩ := hour_split hb
  have c1 := (hour_cut ha).1.symm.trans (hour_cut hb).1
  have c2 := (hour_cut ha).2.symm.trans (hour_cut hb).2
  have e1 := congrArg Prod.fst c1
  have e2 := congrArg Prod.fst c2
  simp only at e1 e2
  rw [e1] at a2
  have e3 := form_inj a2 b2
  have p1 := (pair_num a5 (by omega)).2
  have p2 := (pair_num b5 (by omega)).2
  rw [e2] at p1
  omega
open Classical in
noncomputable def hourB (l : List UInt8) : Bool := decide (∃ a, IsHour l a)
open Classical in
noncomputable def hourV (l : List UInt8) : Int := if h : ∃ a, IsHour l a then h.choose else 0
theorem hour_yes {l : List UInt8} {a : Int} (h : IsHour l a) : hourB l = true ∧ hourV l = a := by
  have he : ∃ n, IsHour l n := ⟨a, h⟩
  refine ⟨by simp [hourB, he], ?_⟩
  unfold hourV
  rw [dif_pos he]
  exact hour_inj he.choose_spec h
theorem hour_no {l : List UInt8} (h : ∀ a, ¬ IsHour l a) : hourB l = false ∧ hourV l = 0 := by
  have he : ¬ ∃ n, IsHour l n := fun ⟨n, g⟩ => h n g
  exact ⟨by simp [hourB, he], by simp [hourV, he]⟩
theorem ret_hour {l : List UInt8} {v : Int} {b : Bool} (h : hourB l = b ∧ hourV l = v) : Ending.returned (.tuple #[.int .i64 v, .bool b]) = .returned (.tuple #[.int .i64 (hourV l), .bool (hourB l)]) := by rw [h.1, h.2]
theorem c1 (c : UInt8) (l : List UInt8) : (cut1 c l).data.toList = (cutL c l).1 := rfl
theorem c2 (c : UInt8) (l : List UInt8) : (cut2 c l).data.toList = (cutL c l).2.1 := rfl
/-- What the program reads of the text of an angle. -/
theorem hour_reads {l : List UInt8} {a : Int} (h : IsHour l a) : readB (cut1 104 l).data.toList = true ∧ readV (cut1 104 l).data.toList = a / 54000 ∧ twoB 57 (cut1 109 (cut2 104 l).data.toList).data.toList = true ∧ twoV 57 (cut1 109 (cut2 104 l).data.toList).data.toList = a % 54000 / 900 ∧ 0 ≤ a / 54000 ∧ a / 54000 ≤ 23 ∧ a = a / 54000 * 54000 + a % 54000 / 900 * 900 := by
  obtain ⟨_, h2, h3, h4, h5, h6, h7⟩ := hour_split h
  have hc := hour_cut h
  have ht : Two 57 (pair (a % 54000 / 900)) := pair_two h5 (by omega) (by omega)
  rw [c1, c1, c2, hc.2, hc.1]
  exact ⟨(read_yes h2).1, (read_yes h2).2, by simp [twoB, ht], by simp [twoV, ht, (pair_num h5 (by omega)).2], h3, h4, by omega⟩
theorem two_rng (m : Nat) (hm : m ≤ 57) (l : List UInt8) : 0 ≤ twoV m l ∧ twoV m l ≤ 99 := by
  unfold twoV
  split
  · have := (two_pair hm ‹_›).2; omega
  · omega
theorem read_nil : readB [] = false := (read_no (not_form (.inl (by decide)))).1
theorem hourT_is {l : List UInt8} {n : Int} (h : hourT n = l) (hn : l ≠ []) : IsHour l n := by
  unfold hourT at h
  split at h
  · exact ⟨‹_›, h⟩
  · exact absurd h.symm hn
theorem cut1_size (c : UInt8) (s : ByteArray) : (cut1 c s.data.toList).size ≤ s.size := by
  exact (cutL_len c s.data.toList).1
theorem cut2_size (c : UInt8) (s : ByteArray) : (cut2 c s.data.toList).size ≤ s.size := by
  exact (cutL_len c s.data.toList).2

set_option maxRecDepth 100000 in
set_option maxHeartbeats 1000000 in
theorem ReadHour_any (s : ByteArray) (w : World) (hs : s.size ≤ 1048576) (hl : Lists w) :
    Calls Tryd.prog 14 #[.string s] w fun e w' => e = .returned (.tuple #[.int .i64 (hourV s.data.toList), .bool (hourB s.data.toList)]) ∧ Below w.heap.size w w' := by
  have HL := Lib.hid hl
  have HM := Lib.hid (show s.size ≤ maxLen by unfold maxLen; omega)
  have HM2 := Lib.hid (show (cut2 104 s.data.toList).size ≤ maxLen by have := cut2_size 104 s; unfold maxLen; omega)
  have HM3 := Lib.hid (show (cut1 104 s.data.toList).size ≤ 281474976710656 by have := cut1_size 104 s; omega)
  have HY := Lib.hid (fun a (h : IsHour s.data.toList a) => hour_reads h)
  have HN := Lib.hid (show readB (cut1 104 s.data.toList).data.toList = true → s.data.toList ≠ [] from fun h e => by rw [e] at h; rw [show readB (cut1 104 []).data.toList = readB [] from rfl, read_nil] at h; cases h)
  obtain ⟨hq0, hq1⟩ := two_rng 57 (by decide) (cut1 109 (cut2 104 s.data.toList).data.toList).data.toList
  clear hl hs
  obtain ⟨A1, G1⟩ : ∃ A1, Hid (cut1 104 s.data.toList = A1) := ⟨_, Lib.hid rfl⟩
  obtain ⟨R1, G2⟩ : ∃ R1, Hid (cut2 104 s.data.toList = R1) := ⟨_, Lib.hid rfl⟩
  obtain ⟨F1, G3⟩ : ∃ F1, Hid (cut3 104 s.data.toList = F1) := ⟨_, Lib.hid rfl⟩
  rw [G1.out] at HN HM3
  rw [G2.out] at HM2 hq0 hq1
  rw [G1.out, G2.out] at HY
  obtain ⟨A2, G4⟩ : ∃ A2, Hid (cut1 109 R1.data.toList = A2) := ⟨_, Lib.hid rfl⟩
  obtain ⟨R2, G5⟩ : ∃ R2, Hid (cut2 109 R1.data.toList = R2) := ⟨_, Lib.hid rfl⟩
  obtain ⟨F2, G6⟩ : ∃ F2, Hid (cut3 109 R1.data.toList = F2) := ⟨_, Lib.hid rfl⟩
  rw [G4.out] at hq0 hq1 HY
  obtain ⟨P, HP⟩ : ∃ P, Hid (readV A1.data.toList = P) := ⟨_, Lib.hid rfl⟩
  obtain ⟨Q, HQ⟩ : ∃ Q, Hid (twoV 57 A2.data.toList = Q) := ⟨_, Lib.hid rfl⟩
  rw [HQ.out] at hq0 hq1
  cases ha : readB A1.data.toList with
  | false =>
    have HA := Lib.hid ha
    clear ha
    obtain ⟨B2, HB⟩ : ∃ B2, Hid (twoB 57 A2.data.toList = B2) := ⟨_, Lib.hid rfl⟩
    go_enter Tryd.func14, Tryd.ntmps14
    go_wp2_with fail
    refine (Cut_any s 104 _ HM.out).mono ?_
    rw [G1.out, G2.out, G3.out]
    rintro e w1 ⟨rfl, hb1⟩
    go_wp2_with fail
    refine (Cut_any R1 109 _ HM2.out).mono ?_
    rw [G4.out, G5.out, G6.out]
    rintro e w2 ⟨rfl, hb2⟩
    go_wp2_with fail
    refine (ReadDecimal_any A1 _ HM3.out (lists_below (lists_below HL.out hb1) hb2)).mono ?_
    rw [HA.out, HP.out]
    rintro e w3 ⟨rfl, hb3⟩
    go_wp2_with fail
    refine (readTwo_any A2 _).mono ?_
    rw [HB.out, HQ.out]
    rintro e w4 ⟨rfl, hb4⟩
    go_wp2_with (go_at_call 56; refine (within_any _ _ _ _).mono ?_; rintro e w' ⟨rfl, rfl⟩)
    go_ret2
    exact ⟨ret_hour (hour_no fun a h => by have := (HY.out a h).1; rw [HA.out] at this; cases this), hb1.trans ((hb2.mono hb1.size).trans ((hb3.mono (Nat.le_trans hb1.size hb2.size)).trans (hb4.mono (Nat.le_trans hb1.size (Nat.le_trans hb2.size hb3.size)))))⟩
  | true =>
    have HA := Lib.hid ha
    clear ha
    cases hb : twoB 57 A2.data.toList with
    | false =>
      have HB := Lib.hid hb
      clear hb
      go_enter Tryd.func14, Tryd.ntmps14
      go_wp2_with fail
      refine (Cut_any s 104 _ HM.out).mono ?_
      rw [G1.out, G2.out, G3.out]
      rintro e w1 ⟨rfl, hb1⟩
      go_wp2_with fail
      refine (Cut_any R1 109 _ HM2.out).mono ?_
      rw [G4.out, G5.out, G6.out]
      rintro e w2 ⟨rfl, hb2⟩
      go_wp2_with fail
      refine (ReadDecimal_any A1 _ HM3.out (lists_below (lists_below HL.out hb1) hb2)).mono ?_
      rw [HA.out, HP.out]
      rintro e w3 ⟨rfl, hb3⟩
      go_wp2_with fail
      refine (readTwo_any A2 _).mono ?_
      rw [HB.out, HQ.out]
      rintro e w4 ⟨rfl, hb4⟩
      go_wp2_with (go_at_call 56; refine (within_any _ _ _ _).mono ?_; rintro e w' ⟨rfl, rfl⟩)
      go_ret2
      exact ⟨ret_hour (hour_no fun a h => by have := (HY.out a h).2.2.1; rw [HB.out] at this; cases this), hb1.trans ((hb2.mono hb1.size).trans ((hb3.mono (Nat.le_trans hb1.size hb2.size)).trans (hb4.mono (Nat.le_trans hb1.size (Nat.le_trans hb2.size hb3.size)))))⟩
    | true =>
      have HB := Lib.hid hb
      clear hb
      cases hc : inB P 0 24 with
      | false =>
        have HC := Lib.hid hc
        go_enter Tryd.func14, Tryd.ntmps14
        go_wp2_with fail
        refine (Cut_any s 104 _ HM.out).mono ?_
        rw [G1.out, G2.out, G3.out]
        rintro e w1 ⟨rfl, hb1⟩
        go_wp2_with fail
        refine (Cut_any R1 109 _ HM2.out).mono ?_
        rw [G4.out, G5.out, G6.out]
        rintro e w2 ⟨rfl, hb2⟩
        go_wp2_with fail
        refine (ReadDecimal_any A1 _ HM3.out (lists_below (lists_below HL.out hb1) hb2)).mono ?_
        rw [HA.out, HP.out]
        rintro e w3 ⟨rfl, hb3⟩
        go_wp2_with fail
        refine (readTwo_any A2 _).mono ?_
        rw [HB.out, HQ.out]
        rintro e w4 ⟨rfl, hb4⟩
        go_wp2_with (first | (go_at_call 56; refine (within_any _ _ _ _).mono ?_; rintro e w' ⟨rfl, rfl⟩) | (go_at_call 13; refine (HourText_any _ _ (lists_below (lists_below (lists_below (lists_below HL.out hb1) hb2) hb3) hb4).1).mono ?_; rintro e w5 ⟨rfl, hb5⟩))
        go_ret2
        exact ⟨ret_hour (hour_no fun a h => by have h1 := HY.out a h; rw [HP.out] at h1; have h2 := HC.out; simp [inB] at h2; omega), hb1.trans ((hb2.mono hb1.size).trans ((hb3.mono (Nat.le_trans hb1.size hb2.size)).trans (hb4.mono (Nat.le_trans hb1.size (Nat.le_trans hb2.size hb3.size)))))⟩
      | true =>
        have hp0 := (inB_of hc).1
        have hp1 := (inB_of hc).2
        go_enter Tryd.func14, Tryd.ntmps14
        go_wp2_with fail
        refine (Cut_any s 104 _ HM.out).mono ?_
        rw [G1.out, G2.out, G3.out]
        rintro e w1 ⟨rfl, hb1⟩
        go_wp2_with fail
        refine (Cut_any R1 109 _ HM2.out).mono ?_
        rw [G4.out, G5.out, G6.out]
        rintro e w2 ⟨rfl, hb2⟩
        go_wp2_with fail
        refine (ReadDecimal_any A1 _ HM3.out (lists_below (lists_below HL.out hb1) hb2)).mono ?_
        rw [HA.out, HP.out]
        rintro e w3 ⟨rfl, hb3⟩
        go_wp2_with fail
        refine (readTwo_any A2 _).mono ?_
        rw [HB.out, HQ.out]
        rintro e w4 ⟨rfl, hb4⟩
        go_wp2_with (first | (go_at_call 56; refine (within_any _ _ _ _).mono ?_; rintro e w' ⟨rfl, rfl⟩) | (go_at_call 13; refine (HourText_any _ _ (lists_below (lists_below (lists_below (lists_below HL.out hb1) hb2) hb3) hb4).1).mono ?_; rintro e w5 ⟨rfl, hb5⟩))
        · have h : (!(hourT (P * 54000 + Q * 900) == s.toList)) = true := by assumption
          go_ret2
          exact ⟨ret_hour (hour_no fun a g => by
            have h1 := HY.out a g
            rw [HP.out, HQ.out] at h1
            have h2 : a = P * 54000 + Q * 900 := by omega
            subst h2
            rw [ByteArray.toList_eq, hourT, if_pos g.1, g.2] at h
            simp at h), hb1.trans ((hb2.mono hb1.size).trans ((hb3.mono (Nat.le_trans hb1.size hb2.size)).trans ((hb4.mono (Nat.le_trans hb1.size (Nat.le_trans hb2.size hb3.size))).trans (hb5.mono (Nat.le_trans hb1.size (Nat.le_trans hb2.size (Nat.le_trans hb3.size hb4.size)))))))⟩
        · have h : (!(hourT (P * 54000 + Q * 900) == s.toList)) = false := by assumption
          go_ret2
          exact ⟨ret_hour (hour_yes (hourT_is (by rw [ByteArray.toList_eq] at h; simpa using h) (HN.out HA.out))), hb1.trans ((hb2.mono hb1.size).trans ((hb3.mono (Nat.le_trans hb1.size hb2.size)).trans ((hb4.mono (Nat.le_trans hb1.size (Nat.le_trans hb2.size hb3.size))).trans (hb5.mono (Nat.le_trans hb1.size (Nat.le_trans hb2.size (Nat.le_trans hb3.size hb4.size)))))))⟩

end Go.Proofs.YtbnihalbepffoaaDoor.dec
