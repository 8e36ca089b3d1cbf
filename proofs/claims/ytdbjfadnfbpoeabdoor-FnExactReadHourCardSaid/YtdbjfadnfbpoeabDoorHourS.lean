/- Hours are read by the model: its contract. -/
import Derived.Test.YtdbjfadnfbpoeabDoorHourP
namespace Go.Proofs.YtdbjfadnfbpoeabDoor.dec
open Go.ChangeShapes Go.WideShapes Go.ChangeAt Go.RowKit Go.Proofs.YtdbjfadnfbpoeabDoor.num Go.Proofs.YtdbjfadnfbpoeabDoor.split

theorem splitL_one (c : UInt8) : ∀ (l a : List UInt8), splitL c l = [a] → l = a
  | [], a, h => by simp [splitL] at h; exact h.symm
  | x :: r, a, h => by
    by_cases hx : x = c
    · simp [splitL, hx] at h; exact absurd h.2 (splitL_ne c r)
    · cases hs : splitL c r with
      | nil => exact absurd hs (splitL_ne c r)
      | cons p t =>
        simp [splitL, hx, hs] at h
        obtain ⟨rfl, rfl⟩ := h
        rw [splitL_one c r p hs]
theorem splitL_two (c : UInt8) : ∀ (l a b : List UInt8), splitL c l = [a, b] → l = a ++ c :: b
  | [], a, b, h => by simp [splitL] at h
  | x :: r, a, b, h => by
    by_cases hx : x = c
    · simp [splitL, hx] at h
      obtain ⟨rfl, h⟩ := h
      rw [splitL_one c r b h, hx]; rfl
    · cases hs : splitL c r with
      | nil => exact absurd hs (splitL_ne c r)
      | cons p t =>
        simp [splitL, hx, hs] at h
        obtain ⟨rfl, rfl⟩ := h
        rw [splitL_two c r p b hs]; rfl
theorem row_shape {w : World} {B : Nat} {v : Value} {ps : List ByteArray} (h : w.ownsRow B 9 1 v ps.length (split.strs ps)) : (∃ a c, v = .slice a ps.length c) ∧ (0 < ps.length → ∃ g c, v = .slice (some ⟨g, 0, none⟩) ps.length c ∧ B ≤ g) := by
  rcases h.2 with ⟨hv, h0⟩ | ⟨g, cap, cur, hv, hB, _⟩
  · exact ⟨⟨none, 0, by rw [hv, h0]⟩, fun hp => by omega⟩
  · exact ⟨⟨_, _, hv⟩, fun _ => ⟨g, cap, hv, hB⟩⟩
theorem row_cell {w : World} {B g c : Nat} {ps : List ByteArray} (h : w.ownsRow B 9 1 (.slice (some ⟨g, 0, none⟩) ps.length c) ps.length (split.strs ps)) (k : Nat) (hk : k < ps.length) : w.cell? ⟨g, k, none⟩ = some (.string ps[k]) := by
  rw [World.ownsRow.cellAt h k (by omega)]
  simp [split.strs, hk]
/-- What the model reads of the text of an angle. -/
theorem hour_parts {l : List UInt8} {a : Int} (h : IsHour l a) : splitL 104 l = [Lib.itoa (a / 54000), pair (a % 54000 / 900) ++ [109]] := by
  obtain ⟨h1, h2, h3, h4, h5, h6, h7⟩ := hour_split h
  conv => lhs; rw [h1]
  rw [splitL_at 104 _ _ (not_in (itoa_allD h3) (by decide)), splitL_no]
  intro g
  rcases List.mem_append.1 g with g | g
  · exact not_in (pair_num h5 (by omega)).1 (by decide) g
  · simp at g
theorem hour_of {l p q : List UInt8} (hs : splitL 104 l = [p, q ++ [109]]) (hp : readB p = true) (h0 : 0 ≤ readV p) (h1 : readV p ≤ 23) (hq : Two 53 q) : IsHour l (54000 * readV p + 900 * (numA 0 q : Int)) := by
  have e := splitL_two 104 l _ _ hs
  obtain ⟨q1, q2⟩ := two_pair (by decide) hq
  have hf := (read_form hp).2.2
  have m0 : (0 : Int) ≤ (numA 0 q : Int) := by omega
  have m1 : (numA 0 q : Int) ≤ 59 := by omega
  generalize (numA 0 q : Int) = m at *
  generalize readV p = n at *
  refine ⟨⟨by omega, by omega, by omega⟩, ?_⟩
  rw [hourL, show (54000 * n + 900 * m) / 54000 = n by omega, show (54000 * n + 900 * m) % 54000 / 900 = m by omega, hf, q1, e]
  simp
theorem three {q : ByteArray} (h : q.size = 3) (h2 : q[2].toNat = 109) : q.data.toList = (q.extract 0 2).data.toList ++ [109] := by
  rw [ext_list]
  have e : q.data.toList.drop 2 = [109] := by
    rw [drop_cons q 2 (by omega), List.drop_eq_nil_of_le (by simp; omega)]
    rw [show q[2] = 109 from UInt8.toNat_inj.1 h2]
  conv => lhs; rw [← List.take_append_drop 2 q.data.toList]
  rw [e]; rfl
theorem three_no {q : ByteArray} {n : Int} (h0 : 0 ≤ n) (h1 : n ≤ 59) (h : q.data.toList = pair n ++ [109]) : ∃ h : q.size = 3, q[2].toNat = 109 ∧ (q.extract 0 2).data.toList = pair n := by
  have hl := congrArg List.length h
  have hs : q.size = 3 := by
    rw [List.length_append, pair_len h0 (by omega)] at hl
    simpa using hl
  obtain ⟨a, b, e, _, _⟩ := pair_eq h0 (by omega)
  refine ⟨hs, ?_, ?_⟩
  · have e2 : q[2] = q.data.toList[2]'(by simp; omega) := rfl
    rw [e2]; simp [h, e]
  · rw [ext_list, h, e]; rfl
theorem two_lists {ps : List ByteArray} {l : List UInt8} (h : lists ps = splitL 104 l) (hn : ps.length ≠ 2) (a : Int) : ¬ IsHour l a := fun g => by
  have := hour_parts g
  rw [← h] at this
  have h2 := congrArg List.length this
  simp [lists] at h2
  exact hn h2
theorem ps_two {ps : List ByteArray} (h : ps.length = 2) : ∃ p q, ps = [p, q] := by
  match ps, h with
  | [p, q], _ => exact ⟨p, q, rfl⟩

theorem below_cell2 {a w w' : World} (h : Below a.heap.size a w) (g : Below w.heap.size w w') : Below a.heap.size a w' := h.trans (g.mono h.size)
set_option maxRecDepth 100000 in
set_option maxHeartbeats 1000000 in
theorem specReadHour_any (s : ByteArray) (w : World) (hs : s.size ≤ 1048576) :
    Calls Tryd.prog 9 #[.string s] w fun e w' => e = .returned (.tuple #[.int .i64 (hourV s.data.toList), .bool (hourB s.data.toList)]) ∧ Below w.heap.size w w' := by
  have HS := Lib.hid (show s.size ≤ 1073741824 by omega)
  clear hs
  go_enter Tryd.func9, Tryd.ntmps9
  go_wp2_with fail
  refine (l01Split_any s 104 104 rfl _ HS.out).mono ?_
  rintro e w1 ⟨v, ps, rfl, hsp, hlen, hown, hb1⟩
  obtain ⟨⟨a, c, rfl⟩, hsh⟩ := row_shape hown
  have HB1 := Lib.hid hb1
  have HSP := Lib.hid hsp
  clear hsp
  by_cases h2 : ps.length = 2
  · obtain ⟨g, c', e, hg⟩ := hsh (by omega)
    simp at e
    obtain ⟨rfl, rfl⟩ := e
    have c0 := row_cell hown 0 (by omega)
    have c1 := row_cell hown 1 (by omega)
    have HG := Lib.hid hg
    obtain ⟨p, q, rfl⟩ := ps_two h2
    simp only [List.getElem_cons_zero, List.getElem_cons_succ] at c0 c1
    simp only [List.length_cons, List.length_nil, Nat.zero_add, Nat.reduceAdd] at *
    have hgl : g < w1.heap.size := (World.ownsRow.lt hown g rfl).2
    have HSQ := Lib.hid (show [p.data.toList, q.data.toList] = splitL 104 s.data.toList from HSP.out)
    clear hown hsh hb1 h2 hlen
    have hpz : p.size ≤ maxLen := by
      have := congrArg List.length (splitL_two 104 _ _ _ HSQ.out.symm)
      have h3 := HS.out
      simp at this; unfold maxLen; omega
    have HPZ := Lib.hid hpz
    clear hpz
    have HN := Lib.hid (show ∀ a, IsHour s.data.toList a → p.data.toList = Lib.itoa (a / 54000) ∧ q.data.toList = pair (a % 54000 / 900) ++ [109] from fun a h => by
      have := HSQ.out.trans (hour_parts h)
      simp at this; exact this)
    by_cases h3 : q.size = 3
    · have h3a : ((q.size : Int) != 3) = false := by simp; omega
      by_cases h4 : q[2].toNat = 109
      · have h4a : ((q[2].toNat : Int) != 109) = false := by simp; omega
        have H4 := Lib.hid h4
        clear h4
        have HQ := Lib.hid (three h3 H4.out)
        obtain ⟨P, HP⟩ : ∃ P, Hid (readV p.data.toList = P) := ⟨_, Lib.hid rfl⟩
        obtain ⟨PB, HPB⟩ : ∃ PB, Hid (readB p.data.toList = PB) := ⟨_, Lib.hid rfl⟩
        obtain ⟨Q, HQV⟩ : ∃ Q, Hid (twoV 53 (q.extract 0 2).data.toList = Q) := ⟨_, Lib.hid rfl⟩
        obtain ⟨QB, HQB⟩ : ∃ QB, Hid (twoB 53 (q.extract 0 2).data.toList = QB) := ⟨_, Lib.hid rfl⟩
        have hq := two_rng 53 (by decide) (q.extract 0 2).data.toList
        rw [HQV.out] at hq
        have hq0 := hq.1
        have hq1 := hq.2
        have hpr : -999999999999999999 ≤ P ∧ P ≤ 999999999999999999 := by
          rw [← HP.out]
          cases hb : readB p.data.toList with
          | true => exact ⟨(read_form hb).1, (read_form hb).2.1⟩
          | false =>
            have : readV p.data.toList = 0 := (read_no (fun n g => by rw [(read_yes g).1] at hb; cases hb)).2
            omega
        have hp0 := hpr.1
        have hp1 := hpr.2
        clear hq hpr
        have HY := Lib.hid (show ∀ a, IsHour s.data.toList a → PB = true ∧ QB = true ∧ 0 ≤ P ∧ P ≤ 23 from fun a h => by
          obtain ⟨e1, e2⟩ := HN.out a h
          obtain ⟨_, f2, f3, f4, f5, f6, _⟩ := hour_split h
          obtain ⟨_, _, e3⟩ := three_no f5 f6 e2
          rw [← HPB.out, ← HP.out, ← HQB.out, e1, e3, (read_yes f2).1, (read_yes f2).2]
          exact ⟨rfl, by simp [twoB, pair_two (m := 53) f5 (by omega) (by omega)], f3, f4⟩)
        go_wp2_with fail
        refine (l01Number_any p _ HPZ.out).mono ?_
        rw [HP.out, HPB.out]
        rintro e w2 ⟨rfl, hb2⟩
        have c2 : w2.cell? ⟨g, 1, none⟩ = some (.string q) := by rw [hb2.cell hgl]; exact c1
        have HB2 := Lib.hid (below_cell2 HB1.out hb2)
        clear hb2
        go_wp2_with fail
        refine (l02Two_any (q.extract 0 2) _).mono ?_
        rw [HQV.out, HQB.out]
        rintro e w3 ⟨rfl, hb3⟩
        have HB3 := Lib.hid (below_cell2 HB2.out hb3)
        clear hb3
        cases PB with
        | false =>
          go_wp2_with (go_at_call 17; refine (l00In_any _ _ _ _).mono ?_; rintro e w' ⟨rfl, rfl⟩)
          go_ret2
          exact ⟨ret_hour (hour_no fun a h => by have := (HY.out a h).1; cases this), HB3.out⟩
        | true =>
          cases QB with
          | false =>
            go_wp2_with (go_at_call 17; refine (l00In_any _ _ _ _).mono ?_; rintro e w' ⟨rfl, rfl⟩)
            go_ret2
            exact ⟨ret_hour (hour_no fun a h => by have := (HY.out a h).2.1; cases this), HB3.out⟩
          | true =>
            cases hi : inB P 0 23 with
            | false =>
              have HI := Lib.hid hi
              go_wp2_with (go_at_call 17; refine (l00In_any _ _ _ _).mono ?_; rintro e w' ⟨rfl, rfl⟩)
              go_ret2
              exact ⟨ret_hour (hour_no fun a h => by have h1 := HY.out a h; have h2 := HI.out; simp [inB] at h2; omega), HB3.out⟩
            | true =>
              have hi0 := (inB_of hi).1
              have hi1 := (inB_of hi).2
              go_wp2_with (go_at_call 17; refine (l00In_any _ _ _ _).mono ?_; rintro e w' ⟨rfl, rfl⟩)
              go_ret2
              have ht : Two 53 (q.extract 0 2).data.toList := by simpa [twoB] using HQB.out
              have hv : Q = (numA 0 (q.extract 0 2).data.toList : Int) := by rw [← HQV.out, twoV, if_pos ht]
              refine ⟨ret_hour (hour_yes ?_), HB3.out⟩
              rw [hv, ← HP.out]
              exact hour_of (by rw [← HSQ.out, HQ.out]) HPB.out (by rw [HP.out]; exact hi0) (by rw [HP.out]; exact hi1) ht
      · have h4a : ((q[2].toNat : Int) != 109) = true := by simp; omega
        have H4 := Lib.hid h4
        clear h4
        go_wp2
        go_ret2
        exact ⟨ret_hour (hour_no fun a h => by
          obtain ⟨_, _, _, _, f5, f6, _⟩ := hour_split h
          obtain ⟨_, e, _⟩ := three_no f5 f6 (HN.out a h).2
          exact H4.out e), HB1.out⟩
    · have h3a : ((q.size : Int) != 3) = true := by simp; omega
      have H3 := Lib.hid h3
      clear h3
      go_wp2
      all_goals (
        go_ret2
        exact ⟨ret_hour (hour_no fun a h => by
          obtain ⟨_, _, _, _, f5, f6, _⟩ := hour_split h
          obtain ⟨e, _⟩ := three_no f5 f6 (HN.out a h).2
          exact H3.out e), HB1.out⟩)
  · have h2a : ((ps.length : Int) != 2) = true := by simp; omega
    have H2 := Lib.hid h2
    clear h2
    go_wp2
    all_goals (go_ret2; exact ⟨ret_hour (hour_no fun a h => two_lists HSP.out H2.out a h), HB1.out⟩)

end Go.Proofs.YtdbjfadnfbpoeabDoor.dec
