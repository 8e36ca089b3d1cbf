/- A signed angle is read by the model: contract of its function. -/
import Derived.Test.YtbnihalbepffoaaDoorAim
import Derived.Test.YtbnihalbepffoaaDoorHourS
namespace Go.Proofs.YtbnihalbepffoaaDoor.dec
open Go.ChangeShapes Go.WideShapes Go.ChangeAt Go.RowKit Go.Proofs.YtbnihalbepffoaaDoor.num Go.Proofs.YtbnihalbepffoaaDoor.bld Go.Proofs.YtbnihalbepffoaaDoor.split

theorem splitL_first (c : UInt8) : ∀ (l a : List UInt8) (t : List (List UInt8)), splitL c l = a :: t → t ≠ [] → ∃ r, l = a ++ c :: r ∧ splitL c r = t ∧ c ∉ a
  | [], a, t, h, ht => by simp [splitL] at h; exact absurd h.2 ht
  | x :: l, a, t, h, ht => by
    simp only [splitL] at h
    by_cases hx : x = c
    · rw [if_pos hx] at h
      simp only [List.cons.injEq] at h
      obtain ⟨rfl, h2⟩ := h
      exact ⟨l, by simp [hx], h2, by simp⟩
    · rw [if_neg hx] at h
      cases hs : splitL c l with
      | nil => exact absurd hs (splitL_ne c l)
      | cons q t2 =>
        rw [hs] at h
        simp only [List.cons.injEq] at h
        obtain ⟨h1, rfl⟩ := h
        obtain ⟨r, e, e2, e3⟩ := splitL_first c l q t2 hs ht
        refine ⟨r, by rw [← h1, e]; rfl, e2, ?_⟩
        rw [← h1]
        intro hm
        rcases List.mem_cons.1 hm with hm | hm
        · exact hx hm.symm
        · exact e3 hm
theorem split_three {l a b c : List UInt8} (h : splitL 46 l = [a, b, c]) : cutL 46 l = (a, b ++ 46 :: c, true) ∧ cutL 46 (b ++ 46 :: c) = (b, c, true) := by
  obtain ⟨r, e1, e2, e3⟩ := splitL_first 46 l a _ h (by simp)
  obtain ⟨r2, f1, f2, f3⟩ := splitL_first 46 r b _ e2 (by simp)
  have g := splitL_one 46 _ _ f2
  subst g
  rw [f1] at e1
  exact ⟨by rw [e1]; exact cutL_at 46 _ _ e3, cutL_at 46 _ _ f3⟩
theorem two_more {l : List UInt8} (h : Two 53 l) : Two 57 l := ⟨h.1, h.2.1, fun c hc => by have := h.2.2 c hc; omega⟩
theorem size_from {l a b c : List UInt8} (hs : splitL 46 l = [a, b, c]) (hp : readB a = true) (h0 : 0 ≤ readV a) (h1 : readV a ≤ 180) (hq : Two 53 b) (hr : Two 53 c) : IsSize l (3600 * readV a + 60 * (numA 0 b : Int) + (numA 0 c : Int)) := by
  obtain ⟨e1, e2⟩ := split_three hs
  have q := (two_pair (by decide) hq).2
  have r := (two_pair (by decide) hr).2
  have := @size_of l
  rw [e1] at this
  simp only at this
  rw [e2] at this
  simp only at this
  have z := this hp (two_more hq) (two_more hr) h0 (by omega) (by omega) (by omega)
  rwa [show readV a * 3600 + (numA 0 b : Int) * 60 + (numA 0 c : Int) = 3600 * readV a + 60 * (numA 0 b : Int) + (numA 0 c : Int) by omega] at z
theorem size_parts {l : List UInt8} {n : Int} (h : IsSize l n) : splitL 46 l = [Lib.itoa (n / 3600), pair (n / 60 % 60), pair (n % 60)] := by
  obtain ⟨h1, h2, h3, h4, h5, h6, h7, h8, _⟩ := size_split h
  rw [h1, splitL_at 46 _ _ (not_in (itoa_allD h3) (by decide)), splitL_at 46 _ _ (not_in (pair_num h5 (by omega)).1 (by decide)), splitL_no 46 _ (not_in (pair_num h7 (by omega)).1 (by decide))]
/-- What the model reads: the degrees are 180 at most. -/
noncomputable def rdB (p m : UInt8) (l : List UInt8) : Bool := aimB p m l && decide (max (aimV p m l) (-(aimV p m l)) ≤ 651599)
noncomputable def rdV (p m : UInt8) (l : List UInt8) : Int := if rdB p m l then aimV p m l else 0
theorem rd_yes {p m : UInt8} (hpm : p ≠ m) {l : List UInt8} {a : Int} (h : IsAng p m l a) (hd : max a (-a) ≤ 651599) : rdB p m l = true ∧ rdV p m l = a := by
  obtain ⟨h1, h2⟩ := aim_yes hpm h
  have : rdB p m l = true := by simp [rdB, h1, h2, hd]
  exact ⟨this, by rw [rdV, if_pos this, h2]⟩
theorem rd_no {p m : UInt8} {l : List UInt8} (h : ∀ a, IsAng p m l a → max a (-a) ≤ 651599 → False) : rdB p m l = false ∧ rdV p m l = 0 := by
  have : rdB p m l = false := by
    cases hb : aimB p m l with
    | false => simp [rdB, hb]
    | true =>
      have h1 := aim_is hb
      have h2 : ¬ max (aimV p m l) (-(aimV p m l)) ≤ 651599 := fun g => h _ h1 g
      simp only [rdB, hb, Bool.true_and, decide_eq_false_iff_not]
      exact h2
  exact ⟨this, by rw [rdV, this]; simp⟩
theorem ret_rd {p m : UInt8} {l : List UInt8} {v : Int} {b : Bool} (h : rdB p m l = b ∧ rdV p m l = v) : Ending.returned (.tuple #[.int .i64 v, .bool b]) = .returned (.tuple #[.int .i64 (rdV p m l), .bool (rdB p m l)]) := by rw [h.1, h.2]
theorem last_split {s : ByteArray} {j : Nat} (h : s.size = j + 1) : s.data.toList = (s.extract 0 j).data.toList ++ [s[j]] := by
  obtain ⟨h1, h2⟩ := cut_at s j (by omega)
  have hl : s.data.toList.drop (j + 1) = [] := List.drop_eq_nil_of_le (by simp; omega)
  rw [h2, hl] at h1
  exact h1
theorem ang_last {p m : UInt8} {F : List UInt8} {x : UInt8} {a : Int} (h : IsAng p m (F ++ [x]) a) : IsSize F (max a (-a)) ∧ x = if a < 0 then m else p := by
  obtain ⟨G, c, e, hs, hc⟩ := ang_split h
  have h1 := List.append_inj' e rfl
  have h2 : x = c := by simpa using h1.2
  exact ⟨by rw [h1.1]; exact hs, by rw [h2]; exact hc⟩
theorem ps_three {ps : List ByteArray} (h : ps.length = 3) : ∃ p q r, ps = [p, q, r] := by
  match ps, h with
  | [p, q, r], _ => exact ⟨p, q, r, rfl⟩
theorem readV_rng (l : List UInt8) : -999999999999999999 ≤ readV l ∧ readV l ≤ 999999999999999999 := by
  cases hb : readB l with
  | true => exact ⟨(read_form hb).1, (read_form hb).2.1⟩
  | false =>
    have : readV l = 0 := (read_no (fun n g => by rw [(read_yes g).1] at hb; cases hb)).2
    omega

set_option maxRecDepth 100000 in
set_option maxHeartbeats 4000000 in
theorem l02Read_any (p m : UInt8) (hpm : p ≠ m) (s : ByteArray) (w : World) (hs : s.size ≤ 1048576) :
    Calls Tryd.prog 87 #[.string s, .int .u8 (p.toNat : Int), .int .u8 (m.toNat : Int)] w fun e w' => e = .returned (.tuple #[.int .i64 (rdV p m s.data.toList), .bool (rdB p m s.data.toList)]) ∧ Below w.heap.size w w' := by
  have HPM := Lib.hid hpm
  clear hpm
  by_cases h0 : s.size = 0
  · have hne : s.data.toList = [] := by
      have : s.data.toList.length = 0 := by simpa using h0
      exact List.eq_nil_of_length_eq_zero this
    have HN := Lib.hid hne
    clear hne
    go_enter Tryd.func87, Tryd.ntmps87
    go_wp2
    go_ret2
    exact ⟨ret_rd (rd_no fun a g _ => by
      obtain ⟨G, c, e, _⟩ := ang_split g
      rw [HN.out] at e
      simp at e), Below.refl _ _⟩
  obtain ⟨j, hj⟩ : ∃ j, s.size = j + 1 := ⟨s.size - 1, by omega⟩
  have hjs : j < s.size := by omega
  have hji : (s.size : Int) - 1 = (j : Int) := by omega
  have hs0 : ¬ (s.size : Int) = 0 := by omega
  have hjw : IntKind.i64.wrap (j : Int) = (j : Int) := IntWalk.i64_in _ (by omega)
  have hj0 : 0 ≤ (j : Int) := by omega
  have hj1 : (j : Int) < (s.size : Int) := by omega
  have hlast := last_split hj
  obtain ⟨Fb, hFb⟩ : ∃ x, Hid (s.extract 0 j = x) := ⟨_, Lib.hid rfl⟩
  rw [hFb.out] at hlast
  have hFs : Fb.size ≤ 1073741824 := by rw [← hFb.out, ByteArray.size_extract]; omega
  have hFb2 : s.extract 0 j = Fb := hFb.out
  have HLAST := Lib.hid hlast
  have HPT := Lib.hid (show ∀ a, IsAng p m s.data.toList a → IsSize Fb.data.toList (max a (-a)) ∧ s[j] = if a < 0 then m else p from fun a h => by
    rw [hlast] at h; exact ang_last h)
  have HFS := Lib.hid hFs
  clear hlast hFs
  by_cases hxm : s[j] = m
  · have f1 : ((s[j].toNat : Int) != (p.toNat : Int)) = true := by rw [hxm]; simp only [bne_iff_ne, ne_eq]; exact fun e => HPM.out (UInt8.toNat_inj.1 (by omega)).symm
    have f2 : ((s[j].toNat : Int) != (m.toNat : Int)) = false := by rw [hxm]; simp
    have f3 : ((s[j].toNat : Int) == (m.toNat : Int)) = true := by rw [hxm]; simp
    have HX := Lib.hid hxm
    clear hxm
    go_enter Tryd.func87, Tryd.ntmps87
    go_wp2_with fail
    refine (l01Split_any Fb 46 46 rfl _ HFS.out).mono ?_
    rintro e w1 ⟨v, ps, rfl, hsp, hlen, hown, hb1⟩
    obtain ⟨⟨a, c, rfl⟩, hsh⟩ := row_shape hown
    have HB1 := Lib.hid hb1
    have HSP := Lib.hid hsp
    clear hsp
    by_cases h3 : ps.length = 3
    · obtain ⟨g, c', e, hg⟩ := hsh (by omega)
      simp at e
      obtain ⟨rfl, rfl⟩ := e
      have c0 := row_cell hown 0 (by omega)
      have c1 := row_cell hown 1 (by omega)
      have c2 := row_cell hown 2 (by omega)
      obtain ⟨A, B, C, rfl⟩ := ps_three h3
      simp only [List.getElem_cons_zero, List.getElem_cons_succ] at c0 c1 c2
      simp only [List.length_cons, List.length_nil, Nat.zero_add, Nat.reduceAdd] at *
      have hgl : g < w1.heap.size := (World.ownsRow.lt hown g rfl).2
      have HSQ := Lib.hid (show [A.data.toList, B.data.toList, C.data.toList] = splitL 46 Fb.data.toList from HSP.out)
      clear hown hsh hb1 h3 hlen hg
      have hpz : A.size ≤ maxLen := by
        obtain ⟨r, e1, _⟩ := splitL_first 46 _ _ _ HSQ.out.symm (by simp)
        have e2 := congrArg List.length e1
        have h3 := HFS.out
        simp at e2; unfold maxLen; omega
      have HPZ := Lib.hid hpz
      clear hpz
      obtain ⟨P, HP⟩ : ∃ P, Hid (readV A.data.toList = P) := ⟨_, Lib.hid rfl⟩
      obtain ⟨PB, HPB⟩ : ∃ PB, Hid (readB A.data.toList = PB) := ⟨_, Lib.hid rfl⟩
      obtain ⟨Q, HQ⟩ : ∃ Q, Hid (twoV 53 B.data.toList = Q) := ⟨_, Lib.hid rfl⟩
      obtain ⟨QB, HQB⟩ : ∃ QB, Hid (twoB 53 B.data.toList = QB) := ⟨_, Lib.hid rfl⟩
      obtain ⟨RV, HR⟩ : ∃ R, Hid (twoV 53 C.data.toList = R) := ⟨_, Lib.hid rfl⟩
      obtain ⟨RB, HRB⟩ : ∃ RB, Hid (twoB 53 C.data.toList = RB) := ⟨_, Lib.hid rfl⟩
      have hpr := readV_rng A.data.toList
      have hq := two_rng 53 (by decide) B.data.toList
      have hr := two_rng 53 (by decide) C.data.toList
      rw [HP.out] at hpr
      rw [HQ.out] at hq
      rw [HR.out] at hr
      obtain ⟨hp0, hp1⟩ := hpr
      obtain ⟨hq0, hq1⟩ := hq
      obtain ⟨hr0, hr1⟩ := hr
      have HY := Lib.hid (show ∀ a, IsAng p m s.data.toList a → max a (-a) ≤ 651599 → PB = true ∧ QB = true ∧ RB = true ∧ 0 ≤ P ∧ P ≤ 180 ∧ max a (-a) = 3600 * P + 60 * Q + RV from fun a h hd => by
        have hz := (HPT.out a h).1
        obtain ⟨_, f2, f3, f4, f5, f6, f7, f8, f9⟩ := size_split hz
        have e := HSQ.out.trans (size_parts hz)
        simp only [List.cons.injEq, and_true] at e
        obtain ⟨e1, e2, e3⟩ := e
        have t1 := pair_two (m := 53) f5 (by omega) (by omega)
        have t2 := pair_two (m := 53) f7 (by omega) (by omega)
        rw [← HPB.out, ← HP.out, ← HQB.out, ← HRB.out, ← HQ.out, ← HR.out, e1, e2, e3, (read_yes f2).1, (read_yes f2).2]
        refine ⟨rfl, by simp [twoB, t1], by simp [twoB, t2], f3, by omega, ?_⟩
        rw [twoV, if_pos t1, twoV, if_pos t2, (pair_num f5 (by omega)).2, (pair_num f7 (by omega)).2]
        exact f9)
      go_wp2_with fail
      refine (l01Number_any A _ HPZ.out).mono ?_
      rw [HP.out, HPB.out]
      rintro e w2 ⟨rfl, hb2⟩
      have d1 : w2.cell? ⟨g, 1, none⟩ = some (.string B) := by rw [hb2.cell hgl]; exact c1
      have d2 : w2.cell? ⟨g, 2, none⟩ = some (.string C) := by rw [hb2.cell hgl]; exact c2
      have hgl2 : g < w2.heap.size := by have := hb2.size; omega
      have HB2 := Lib.hid (below_cell2 HB1.out hb2)
      clear hb2 c0 c1 c2
      go_wp2_with fail
      refine (l02Two_any B _).mono ?_
      rw [HQ.out, HQB.out]
      rintro e w3 ⟨rfl, hb3⟩
      have e2 : w3.cell? ⟨g, 2, none⟩ = some (.string C) := by rw [hb3.cell hgl2]; exact d2
      have HB3 := Lib.hid (below_cell2 HB2.out hb3)
      clear hb3 d1 d2
      go_wp2_with fail
      refine (l02Two_any C _).mono ?_
      rw [HR.out, HRB.out]
      rintro e w4 ⟨rfl, hb4⟩
      have HB4 := Lib.hid (below_cell2 HB3.out hb4)
      clear hb4 e2
      cases PB with
      | false =>
        go_wp2_with (go_at_call 84; refine (l00In_any _ _ _ _).mono ?_; rintro e w' ⟨rfl, rfl⟩)
        go_ret2
        exact ⟨ret_rd (rd_no fun a h hd => by have h1 := (HY.out a h hd).1; cases h1), HB4.out⟩
      | true =>
        cases QB with
        | false =>
          go_wp2_with (go_at_call 84; refine (l00In_any _ _ _ _).mono ?_; rintro e w' ⟨rfl, rfl⟩)
          go_ret2
          exact ⟨ret_rd (rd_no fun a h hd => by have h1 := (HY.out a h hd).2.1; cases h1), HB4.out⟩
        | true =>
          cases RB with
          | false =>
            go_wp2_with (go_at_call 84; refine (l00In_any _ _ _ _).mono ?_; rintro e w' ⟨rfl, rfl⟩)
            go_ret2
            exact ⟨ret_rd (rd_no fun a h hd => by have h1 := (HY.out a h hd).2.2.1; cases h1), HB4.out⟩
          | true =>
            cases hi : inB P 0 180 with
            | false =>
              have HI := Lib.hid hi
              go_wp2_with (go_at_call 84; refine (l00In_any _ _ _ _).mono ?_; rintro e w' ⟨rfl, rfl⟩)
              go_ret2
              exact ⟨ret_rd (rd_no fun a h hd => by have h1 := HY.out a h hd; have h2 := HI.out; simp [inB] at h2; omega), HB4.out⟩
            | true =>
              have hi0 := (inB_of hi).1
              have hi1 := (inB_of hi).2
              have ht : Two 53 B.data.toList := by simpa [twoB] using HQB.out
              have hu : Two 53 C.data.toList := by simpa [twoB] using HRB.out
              have hsz := size_from HSQ.out.symm HPB.out (by rw [HP.out]; exact hi0) (by rw [HP.out]; exact hi1) ht hu
              have hv : Q = (numA 0 B.data.toList : Int) := by rw [← HQ.out, twoV, if_pos ht]
              have hw : RV = (numA 0 C.data.toList : Int) := by rw [← HR.out, twoV, if_pos hu]
              rw [HP.out, ← hv, ← hw] at hsz
              have HSZ := Lib.hid hsz
              have hq2 : Q ≤ 59 := by have := (two_pair (by decide) ht).2; omega
              have hr2 : RV ≤ 59 := by have := (two_pair (by decide) hu).2; omega
              clear ht hu hsz hv hw
              by_cases hn : 0 < 3600 * P + 60 * Q + RV
              · go_wp2_with (go_at_call 84; refine (l00In_any _ _ _ _).mono ?_; rintro e w' ⟨rfl, rfl⟩)
                go_ret2
                exact ⟨ret_rd (rd_yes HPM.out (by
                  rw [HLAST.out, HX.out]
                  exact ang_minus HSZ.out hn) (by omega)), HB4.out⟩
              · have hz : 3600 * P + 60 * Q + RV = 0 := by omega
                have HZ := Lib.hid hz
                go_wp2_with (go_at_call 84; refine (l00In_any _ _ _ _).mono ?_; rintro e w' ⟨rfl, rfl⟩)
                go_ret2
                exact ⟨ret_rd (by
                  have h5 := rd_no (l := s.data.toList) fun a h hd => by
                    have h1 := HY.out a h hd
                    have h2 := (HPT.out a h).2
                    rw [HX.out, if_neg (by have := HZ.out; omega)] at h2
                    exact HPM.out h2.symm
                  exact ⟨h5.1, h5.2.trans (by have := HZ.out; first | rfl | omega)⟩), HB4.out⟩
    · have hne : ((ps.length : Int) != 3) = true := by simp; omega
      have HN := Lib.hid h3
      have HLN := Lib.hid (show (lists ps).length = ps.length by simp [lists])
      clear h3
      go_wp2
      go_ret2
      exact ⟨ret_rd (rd_no fun a h hd => by
        have e := congrArg List.length (HSP.out.trans (size_parts (HPT.out a h).1))
        rw [HLN.out] at e
        simp at e
        exact HN.out e), HB1.out⟩
  by_cases hxp : s[j] = p
  · have f1 : ((s[j].toNat : Int) != (p.toNat : Int)) = false := by rw [hxp]; simp
    have f2 : ((s[j].toNat : Int) != (m.toNat : Int)) = true := by rw [hxp]; simp only [bne_iff_ne, ne_eq]; exact fun e => HPM.out (UInt8.toNat_inj.1 (by omega))
    have f3 : ((s[j].toNat : Int) == (m.toNat : Int)) = false := by rw [hxp]; simp only [beq_eq_false_iff_ne, ne_eq]; exact fun e => HPM.out (UInt8.toNat_inj.1 (by omega))
    have HX := Lib.hid hxp
    clear hxp hxm
    go_enter Tryd.func87, Tryd.ntmps87
    go_wp2_with fail
    refine (l01Split_any Fb 46 46 rfl _ HFS.out).mono ?_
    rintro e w1 ⟨v, ps, rfl, hsp, hlen, hown, hb1⟩
    obtain ⟨⟨a, c, rfl⟩, hsh⟩ := row_shape hown
    have HB1 := Lib.hid hb1
    have HSP := Lib.hid hsp
    clear hsp
    by_cases h3 : ps.length = 3
    · obtain ⟨g, c', e, hg⟩ := hsh (by omega)
      simp at e
      obtain ⟨rfl, rfl⟩ := e
      have c0 := row_cell hown 0 (by omega)
      have c1 := row_cell hown 1 (by omega)
      have c2 := row_cell hown 2 (by omega)
      obtain ⟨A, B, C, rfl⟩ := ps_three h3
      simp only [List.getElem_cons_zero, List.getElem_cons_succ] at c0 c1 c2
      simp only [List.length_cons, List.length_nil, Nat.zero_add, Nat.reduceAdd] at *
      have hgl : g < w1.heap.size := (World.ownsRow.lt hown g rfl).2
      have HSQ := Lib.hid (show [A.data.toList, B.data.toList, C.data.toList] = splitL 46 Fb.data.toList from HSP.out)
      clear hown hsh hb1 h3 hlen hg
      have hpz : A.size ≤ maxLen := by
        obtain ⟨r, e1, _⟩ := splitL_first 46 _ _ _ HSQ.out.symm (by simp)
        have e2 := congrArg List.length e1
        have h3 := HFS.out
        simp at e2; unfold maxLen; omega
      have HPZ := Lib.hid hpz
      clear hpz
      obtain ⟨P, HP⟩ : ∃ P, Hid (readV A.data.toList = P) := ⟨_, Lib.hid rfl⟩
      obtain ⟨PB, HPB⟩ : ∃ PB, Hid (readB A.data.toList = PB) := ⟨_, Lib.hid rfl⟩
      obtain ⟨Q, HQ⟩ : ∃ Q, Hid (twoV 53 B.data.toList = Q) := ⟨_, Lib.hid rfl⟩
      obtain ⟨QB, HQB⟩ : ∃ QB, Hid (twoB 53 B.data.toList = QB) := ⟨_, Lib.hid rfl⟩
      obtain ⟨RV, HR⟩ : ∃ R, Hid (twoV 53 C.data.toList = R) := ⟨_, Lib.hid rfl⟩
      obtain ⟨RB, HRB⟩ : ∃ RB, Hid (twoB 53 C.data.toList = RB) := ⟨_, Lib.hid rfl⟩
      have hpr := readV_rng A.data.toList
      have hq := two_rng 53 (by decide) B.data.toList
      have hr := two_rng 53 (by decide) C.data.toList
      rw [HP.out] at hpr
      rw [HQ.out] at hq
      rw [HR.out] at hr
      obtain ⟨hp0, hp1⟩ := hpr
      obtain ⟨hq0, hq1⟩ := hq
      obtain ⟨hr0, hr1⟩ := hr
      have HY := Lib.hid (show ∀ a, IsAng p m s.data.toList a → max a (-a) ≤ 651599 → PB = true ∧ QB = true ∧ RB = true ∧ 0 ≤ P ∧ P ≤ 180 ∧ max a (-a) = 3600 * P + 60 * Q + RV from fun a h hd => by
        have hz := (HPT.out a h).1
        obtain ⟨_, f2, f3, f4, f5, f6, f7, f8, f9⟩ := size_split hz
        have e := HSQ.out.trans (size_parts hz)
        simp only [List.cons.injEq, and_true] at e
        obtain ⟨e1, e2, e3⟩ := e
        have t1 := pair_two (m := 53) f5 (by omega) (by omega)
        have t2 := pair_two (m := 53) f7 (by omega) (by omega)
        rw [← HPB.out, ← HP.out, ← HQB.out, ← HRB.out, ← HQ.out, ← HR.out, e1, e2, e3, (read_yes f2).1, (read_yes f2).2]
        refine ⟨rfl, by simp [twoB, t1], by simp [twoB, t2], f3, by omega, ?_⟩
        rw [twoV, if_pos t1, twoV, if_pos t2, (pair_num f5 (by omega)).2, (pair_num f7 (by omega)).2]
        exact f9)
      go_wp2_with fail
      refine (l01Number_any A _ HPZ.out).mono ?_
      rw [HP.out, HPB.out]
      rintro e w2 ⟨rfl, hb2⟩
      have d1 : w2.cell? ⟨g, 1, none⟩ = some (.string B) := by rw [hb2.cell hgl]; exact c1
      have d2 : w2.cell? ⟨g, 2, none⟩ = some (.string C) := by rw [hb2.cell hgl]; exact c2
      have hgl2 : g < w2.heap.size := by have := hb2.size; omega
      have HB2 := Lib.hid (below_cell2 HB1.out hb2)
      clear hb2 c0 c1 c2
      go_wp2_with fail
      refine (l02Two_any B _).mono ?_
      rw [HQ.out, HQB.out]
      rintro e w3 ⟨rfl, hb3⟩
      have e2 : w3.cell? ⟨g, 2, none⟩ = some (.string C) := by rw [hb3.cell hgl2]; exact d2
      have HB3 := Lib.hid (below_cell2 HB2.out hb3)
      clear hb3 d1 d2
      go_wp2_with fail
      refine (l02Two_any C _).mono ?_
      rw [HR.out, HRB.out]
      rintro e w4 ⟨rfl, hb4⟩
      have HB4 := Lib.hid (below_cell2 HB3.out hb4)
      clear hb4 e2
      cases PB with
      | false =>
        go_wp2_with (go_at_call 84; refine (l00In_any _ _ _ _).mono ?_; rintro e w' ⟨rfl, rfl⟩)
        go_ret2
        exact ⟨ret_rd (rd_no fun a h hd => by have h1 := (HY.out a h hd).1; cases h1), HB4.out⟩
      | true =>
        cases QB with
        | false =>
          go_wp2_with (go_at_call 84; refine (l00In_any _ _ _ _).mono ?_; rintro e w' ⟨rfl, rfl⟩)
          go_ret2
          exact ⟨ret_rd (rd_no fun a h hd => by have h1 := (HY.out a h hd).2.1; cases h1), HB4.out⟩
        | true =>
          cases RB with
          | false =>
            go_wp2_with (go_at_call 84; refine (l00In_any _ _ _ _).mono ?_; rintro e w' ⟨rfl, rfl⟩)
            go_ret2
            exact ⟨ret_rd (rd_no fun a h hd => by have h1 := (HY.out a h hd).2.2.1; cases h1), HB4.out⟩
          | true =>
            cases hi : inB P 0 180 with
            | false =>
              have HI := Lib.hid hi
              go_wp2_with (go_at_call 84; refine (l00In_any _ _ _ _).mono ?_; rintro e w' ⟨rfl, rfl⟩)
              go_ret2
              exact ⟨ret_rd (rd_no fun a h hd => by have h1 := HY.out a h hd; have h2 := HI.out; simp [inB] at h2; omega), HB4.out⟩
            | true =>
              have hi0 := (inB_of hi).1
              have hi1 := (inB_of hi).2
              have ht : Two 53 B.data.toList := by simpa [twoB] using HQB.out
              have hu : Two 53 C.data.toList := by simpa [twoB] using HRB.out
              have hsz := size_from HSQ.out.symm HPB.out (by rw [HP.out]; exact hi0) (by rw [HP.out]; exact hi1) ht hu
              have hv : Q = (numA 0 B.data.toList : Int) := by rw [← HQ.out, twoV, if_pos ht]
              have hw : RV = (numA 0 C.data.toList : Int) := by rw [← HR.out, twoV, if_pos hu]
              rw [HP.out, ← hv, ← hw] at hsz
              have HSZ := Lib.hid hsz
              have hq2 : Q ≤ 59 := by have := (two_pair (by decide) ht).2; omega
              have hr2 : RV ≤ 59 := by have := (two_pair (by decide) hu).2; omega
              clear ht hu hsz hv hw
              go_wp2_with (go_at_call 84; refine (l00In_any _ _ _ _).mono ?_; rintro e w' ⟨rfl, rfl⟩)
              go_ret2
              exact ⟨ret_rd (rd_yes HPM.out (by
                rw [HLAST.out, HX.out]
                exact ang_plus HSZ.out) (by omega)), HB4.out⟩
    · have hne : ((ps.length : Int) != 3) = true := by simp; omega
      have HN := Lib.hid h3
      have HLN := Lib.hid (show (lists ps).length = ps.length by simp [lists])
      clear h3
      go_wp2
      go_ret2
      exact ⟨ret_rd (rd_no fun a h hd => by
        have e := congrArg List.length (HSP.out.trans (size_parts (HPT.out a h).1))
        rw [HLN.out] at e
        simp at e
        exact HN.out e), HB1.out⟩
  · have f1 : ((s[j].toNat : Int) != (p.toNat : Int)) = true := by simp only [bne_iff_ne, ne_eq]; exact fun e => hxp (UInt8.toNat_inj.1 (by omega))
    have f2 : ((s[j].toNat : Int) != (m.toNat : Int)) = true := by simp only [bne_iff_ne, ne_eq]; exact fun e => hxm (UInt8.toNat_inj.1 (by omega))
    have HXP := Lib.hid hxp
    have HXM := Lib.hid hxm
    clear hxp hxm
    go_enter Tryd.func87, Tryd.ntmps87
    go_wp2
    go_ret2
    exact ⟨ret_rd (rd_no fun a g _ => by
      have h2 := (HPT.out a g).2
      split at h2
      · exact HXM.out h2
      · exact HXP.out h2), Below.refl _ _⟩
end Go.Proofs.YtbnihalbepffoaaDoor.dec
