/- The model's orders of lands; least free colours. -/
import Derived.Test.YtemhmejjmhbfdabDoorColsF
import Derived.BigQuiet
namespace Go.Proofs.YtemhmejjmhbfdabDoor.sines
open Go.ChangeShapes Go.WideShapes Go.ChangeAt Go.RowKit Go.Proofs.YtemhmejjmhbfdabDoor.spots Go.Proofs.YtemhmejjmhbfdabDoor.irows Go.Proofs.YtemhmejjmhbfdabDoor.pairsBorder
set_option linter.unusedSimpArgs false
set_option linter.unusedVariables false

/-- If all numbers below c are in a list, it has c of them at least. -/
theorem pig : ∀ (c : Nat) (us : List Int), (∀ i, i < c → ((i : Nat) : Int) ∈ us) → c ≤ us.length
  | 0, _, _ => Nat.zero_le _
  | c + 1, us, h => by
    have hm := h c (by omega)
    have := pig c (us.erase (c : Int)) fun i hi => (List.mem_erase_of_ne (by omega)).2 (h i (by omega))
    rw [List.length_erase_of_mem hm] at this
    have := List.length_pos_of_mem hm
    omega
/-- The least number that is not in a list. -/
def mexC (us : List Int) : Nat := ((List.range (us.length + 1)).find? fun (c : Nat) => !decide ((c : Int) ∈ us)).getD 0
theorem mexC_is {us : List Int} {c : Nat} (h1 : ∀ i, i < c → ((i : Nat) : Int) ∈ us) (h2 : (c : Int) ∉ us) : mexC us = c := by
  have hc := pig c us h1
  unfold mexC
  rw [show us.length + 1 = c + (us.length + 1 - c) by omega, List.range_add, List.find?_append]
  have e1 : (List.range c).find? (fun (c : Nat) => !decide ((c : Int) ∈ us)) = none := by
    rw [List.find?_eq_none]
    intro x hx
    simp [h1 x (List.mem_range.1 hx)]
  rw [e1, show us.length + 1 - c = (us.length - c) + 1 by omega, List.range_succ_eq_map]
  simp [h2]
theorem mexC_facts (us : List Int) : (∀ i, i < mexC us → ((i : Nat) : Int) ∈ us) ∧ ((mexC us : Nat) : Int) ∉ us := by
  have hex : ∃ c : Nat, (∀ i, i < c → ((i : Nat) : Int) ∈ us) ∧ (c : Int) ∉ us := by
    apply Classical.byContradiction
    intro hn
    have hall : ∀ c : Nat, ∀ i, i < c → ((i : Nat) : Int) ∈ us := by
      intro c
      induction c with
      | zero => intro i h; omega
      | succ c ih =>
        intro i hi
        by_cases e : i = c
        · subst e
          apply Classical.byContradiction
          intro h2
          exact hn ⟨i, ih, h2⟩
        · exact ih i (by omega)
    have := pig (us.length + 1) us (hall _)
    omega
  obtain ⟨c, h1, h2⟩ := hex
  rw [mexC_is h1 h2]
  exact ⟨h1, h2⟩
theorem mexC_le (us : List Int) : mexC us ≤ us.length := pig _ _ (mexC_facts us).1
/-- A list with room behind it, as its slice tells. -/
def Room (v : Value) (n : Nat) : Prop := ∃ a c, v = .slice a n c ∧ n ≤ c
theorem room_of {w : World} {B : Nat} {v : Value} {zs : List Int} (h : IRow w B v zs) : Room v zs.length := by
  rcases h.2 with ⟨hv, h0⟩ | ⟨g, cap, cur, hv, hB, hc, hle, _⟩
  · exact ⟨none, 0, by rw [hv, h0], by omega⟩
  · exact ⟨_, cap, hv, hle⟩
/-- An order of lands. -/
def orderOk (n : Int) (os : List Int) : Bool := ((List.range os.length).all fun k => inB (zAt os k) 0 (n - 1) && !decide (zAt os k ∈ os.take k)) && decide ((os.length : Int) = n)
theorem orderOk_no {n : Int} {os : List Int} {k : Nat} (hk : k < os.length) (h : (inB (zAt os k) 0 (n - 1) && !decide (zAt os k ∈ os.take k)) = false) : orderOk n os = false := by
  cases e : orderOk n os with
  | false => rfl
  | true =>
    simp only [orderOk, Bool.and_eq_true, List.all_eq_true, List.mem_range] at e
    have := e.1 k hk
    rw [← Bool.and_eq_true, h] at this
    cases this
theorem orderOk_all {n : Int} {os : List Int} (h : ∀ j, j < os.length → (inB (zAt os j) 0 (n - 1) && !decide (zAt os j ∈ os.take j)) = true) : orderOk n os = decide ((os.length : Int) = n) := by
  unfold orderOk
  have : ((List.range os.length).all fun k => inB (zAt os k) 0 (n - 1) && !decide (zAt os k ∈ os.take k)) = true := by
    simp only [List.all_eq_true, List.mem_range]; exact h
  rw [this, Bool.true_and]
theorem orderOk_facts {n : Int} {os : List Int} (h : orderOk n os = true) : (os.length : Int) = n ∧ ∀ k, k < os.length → 0 ≤ zAt os k ∧ zAt os k < n ∧ zAt os k ∉ os.take k := by
  simp only [orderOk, Bool.and_eq_true, List.all_eq_true, List.mem_range, decide_eq_true_eq] at h
  refine ⟨h.2, fun k hk => ?_⟩
  obtain ⟨h1, h2⟩ := h.1 k hk
  obtain ⟨a, b⟩ := inB_of h1
  exact ⟨a, by omega, by simpa using h2⟩

set_option maxRecDepth 100000 in
set_option maxHeartbeats 1000000 in
theorem l00Has_at (v : Value) (zs : List Int) (x : Int) (w : World) (hv : IAt w w.heap.size v zs) (hl : zs.length ≤ 1048576) :
    Calls Tryd.prog 30 #[v, .int .i64 x] w fun e w' => e = .returned (.bool (decide (x ∈ zs))) ∧ w' = w := by
  obtain ⟨ar, c, rfl, hcl⟩ := hv
  have HCL := Lib.hid hcl
  clear hcl
  have hl2 : (zs.length : Int) ≤ 1048576 := by omega
  obtain ⟨R, hR⟩ : ∃ R, Hid (decide (x ∈ zs) = R) := ⟨_, Lib.hid rfl⟩
  rw [hR.out]
  go_enter Tryd.func30, Tryd.ntmps30
  go_wp2
  go_loopw [5] (fun i wr => ∃ k : Nat, k ≤ zs.length ∧ i = .int .i64 (k : Int) ∧ (∀ j, j < k → zAt zs j ≠ x) ∧ wr = w) (fun i _ => zs.length - (intOf i).toNat)
  case atStart => exact ⟨0, Nat.zero_le _, rfl, fun j h => by omega, rfl⟩
  case round =>
    obtain ⟨k, hk, rfl, ha, rfl⟩ := hrel
    have HA := Lib.hid ha
    clear ha
    by_cases hlt : k < zs.length
    · obtain ⟨b, off, rfl, hbs, c1⟩ := HCL.out k hlt
      have hk0 : 0 ≤ (k : Int) := by omega
      have hk1 : (k : Int) < (zs.length : Int) := by omega
      have YES := Lib.hid (show zAt zs k = x → R = true from fun h => by rw [← hR.out, ← h, zAt_eq hlt]; simp)
      have NX := Lib.hid (show zAt zs k ≠ x → ∀ j, j < k + 1 → zAt zs j ≠ x from fun h j hj => by
        by_cases e : j = k
        · subst e; exact h
        · exact HA.out j (by omega))
      generalize zAt zs k = y at c1 YES NX
      by_cases he : y = x
      · obtain rfl := YES.out he
        subst he
        go_wp2
        go_ret
        exact ⟨rfl, rfl⟩
      · have N2 := Lib.hid (NX.out he)
        have he' : (y == x) = false := by simpa using he
        go_wp2
        go_roundw
        case rel => exact ⟨k + 1, by omega, by go_num, N2.out, by first | rfl | trivial⟩
        case measure => simp [intOf]; omega
    · obtain rfl : k = zs.length := by omega
      have RT : R = false := by
        rw [← hR.out, decide_eq_false_iff_not]
        intro hm
        obtain ⟨j, hj, e⟩ := List.mem_iff_getElem.1 hm
        exact HA.out j hj (by rw [zAt_eq hj]; exact e)
      subst RT
      go_wp2
      go_ret
      exact ⟨rfl, rfl⟩

theorem l00In9_eq {n a b : Int} {c : Bool} (w : World) (h : inB n a b = c) : Calls Tryd.prog 21 #[.int .i64 n, .int .i64 a, .int .i64 b] w fun e w' => e = .returned (.bool c) ∧ w' = w := by
  subst h
  exact (l00In_any n a b w).mono fun _ _ h => ⟨h.1, h.2.symm⟩

set_option maxRecDepth 100000 in
set_option maxHeartbeats 2000000 in
theorem l09Order_any (n : Int) (v : Value) (os : List Int) (w : World) (hv : IAt w w.heap.size v os) (hr : Room v os.length) (hl : os.length ≤ 1048576) (n0 : 1 ≤ n) (n1 : n ≤ 10) :
    Calls Tryd.prog 29 #[.int .i64 n, v] w fun e w' => e = .returned (.bool (orderOk n os)) ∧ Below w.heap.size w w' := by
  obtain ⟨ar, cp, rfl, hcp⟩ := hr
  obtain ⟨ar', c', ev, hcl⟩ := hv
  simp only [Value.slice.injEq, true_and] at ev
  obtain ⟨rfl, rfl⟩ := ev
  have HCL := Lib.hid hcl
  clear hcl
  have hl2 : (os.length : Int) ≤ 1048576 := by omega
  obtain ⟨R, hR⟩ : ∃ R, Hid (orderOk n os = R) := ⟨_, Lib.hid rfl⟩
  have kn : IntKind.i64.wrap (n - 1) = n - 1 := IntWalk.i64_in _ (by omega)
  rw [hR.out]
  go_enter Tryd.func29, Tryd.ntmps29
  go_wp2
  go_loopw [5] (fun i wr => ∃ k q : Nat, k ≤ os.length ∧ i = .int .i64 (k : Int) ∧ (∀ j, j < k → (inB (zAt os j) 0 (n - 1) && !decide (zAt os j ∈ os.take j)) = true) ∧ wr = w.drewN q) (fun i _ => os.length - (intOf i).toNat)
  case atStart => exact ⟨0, 0, Nat.zero_le _, rfl, fun j h => by omega, rfl⟩
  case round =>
    obtain ⟨k, q, hk, rfl, ha, rfl⟩ := hrel
    have HA := Lib.hid ha
    clear ha
    by_cases hlt : k < os.length
    · obtain ⟨b, off, rfl, hbs, c1⟩ := HCL.out k hlt
      have hk0 : 0 ≤ (k : Int) := by omega
      have hk1 : (k : Int) < (os.length : Int) := by omega
      have hkc : (k : Int) ≤ (cp : Int) := by omega
      have NO := Lib.hid (show (inB (zAt os k) 0 (n - 1) && !decide (zAt os k ∈ os.take k)) = false → R = false from fun h => by rw [← hR.out]; exact orderOk_no hlt h)
      have YES := Lib.hid (show (inB (zAt os k) 0 (n - 1) && !decide (zAt os k ∈ os.take k)) = true → ∀ j, j < k + 1 → (inB (zAt os j) 0 (n - 1) && !decide (zAt os j ∈ os.take j)) = true from fun h j hj => by
        by_cases e : j = k
        · subst e; exact h
        · exact HA.out j (by omega))
      have HS := Lib.hid (fun p => l00Has_at (.slice (some ⟨b, off, none⟩) k cp) (os.take k) (zAt os k) (w.drewN p) ⟨some ⟨b, off, none⟩, cp, by rw [List.length_take, Nat.min_eq_left (Nat.le_of_lt hlt)], fun i hi => by
        rw [List.length_take] at hi
        obtain ⟨b2, off2, e, h1, h2⟩ := HCL.out i (by omega)
        refine ⟨b2, off2, e, h1, ?_⟩
        rw [show zAt (os.take k) i = zAt os i by simp [zAt, List.getD_eq_getElem?_getD, List.getElem?_take, show i < k by omega]]
        exact h2⟩ (by rw [List.length_take]; omega))
      have hlt' : k < os.length := hlt
      generalize decide (zAt os k ∈ os.take k) = hb at NO YES HS
      generalize zAt os k = x at c1 NO YES HS
      cases h1 : inB x 0 (n - 1) with
      | false =>
        obtain rfl := NO.out (by simp [h1])
        go_wp2_with fail
        first | (go_quiet (first | (go_at_call 21; exact (l00In9_eq _ h1).mono fun _ _ h => ⟨h.1, _, h.2⟩) | (go_at_call 30; exact (HS.out _).mono fun _ _ h => ⟨h.1, _, h.2⟩))) | fail
        all_goals
          go_wp2
          go_ret
          exact ⟨rfl, by repeat (first | exact Below.refl _ _ | refine Below.drew ?_ | refine bdQ9 ?_ _)⟩
      | true =>
        cases hb with
        | true =>
          obtain rfl := NO.out (by simp [h1])
          go_wp2_with fail
          first | (go_quiet (first | (go_at_call 21; exact (l00In9_eq _ h1).mono fun _ _ h => ⟨h.1, _, h.2⟩) | (go_at_call 30; exact (HS.out _).mono fun _ _ h => ⟨h.1, _, h.2⟩))) | fail
          all_goals
            go_wp2
            go_ret
            exact ⟨rfl, by repeat (first | exact Below.refl _ _ | refine Below.drew ?_ | refine bdQ9 ?_ _)⟩
        | false =>
          have Y := Lib.hid (YES.out (by simp [h1]))
          go_wp2_with fail
          first | (go_quiet (first | (go_at_call 21; exact (l00In9_eq _ h1).mono fun _ _ h => ⟨h.1, _, h.2⟩) | (go_at_call 30; exact (HS.out _).mono fun _ _ h => ⟨h.1, _, h.2⟩))) | fail
          all_goals
            go_wp2
            go_roundw
            case rel => exact ⟨k + 1, _, by omega, by go_num, Y.out, by first | rfl | exact (World.drew_drewN _ _).symm⟩
            case measure => simp [intOf]; omega
    · obtain rfl : k = os.length := by omega
      have RT := Lib.hid (show R = decide ((os.length : Int) = n) by rw [← hR.out]; exact orderOk_all HA.out)
      go_wp2
      go_ret
      exact ⟨retB9 (by rw [RT.out]; first | rfl | (rw [Bool.eq_iff_iff]; simp)), bdQ9 (Below.refl _ _) _⟩
end Go.Proofs.YtemhmejjmhbfdabDoor.sines
