/- Orders of lands: contracts of the program. -/
import Derived.Test.YtemhmejjmhbfdabDoorColsP16
namespace Go.Proofs.YtemhmejjmhbfdabDoor.sines
open Go.ChangeShapes Go.WideShapes Go.ChangeAt Go.RowKit Go.Proofs.YtemhmejjmhbfdabDoor.spots Go.Proofs.YtemhmejjmhbfdabDoor.irows Go.Proofs.YtemhmejjmhbfdabDoor.pairsBorder
set_option linter.unusedSimpArgs false
set_option linter.unusedVariables false
theorem bits_u64_any (op : BinOp) (a b : Int) (h : op = .or ∨ op = .and) : ∃ s : Nat, bits op .u64 a b = (s : Int) ∧ s < 18446744073709551616 := by
  have key : ∀ z : Int, ∃ s : Nat, IntKind.u64.wrap z = (s : Int) ∧ s < 18446744073709551616 := fun z => by
    rw [IntKind.wrap_u64]
    exact ⟨(z % 18446744073709551616).toNat, by omega, by omega⟩
  rcases h with rfl | rfl
  · exact key _
  · exact key _
theorem has_u64 {v i : Nat} (hv : v < 1024) : (bits BinOp.and IntKind.u64 ((v : Int) / 2 ^ i) 1 == 1) = v.testBit i := by
  have e : (v : Int) / (2 : Int) ^ i = ((v / 2 ^ i : Nat) : Int) := by simp
  have hl : v / 2 ^ i ≤ v := Nat.div_le_self _ _
  rw [e, show (1 : Int) = ((1 : Nat) : Int) from rfl, bits_and_u64n (v / 2 ^ i) 1 (by omega) (by omega), Nat.testBit_eq_decide_div_mod_eq, Nat.and_one_is_mod, Bool.eq_iff_iff]
  simp
  omega
theorem has_u64m {v i : Nat} (hv : v < 1024) : (bits BinOp.and IntKind.u64 ((v : Int) / 2 ^ min i 64) 1 == 1) = v.testBit i := by
  rw [has_u64 hv]
  by_cases h : i ≤ 64
  · rw [Nat.min_eq_left h]
  · rw [Nat.min_eq_right (by omega), Nat.testBit_lt_two_pow (by omega), Nat.testBit_lt_two_pow]
    exact Nat.lt_of_lt_of_le (show v < 2 ^ 10 by omega) (Nat.pow_le_pow_right (by omega) (by omega))
theorem namedM_nil : maskOf (fun x => decide ((x : Int) ∈ ([] : List Int))) 10 = 0 := by simp [maskOf]
set_option maxHeartbeats 1000000 in
theorem bitHas_any (v i : Nat) (w : World) (hv : v < 18446744073709551616) :
    Calls Tryd.prog 49 #[.int .u64 (v : Int), .int .i64 (i : Int)] w fun e w' => (∃ b, e = .returned (.bool b) ∧ (v < 1024 → b = v.testBit i)) ∧ w = w' := by
  have h0 : 0 ≤ (i : Int) := by omega
  have v0 : 0 ≤ (v : Int) := by omega
  go_enter Tryd.func49, Tryd.ntmps49
  go_wp2
  go_ret
  exact ⟨⟨_, rfl, fun h => has_u64m h⟩, rfl⟩
set_option maxHeartbeats 1000000 in
theorem bitWithU_any (v i : Nat) (w : World) (hv : v < 18446744073709551616) :
    Calls Tryd.prog 46 #[.int .u64 (v : Int), .int .i64 (i : Int)] w fun e w' => (∃ s : Nat, e = .returned (.int .u64 (s : Int)) ∧ s < 18446744073709551616) ∧ w = w' := by
  have h0 : 0 ≤ (i : Int) := by omega
  have v0 : 0 ≤ (v : Int) := by omega
  go_enter Tryd.func46, Tryd.ntmps46
  go_wp2
  go_ret
  obtain ⟨s, h1, h2⟩ := bits_u64_any .or (v : Int) (IntKind.u64.wrap (2 ^ min i 64)) (.inl rfl)
  exact ⟨⟨s, retU9 h1, h2⟩, rfl⟩
/-- The lands that are named. -/
def namedM (os : List Int) : Nat := maskOf (fun x => decide ((x : Int) ∈ os)) 10
theorem namedM_bit (os : List Int) {x : Nat} (hx : x < 10) : (namedM os).testBit x = decide ((x : Int) ∈ os) := by
  rw [namedM, maskOf_bit]; simp [hx]
theorem namedM_lt (os : List Int) : namedM os < 1024 := maskOf_lt _ 10
theorem namedM_snoc (os : List Int) {x : Nat} (hx : x < 10) : namedM (os ++ [(x : Int)]) = namedM os ||| 2 ^ x := by
  apply mask_ext
  intro i
  rw [Nat.testBit_or, Nat.testBit_two_pow, namedM, namedM, maskOf_bit, maskOf_bit]
  by_cases e : x = i
  · subst e; simp [hx]
  · have : ¬ (i : Int) = (x : Int) := by omega
    simp [e, this]
set_option maxRecDepth 100000 in
set_option maxHeartbeats 2000000 in
theorem isOrderU_any (n : Int) (v : Value) (os : List Int) (w : World) (hv : IAt w w.heap.size v os) (hl : os.length ≤ 1048576) :
    Calls Tryd.prog 31 #[.int .i64 n, v] w fun e w' => (∃ b, e = .returned (.bool b)) ∧ Below w.heap.size w w' := by
  obtain ⟨a, c, rfl, hc⟩ := hv
  have HC := Lib.hid hc
  clear hc
  have hl2 : (os.length : Int) ≤ 1048576 := by omega
  go_enter Tryd.func31, Tryd.ntmps31
  go_wp2
  go_loopw [5, 10] (fun s i wr => ∃ k t : Nat, k ≤ os.length ∧ i = .int .i64 (k : Int) ∧ s = .int .u64 (t : Int) ∧ t < 18446744073709551616 ∧ Below w.heap.size w wr) (fun _ i _ => os.length - (intOf i).toNat)
  case atStart => exact ⟨0, 0, Nat.zero_le _, rfl, rfl, by omega, Below.refl _ _⟩
  case round =>
    obtain ⟨k, t, hk, rfl, rfl, ht, hb⟩ := hrel
    have HB := Lib.hid hb
    by_cases hlt : k < os.length
    · obtain ⟨b, off, rfl, hbs, c1⟩ := HC.out k hlt
      have u1 := (hb.cell (p := ⟨b, off + k, none⟩) hbs).trans c1
      have hk0 : 0 ≤ (k : Int) := by omega
      have hk1 : (k : Int) < (os.length : Int) := by omega
      clear c1 hb
      generalize zAt os k = x at u1
      cases hi : inB x 0 (n - 1) with
      | false =>
        have IL := Lib.hid (fun W => isLandU_any n x W)
        rw [hi] at IL
        go_wp2_with fail
        refine (IL.out _).mono ?_
        rintro e w' ⟨rfl, hw⟩
        subst hw
        go_wp2
        go_ret
        exact ⟨⟨_, rfl⟩, HB.out⟩
      | true =>
        have IL := Lib.hid (fun W => isLandU_any n x W)
        rw [hi] at IL
        obtain ⟨x0, _⟩ := inB_of hi
        obtain ⟨X, rfl⟩ : ∃ X : Nat, x = (X : Int) := ⟨x.toNat, by omega⟩
        clear hi
        go_wp2_with fail
        refine (IL.out _).mono ?_
        rintro e w' ⟨rfl, hw⟩
        subst hw
        go_wp2_with fail
        refine (bitHas_any t X _ ht).mono ?_
        rintro e w' ⟨⟨bb, rfl, _⟩, hw⟩
        subst hw
        cases bb with
        | true =>
          go_wp2
          go_ret
          exact ⟨⟨_, rfl⟩, HB.out⟩
        | false =>
          go_wp2_with fail
          refine (bitWithU_any t X _ ht).mono ?_
          rintro e w' ⟨⟨t', rfl, ht'⟩, hw⟩
          subst hw
          go_wp2
          go_roundw
          case rel => exact ⟨k + 1, t', by omega, by go_num, rfl, ht', HB.out⟩
          case measure => simp [intOf]; omega
    · obtain rfl : k = os.length := by omega
      clear hb
      go_wp2
      go_ret
      exact ⟨⟨_, rfl⟩, HB.out⟩
set_option maxRecDepth 100000 in
set_option maxHeartbeats 2000000 in
theorem isOrder_any (n : Int) (v : Value) (os : List Int) (w : World) (hv : IAt w w.heap.size v os) (hl : os.length ≤ 1048576) (n1 : n ≤ 10) :
    Calls Tryd.prog 31 #[.int .i64 n, v] w fun e w' => e = .returned (.bool (orderOk n os)) ∧ Below w.heap.size w w' := by
  obtain ⟨a, c, rfl, hc⟩ := hv
  have HC := Lib.hid hc
  clear hc
  obtain ⟨R, hR⟩ : ∃ R, Hid (orderOk n os = R) := ⟨_, Lib.hid rfl⟩
  rw [hR.out]
  have hl2 : (os.length : Int) ≤ 1048576 := by omega
  go_enter Tryd.func31, Tryd.ntmps31
  go_wp2
  go_loopw [5, 10] (fun s i wr => ∃ k : Nat, k ≤ os.length ∧ i = .int .i64 (k : Int) ∧ s = .int .u64 (namedM (os.take k) : Int) ∧ (∀ j, j < k → (inB (zAt os j) 0 (n - 1) && !decide (zAt os j ∈ os.take j)) = true) ∧ Below w.heap.size w wr) (fun _ i _ => os.length - (intOf i).toNat)
  case atStart => exact ⟨0, Nat.zero_le _, rfl, by rw [List.take_zero, namedM, namedM_nil]; rfl, fun j h => by omega, Below.refl _ _⟩
  case round =>
    obtain ⟨k, hk, rfl, rfl, ha, hb⟩ := hrel
    have HA := Lib.hid ha
    have HB := Lib.hid hb
    clear ha
    by_cases hlt : k < os.length
    · obtain ⟨b, off, rfl, hbs, c1⟩ := HC.out k hlt
      have u1 := (hb.cell (p := ⟨b, off + k, none⟩) hbs).trans c1
      have hk0 : 0 ≤ (k : Int) := by omega
      have hk1 : (k : Int) < (os.length : Int) := by omega
      have NO := Lib.hid (show (inB (zAt os k) 0 (n - 1) && !decide (zAt os k ∈ os.take k)) = false → R = false from fun h => by rw [← hR.out]; exact orderOk_no hlt h)
      have YES := Lib.hid (show (inB (zAt os k) 0 (n - 1) && !decide (zAt os k ∈ os.take k)) = true → ∀ j, j < k + 1 → (inB (zAt os j) 0 (n - 1) && !decide (zAt os j ∈ os.take j)) = true from fun h j hj => by
        by_cases e : j = k
        · subst e; exact h
        · exact HA.out j (by omega))
      have TK := Lib.hid (show os.take (k + 1) = os.take k ++ [zAt os k] by rw [← List.take_append_getElem hlt, zAt_eq hlt])
      have ML := namedM_lt (os.take k)
      clear c1 hb
      generalize zAt os k = x at u1 NO YES TK
      have IL := Lib.hid (fun W => isLandU_any n x W)
      cases hi : inB x 0 (n - 1) with
      | false =>
        obtain rfl := NO.out (by rw [hi]; rfl)
        rw [hi] at IL
        clear hi
        go_wp2_with fail
        refine (IL.out _).mono ?_
        rintro e w' ⟨rfl, hw⟩
        subst hw
        go_wp2
        go_ret
        exact ⟨rfl, HB.out⟩
      | true =>
        rw [hi] at IL NO YES
        obtain ⟨x0, x1⟩ := inB_of hi
        obtain ⟨X, rfl⟩ : ∃ X : Nat, x = (X : Int) := ⟨x.toNat, by omega⟩
        have hX : X < 10 := by omega
        have BH := Lib.hid (fun W => bitHas_any (namedM (os.take k)) X W (by omega))
        have BW := Lib.hid (fun W => bitWith_any (namedM (os.take k)) X W ML hX)
        have EB := Lib.hid (namedM_bit (os.take k) hX)
        rw [← namedM_snoc (os.take k) hX, ← TK.out] at BW
        clear hi x0 x1
        go_wp2_with fail
        refine (IL.out _).mono ?_
        rintro e w' ⟨rfl, hw⟩
        subst hw
        go_wp2_with fail
        refine (BH.out _).mono ?_
        rintro e w' ⟨⟨bb, rfl, hbb⟩, hw⟩
        subst hw
        have ebb := (hbb ML).trans EB.out
        clear hbb
        cases bb with
        | true =>
          obtain rfl := NO.out (by rw [← ebb]; rfl)
          clear ebb
          go_wp2
          go_ret
          exact ⟨rfl, HB.out⟩
        | false =>
          have Y := Lib.hid (YES.out (by rw [← ebb]; rfl))
          clear ebb
          go_wp2_with fail
          refine (BW.out _).mono ?_
          rintro e w' ⟨rfl, hw⟩
          subst hw
          go_wp2
          go_roundw
          case rel => exact ⟨k + 1, by omega, by go_num, rfl, Y.out, HB.out⟩
          case measure => simp [intOf]; omega
    · obtain rfl : k = os.length := by omega
      have RT := Lib.hid (show R = decide ((os.length : Int) = n) by rw [← hR.out]; exact orderOk_all HA.out)
      clear hb
      go_wp2
      go_ret
      exact ⟨retB9 (by rw [RT.out]; first | rfl | (rw [Bool.eq_iff_iff]; simp)), HB.out⟩
end Go.Proofs.YtemhmejjmhbfdabDoor.sines
