/- The model's numbers of colours: contracts. -/
import Derived.Test.YtemhmejjmhbfdabColsG2
namespace Go.Proofs.Ytemhmejjmhbfdab.sines
open Go.ChangeShapes Go.WideShapes Go.ChangeAt Go.RowKit Go.Proofs.Ytemhmejjmhbfdab.spots Go.Proofs.Ytemhmejjmhbfdab.irows Go.Proofs.Ytemhmejjmhbfdab.pairsBorder
set_option linter.unusedSimpArgs false
set_option linter.unusedVariables false

theorem i64_and_natC (a b : Nat) (ha : a < 9223372036854775808) (hb : b < 9223372036854775808) : bits .and .i64 (a : Int) (b : Int) = ((a &&& b : Nat) : Int) := by
  have hx : a &&& b < 2 ^ 63 := Nat.and_lt_two_pow _ (by omega)
  have e : ∀ c : Nat, c < 9223372036854775808 → (BitVec.ofInt 64 (c : Int)).toNat = c := fun c hc => by
    rw [BitVec.ofInt_natCast, BitVec.toNat_ofNat]; exact Nat.mod_eq_of_lt (by omega)
  show IntKind.i64.wrap ((BitVec.ofInt 64 (a : Int) &&& BitVec.ofInt 64 (b : Int)).toNat : Nat) = _
  rw [BitVec.toNat_and, e a ha, e b hb]
  exact IntWalk.i64_in _ (by omega)
theorem bitAt (s X : Nat) (hs : s < 1024) : bits .and .i64 ((s : Int) / 2 ^ X) 1 = if s.testBit X = true then 1 else 0 := by
  have e1 : (s : Int) / 2 ^ X = ((s / 2 ^ X : Nat) : Int) := by simp
  have h2 : s / 2 ^ X ≤ s := Nat.div_le_self _ _
  rw [e1, show (1 : Int) = ((1 : Nat) : Int) from rfl, i64_and_natC _ _ (by omega) (by omega), Nat.and_one_is_mod, Nat.testBit_eq_decide_div_mod_eq]
  by_cases h : s / 2 ^ X % 2 = 1
  · simp [h]
  · have : s / 2 ^ X % 2 = 0 := by omega
    simp [this]
theorem apartM_no {ps : List (Int × Int)} {s k : Nat} (h : k < ps.length) (h1 : s.testBit (bAt ps k).1.toNat = true) (h2 : s.testBit (bAt ps k).2.toNat = true) : apartM ps s = false := by
  cases e : apartM ps s with
  | false => rfl
  | true =>
    simp only [apartM, List.all_eq_true] at e
    have := e ps[k] (List.getElem_mem _)
    rw [bAt_of h, h1, h2] at this
    simp at this
theorem apartM_yes {ps : List (Int × Int)} {s : Nat} (h : ∀ j, j < ps.length → (s.testBit (bAt ps j).1.toNat && s.testBit (bAt ps j).2.toNat) = false) : apartM ps s = true := by
  simp only [apartM, List.all_eq_true]
  intro p hp
  obtain ⟨i, hi, rfl⟩ := List.mem_iff_getElem.1 hp
  rw [bAt_of hi, h i hi]; rfl

set_option maxRecDepth 100000 in
set_option maxHeartbeats 1000000 in
theorem l09Apart_any (v : Value) (ps : List (Int × Int)) (s : Nat) (w : World) (hv : PAt w w.heap.size v ps) (hl : ps.length ≤ 30) (hp : ∀ i, i < ps.length → 0 ≤ (bAt ps i).1 ∧ (bAt ps i).1 < 10 ∧ 0 ≤ (bAt ps i).2 ∧ (bAt ps i).2 < 10) (hs : s < 1024) :
    Calls Try.prog 100 #[v, .int .i64 (s : Nat)] w fun e w' => e = .returned (.bool (apartM ps s)) ∧ Below w.heap.size w w' := by
  obtain ⟨ar, c, rfl, hcl⟩ := hv
  have HCL := Lib.hid hcl
  have HP := Lib.hid hp
  clear hcl hp
  obtain ⟨R, hR⟩ : ∃ R, Hid (apartM ps s = R) := ⟨_, Lib.hid rfl⟩
  have hl2 : (ps.length : Int) ≤ 30 := by omega
  rw [hR.out]
  go_enter Try.func100, Try.ntmps100
  go_wp2
  go_loopw [5] (fun i wr => ∃ k : Nat, k ≤ ps.length ∧ i = .int .i64 (k : Int) ∧ (∀ j, j < k → (s.testBit (bAt ps j).1.toNat && s.testBit (bAt ps j).2.toNat) = false) ∧ Below w.heap.size w wr) (fun i _ => ps.length - (intOf i).toNat)
  case atStart => exact ⟨0, Nat.zero_le _, rfl, fun j h => by omega, Below.refl _ _⟩
  case round =>
    obtain ⟨k, hk, rfl, ha, hb⟩ := hrel
    have HB := Lib.hid hb
    have HA := Lib.hid ha
    clear ha
    by_cases hlt : k < ps.length
    · obtain ⟨b, off, rfl, hbs, c1, c2⟩ := HCL.out k hlt
      rw [bAt_of hlt] at c1 c2
      have u1 := (hb.cell (p := ⟨b, off + k * 2, none⟩) hbs).trans c1
      have u2 := (hb.cell (p := ⟨b, off + k * 2 + 1, none⟩) hbs).trans c2
      have P := HP.out k hlt
      have hk0 : 0 ≤ (k : Int) := by omega
      have hk1 : (k : Int) < (ps.length : Int) := by omega
      have NO := Lib.hid (fun h1 h2 => (show R = false by rw [← hR.out]; exact apartM_no hlt h1 h2))
      have YES := Lib.hid (show (s.testBit (bAt ps k).1.toNat && s.testBit (bAt ps k).2.toNat) = false → ∀ j, j < k + 1 → (s.testBit (bAt ps j).1.toNat && s.testBit (bAt ps j).2.toNat) = false from fun h j hj => by
        by_cases e : j = k
        · subst e; exact h
        · exact HA.out j (by omega))
      obtain ⟨⟨x1, x2⟩, hx⟩ : ∃ x, Hid (bAt ps k = x) := ⟨_, Lib.hid rfl⟩
      rw [hx.out] at u1 u2 P NO YES
      simp only at u1 u2 P NO YES
      obtain ⟨p0, p1, p2, p3⟩ := P
      obtain ⟨X, rfl⟩ : ∃ X : Nat, x1 = (X : Int) := ⟨x1.toNat, by omega⟩
      obtain ⟨Y, rfl⟩ : ∃ Y : Nat, x2 = (Y : Int) := ⟨x2.toNat, by omega⟩
      simp only [Int.toNat_natCast] at NO YES
      have bx := bitAt s X hs
      have bY := bitAt s Y hs
      clear c1 c2 hb
      cases t1 : s.testBit X with
      | false =>
        rw [t1] at bx NO YES
        rw [if_neg (by simp)] at bx
        have Y2 := Lib.hid (YES.out (by simp))
        clear bY t1
        go_wp2
        go_roundw
        case rel => exact ⟨k + 1, by omega, by go_num, Y2.out, HB.out⟩
        case measure => simp [intOf]; omega
      | true =>
        rw [t1] at bx NO YES
        rw [if_pos rfl] at bx
        cases t2 : s.testBit Y with
        | false =>
          rw [t2] at bY YES
          rw [if_neg (by simp)] at bY
          have Y2 := Lib.hid (YES.out (by simp))
          clear t1 t2
          go_wp2
          go_roundw
          case rel => exact ⟨k + 1, by omega, by go_num, Y2.out, HB.out⟩
          case measure => simp [intOf]; omega
        | true =>
          rw [t2] at bY NO
          rw [if_pos rfl] at bY
          have E := NO.out rfl rfl
          clear NO YES t1 t2
          subst E
          go_wp2
          go_ret
          exact ⟨rfl, HB.out⟩
    · obtain rfl : k = ps.length := by omega
      have E := apartM_yes HA.out
      rw [hR.out] at E
      subst E
      clear hb
      go_wp2
      go_ret
      exact ⟨rfl, HB.out⟩
end Go.Proofs.Ytemhmejjmhbfdab.sines
