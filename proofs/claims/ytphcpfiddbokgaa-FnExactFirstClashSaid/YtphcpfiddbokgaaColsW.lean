/- The model's search for colours: what is free. -/
import Derived.Test.YtphcpfiddbokgaaColsC
namespace Go.Proofs.Ytphcpfiddbokgaa.sines
open Go.ChangeShapes Go.WideShapes Go.ChangeAt Go.RowKit Go.Proofs.Ytphcpfiddbokgaa.spots Go.Proofs.Ytphcpfiddbokgaa.irows Go.Proofs.Ytphcpfiddbokgaa.pairsBorder
set_option linter.unusedSimpArgs false
set_option linter.unusedVariables false

theorem freeC_no {ps : List (Int × Int)} {cs : List Int} {c : Int} {k : Nat} (h : k < ps.length) (h1 : (bAt ps k).2 = (cs.length : Int)) (h2 : cAt cs (bAt ps k).1 = c) : freeC ps cs c = false := by
  cases e : freeC ps cs c with
  | false => rfl
  | true =>
    simp only [freeC, List.all_eq_true] at e
    have := e ps[k] (List.getElem_mem _)
    rw [bAt_of h] at this
    simp [h1, h2] at this
theorem freeC_yes {ps : List (Int × Int)} {cs : List Int} {c : Int} (h : ∀ j, j < ps.length → ¬ ((bAt ps j).2 = (cs.length : Int) ∧ cAt cs (bAt ps j).1 = c)) : freeC ps cs c = true := by
  simp only [freeC, List.all_eq_true]
  intro p hp
  obtain ⟨i, hi, rfl⟩ := List.mem_iff_getElem.1 hp
  rw [bAt_of hi]
  have := h i hi
  simp only [Bool.not_eq_true', Bool.and_eq_false_iff, decide_eq_false_iff_not]
  exact Decidable.not_and_iff_or_not.1 this

set_option maxRecDepth 100000 in
set_option maxHeartbeats 4000000 in
theorem free_any (g : Nat) (v u : Value) (ps : List (Int × Int)) (cs : List Int) (c : Int) (w : World) (hg : w.cell? ⟨g, 1, none⟩ = some v) (hv : PAt w w.heap.size v ps) (hu : IAt w w.heap.size u cs) (hl : ps.length ≤ 30) (hc : cs.length ≤ 10) (hp : ∀ i, i < ps.length → 0 ≤ (bAt ps i).1 ∧ (bAt ps i).1 < (bAt ps i).2) :
    Calls Try.prog 58 #[.pointer (some ⟨g, 0, none⟩), u, .int .i64 c] w fun e w' => e = .returned (.bool (freeC ps cs c)) ∧ w = w' := by
  obtain ⟨ar, c1, rfl, hcl⟩ := hv
  obtain ⟨ar2, c2, rfl, hcl2⟩ := hu
  have HCL := Lib.hid hcl
  have HCL2 := Lib.hid hcl2
  have HP := Lib.hid hp
  clear hcl hcl2 hp
  obtain ⟨R, hR⟩ : ∃ R, Hid (freeC ps cs c = R) := ⟨_, Lib.hid rfl⟩
  have hl2 : (ps.length : Int) ≤ 30 := by omega
  have hl3 : (cs.length : Int) ≤ 10 := by omega
  rw [hR.out]
  go_enter Try.func58, Try.ntmps58
  go_wp2
  go_loopw [8] (fun i wr => ∃ k : Nat, k ≤ ps.length ∧ i = .int .i64 (k : Int) ∧ (∀ j, j < k → ¬ ((bAt ps j).2 = (cs.length : Int) ∧ cAt cs (bAt ps j).1 = c)) ∧ w = wr) (fun i _ => ps.length - (intOf i).toNat)
  case atStart => exact ⟨0, Nat.zero_le _, rfl, fun j h => by omega, rfl⟩
  case round =>
    obtain ⟨k, hk, rfl, ha, rfl⟩ := hrel
    have HA := Lib.hid ha
    clear ha
    by_cases hlt : k < ps.length
    · obtain ⟨b, off, rfl, hbs, u1, u2⟩ := HCL.out k hlt
      rw [bAt_of hlt] at u1 u2
      have hk0 : 0 ≤ (k : Int) := by omega
      have hk1 : (k : Int) < (ps.length : Int) := by omega
      have NO := Lib.hid (show (bAt ps k).2 = (cs.length : Int) → cAt cs (bAt ps k).1 = c → R = false from fun h1 h2 => by rw [← hR.out]; exact freeC_no hlt h1 h2)
      have NX := Lib.hid (show ¬ ((bAt ps k).2 = (cs.length : Int) ∧ cAt cs (bAt ps k).1 = c) → ∀ j, j < k + 1 → ¬ ((bAt ps j).2 = (cs.length : Int) ∧ cAt cs (bAt ps j).1 = c) from fun h j hj => by
        by_cases e : j = k
        · subst e; exact h
        · exact HA.out j (by omega))
      have P := HP.out k hlt
      obtain ⟨⟨x1, x2⟩, hx⟩ : ∃ x, Hid (bAt ps k = x) := ⟨_, Lib.hid rfl⟩
      rw [hx.out] at u1 u2 NO NX P
      simp only at u1 u2 NO NX P
      obtain ⟨p0, p1⟩ := P
      obtain ⟨X, rfl⟩ : ∃ X : Nat, x1 = (X : Int) := ⟨x1.toNat, by omega⟩
      by_cases h2 : x2 = (cs.length : Int)
      · subst h2
        have q0 : (X : Int) < (cs.length : Int) := by omega
        obtain ⟨b2, off2, rfl, hbs2, u3⟩ := HCL2.out X (by omega)
        rw [cAt_nat] at NO NX
        generalize zAt cs X = y at u3 NO NX
        by_cases h3 : y = c
        · obtain rfl := NO.out rfl h3
          subst h3
          go_wp2
          go_ret
          exact ⟨rfl, rfl⟩
        · have NX2 := Lib.hid (NX.out (fun h => h3 h.2))
          have f3 : (y == c) = false := by simpa using h3
          go_wp2
          go_roundw
          case rel => exact ⟨k + 1, by omega, by go_num, NX2.out, by first | rfl | trivial⟩
          case measure => simp [intOf]; omega
      · have NX2 := Lib.hid (NX.out (fun h => h2 h.1))
        have f2 : (x2 == (cs.length : Int)) = false := by simpa using h2
        go_wp2
        go_roundw
        case rel => exact ⟨k + 1, by omega, by go_num, NX2.out, by first | rfl | trivial⟩
        case measure => simp [intOf]; omega
    · obtain rfl : k = ps.length := by omega
      obtain rfl : R = true := by rw [← hR.out]; exact freeC_yes HA.out
      go_wp2
      go_ret
      exact ⟨rfl, rfl⟩
end Go.Proofs.Ytphcpfiddbokgaa.sines
