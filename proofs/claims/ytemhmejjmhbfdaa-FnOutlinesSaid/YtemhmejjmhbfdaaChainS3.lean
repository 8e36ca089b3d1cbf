/- The model's functions of chains: equal chains, lengths, sides, picked points: contracts. -/
import Derived.Test.YtemhmejjmhbfdaaChainS2
namespace Go.Proofs.Ytemhmejjmhbfdaa.sines
open Go.ChangeShapes Go.WideShapes Go.ChangeAt Go.RowKit Go.Proofs.Ytemhmejjmhbfdaa.spots Go.Proofs.Ytemhmejjmhbfdaa.irows Go.Proofs.Ytemhmejjmhbfdaa.pairsPlace
set_option linter.unusedSimpArgs false
set_option linter.unusedVariables false

theorem pat_ext {ps qs : List Pl} (hl : ps.length = qs.length) (h : ∀ j, j < ps.length → pAt ps j = pAt qs j) : ps = qs := by
  apply List.ext_getElem hl
  intro j h1 h2
  have := h j h1
  rwa [pAt_eq h1, pAt_eq h2] at this
set_option maxRecDepth 100000 in
set_option maxHeartbeats 1000000 in
theorem specSameChain_any (v u : Value) (ps qs : List (Int × Int)) (w : World) (hv : PAt w w.heap.size v ps) (hu : PAt w w.heap.size u qs) (hl : ps.length ≤ 1048576) (hm : qs.length ≤ 1048576) :
    Calls Try.prog 57 #[v, u] w fun e w' => e = .returned (.bool (decide (ps = qs))) ∧ Below w.heap.size w w' := by
  obtain ⟨ar, c, rfl, hcl⟩ := hv
  obtain ⟨br, c2, rfl, hdl⟩ := hu
  have HCL := Lib.hid hcl
  have HDL := Lib.hid hdl
  clear hcl hdl
  have hl2 : (ps.length : Int) ≤ 1048576 := by omega
  have hm2 : (qs.length : Int) ≤ 1048576 := by omega
  obtain ⟨R, hR⟩ : ∃ R, Hid (decide (ps = qs) = R) := ⟨_, Lib.hid rfl⟩
  rw [hR.out]
  by_cases hne : ps.length = qs.length
  · have hne2 : (ps.length : Int) = (qs.length : Int) := by omega
    have hb : ((ps.length : Int) == (qs.length : Int)) = true := by simp [hne]
    have hb2 : ((ps.length : Int) != (qs.length : Int)) = false := by simp [hne]
    go_enter Try.func57, Try.ntmps57
    go_wp2
    go_loopw [5] (fun i wr => ∃ k q : Nat, k ≤ ps.length ∧ i = .int .i64 (k : Int) ∧ (∀ j, j < k → pAt ps j = pAt qs j) ∧ wr = w.drewN q) (fun i _ => ps.length - (intOf i).toNat)
    case atStart => exact ⟨0, 0, Nat.zero_le _, rfl, fun j h => by omega, rfl⟩
    case round =>
      obtain ⟨k, q, hk, rfl, ha, rfl⟩ := hrel
      have HA := Lib.hid ha
      clear ha hb hb2
      by_cases hlt : k < ps.length
      · obtain ⟨b, off, rfl, hbs, c1, c2⟩ := HCL.out k hlt
        obtain ⟨b2, off2, rfl, hbs2, d1, d2⟩ := HDL.out k (by omega)
        rw [pat_of hlt] at c1 c2
        rw [pat_of (by omega)] at d1 d2
        have hk0 : 0 ≤ (k : Int) := by omega
        have hk1 : (k : Int) < (ps.length : Int) := by omega
        have hk2 : (k : Int) < (qs.length : Int) := by omega
        have NO := Lib.hid (show ((pAt ps k).1, (pAt ps k).2) ≠ ((pAt qs k).1, (pAt qs k).2) → R = false from fun h => by
          rw [← hR.out]
          cases e : decide (ps = qs) with
          | false => rfl
          | true => simp only [decide_eq_true_eq] at e; subst e; exact absurd rfl h)
        have YES := Lib.hid (show ((pAt ps k).1, (pAt ps k).2) = ((pAt qs k).1, (pAt qs k).2) → ∀ j, j < k + 1 → pAt ps j = pAt qs j from fun h j hj => by
          by_cases e : j = k
          · subst e; exact h
          · exact HA.out j (by omega))
        generalize (pAt ps k).1 = x1 at c1 NO YES
        generalize (pAt ps k).2 = x2 at c2 NO YES
        generalize (pAt qs k).1 = y1 at d1 NO YES
        generalize (pAt qs k).2 = y2 at d2 NO YES
        by_cases h1 : x1 = y1
        · by_cases h2 : x2 = y2
          · have Y := Lib.hid (YES.out (by rw [h1, h2]))
            subst h1 h2
            clear YES NO
            go_wp2
            all_goals (try (go_quiet (fail); go_wp2))
            all_goals
              go_roundw
              case rel => exact ⟨k + 1, _, by omega, by go_num, Y.out, rfl⟩
              case measure => simp [intOf]; omega
          · obtain rfl := NO.out (fun e => h2 (by simpa using (Prod.mk.inj e).2))
            subst h1
            clear YES NO
            go_wp2
            all_goals (try (go_quiet (fail); go_wp2))
            all_goals
              go_ret
              exact ⟨rfl, (by first | exact bdP (bdP (Below.refl _ _) _) _ | exact bdP (Below.refl _ _) _)⟩
        · obtain rfl := NO.out (fun e => h1 (by simpa using (Prod.mk.inj e).1))
          clear YES NO
          go_wp2
          all_goals (try (go_quiet (fail); go_wp2))
          all_goals
            go_ret
            exact ⟨rfl, (by first | exact bdP (bdP (Below.refl _ _) _) _ | exact bdP (Below.refl _ _) _)⟩
      · obtain rfl : k = ps.length := by omega
        have RT : R = true := by rw [← hR.out]; exact decide_eq_true (pat_ext hne HA.out)
        subst RT
        go_wp2
        go_ret
        exact ⟨rfl, bdP (Below.refl _ _) _⟩
  · have RF : R = false := by rw [← hR.out]; exact decide_eq_false (fun e => hne (by rw [e]))
    subst RF
    have hb : ((ps.length : Int) == (qs.length : Int)) = false := by simp; omega
    have hb2 : ((ps.length : Int) != (qs.length : Int)) = true := by simp; omega
    have hne2 : ¬ (ps.length : Int) = (qs.length : Int) := by omega
    go_enter Try.func57, Try.ntmps57
    go_wp2
    go_ret
    exact ⟨rfl, Below.refl _ _⟩
def lowV (ps : List Pl) : Int := if okC ps = true then lowN ps (ps.length - 1) else 0
def highV (ps : List Pl) : Int := if okC ps = true then highN ps (ps.length - 1) else 0
theorem ret3 {a b c d e f : Int} (h : a = b) (g : c = d) (k : e = f) : Ending.returned (.tuple #[.int .i64 a, .int .i64 c, .int .i64 e]) = .returned (.tuple #[.int .i64 b, .int .i64 d, .int .i64 f]) := by rw [h, g, k]
end Go.Proofs.Ytemhmejjmhbfdaa.sines
