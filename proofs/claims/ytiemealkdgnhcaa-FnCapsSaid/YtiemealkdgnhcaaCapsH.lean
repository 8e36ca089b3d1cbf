/- Numbers looked for in a list; what FnCaps asks of rings and of places under a cap. -/
import Derived.Test.YtiemealkdgnhcaaCapsU
import Derived.BigQuiet
namespace Go.Proofs.Ytiemealkdgnhcaa.sines
open Go.ChangeShapes Go.WideShapes Go.ChangeAt Go.RowKit Go.Proofs.Ytiemealkdgnhcaa.spots Go.Proofs.Ytiemealkdgnhcaa.irows Go.Proofs.Ytiemealkdgnhcaa.pairs
set_option linter.unusedSimpArgs false
set_option linter.unusedVariables false
theorem irow_at'' {w : World} {B : Nat} {v : Value} {zs : List Int} (h : IRow w B v zs) : ∃ a c, v = .slice a zs.length c ∧ ∀ k, (hk : k < zs.length) → ∃ g, a = some ⟨g, 0, none⟩ ∧ w.cell? ⟨g, k, none⟩ = some (.int .i64 zs[k]) := by
  obtain ⟨⟨a, c, rfl⟩, _⟩ := irow_shape h
  refine ⟨a, c, rfl, fun k hk => ?_⟩
  obtain ⟨g, e, _, hc⟩ := irow_at h k hk
  exact ⟨g, e, hc⟩
/-- The rings rise by the width, and end with the radius. -/
theorem ring_facts {r d : Int} {zs : List Int} (h : codeN r d = 0) (hr : 0 < r) (hz : ringsV r d = zs) : ∃ n, zs.length = n + 1 ∧ n ≤ 60 ∧ 1 ≤ d ∧ d ≤ 100000 ∧ (∀ k, (hk : k < zs.length) → 1 ≤ zs[k] ∧ zs[k] ≤ 100000 ∧ (k < n → zs[k] = d * ((k : Int) + 1))) ∧
    (∀ k, (hk : k + 1 < zs.length) → zs[k] < zs[k + 1]) ∧ ((hn : n < zs.length) → zs[n] = r) := by
  obtain ⟨r1, r2, d1, d2, hm⟩ := codeN_of h
  have wl := wholeN_le h
  have IFF := wholeN_iff hr d1
  rw [ringsV_pos h hr] at hz
  subst hz
  generalize wholeN r d = n at wl IFF
  have low : ∀ k, (hk : k < n) → (ringsK d n ++ [r])[k]'(by simp [ringsK_len]; omega) = ((k : Int) + 1) * d := fun k hk => by
    rw [List.getElem_append_left (by rw [ringsK_len]; exact hk)]
    simp [ringsK]
  have top : (ringsK d n ++ [r])[n]'(by simp [ringsK_len]) = r := by
    rw [List.getElem_append_right (by rw [ringsK_len]; exact Nat.le_refl _)]
    simp
  have pos : ∀ k : Nat, d ≤ ((k : Int) + 1) * d := fun k => by
    have e : ((k : Int) + 1) * d = (k : Int) * d + d := by rw [Int.add_mul, Int.one_mul]
    have : 0 ≤ (k : Int) * d := Int.mul_nonneg (by omega) (by omega)
    omega
  refine ⟨n, by simp [ringsK_len], wl, d1, d2, fun k hk => ?_, fun k hk => ?_, fun _ => top⟩
  · simp only [List.length_append, ringsK_len, List.length_cons, List.length_nil] at hk
    by_cases hkn : k < n
    · rw [low k hkn]
      have := (IFF k).2 hkn
      have := pos k
      exact ⟨by omega, by omega, fun _ => Int.mul_comm _ _⟩
    · obtain rfl : k = n := by omega
      rw [top]
      exact ⟨by omega, by omega, fun h => by omega⟩
  · simp only [List.length_append, ringsK_len, List.length_cons, List.length_nil] at hk
    by_cases hkn : k + 1 < n
    · rw [low k (by omega), low (k + 1) hkn]
      have e : (((k + 1 : Nat) : Int) + 1) * d = ((k : Int) + 1) * d + d := by
        rw [Int.natCast_add, Int.add_mul ((k : Int) + ((1 : Nat) : Int))]
        simp
      omega
    · have e : k + 1 = n := by omega
      subst e
      rw [low k (by omega), top]
      exact (IFF k).2 (by omega)
theorem underK_mem (E : Int) (ps : List (Int × Int)) : ∀ (m k : Nat), ((k : Int) ∈ underK E ps m ↔ k < m ∧ E ≤ (ps.getD k (0, 0)).1)
  | 0, k => by simp [underK]
  | m + 1, k => by
    have ih := underK_mem E ps m k
    unfold underK
    split
    · rename_i h
      rw [List.mem_append, ih, List.mem_singleton]
      constructor
      · rintro (h | h)
        · exact ⟨by omega, h.2⟩
        · obtain rfl : k = m := by omega
          exact ⟨by omega, by assumption⟩
      · rintro ⟨h1, h2⟩
        by_cases e : k = m
        · exact .inr (by omega)
        · exact .inl ⟨by omega, h2⟩
    · rename_i h
      rw [ih]
      constructor
      · rintro ⟨h1, h2⟩; exact ⟨by omega, h2⟩
      · rintro ⟨h1, h2⟩
        refine ⟨?_, h2⟩
        by_cases e : k = m
        · subst e; exact absurd h2 h
        · omega
theorem codeQ_of {a r d p q : Int} (h : codeQ a r d p q = 0) : okB p q = true ∧ 1 ≤ a ∧ 1 ≤ d := by
  unfold codeQ at h
  split at h
  · rename_i h1
    split at h
    · rename_i h2
      simp only [Bool.and_eq_true] at h2
      exact ⟨h1, (inB_of h2.1.1).1, (inB_of h2.2).1⟩
    · omega
  · omega
theorem ring_nonneg (a r d p q : Int) : 0 ≤ ansK (codeQ a r d p q) (ringC a d p) := by
  unfold ansK
  split
  · obtain ⟨h, a1, d1⟩ := codeQ_of (by assumption)
    obtain ⟨p1, p2, _, _⟩ := okB_ofK h
    exact Int.ediv_nonneg (Int.ediv_nonneg (Int.mul_nonneg (by omega) (by omega)) (by decide)) (by omega)
  · exact Int.le_refl _
set_option maxRecDepth 100000 in
set_option maxHeartbeats 1000000 in
theorem f6has_cells (a : Option Addr) (c : Nat) (zs : List Int) (n : Int) (w : World) (ha : ∀ k, (hk : k < zs.length) → ∃ g, a = some ⟨g, 0, none⟩ ∧ w.cell? ⟨g, k, none⟩ = some (.int .i64 zs[k])) (hn : zs.length ≤ 1073741824) :
    Calls Try.prog 35 #[.slice a zs.length c, .int .i64 n] w fun e w' => e = .returned (.bool (decide (n ∈ zs))) ∧ w = w' := by
  have HA := Lib.hid ha
  obtain ⟨b, HM⟩ : ∃ b, Hid (decide (n ∈ zs) = b) := ⟨_, Lib.hid rfl⟩
  rw [HM.out]
  clear ha
  go_enter Try.func35, Try.ntmps35
  go_wp2
  go_loopw [5] (fun i wr => ∃ k : Nat, k ≤ zs.length ∧ i = .int .i64 (k : Int) ∧ wr = w ∧ ∀ j, (h : j < zs.length) → j < k → zs[j] ≠ n) (fun i _ => zs.length - (intOf i).toNat)
  case atStart => exact ⟨0, Nat.zero_le _, rfl, rfl, fun j _ h => by omega⟩
  case round =>
    obtain ⟨k, hk, rfl, rfl, hno⟩ := hrel
    have HN := Lib.hid hno
    clear hno
    by_cases hlt : k < zs.length
    · obtain ⟨ga, rfl, hca⟩ := HA.out k hlt
      have hk0 : 0 ≤ (k : Int) := by omega
      have hk1 : (k : Int) < (zs.length : Int) := by omega
      have NX := Lib.hid (show zs[k] ≠ n → ∀ j, (h : j < zs.length) → j < k + 1 → zs[j] ≠ n from fun h j hj hjk => by
        by_cases e : j = k
        · subst e; exact h
        · exact HN.out j hj (by omega))
      have YX := Lib.hid (show zs[k] = n → b = true from fun h => by rw [← HM.out]; exact decide_eq_true (h ▸ List.getElem_mem _))
      generalize zs[k] = x at hca NX YX
      by_cases e : x = n
      · have e1 : (x == n) = true := by simp [e]
        obtain rfl := YX.out e
        clear e
        go_wp2
        go_ret
        exact ⟨rfl, rfl⟩
      · have e1 : (x == n) = false := by simpa using e
        have NY := Lib.hid (NX.out e)
        clear e
        go_wp2
        go_roundw
        case rel => exact ⟨k + 1, by omega, by go_num, by first | rfl | trivial, NY.out⟩
        case measure => simp [intOf]; omega
    · obtain rfl : k = zs.length := by omega
      have BX := Lib.hid (show b = false from by
        rw [← HM.out]
        refine decide_eq_false fun h => ?_
        obtain ⟨j, hj, e⟩ := List.mem_iff_getElem.1 h
        exact HN.out j hj hj e)
      obtain rfl := BX.out
      go_wp2
      go_ret
      exact ⟨rfl, rfl⟩
theorem f6has_is (a : Option Addr) (c N : Nat) (zs : List Int) (n : Int) (b : Bool) (w : World) (hL : zs.length = N) (ha : ∀ k, (hk : k < zs.length) → ∃ g, a = some ⟨g, 0, none⟩ ∧ w.cell? ⟨g, k, none⟩ = some (.int .i64 zs[k])) (hn : N ≤ 1073741824) (hb : decide (n ∈ zs) = b) :
    Calls Try.prog 35 #[.slice a N c, .int .i64 n] w fun e w' => e = .returned (.bool b) ∧ w = w' := by
  subst hL hb
  exact f6has_cells a c zs n w ha hn
end Go.Proofs.Ytiemealkdgnhcaa.sines
