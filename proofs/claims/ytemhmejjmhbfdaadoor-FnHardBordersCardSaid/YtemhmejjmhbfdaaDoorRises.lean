/- Numbers looked for in a list, and lists that rise. -/
import Derived.Test.YtemhmejjmhbfdaaDoorIRows
import Derived.Test.YtemhmejjmhbfdaaDoorColsR
import Derived.Test.YtemhmejjmhbfdaaDoorSines
import Derived.BigQuiet
namespace Go.Proofs.YtemhmejjmhbfdaaDoor.rises
open Go.ChangeShapes Go.WideShapes Go.ChangeAt Go.RowKit Go.Proofs.YtemhmejjmhbfdaaDoor.spots Go.Proofs.YtemhmejjmhbfdaaDoor.sines Go.Proofs.YtemhmejjmhbfdaaDoor.irows
set_option linter.unusedSimpArgs false

/-- Numbers strictly increasing, from 0 to less than another one. -/
def RisesTo (zs : List Int) (n : Int) : Prop := (∀ z ∈ zs, 0 ≤ z ∧ z < n) ∧ zs.Pairwise (· < ·)
theorem irow_at' {w : World} {B : Nat} {v : Value} {zs : List Int} (h : IRow w B v zs) : ∃ a c, v = .slice a zs.length c ∧ ∀ k, (hk : k < zs.length) → ∃ g, a = some ⟨g, 0, none⟩ ∧ B ≤ g ∧ g < w.heap.size ∧ w.cell? ⟨g, k, none⟩ = some (.int .i64 zs[k]) := by
  obtain ⟨⟨a, c, rfl⟩, _⟩ := irow_shape h
  refine ⟨a, c, rfl, fun k hk => ?_⟩
  obtain ⟨g, e, hB, hc⟩ := irow_at h k hk
  exact ⟨g, e, hB, World.block_lt_of_cell? _ _ hc, hc⟩

set_option maxRecDepth 100000 in
set_option maxHeartbeats 1000000 in
theorem a2Has_cells (a : Option Addr) (c : Nat) (zs : List Int) (n : Int) (w : World) (ha : ∀ k, (hk : k < zs.length) → ∃ g, a = some ⟨g, 0, none⟩ ∧ w.cell? ⟨g, k, none⟩ = some (.int .i64 zs[k])) (hn : zs.length ≤ 1073741824) :
    Calls Tryd.prog 9 #[.slice a zs.length c, .int .i64 n] w fun e w' => e = .returned (.bool (decide (n ∈ zs))) ∧ w = w' := by
  have HA := Lib.hid ha
  obtain ⟨b, HM⟩ : ∃ b, Hid (decide (n ∈ zs) = b) := ⟨_, Lib.hid rfl⟩
  rw [HM.out]
  clear ha
  go_enter Tryd.func9, Tryd.ntmps9
  go_wp2
  go_loopw [5] (fun i wr => ∃ k : Nat, k ≤ zs.length ∧ i = .int .i64 (k : Int) ∧ wr = w ∧ ∀ j, (h : j < zs.length) → j < k → zs[j] ≠ n) (fun i _ => zs.length - (intOf i).toNat)
  case atStart => exact ⟨0, Nat.zero_le _, rfl, rfl, fun j _ h => by omega⟩
  case round =>
    obtain ⟨k, hk, rfl, rfl, hno⟩ := hrel
    have HN := Lib.hid hno
    clear hno
    by_cases hlt : k < zs.length
    · obtain ⟨ga, rfl, hca⟩ := HA.out k hlt
      have hk0 : 0 ≤ (k : Int) := by omega
      have hk1 : (k : Int) < (zs.length : Int) := by omega
      have NX := Lib.hid (show zs[k] ≠ n → ∀ j, (h : j < zs.length) → j < k + 1 → zs[j] ≠ n from fun h j hj hjk => by
        by_cases e : j = k
        · subst e; exact h
        · exact HN.out j hj (by omega))
      have YX := Lib.hid (show zs[k] = n → b = true from fun h => by rw [← HM.out]; exact decide_eq_true (h ▸ List.getElem_mem _))
      generalize zs[k] = x at hca NX YX
      by_cases e : x = n
      · have e1 : (x == n) = true := by simp [e]
        obtain rfl := YX.out e
        clear e
        go_wp2
        go_ret
        exact ⟨rfl, rfl⟩
      · have e1 : (x == n) = false := by simpa using e
        have NY := Lib.hid (NX.out e)
        clear e
        go_wp2
        go_roundw
        case rel => exact ⟨k + 1, by omega, by go_num, by first | rfl | trivial, NY.out⟩
        case measure => simp [intOf]; omega
    · obtain rfl : k = zs.length := by omega
      have BX := Lib.hid (show b = false from by
        rw [← HM.out]
        refine decide_eq_false fun h => ?_
        obtain ⟨j, hj, e⟩ := List.mem_iff_getElem.1 h
        exact HN.out j hj hj e)
      obtain rfl := BX.out
      go_wp2
      go_ret
      exact ⟨rfl, rfl⟩

set_option maxRecDepth 100000 in
set_option maxHeartbeats 2000000 in
theorem a2Rises_yes (v : Value) (B : Nat) (zs : List Int) (n : Int) (w : World) (h : IRow w B v zs) (hn : zs.length ≤ 1048576) (hr : RisesTo zs n) :
    Calls Tryd.prog 8 #[v, .int .i64 n] w fun e w' => e = .returned (.bool true) ∧ ∃ q, w' = w.drewN q := by
  obtain ⟨a, c, rfl, ha⟩ := irow_at' h
  have HA := Lib.hid ha
  have H1 := Lib.hid (show ∀ k, (hk : k < zs.length) → 0 ≤ zs[k] ∧ zs[k] < n from fun k hk => hr.1 _ (List.getElem_mem hk))
  have H2 := Lib.hid (show ∀ k, (hk : k + 1 < zs.length) → zs[k] < zs[k + 1] from fun k hk => (List.pairwise_iff_getElem.1 hr.2) k (k + 1) (by omega) hk (by omega))
  clear h ha hr
  go_enter Tryd.func8, Tryd.ntmps8
  go_wp2
  go_loopw [5] (fun i wr => ∃ k q : Nat, k ≤ zs.length ∧ i = .int .i64 (k : Int) ∧ wr = w.drewN q) (fun i _ => zs.length - (intOf i).toNat)
  case atStart => exact ⟨0, 0, Nat.zero_le _, rfl, rfl⟩
  case round =>
    obtain ⟨k, q, hk, rfl, rfl⟩ := hrel
    by_cases hlt : k < zs.length
    · obtain ⟨g, rfl, _, _, hc⟩ := HA.out k hlt
      obtain ⟨z0, z1⟩ := H1.out k hlt
      have hk0 : 0 ≤ (k : Int) := by omega
      have hk1 : (k : Int) < (zs.length : Int) := by omega
      have e1 : decide (zs[k] < 0) = false := decide_eq_false (by omega)
      have e2 : decide (n ≤ zs[k]) = false := decide_eq_false (by omega)
      rcases k with _ | p
      · generalize zs[0] = z at hc z0 z1 e1 e2
        go_wp2
        go_quiet (fail)
        go_wp2
        go_roundw
        case rel => exact ⟨1, _, by omega, by go_num, rfl⟩
        case measure => simp [intOf]; omega
      · obtain ⟨g', eg, _, _, hd⟩ := HA.out p (by omega)
        simp at eg
        subst eg
        have hp := H2.out p hlt
        have e3 : decide (0 < ((p + 1 : Nat) : Int)) = true := decide_eq_true (by omega)
        have e4 : IntKind.i64.wrap (((p + 1 : Nat) : Int) - 1) = (p : Int) := by rw [IntWalk.i64_in _ (by omega)]; omega
        have e5 : decide (zs[p + 1] ≤ zs[p]) = false := decide_eq_false (by omega)
        have p0 : 0 ≤ (p : Int) := by omega
        have p1 : (p : Int) < (zs.length : Int) := by omega
        generalize zs[p + 1] = z at hc z0 z1 e1 e2 e5 hp
        generalize zs[p] = y at hd e5 hp
        go_wp2
        go_quiet (fail)
        go_wp2
        go_roundw
        case rel => exact ⟨p + 1 + 1, _, by omega, by go_num, rfl⟩
        case measure => simp [intOf]; omega
    · obtain rfl : k = zs.length := by omega
      go_wp2
      go_ret
      exact ⟨rfl, q, rfl⟩

theorem a2Has_row (v : Value) (B : Nat) (zs : List Int) (n : Int) (w : World) (h : IRow w B v zs) (hn : zs.length ≤ 1073741824) :
    Calls Tryd.prog 9 #[v, .int .i64 n] w fun e w' => e = .returned (.bool (decide (n ∈ zs))) ∧ w = w' := by
  obtain ⟨a, c, rfl, ha⟩ := irow_at' h
  exact a2Has_cells a c zs n w (fun k hk => by obtain ⟨g, e, _, _, hc⟩ := ha k hk; exact ⟨g, e, hc⟩) hn
end Go.Proofs.YtemhmejjmhbfdaaDoor.rises
