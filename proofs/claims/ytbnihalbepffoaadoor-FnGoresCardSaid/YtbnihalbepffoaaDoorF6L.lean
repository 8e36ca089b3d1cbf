/- Lists in the new laws: compared, looked through. -/
import Derived.Test.YtbnihalbepffoaaDoorIRows
namespace Go.Proofs.YtbnihalbepffoaaDoor.irows
open Go.ChangeShapes Go.WideShapes Go.ChangeAt Go.RowKit
set_option maxRecDepth 100000 in
set_option maxHeartbeats 1000000 in
theorem f6ints_same (va vb : Value) (Ba Bb : Nat) (zs : List Int) (w : World) (ha : IRow w Ba va zs) (hb : IRow w Bb vb zs) (hn : zs.length ≤ 1073741824) :
    Calls Tryd.prog 32 #[va, vb] w fun e w' => e = .returned (.bool true) ∧ ∃ q, w' = w.drewN q := by
  obtain ⟨⟨aa, ca, rfl⟩, _⟩ := irow_shape ha
  obtain ⟨⟨ab, cb, rfl⟩, _⟩ := irow_shape hb
  have HA := Lib.hid (fun k hk => irow_at ha k hk)
  have HB := Lib.hid (fun k hk => irow_at hb k hk)
  clear ha hb
  go_enter Tryd.func32, Tryd.ntmps32
  go_wp2
  go_loopw [5] (fun i wr => ∃ k q : Nat, k ≤ zs.length ∧ i = .int .i64 (k : Int) ∧ wr = w.drewN q) (fun i _ => zs.length - (intOf i).toNat)
  case atStart => exact ⟨0, 0, Nat.zero_le _, rfl, rfl⟩
  case round =>
    obtain ⟨k, q, hk, rfl, rfl⟩ := hrel
    by_cases hlt : k < zs.length
    · obtain ⟨ga, rfl, _, hca⟩ := HA.out k hlt
      obtain ⟨gb, rfl, _, hcb⟩ := HB.out k hlt
      have hk0 : 0 ≤ (k : Int) := by omega
      have hk1 : (k : Int) < (zs.length : Int) := by omega
      generalize zs[k] = x at hca hcb
      go_wp2
      go_quiet (fail)
      go_wp2
      go_roundw
      case rel => exact ⟨k + 1, _, by omega, by go_num, rfl⟩
      case measure => simp [intOf]; omega
    · obtain rfl : k = zs.length := by omega
      go_wp2
      go_ret
      exact ⟨rfl, q, rfl⟩
set_option maxRecDepth 100000 in
set_option maxHeartbeats 1000000 in
theorem f6has_yes (v : Value) (B : Nat) (zs : List Int) (n : Int) (w : World) (ha : IRow w B v zs) (hn : zs.length ≤ 1073741824) (hm : n ∈ zs) :
    Calls Tryd.prog 35 #[v, .int .i64 n] w fun e w' => e = .returned (.bool true) ∧ w = w' := by
  obtain ⟨⟨aa, ca, rfl⟩, _⟩ := irow_shape ha
  have HA := Lib.hid (fun k hk => irow_at ha k hk)
  have HM := Lib.hid hm
  clear ha hm
  go_enter Tryd.func35, Tryd.ntmps35
  go_wp2
  go_loopw [5] (fun i wr => ∃ k : Nat, k ≤ zs.length ∧ i = .int .i64 (k : Int) ∧ wr = w ∧ ∀ j, (h : j < zs.length) → j < k → zs[j] ≠ n) (fun i _ => zs.length - (intOf i).toNat)
  case atStart => exact ⟨0, Nat.zero_le _, rfl, rfl, fun j _ h => by omega⟩
  case round =>
    obtain ⟨k, hk, rfl, rfl, hno⟩ := hrel
    have HN := Lib.hid hno
    clear hno
    by_cases hlt : k < zs.length
    · obtain ⟨ga, rfl, _, hca⟩ := HA.out k hlt
      have hk0 : 0 ≤ (k : Int) := by omega
      have hk1 : (k : Int) < (zs.length : Int) := by omega
      have NX := Lib.hid (show zs[k] ≠ n → ∀ j, (h : j < zs.length) → j < k + 1 → zs[j] ≠ n from fun h j hj hjk => by
        by_cases e : j = k
        · subst e; exact h
        · exact HN.out j hj (by omega))
      generalize zs[k] = x at hca NX
      by_cases hx : x = n
      · have e1 : (x == n) = true := by simpa using hx
        clear hx
        go_wp2
        go_ret
        exact ⟨rfl, by trivial⟩
      · have e1 : (x == n) = false := by simpa using hx
        have NY := Lib.hid (NX.out hx)
        clear hx
        go_wp2
        go_roundw
        case rel => exact ⟨k + 1, by omega, by go_num, by trivial, NY.out⟩
        case measure => simp [intOf]; omega
    · exfalso
      obtain ⟨j, hj, e⟩ := List.mem_iff_getElem.1 HM.out
      exact HN.out j hj (by omega) e
end Go.Proofs.YtbnihalbepffoaaDoor.irows
