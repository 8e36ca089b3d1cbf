/- Lists of places are marked from any number on, and looked at again. -/
import Derived.Test.YtemhmejjmhbfdabPairsPlace
namespace Go.Proofs.Ytemhmejjmhbfdab.pairsPlace
open Go.ChangeShapes Go.WideShapes Go.ChangeAt Go.RowKit Go.Proofs.Ytemhmejjmhbfdab.irows Go.Proofs.Ytemhmejjmhbfdab.spots
set_option linter.unusedSimpArgs false
set_option linter.unusedVariables false
def marksK (k0 n : Nat) : List (Int × Int) := (List.range n).map fun i : Nat => ((k0 : Int) + 2 * (i : Int), (k0 : Int) + 2 * (i : Int) + 1)
theorem marksK_len (k0 n : Nat) : (marksK k0 n).length = n := by simp [marksK]
theorem marksK_at (k0 n k : Nat) (h : k < n) : (marksK k0 n)[k]'(by rw [marksK_len]; exact h) = ((k0 : Int) + 2 * (k : Int), (k0 : Int) + 2 * (k : Int) + 1) := by simp [marksK]
theorem marksK_set (k0 : Nat) (ps : List (Int × Int)) (k : Nat) (h : k < ps.length) : (marksK k0 k ++ ps.drop k).set k ((k0 : Int) + 2 * (k : Int), (k0 : Int) + 2 * (k : Int) + 1) = marksK k0 (k + 1) ++ ps.drop (k + 1) := by
  rw [List.set_append_right _ _ (by rw [marksK_len]; exact Nat.le_refl _), marksK_len, Nat.sub_self, List.drop_eq_getElem_cons h, List.set_cons_zero]
  simp [marksK, List.range_succ]
theorem marksK_mid (k0 : Nat) (ps : List (Int × Int)) (k : Nat) (h : k ≤ ps.length) : (marksK k0 k ++ ps.drop k).length = ps.length := by simp [marksK_len]; omega
set_option maxRecDepth 100000 in
set_option maxHeartbeats 1000000 in
theorem markK_any (k0 : Nat) (v : Value) (B : Nat) (ps : List (Int × Int)) (w : World) (h : PRow w B v ps) (hl : ps.length ≤ 1048576) (hk0 : k0 ≤ 4000000) :
    Calls Try.prog 37 #[v, .int .i64 (k0 : Int)] w fun e w' => e = .returned (.int .i64 ((k0 : Int) + 2 * (ps.length : Int))) ∧ PRow w' B v (marksK k0 ps.length) ∧ w.grownBy w' v.ownBlock := by
  have hsh : ∃ a c, v = .slice a ps.length c := by obtain ⟨a, c, e, _⟩ := prow_at h; exact ⟨a, c, e⟩
  obtain ⟨a, c, rfl⟩ := hsh
  have H := Lib.hid h
  clear h
  have hl2 : (ps.length : Int) ≤ 1048576 := by omega
  have hk2 : (k0 : Int) ≤ 4000000 := by omega
  go_enter Try.func37, Try.ntmps37
  go_wp2
  go_loopw [1, 5] (fun m i wr => ∃ k : Nat, k ≤ ps.length ∧ i = .int .i64 (k : Int) ∧ m = .int .i64 ((k0 : Int) + 2 * (k : Int)) ∧ (∃ qs, qs = marksK k0 k ++ ps.drop k ∧ PRow wr B (.slice a ps.length c) qs) ∧ w.grownBy wr (Value.slice a ps.length c).ownBlock) (fun _ i _ => ps.length - (intOf i).toNat)
  case atStart => exact ⟨0, Nat.zero_le _, rfl, by simp, ⟨ps, by simp [marksK], H.out⟩, World.grownBy.refl _ _⟩
  case round =>
    obtain ⟨k, hk, rfl, rfl, ⟨qs, hqs, hr⟩, hg⟩ := hrel
    have hql : qs.length = ps.length := by rw [hqs]; exact marksK_mid k0 ps k hk
    by_cases hlt : k < ps.length
    · obtain ⟨g, y0, y1, rfl, hBg, hws, q0, q1, f0, f1⟩ := own_cells hr hql hlt
      have hk0' : 0 ≤ (k : Int) := by omega
      have hk1 : (k : Int) < (ps.length : Int) := by omega
      have HR := Lib.hid hr
      have HG := Lib.hid hg
      have HQ := Lib.hid hql
      have HS := Lib.hid hqs
      clear hr hg hql hqs
      go_wp2
      go_roundw
      case rel => exact ⟨k + 1, by omega, by go_num, by go_num, ⟨qs.set k ((k0 : Int) + 2 * (k : Int), (k0 : Int) + 2 * (k : Int) + 1), by rw [HS.out]; exact marksK_set k0 ps k hlt, prow_store (x := ((k0 : Int) + 2 * (k : Int), (k0 : Int) + 2 * (k : Int) + 1)) HR.out HQ.out hlt⟩, Lib.grownBy_setB (Lib.grownBy_setB HG.out _ _) _ _⟩
      case measure => simp [intOf]; omega
    · obtain rfl : k = ps.length := by omega
      have HG := Lib.hid hg
      have HR := Lib.hid (show PRow wr B (.slice a ps.length c) (marksK k0 ps.length) by rw [hqs] at hr; simpa using hr)
      clear hr hg hqs hql
      go_wp2
      go_ret
      exact ⟨rfl, HR.out, HG.out⟩
set_option maxRecDepth 100000 in
set_option maxHeartbeats 1000000 in
theorem heldK_any (k0 : Nat) (v : Value) (B n : Nat) (w : World) (ha : PRow w B v (marksK k0 n)) (hn : n ≤ 1048576) (hk0 : k0 ≤ 4000000) :
    Calls Try.prog 38 #[v, .int .i64 (k0 : Int)] w fun e w' => e = .returned (.int .i64 ((k0 : Int) + 2 * (n : Int))) ∧ ∃ q, w' = w.drewN q := by
  obtain ⟨aa, ca, rfl, hc⟩ := prow_at ha
  have H0 := Lib.hid (show ∀ k, k < n → ∃ b off, aa = some ⟨b, off, none⟩ ∧ b < w.heap.size ∧ w.cell? ⟨b, off + k * 2, none⟩ = some (.int .i64 ((k0 : Int) + 2 * (k : Int))) ∧ w.cell? ⟨b, off + k * 2 + 1, none⟩ = some (.int .i64 ((k0 : Int) + 2 * (k : Int) + 1)) from fun k hk => by
    obtain ⟨b, off, h1, h2, h3, h4⟩ := hc k (by rw [marksK_len]; exact hk)
    rw [marksK_at k0 n k hk] at h3 h4
    exact ⟨b, off, h1, h2, h3, h4⟩)
  clear ha hc
  rw [marksK_len]
  have hn2 : (n : Int) ≤ 1048576 := by omega
  have hk2 : (k0 : Int) ≤ 4000000 := by omega
  go_enter Try.func38, Try.ntmps38
  go_wp2
  go_loopw [1, 5] (fun m i wr => ∃ k q : Nat, k ≤ n ∧ i = .int .i64 (k : Int) ∧ m = .int .i64 ((k0 : Int) + 2 * (k : Int)) ∧ wr = w.drewN q) (fun _ i _ => n - (intOf i).toNat)
  case atStart => exact ⟨0, 0, Nat.zero_le _, rfl, by simp, rfl⟩
  case round =>
    obtain ⟨k, q, hk, rfl, rfl, rfl⟩ := hrel
    by_cases hlt : k < n
    · obtain ⟨b, off, rfl, hb, c1, c2⟩ := H0.out k hlt
      have hk0' : 0 ≤ (k : Int) := by omega
      have hk1 : (k : Int) < (n : Int) := by omega
      go_wp2
      all_goals (try (go_quiet (fail); go_wp2))
      all_goals (try (go_quiet (fail); go_wp2))
      go_roundw
      case rel => exact ⟨k + 1, _, by omega, by go_num, by go_num, rfl⟩
      case measure => simp [intOf]; omega
    · obtain rfl : k = n := by omega
      go_wp2
      go_ret
      exact ⟨rfl, q, rfl⟩
end Go.Proofs.Ytemhmejjmhbfdab.pairsPlace
