/- The longitude that the program reads, and its drawn places: contracts. -/
import Derived.Test.YtemhmejjmhbfdaaPlatesI1
import Derived.Shelf.Abstract
namespace Go.Proofs.Ytemhmejjmhbfdaa.sines
open Go.ChangeShapes Go.WideShapes Go.ChangeAt Go.RowKit Go.Proofs.Ytemhmejjmhbfdaa.spots Go.Proofs.Ytemhmejjmhbfdaa.pairs
set_option linter.unusedSimpArgs false
set_option linter.unusedVariables false

theorem LonAt_of {x s c : Int} {k : Nat} (hx : x ≠ 0) (hk : k ≤ 1296001) (h1 : k = 0 ∨ decide (2 * x * s * 1000000 < (2 * (((k - 1 : Nat) : Int) - 648001) + 1) * c) = false) (h2 : k = 1296001 ∨ decide (2 * x * s * 1000000 < (2 * ((k : Int) - 648001) + 1) * c) = true) : LonAt x s c ((k : Int) - 648001) := by
  refine .inr ⟨hx, by omega, by omega, ?_, ?_⟩
  · rcases h1 with h | h
    · left; omega
    · by_cases hk0 : k = 0
      · left; omega
      · right
        simp only [decide_eq_false_iff_not] at h
        rw [show (k : Int) - 648001 - 1 = ((k - 1 : Nat) : Int) - 648001 by omega]
        omega
  · rcases h2 with h | h
    · left; omega
    · right
      simpa using h
theorem cell_heap {W : World} {n : Nat} {cs : Array Value} {T : TypeId} (h : W.heap[n]? = some (.cells cs T (0, 0))) (i : Nat) : W.cell? ⟨n, i, none⟩ = cs[i]? := by simp [World.cell?, h]
theorem cells3 (w : World) (a b c d : Value) (T U V : TypeId) :
    (((w.alloc (.cells #[a, b] T)).alloc (.cells #[c] U)).alloc (.cells #[d] V)).heap.size = w.heap.size + 3 ∧
    (((w.alloc (.cells #[a, b] T)).alloc (.cells #[c] U)).alloc (.cells #[d] V)).cell? ⟨w.heap.size, 1, none⟩ = some b ∧
    (((w.alloc (.cells #[a, b] T)).alloc (.cells #[c] U)).alloc (.cells #[d] V)).cell? ⟨w.heap.size + 1, 0, none⟩ = some c ∧
    (((w.alloc (.cells #[a, b] T)).alloc (.cells #[c] U)).alloc (.cells #[d] V)).cell? ⟨w.heap.size + 1 + 1, 0, none⟩ = some d := by
  have e1 : (w.alloc (.cells #[a, b] T)).heap.size = w.heap.size + 1 := by simp
  have e2 : ((w.alloc (.cells #[a, b] T)).alloc (.cells #[c] U)).heap.size = w.heap.size + 1 + 1 := by simp
  have g1 : (((w.alloc (.cells #[a, b] T)).alloc (.cells #[c] U)).alloc (.cells #[d] V)).heap[w.heap.size]? = some (.cells #[a, b] T (0, 0)) := by
    rw [Below.heap_alloc _ _ _ (by rw [e2]; omega), Below.heap_alloc _ _ _ (by rw [e1]; omega)]
    exact heap_alloc_new w _
  have g2 : (((w.alloc (.cells #[a, b] T)).alloc (.cells #[c] U)).alloc (.cells #[d] V)).heap[w.heap.size + 1]? = some (.cells #[c] U (0, 0)) := by
    rw [Below.heap_alloc _ _ _ (by rw [e2]; omega), ← e1]
    exact heap_alloc_new _ _
  have g3 : (((w.alloc (.cells #[a, b] T)).alloc (.cells #[c] U)).alloc (.cells #[d] V)).heap[w.heap.size + 1 + 1]? = some (.cells #[d] V (0, 0)) := by
    rw [← e2]
    exact heap_alloc_new _ _
  exact ⟨by simp, cell_heap g1 1, cell_heap g2 0, cell_heap g3 0⟩
theorem retInt' {a b : Int} (h : a = b) : Ending.returned (.int .i64 a) = .returned (.int .i64 b) := by rw [h]
set_option maxHeartbeats 1000000 in
theorem lonAt_any (T : TypeId) (x s c : Int) (w : World) (x0 : -2000000 ≤ x) (x1 : x ≤ 2000000) (s0 : 1 ≤ s) (s1 : s ≤ 100000) (c0 : -1000000 ≤ c) (c1 : c ≤ 1000000) :
    Calls Try.prog 154 #[.agg #[.iface T (.agg #[]), .int .i64 s], .int .i64 x, .int .i64 c] w fun e w' => (∃ z, e = .returned (.int .i64 z) ∧ LonAt x s c z) ∧ Below w.heap.size w w' := by
  have B0 := Lib.hid ((((Below.refl w.heap.size w).alloc (Nat.le_refl _) (.cells #[.iface T (.agg #[]), .int .i64 s] 98)).alloc (by simp) (.cells #[.int .i64 x] 2)).alloc (by simp; omega) (.cells #[.int .i64 c] 2))
  by_cases hx : x = 0
  · subst hx
    go_enter Try.func154, Try.ntmps154
    go_wp2
    go_ret
    exact ⟨⟨0, rfl, .inl ⟨rfl, rfl⟩⟩, B0.out⟩
  · have hmf : ∀ (fn : Fn) (first cap : Array Value) (w : World), (Instr.makeFunc fn first cap).run Try.prog w = .ok (.func fn first cap) w := fun _ _ _ _ => rfl
    have eg : ∀ args w, (callFunc 175 args).run Try.prog w = .ok (.enter 175 args) w := enters_of Try.func175 (by kernel_rfl) rfl
    obtain ⟨W3, hW⟩ : ∃ W3, Hid ((((w.alloc (.cells #[.iface T (.agg #[]), .int .i64 s] 98)).alloc (.cells #[.int .i64 x] 2)).alloc (.cells #[.int .i64 c] 2)) = W3) := ⟨_, Lib.hid rfl⟩
    obtain ⟨z1, g3, g2, g1⟩ := cells3 w (.iface T (.agg #[])) (.int .i64 s) (.int .i64 x) (.int .i64 c) 98 2 2
    rw [hW.out] at z1 g3 g2 g1
    have HS := Lib.hid (searchAny 175 #[.pointer (some ⟨w.heap.size + 1 + 1, 0, none⟩), .pointer (some ⟨w.heap.size + 1, 0, none⟩), .pointer (some ⟨w.heap.size, 0, none⟩)] 1296001 (fun i => decide (2 * x * s * 1000000 < (2 * ((i : Int) - 648001) + 1) * c)) W3 eg (by omega)
      (fun i W hi hb => (lonClosure_any (w.heap.size + 1 + 1) (w.heap.size + 1) w.heap.size i x s c W (by omega) x0 x1 s0 s1 c0 c1 ((hb.cell (p := ⟨w.heap.size + 1 + 1, 0, none⟩) (by rw [z1]; simp; try omega)).trans g1) ((hb.cell (p := ⟨w.heap.size + 1, 0, none⟩) (by rw [z1]; simp; try omega)).trans g2) ((hb.cell (p := ⟨w.heap.size, 1, none⟩) (by rw [z1]; simp; try omega)).trans g3)).mono fun e w' ⟨he, hw⟩ => ⟨he, by rw [hw]; exact hb⟩))
    have HB := Lib.hid (show Below w.heap.size w W3 by rw [← hW.out]; exact B0.out)
    have hx' : (x == 0) = false := by simpa using hx
    have HX := Lib.hid hx
    clear hx z1 g1 g2 g3 B0
    go_enter Try.func154, Try.ntmps154
    go_wp2_with fail
    rw [hW.out]
    clear hW
    refine HS.out.mono ?_
    rintro e w1 ⟨⟨k, hk, h1, h2, rfl⟩, hb⟩
    have hk1 : (k : Int) ≤ 1296001 := by omega
    have hk0 : 0 ≤ (k : Int) := by omega
    have LA := Lib.hid (LonAt_of HX.out hk h1 h2)
    have kz : IntKind.i64.wrap (-648001 + (k : Int)) = (k : Int) - 648001 := by rw [IntWalk.i64_in _ (by omega)]; omega
    have HB1 := Lib.hid (HB.out.trans (hb.mono HB.out.size))
    clear h1 h2 hb
    go_wp2
    go_ret
    exact ⟨⟨_, retInt' (by omega), LA.out⟩, HB1.out⟩
end Go.Proofs.Ytemhmejjmhbfdaa.sines
