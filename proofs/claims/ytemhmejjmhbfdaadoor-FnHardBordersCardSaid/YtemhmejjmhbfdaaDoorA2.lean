/- Bytes that a law draws from: contracts of the laws' own small functions. -/
import Derived.Test.YtemhmejjmhbfdaaDoorSrc
import Derived.Lib.Hide
namespace Go.Proofs.YtemhmejjmhbfdaaDoor.a2
open Go.ChangeShapes Go.WideShapes Go.ChangeAt Go.RowKit Go.Proofs.YtemhmejjmhbfdaaDoor.src

theorem ret_bool {a b : Bool} (h : a = b) : Ending.returned (.bool a) = .returned (.bool b) := by rw [h]
theorem bcell {W w1 : World} (hb : Below W.heap.size W w1) : (∀ b o, b < W.heap.size → w1.cell? ⟨b, o, none⟩ = W.cell? ⟨b, o, none⟩) ∧ (∀ b o, b < W.heap.size → w1.frozen? ⟨b, o, none⟩ = W.frozen? ⟨b, o, none⟩) :=
  ⟨fun b o h => hb.cell (p := ⟨b, o, none⟩) h, fun b o h => hb.frozen (p := ⟨b, o, none⟩) h⟩
set_option maxHeartbeats 400000 in
theorem a2Long_any (a0 : Option Addr) (l0 c0 : Nat) (a1 : Option Addr) (l1 c1 : Nat) (w : World) (h0 : l0 ≤ maxLen) (h1 : l1 ≤ maxLen) :
    Calls Tryd.prog 4 #[.slice a0 l0 c0, .slice a1 l1 c1] w fun e w' => e = .returned (.bool (decide (3000 < l0 ∨ 3000 < l1))) ∧ w = w' := by
  unfold maxLen at h0 h1
  by_cases h : 3000 < l0
  · have h' : 3000 < (l0 : Int) := by omega
    go_enter Tryd.func4, Tryd.ntmps4
    go_wp2
    go_ret
    exact ⟨ret_bool (by simp [h]), rfl⟩
  · have h' : (l0 : Int) ≤ 3000 := by omega
    go_enter Tryd.func4, Tryd.ntmps4
    go_wp2
    all_goals (go_ret; exact ⟨ret_bool (by rw [Bool.eq_iff_iff]; simp; omega), rfl⟩)
theorem bytes_of {w : World} {a : Option Addr} {len cap : Nat} {zs : List Int} (h : IsRow .u8 w a len cap zs) (hl : len ≤ 4096) (hw : ∀ b o v, w.cell? ⟨b, o, none⟩ = some v → b < w.heap.size) : Bytes w a len w.heap.size := by
  refine ⟨by omega, Nat.le_refl _, fun i hi => ?_⟩
  rcases h with ⟨_, rfl, _⟩ | ⟨x, rfl, h1, h2, h3, h4, h5⟩
  · omega
  · obtain ⟨b, off, spot⟩ := x
    have hc := h4 i (by omega)
    have hspot : spot = none := by simpa [Addr.add] using World.cell?_spot (h4 0 (by omega))
    subst hspot
    have hc0 : w.cell? ⟨b, off + i, none⟩ = some (.int .u8 (zs.getD i 0)) := by
      rcases Nat.eq_zero_or_pos i with rfl | hi0
      · simpa [Addr.add] using hc
      · have : ¬ i = 0 := by omega
        simpa [Addr.add, this] using hc
    have hz : zs.getD i 0 ∈ zs := by
      have : i < zs.length := by omega
      simp [List.getD, this]
    have hwf := h5 _ hz
    simp [Lit.wf, IntKind.min, IntKind.max, IntKind.signed, IntKind.bits] at hwf
    exact ⟨b, off, _, rfl, hw _ _ _ hc0, hc0, by simpa using hwf.1, by simpa using hwf.2⟩
theorem row_len {w : World} {a : Option Addr} {len cap : Nat} {zs : List Int} (h : IsRow .u8 w a len cap zs) : len ≤ maxLen := by
  rcases h with ⟨_, rfl, _⟩ | ⟨x, rfl, h1, h2, _⟩
  · exact Nat.zero_le _
  · omega
theorem bytes_up {w w1 : World} {a : Option Addr} {len B : Nat} (h : Bytes w a len B) (hb : Below B w w1) : Bytes w1 a len w1.heap.size := by
  obtain ⟨h1, h2, h3⟩ := bytes_below h hb
  exact ⟨h1, Nat.le_refl _, fun i hi => by obtain ⟨b, off, z, e, hlt, h4⟩ := h3 i hi; exact ⟨b, off, z, e, by omega, h4⟩⟩

end Go.Proofs.YtemhmejjmhbfdaaDoor.a2
