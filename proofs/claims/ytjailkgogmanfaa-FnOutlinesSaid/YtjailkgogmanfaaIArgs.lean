/- Lists of numbers that are handed in: read, copied, marked from any number on; lists of places against any room that is left. -/
import Derived.Test.YtjailkgogmanfaaChainS4
import Derived.Test.YtjailkgogmanfaaChain3
namespace Go.Proofs.Ytjailkgogmanfaa.sines
open Go.ChangeShapes Go.WideShapes Go.ChangeAt Go.RowKit Go.Proofs.Ytjailkgogmanfaa.spots Go.Proofs.Ytjailkgogmanfaa.irows Go.Proofs.Ytjailkgogmanfaa.pairsPlace
set_option linter.unusedSimpArgs false
set_option linter.unusedVariables false

/-- What is read of a list of numbers. -/
def IAt (w : World) (B : Nat) (v : Value) (zs : List Int) : Prop := ∃ a c, v = .slice a zs.length c ∧ ∀ k, k < zs.length → ∃ b off, a = some ⟨b, off, none⟩ ∧ b < B ∧ w.cell? ⟨b, off + k, none⟩ = some (.int .i64 (zAt zs k))
theorem iat_keep {w w' : World} {B : Nat} {v : Value} {zs : List Int} (h : IAt w B v zs) (hb : Below B w w') : IAt w' B v zs := by
  obtain ⟨a, c, rfl, hc⟩ := h
  refine ⟨a, c, rfl, fun k hk => ?_⟩
  obtain ⟨b, off, e1, e2, e3⟩ := hc k hk
  exact ⟨b, off, e1, e2, (hb.cell (p := ⟨b, off + k, none⟩) e2).trans e3⟩
theorem iat_up {w : World} {B B' : Nat} {v : Value} {zs : List Int} (h : IAt w B v zs) (hB : B ≤ B') : IAt w B' v zs := by
  obtain ⟨a, c, rfl, hc⟩ := h
  refine ⟨a, c, rfl, fun k hk => ?_⟩
  obtain ⟨b, off, e1, e2, e3⟩ := hc k hk
  exact ⟨b, off, e1, by omega, e3⟩
/-- An argument is such a list. -/
theorem open_ilist {H : Type} {enc : TypeId × Value → H} {W : World} {base : Nat} {spare : Nat → Bool} {held : Bool} {fuel : Nat} {v : Value} {x : DataW H × List MemPlace} (h : DataW.trod enc Try.prog W base spare held fuel 97 v.cells.toList = some x) (hv : ∃ a l c, v = .slice a l c) :
    ∃ zs, IAt W W.heap.size v zs ∧ zs.length ≤ maxLen := by
  obtain ⟨a0, l0, c0, rfl⟩ := hv
  rcases open_ints Try.underlying97 Try.underlying2 (by kernel_rfl) h with ⟨hcs, _⟩ | ⟨a, l, c, zs, hcs, _, hl, hm, hz, _, hcell, hwz⟩
  · simp [Value.cells] at hcs
    obtain ⟨rfl, rfl, rfl⟩ := hcs
    exact ⟨[], ⟨none, 0, rfl, fun k hk => by simp at hk⟩, Nat.zero_le _⟩
  · simp [Value.cells] at hcs
    obtain ⟨rfl, rfl, rfl⟩ := hcs
    obtain ⟨b, off, spot⟩ := a
    have hll : l0 ≤ zs.length := by rw [hz]; split <;> omega
    have e : (zs.take l0).length = l0 := by simp; omega
    have hza : ∀ k, k < l0 → zAt (zs.take l0) k = zs.getD k 0 := fun k hk => by simp [zAt, hk, List.getElem?_take]
    refine ⟨zs.take l0, ⟨some ⟨b, off, spot⟩, c0, by rw [e], fun k hk => ?_⟩, by rw [e]; omega⟩
    rw [e] at hk
    have hspot : spot = none := by simpa [Addr.add] using World.cell?_spot (hcell 0 (by omega))
    subst hspot
    have h1 := hcell k (by omega)
    rw [add_plain', ← hza k hk] at h1
    exact ⟨b, off, rfl, World.block_lt_of_cell? _ _ h1, h1⟩
theorem rowF_zAt (zs : List Int) : rowF zs.length (zAt zs) = zs := by
  apply List.ext_getElem
  · simp [rowF]
  · intro i h1 h2; simp [rowF, zAt_eq h2]
set_option maxHeartbeats 400000 in
theorem szP_no (v : Value) (ps : List (Int × Int)) (w : World) (B : Nat) (l : Int) (h : PAt w B v ps) (hm : ps.length ≤ maxLen) (l0 : 0 ≤ l) (l1 : l ≤ 1048576) (hl : l < (ps.length : Int)) :
    Calls Try.prog 43 #[v, .int .i64 l] w fun e w' => e = .returned (.int .i64 (-1)) ∧ w = w' := by
  obtain ⟨a, c, rfl, _⟩ := h
  unfold maxLen at hm
  have h2 : (ps.length : Int) ≤ 9223372036854775807 := by omega
  have kw : IntKind.i64.wrap (l - (ps.length : Int)) = l - (ps.length : Int) := IntWalk.i64_in _ (by omega)
  have kn : l - (ps.length : Int) < 0 := by omega
  go_enter Try.func43, Try.ntmps43
  go_wp2
  go_ret
  exact ⟨rfl, rfl⟩
set_option maxHeartbeats 400000 in
theorem szP_yes (v : Value) (ps : List (Int × Int)) (w : World) (B : Nat) (l : Int) (h : PAt w B v ps) (l1 : l ≤ 1048576) (hl : (ps.length : Int) ≤ l) :
    Calls Try.prog 43 #[v, .int .i64 l] w fun e w' => e = .returned (.int .i64 (l - (ps.length : Int))) ∧ w = w' := by
  obtain ⟨a, c, rfl, _⟩ := h
  have kw : IntKind.i64.wrap (l - (ps.length : Int)) = l - (ps.length : Int) := IntWalk.i64_in _ (by omega)
  have kn : ¬ l - (ps.length : Int) < 0 := by omega
  have kd : decide (l - (ps.length : Int) < 0) = false := by simpa using kn
  go_enter Try.func43, Try.ntmps43
  go_wp2
  go_ret
  exact ⟨rfl, rfl⟩
end Go.Proofs.Ytjailkgogmanfaa.sines
