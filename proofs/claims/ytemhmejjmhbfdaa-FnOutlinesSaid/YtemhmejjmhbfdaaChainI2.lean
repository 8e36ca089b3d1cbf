/- The program's chains: equality, sides, squares. -/
import Derived.Test.YtemhmejjmhbfdaaChainI1
namespace Go.Proofs.Ytemhmejjmhbfdaa.sines
open Go.ChangeShapes Go.WideShapes Go.ChangeAt Go.RowKit Go.Proofs.Ytemhmejjmhbfdaa.spots Go.Proofs.Ytemhmejjmhbfdaa.irows Go.Proofs.Ytemhmejjmhbfdaa.pairsPlace
set_option linter.unusedSimpArgs false
set_option linter.unusedVariables false

set_option maxHeartbeats 1000000 in
theorem sideOf_any (a1 a2 b1 b2 p1 p2 : Int) (w : World) (ha : okP (a1, a2) = true) (hb : okP (b1, b2) = true) (hp : okP (p1, p2) = true) :
    Calls Try.prog 167 #[.agg #[.int .i64 a1, .int .i64 a2], .agg #[.int .i64 b1, .int .i64 b2], .agg #[.int .i64 p1, .int .i64 p2]] w fun e w' => e = .returned (.int .i64 (crossI (a1, a2) (b1, b2) (p1, p2))) ∧ Below w.heap.size w w' := by
  obtain ⟨x1, x2, x3, x4⟩ := okP_of ha
  obtain ⟨y1, y2, y3, y4⟩ := okP_of hb
  obtain ⟨z1, z2, z3, z4⟩ := okP_of hp
  simp only at x1 x2 x3 x4 y1 y2 y3 y4 z1 z2 z3 z4
  obtain ⟨c1, c2⟩ := mul_bound (x := b1 - a1) (y := p2 - a2) (by omega) (by omega) (by omega) (by omega)
  obtain ⟨d1, d2⟩ := mul_bound (x := b2 - a2) (y := p1 - a1) (by omega) (by omega) (by omega) (by omega)
  have k1 : IntKind.i64.wrap (b1 - a1) = b1 - a1 := IntWalk.i64_in _ (by omega)
  have k2 : IntKind.i64.wrap (p2 - a2) = p2 - a2 := IntWalk.i64_in _ (by omega)
  have k3 : IntKind.i64.wrap (b2 - a2) = b2 - a2 := IntWalk.i64_in _ (by omega)
  have k4 : IntKind.i64.wrap (p1 - a1) = p1 - a1 := IntWalk.i64_in _ (by omega)
  have k5 : IntKind.i64.wrap ((b1 - a1) * (p2 - a2)) = (b1 - a1) * (p2 - a2) := IntWalk.i64_in _ (by omega)
  have k6 : IntKind.i64.wrap ((b2 - a2) * (p1 - a1)) = (b2 - a2) * (p1 - a1) := IntWalk.i64_in _ (by omega)
  have k7 : IntKind.i64.wrap ((b1 - a1) * (p2 - a2) - (b2 - a2) * (p1 - a1)) = (b1 - a1) * (p2 - a2) - (b2 - a2) * (p1 - a1) := IntWalk.i64_in _ (by omega)
  go_enter Try.func167, Try.ntmps167
  go_wp2
  go_ret
  exact ⟨rfl, (((Below.refl _ _).alloc (Nat.le_refl _) _).alloc (by simp) _).alloc (by simp; omega) _⟩
set_option maxHeartbeats 1000000 in
theorem squareBetween_any (a1 a2 b1 b2 : Int) (w : World) (ha : okP (a1, a2) = true) (hb : okP (b1, b2) = true) :
    Calls Try.prog 184 #[.agg #[.int .i64 a1, .int .i64 a2], .agg #[.int .i64 b1, .int .i64 b2]] w fun e w' => e = .returned (.int .i64 (farI (a1, a2) (b1, b2))) ∧ Below w.heap.size w w' := by
  obtain ⟨x1, x2, x3, x4⟩ := okP_of ha
  obtain ⟨y1, y2, y3, y4⟩ := okP_of hb
  simp only at x1 x2 x3 x4 y1 y2 y3 y4
  obtain ⟨c1, c2⟩ := sq_bound (x := b1 - a1) (by omega) (by omega)
  obtain ⟨d1, d2⟩ := sq_bound (x := b2 - a2) (by omega) (by omega)
  have k1 : IntKind.i64.wrap (b1 - a1) = b1 - a1 := IntWalk.i64_in _ (by omega)
  have k3 : IntKind.i64.wrap (b2 - a2) = b2 - a2 := IntWalk.i64_in _ (by omega)
  have k5 : IntKind.i64.wrap ((b1 - a1) * (b1 - a1)) = (b1 - a1) * (b1 - a1) := IntWalk.i64_in _ (by omega)
  have k6 : IntKind.i64.wrap ((b2 - a2) * (b2 - a2)) = (b2 - a2) * (b2 - a2) := IntWalk.i64_in _ (by omega)
  have k7 : IntKind.i64.wrap ((b1 - a1) * (b1 - a1) + (b2 - a2) * (b2 - a2)) = (b1 - a1) * (b1 - a1) + (b2 - a2) * (b2 - a2) := IntWalk.i64_in _ (by omega)
  go_enter Try.func184, Try.ntmps184
  go_wp2
  go_quiet (fail)
  go_wp2
  go_ret
  exact ⟨rfl, bdP (((Below.refl _ _).alloc (Nat.le_refl _) _).alloc (by simp) _) _⟩
theorem sideOf_rel (a1 a2 b1 b2 p1 p2 : Int) (W0 w : World) (hw : Below W0.heap.size W0 w) (ha : okP (a1, a2) = true) (hb : okP (b1, b2) = true) (hp : okP (p1, p2) = true) :
    Calls Try.prog 167 #[.agg #[.int .i64 a1, .int .i64 a2], .agg #[.int .i64 b1, .int .i64 b2], .agg #[.int .i64 p1, .int .i64 p2]] w fun e w' => e = .returned (.int .i64 (crossI (a1, a2) (b1, b2) (p1, p2))) ∧ Below W0.heap.size W0 w' :=
  (sideOf_any a1 a2 b1 b2 p1 p2 w ha hb hp).mono fun _ _ ⟨h1, k⟩ => ⟨h1, hw.trans (k.mono hw.size)⟩
theorem squareBetween_rel (a1 a2 b1 b2 : Int) (W0 w : World) (hw : Below W0.heap.size W0 w) (ha : okP (a1, a2) = true) (hb : okP (b1, b2) = true) :
    Calls Try.prog 184 #[.agg #[.int .i64 a1, .int .i64 a2], .agg #[.int .i64 b1, .int .i64 b2]] w fun e w' => e = .returned (.int .i64 (farI (a1, a2) (b1, b2))) ∧ Below W0.heap.size W0 w' :=
  (squareBetween_any a1 a2 b1 b2 w ha hb).mono fun _ _ ⟨h1, k⟩ => ⟨h1, hw.trans (k.mono hw.size)⟩
end Go.Proofs.Ytemhmejjmhbfdaa.sines
