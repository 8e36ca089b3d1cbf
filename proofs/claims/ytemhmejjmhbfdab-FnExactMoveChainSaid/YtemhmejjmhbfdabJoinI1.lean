/- The program's closed chains: contracts. -/
import Derived.RangeFuncNested
import Derived.RangeFuncBound
import Derived.RangeFuncCalls
import Derived.RangeFuncLeaves
import Derived.RangeFuncBox
import Derived.Shelf.Abstract
import Derived.Shelf.RegionOpen
import Derived.OwnWalkIn
import Derived.TacticsInMore
import Derived.LoopNIn
import Derived.LoopIn
import Derived.BigQuiet
import Derived.Test.YtemhmejjmhbfdabJoinS1
import Derived.Test.YtemhmejjmhbfdabChainI1
namespace Go.Proofs.Ytemhmejjmhbfdab.sines
open Go.ChangeShapes Go.WideShapes Go.ChangeAt Go.RowKit Go.Shelf Go.Proofs.Ytemhmejjmhbfdab.spots Go.Proofs.Ytemhmejjmhbfdab.irows Go.Proofs.Ytemhmejjmhbfdab.pairsPlace
attribute [local go_sem] Oper.semAt_some
set_option linter.unusedSimpArgs false
set_option linter.unusedVariables false

theorem stored2p (w : World) (a b : Int) : (w.alloc (.cells #[.int .i64 a, .int .i64 b] 120)).cell? ⟨w.heap.size, 0, none⟩ = some (.int .i64 a) ∧ (w.alloc (.cells #[.int .i64 a, .int .i64 b] 120)).cell? ⟨w.heap.size, 1, none⟩ = some (.int .i64 b) := by simp
set_option maxHeartbeats 1000000 in
theorem first_any (v : Value) (ps : List (Int × Int)) (w : World) (hv : PAt w w.heap.size v ps) (h0 : 0 < ps.length) :
    Calls Try.prog 104 #[v] w fun e w' => e = .returned (.agg #[.int .i64 (pAt ps 0).1, .int .i64 (pAt ps 0).2]) ∧ Below w.heap.size w w' := by
  obtain ⟨b, off, c, rfl, hb, c1, c2, _, _⟩ := ends_at hv h0
  have hl : (0 : Int) < (ps.length : Int) := by omega
  clear hv
  generalize (pAt ps 0).1 = x at c1 ⊢
  generalize (pAt ps 0).2 = y at c2 ⊢
  generalize ps.length = n at *
  go_enter Try.func104, Try.ntmps104
  go_wp2
  exact bodyPost_ret (v := .agg #[.int .i64 x, .int .i64 y]) (by simp [results, Try.results104, go_sem]) rfl ⟨rfl, (by first | exact (Below.refl _ _).alloc (Nat.le_refl _) _ | exact ((((Below.refl _ _).alloc (Nat.le_refl _) _).setCell (Nat.le_refl _) _).setCell (Nat.le_refl _) _))⟩
set_option maxHeartbeats 1000000 in
theorem last_any (v : Value) (ps : List (Int × Int)) (w : World) (hv : PAt w w.heap.size v ps) (h0 : 0 < ps.length) (hl : ps.length ≤ 1048576) :
    Calls Try.prog 105 #[v] w fun e w' => e = .returned (.agg #[.int .i64 (lastP ps).1, .int .i64 (lastP ps).2]) ∧ Below w.heap.size w w' := by
  obtain ⟨b, off, c, rfl, hb, _, _, c1, c2⟩ := ends_at hv h0
  clear hv
  obtain ⟨z, hz⟩ : ∃ z : Nat, Hid (ps.length = z + 1) := ⟨ps.length - 1, Lib.hid (by omega)⟩
  rw [hz.out] at c1 c2 hl ⊢
  simp only [Nat.add_sub_cancel] at c1 c2
  have e1 : ((z + 1 : Nat) : Int) - 1 = (z : Int) := by omega
  have e2 : ((z : Int) + 1) - 1 = (z : Int) := by omega
  have kz : IntKind.i64.wrap (z : Int) = (z : Int) := IntWalk.i64_in _ (by omega)
  have z0 : 0 ≤ (z : Int) := by omega
  have z1 : (z : Int) < ((z + 1 : Nat) : Int) := by omega
  have z1' : (z : Int) < (z : Int) + 1 := by omega
  clear h0
  generalize (lastP ps).1 = x at c1 ⊢
  generalize (lastP ps).2 = y at c2 ⊢
  go_enter Try.func105, Try.ntmps105
  go_wp2
  exact bodyPost_ret (v := .agg #[.int .i64 x, .int .i64 y]) (by simp [results, Try.results105, go_sem]) rfl ⟨rfl, (by first | exact (Below.refl _ _).alloc (Nat.le_refl _) _ | exact ((((Below.refl _ _).alloc (Nat.le_refl _) _).setCell (Nat.le_refl _) _).setCell (Nat.le_refl _) _))⟩
set_option maxHeartbeats 1000000 in
theorem isClosed_any (v : Value) (ps : List (Int × Int)) (w : World) (hv : PAt w w.heap.size v ps) (hl : ps.length ≤ 1048576) :
    Calls Try.prog 75 #[v] w fun e w' => e = .returned (.bool (closedB ps)) ∧ Below w.heap.size w w' := by
  have HV := Lib.hid hv
  by_cases h4 : 4 ≤ ps.length
  · have FI := Lib.hid (fun W (hb : Below w.heap.size w W) => first_any v ps W (pat_up (pat_keep HV.out hb) hb.size) (by omega))
    have LA := Lib.hid (fun W (hb : Below w.heap.size w W) => last_any v ps W (pat_up (pat_keep HV.out hb) hb.size) (by omega) hl)
    have E := Lib.hid (fun W => eqlP (pAt ps 0).1 (pAt ps 0).2 (lastP ps).1 (lastP ps).2 W)
    have eD : decide ((pAt ps 0).1 = (lastP ps).1 ∧ (pAt ps 0).2 = (lastP ps).2) = decide (pAt ps 0 = lastP ps) := by
      by_cases h : pAt ps 0 = lastP ps
      · rw [h]; simp
      · rw [decide_eq_false h, decide_eq_false (fun k => h (Prod.ext k.1 k.2))]
    rw [eD] at E
    rw [closedB_eq h4]
    obtain ⟨ar, c, rfl, _⟩ := hv
    have e4 : (4 : Int) ≤ (ps.length : Int) := by omega
    clear eD h4
    generalize decide (pAt ps 0 = lastP ps) = D at E ⊢
    generalize (pAt ps 0).1 = x1 at *
    generalize (pAt ps 0).2 = x2 at *
    generalize (lastP ps).1 = y1 at *
    generalize (lastP ps).2 = y2 at *
    have E0 := E.out
    go_enter Try.func75, Try.ntmps75
    go_wp2_with fail
    refine (FI.out w (Below.refl _ _)).mono ?_
    rintro e w1 ⟨rfl, hb1⟩
    have HB1 := Lib.hid hb1
    clear hb1
    go_wp2_with fail
    refine (LA.out w1 HB1.out).mono ?_
    rintro e w2 ⟨rfl, hb2⟩
    have HB2 := Lib.hid (HB1.out.trans (hb2.mono HB1.out.size))
    clear hb2
    go_wp2
    go_ret
    exact ⟨rfl, HB2.out⟩
  · obtain ⟨ar, c, rfl, hcl⟩ := hv
    rw [closedB_no h4]
    have h4i : ¬ 4 ≤ (ps.length : Int) := by omega
    have h4d : decide (4 ≤ (ps.length : Int)) = false := by simp; omega
    go_enter Try.func75, Try.ntmps75
    go_wp2
    go_ret
    exact ⟨rfl, Below.refl _ _⟩
end Go.Proofs.Ytemhmejjmhbfdab.sines
