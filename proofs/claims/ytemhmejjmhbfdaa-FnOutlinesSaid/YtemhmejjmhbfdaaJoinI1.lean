/- The program's closed chains: contracts. -/
import Derived.RangeFuncNested
import Derived.RangeFuncBound
import Derived.RangeFuncCalls
import Derived.RangeFuncLeaves
import Derived.RangeFuncBox
import Derived.Shelf.Abstract
import Derived.Shelf.RegionOpen
import Derived.OwnWalkIn
import Derived.TacticsInMore
import Derived.LoopNIn
import Derived.LoopIn
import Derived.BigQuiet
import Derived.Test.YtemhmejjmhbfdaaJoinS1
import Derived.Test.YtemhmejjmhbfdaaChainI1
namespace Go.Proofs.Ytemhmejjmhbfdaa.sines
open Go.ChangeShapes Go.WideShapes Go.ChangeAt Go.RowKit Go.Shelf Go.Proofs.Ytemhmejjmhbfdaa.spots Go.Proofs.Ytemhmejjmhbfdaa.irows Go.Proofs.Ytemhmejjmhbfdaa.pairsPlace
attribute [local go_sem] Oper.semAt_some
set_option linter.unusedSimpArgs false
set_option linter.unusedVariables false

theorem stored2p (w : World) (a b : Int) : (w.alloc (.cells #[.int .i64 a, .int .i64 b] 60)).cell? ⟨w.heap.size, 0, none⟩ = some (.int .i64 a) ∧ (w.alloc (.cells #[.int .i64 a, .int .i64 b] 60)).cell? ⟨w.heap.size, 1, none⟩ = some (.int .i64 b) := by simp
set_option maxHeartbeats 1000000 in
theorem first_any (v : Value) (ps : List (Int × Int)) (w : World) (hv : PAt w w.heap.size v ps) (h0 : 0 < ps.length) :
    Calls Try.prog 169 #[v] w fun e w' => e = .returned (.agg #[.int .i64 (pAt ps 0).1, .int .i64 (pAt ps 0).2]) ∧ Below w.heap.size w w' := by
  obtain ⟨b, off, c, rfl, hb, c1, c2, _, _⟩ := ends_at hv h0
  have hl : (0 : Int) < (ps.length : Int) := by omega
  clear hv
  generalize (pAt ps 0).1 = x at c1 ⊢
  generalize (pAt ps 0).2 = y at c2 ⊢
  generalize ps.length = n at *
  go_enter Try.func169, Try.ntmps169
  go_wp2
  exact bodyPost_ret (v := .agg #[.int .i64 x, .int .i64 y]) (by simp [results, Try.results169, go_sem]) rfl ⟨rfl, (by first | exact (Below.refl _ _).alloc (Nat.le_refl _) _ | exact ((((Below.refl _ _).alloc (Nat.le_refl _) _).setCell (Nat.le_refl _) _).setCell (Nat.le_refl _) _))⟩
set_option maxHeartbeats 1000000 in
theorem last_any (v : Value) (ps : List (Int × Int)) (w : World) (hv : PAt w w.heap.size v ps) (h0 : 0 < ps.length) (hl : ps.length ≤ 1048576) :
    Calls Try.prog 170 #[v] w fun e w' => e = .returned (.agg #[.int .i64 (lastP ps).1, .int .i64 (lastP ps).2]) ∧ Below w.heap.size w w' := by
  obtain ⟨b, off, c, rfl, hb, _, _, c1, c2⟩ := ends_at hv h0
  clear hv
  obtain ⟨z, hz⟩ : ∃ z : Nat, Hid (ps.length = z + 1) := ⟨ps.length - 1, Lib.hid (by omega)⟩
  rw [hz.out] at c1 c2 hl ⊢
  simp only [Nat.add_sub_cancel] at c1 c2
  have e1 : ((z + 1 : Nat) : Int) - 1 = (z : Int) := by omega
  have e2 : ((z : Int) + 1) - 1 = (z : Int) := by omega
  have kz : IntKind.i64.wrap (z : Int) = (z : Int) := IntWalk.i64_in _ (by omega)
  have z0 : 0 ≤ (z : Int) := by omega
  have z1 : (z : Int) < ((z + 1 : Nat) : Int) := by omega
  have z1' : (z : Int) < (z : Int) + 1 := by omega
  clear h0
  generalize (lastP ps).1 = x at c1 ⊢
  generalize (lastP ps).2 = y at c2 ⊢
  go_enter Try.func170, Try.ntmps170
  go_wp2
  exact bodyPost_ret (v := .agg #[.int .i64 x, .int .i64 y]) (by simp [results, Try.results170, go_sem]) rfl ⟨rfl, (by first | exact (Below.refl _ _).alloc (Nat.le_refl _) _ | exact ((((Below.refl _ _).alloc (Nat.le_refl _) _).setCell (Nat.le_refl _) _).setCell (Nat.le_refl _) _))⟩
set_option maxHeartbeats 1000000 in
theorem isClosed_any (v : Value) (ps : List (Int × Int)) (w : World) (hv : PAt w w.heap.size v ps) (hl : ps.length ≤ 1048576) :
    Calls Try.prog 136 #[v] w fun e w' => e = .returned (.bool (closedB ps)) ∧ Below w.heap.size w w' := by
  have HV := Lib.hid hv
  by_cases h4 : 4 ≤ ps.length
  · have FI := Lib.hid (fun W (hb : Below w.heap.size w W) => first_any v ps W (pat_up (pat_keep HV.out hb) hb.size) (by omega))
    have LA := Lib.hid (fun W (hb : Below w.heap.size w W) => last_any v ps W (pat_up (pat_keep HV.out hb) hb.size) (by omega) hl)
    have E := Lib.hid (fun W => eqlP (pAt ps 0).1 (pAt ps 0).2 (lastP ps).1 (lastP ps).2 W)
    have eD : decide ((pAt ps 0).1 = (lastP ps).1 ∧ (pAt ps 0).2 = (lastP ps).2) = decide (pAt ps 0 = lastP ps) := by
      by_cases h : pAt ps 0 = lastP ps
      · rw [h]; simp
      · rw [decide_eq_false h, decide_eq_false (fun k => h (Prod.ext k.1 k.2))]
    rw [eD] at E
    rw [closedB_eq h4]
    obtain ⟨ar, c, rfl, _⟩ := hv
    have e4 : (4 : Int) ≤ (ps.length : Int) := by omega
    clear eD h4
    generalize decide (pAt ps 0 = lastP ps) = D at E ⊢
    generalize (pAt ps 0).1 = x1 at *
    generalize (pAt ps 0).2 = x2 at *
    generalize (lastP ps).1 = y1 at *
    generalize (lastP ps).2 = y2 at *
    have E0 := E.out
    go_enter Try.func136, Try.ntmps136
    go_wp2_with fail
    refine (FI.out w (Below.refl _ _)).mono ?_
    rintro e w1 ⟨rfl, hb1⟩
    have HB1 := Lib.hid hb1
    clear hb1
    go_wp2_with fail
    refine (LA.out w1 HB1.out).mono ?_
    rintro e w2 ⟨rfl, hb2⟩
    have HB2 := Lib.hid (HB1.out.trans (hb2.mono HB1.out.size))
    clear hb2
    go_wp2
    go_ret
    exact ⟨rfl, HB2.out⟩
  · obtain ⟨ar, c, rfl, hcl⟩ := hv
    rw [closedB_no h4]
    have h4i : ¬ 4 ≤ (ps.length : Int) := by omega
    have h4d : decide (4 ≤ (ps.length : Int)) = false := by simp; omega
    go_enter Try.func136, Try.ntmps136
    go_wp2
    go_ret
    exact ⟨rfl, Below.refl _ _⟩
set_option maxHeartbeats 1000000 in
theorem implIsClosed_any (v : Value) (ps : List (Int × Int)) (w : World) (hv : PAt w w.heap.size v ps) (hl : ps.length ≤ 1048576) :
    Calls Try.prog 55 #[v] w fun e w' => e = .returned (.tuple #[.bool (isV ps), .int .i64 (code1 ps)]) ∧ Below w.heap.size w w' := by
  have HV := Lib.hid hv
  obtain ⟨ar, c, rfl, _⟩ := hv
  cases hok : okC ps with
  | false =>
    rw [show code1 ps = 1 by simp [code1, hok], show isV ps = false by simp [isV, hok]]
    go_enter Try.func55, Try.ntmps55
    go_wp2_with (first | (go_at_call 130; refine (implValidChain_any _ ps _ HV.out hl).mono ?_; rw [hok]; rintro e w1 ⟨rfl, hb⟩))
    exact bodyPost_ret (v := .tuple #[.bool false, .int .i64 1]) (by simp [results, Try.results55, go_sem]) rfl ⟨rfl, hb⟩
  | true =>
    rw [show code1 ps = 0 by simp [code1, hok], show isV ps = closedB ps by simp [isV, hok]]
    generalize hR : closedB ps = R
    have HR := Lib.hid hR
    clear hR
    go_enter Try.func55, Try.ntmps55
    go_wp2_with (first | (go_at_call 130; refine (implValidChain_any _ ps _ HV.out hl).mono ?_; rw [hok]; rintro e w1 ⟨rfl, hb⟩; have HB1 := Lib.hid hb; clear hb) | (go_at_call 136; refine (isClosed_any _ ps _ (pat_up (pat_keep HV.out HB1.out) HB1.out.size) hl).mono ?_; rw [HR.out]; rintro e w2 ⟨rfl, hb⟩; have HB2 := Lib.hid (HB1.out.trans (hb.mono HB1.out.size)); clear hb))
    exact bodyPost_ret (v := .tuple #[.bool R, .int .i64 0]) (by simp [results, Try.results55, go_sem]) rfl ⟨rfl, HB2.out⟩
set_option maxHeartbeats 1000000 in
theorem closedCode_any (v : Value) (ps : List (Int × Int)) (w : World) (hv : PAt w w.heap.size v ps) (hl : ps.length ≤ 1048576) :
    Calls Try.prog 121 #[v] w fun e w' => e = .returned (.int .i64 (codeG ps)) ∧ Below w.heap.size w w' := by
  have HV := Lib.hid hv
  obtain ⟨ar, c, rfl, _⟩ := hv
  cases hok : okC ps with
  | false =>
    go_enter Try.func121, Try.ntmps121
    go_wp2_with (first | (go_at_call 130; refine (implValidChain_any _ ps _ HV.out hl).mono ?_; rw [hok]; rintro e w1 ⟨rfl, hb⟩))
    go_ret
    exact ⟨retI (by simp [codeG, hok]), hb⟩
  | true =>
    cases hc : closedB ps with
    | false =>
      go_enter Try.func121, Try.ntmps121
      go_wp2_with (first | (go_at_call 130; refine (implValidChain_any _ ps _ HV.out hl).mono ?_; rw [hok]; rintro e w1 ⟨rfl, hb⟩; have HB1 := Lib.hid hb; clear hb) | (go_at_call 136; refine (isClosed_any _ ps _ (pat_up (pat_keep HV.out HB1.out) HB1.out.size) hl).mono ?_; rw [hc]; rintro e w2 ⟨rfl, hb⟩; have HB2 := Lib.hid (HB1.out.trans (hb.mono HB1.out.size)); clear hb))
      go_ret
      exact ⟨retI (by simp [codeG, hok, hc]), HB2.out⟩
    | true =>
      go_enter Try.func121, Try.ntmps121
      go_wp2_with (first | (go_at_call 130; refine (implValidChain_any _ ps _ HV.out hl).mono ?_; rw [hok]; rintro e w1 ⟨rfl, hb⟩; have HB1 := Lib.hid hb; clear hb) | (go_at_call 136; refine (isClosed_any _ ps _ (pat_up (pat_keep HV.out HB1.out) HB1.out.size) hl).mono ?_; rw [hc]; rintro e w2 ⟨rfl, hb⟩; have HB2 := Lib.hid (HB1.out.trans (hb.mono HB1.out.size)); clear hb))
      go_ret
      exact ⟨retI (by simp [codeG, hok, hc]), HB2.out⟩
end Go.Proofs.Ytemhmejjmhbfdaa.sines
