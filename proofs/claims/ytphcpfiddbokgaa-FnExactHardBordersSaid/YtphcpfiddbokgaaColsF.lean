/- The model's fewest and first colours: contracts. -/
import Derived.Test.YtphcpfiddbokgaaColsL
namespace Go.Proofs.Ytphcpfiddbokgaa.sines
open Go.ChangeShapes Go.WideShapes Go.ChangeAt Go.RowKit Go.Proofs.Ytphcpfiddbokgaa.spots Go.Proofs.Ytphcpfiddbokgaa.irows Go.Proofs.Ytphcpfiddbokgaa.pairsBorder
set_option linter.unusedSimpArgs false
set_option linter.unusedVariables false

theorem retI9 {a b : Int} (h : a = b) : Ending.returned (.int .i64 a) = .returned (.int .i64 b) := by rw [h]
/-- The answer of FewestColours, of FirstColours, and their codes. -/
def codeVc (n : Int) (ps : List (Int × Int)) : Int := if validC n ps = true then 0 else 1
def valFew (n : Int) (ps : List (Int × Int)) : Int := if validC n ps = true then fewest n ps else 0
def codeMc (n : Int) (ps : List (Int × Int)) (m : Int) : Int := if validC n ps = true then (if inB m 1 6 = true then 0 else 2) else 1
def codeFi (n : Int) (ps : List (Int × Int)) (m : Int) : Int := if codeMc n ps m = 0 then (if (firstC n ps m).isSome = true then 0 else 3) else codeMc n ps m
def valFi (n : Int) (ps : List (Int × Int)) (m : Int) : List Int := if codeFi n ps m = 0 then (firstC n ps m).getD [] else []
theorem codeMc_of {n : Int} {ps : List (Int × Int)} {m : Int} (h : codeMc n ps m = 0) : validC n ps = true ∧ 1 ≤ m ∧ m ≤ 6 := by
  unfold codeMc at h
  split at h
  · rename_i g
    split at h
    · rename_i g2
      exact ⟨g, inB_of g2⟩
    · omega
  · omega
theorem codeVc_of {n : Int} {ps : List (Int × Int)} (h : codeVc n ps = 0) : validC n ps = true := by
  unfold codeVc at h
  split at h
  · assumption
  · omega
theorem firstC_len {n : Int} {ps : List (Int × Int)} {m : Int} (hn : n ≤ 10) : ((firstC n ps m).getD []).length ≤ 10 := by
  cases h : firstC n ps m with
  | none => simp
  | some cs => have := (firstC_some h).2.1; simp; omega
theorem valFi_len (n : Int) (ps : List (Int × Int)) (m : Int) : (valFi n ps m).length ≤ 10 := by
  unfold valFi
  split
  · rename_i h
    by_cases hm : codeMc n ps m = 0
    · exact firstC_len (validC_facts (codeMc_of hm).1).2.1
    · unfold codeFi at h
      rw [if_neg hm] at h
      exact absurd h hm
  · simp

set_option maxRecDepth 100000 in
set_option maxHeartbeats 2000000 in
theorem l09Fewest_any (n : Int) (v : Value) (ps : List (Int × Int)) (w : World) (hv : PAt w w.heap.size v ps) (hok : validC n ps = true) :
    Calls Try.prog 35 #[.int .i64 n, v] w fun e w' => e = .returned (.int .i64 (fewest n ps)) ∧ Below w.heap.size w w' := by
  obtain ⟨n0, n1, _, _⟩ := validC_facts hok
  have HV := Lib.hid hv
  have FI := Lib.hid (fun (m : Int) (m0 : 0 ≤ m) (m1 : m ≤ 10) W (h : PAt W W.heap.size v ps) => l09First_any n m v ps W h hok m0 m1)
  obtain ⟨R, hR⟩ : ∃ R, Hid (fewest n ps = R) := ⟨_, Lib.hid rfl⟩
  have FE := Lib.hid (show ∀ k : Int, (firstC n ps k).isSome = true → (∀ j, j < k → (firstC n ps j).isSome = false) → R = k from fun k h1 h2 => by rw [← hR.out]; exact fewest_eq hok h1 h2)
  have LA := Lib.hid (firstC_lands hok)
  have ZE := Lib.hid (show ∀ j : Int, j < 1 → (firstC n ps j).isSome = false from fun j hj => firstC_zero n0 hj)
  rw [hR.out]
  obtain ⟨av, cv, rfl, _⟩ := hv
  clear hok
  go_enter Try.func35, Try.ntmps35
  go_wp2
  go_loopw [5] (fun i wr => ∃ k : Int, 1 ≤ k ∧ k ≤ n ∧ i = .int .i64 k ∧ (∀ j, j < k → (firstC n ps j).isSome = false) ∧ Below w.heap.size w wr) (fun i _ => (n - intOf i).toNat)
  case atStart => exact ⟨1, by omega, n0, rfl, ZE.out, Below.refl _ _⟩
  case round =>
    obtain ⟨k, hk0, hk, rfl, ha, hb⟩ := hrel
    have HA := Lib.hid ha
    have HB := Lib.hid hb
    clear ha
    by_cases hlt : k < n
    · have kw : IntKind.i64.wrap (k + 1) = k + 1 := IntWalk.i64_in _ (by omega)
      have FK := Lib.hid (FI.out k (by omega) (by omega) wr (pat_up (pat_keep HV.out hb) hb.size))
      have YES := Lib.hid (show (firstC n ps k).isSome = true → R = k from fun h => FE.out k h HA.out)
      have NX := Lib.hid (show (firstC n ps k).isSome = false → ∀ j, j < k + 1 → (firstC n ps j).isSome = false from fun h j hj => by
        by_cases e : j = k
        · subst e; exact h
        · exact HA.out j (by omega))
      clear hb
      generalize (firstC n ps k).getD [] = zs at FK
      generalize (firstC n ps k).isSome = b at FK YES NX
      go_wp2_with fail
      refine FK.out.mono ?_
      rintro e w1 ⟨u, rfl, hr, hb1⟩
      have HB1 := Lib.hid (HB.out.trans (hb1.mono HB.out.size))
      clear hr hb1
      cases b with
      | true =>
        have E := YES.out rfl
        clear YES NX
        subst E
        go_wp2
        go_ret
        exact ⟨rfl, HB1.out⟩
      | false =>
        have A2 := Lib.hid (NX.out rfl)
        clear YES NX
        go_wp2
        go_roundw
        case rel => exact ⟨k + 1, by omega, by omega, by first | rfl | go_num, A2.out, HB1.out⟩
        case measure => simp [intOf]; omega
    · obtain rfl : k = n := by omega
      have E := FE.out k LA.out HA.out
      subst E
      clear hb
      go_wp2
      go_ret
      exact ⟨rfl, HB.out⟩

set_option maxRecDepth 100000 in
set_option maxHeartbeats 1000000 in
theorem specFew_any (n : Int) (v : Value) (ps : List (Int × Int)) (w : World) (hv : PAt w w.heap.size v ps) (hl : ps.length ≤ 1048576) :
    Calls Try.prog 17 #[.int .i64 n, v] w fun e w' => e = .returned (.tuple #[.int .i64 (valFew n ps), .int .i64 (codeVc n ps)]) ∧ Below w.heap.size w w' := by
  have OK := Lib.hid (l09Ok_any n v ps w hv hl)
  have HV := Lib.hid hv
  have FW := Lib.hid (fun (h : validC n ps = true) W (hW : PAt W W.heap.size v ps) => l09Fewest_any n v ps W hW h)
  rw [valFew, codeVc]
  obtain ⟨av, cv, rfl, _⟩ := hv
  generalize fewest n ps = R at FW ⊢
  generalize validC n ps = b at OK FW ⊢
  cases b with
  | false =>
    simp only [Bool.false_eq_true, if_false]
    clear FW
    go_enter Try.func17, Try.ntmps17
    go_wp2_with fail
    refine OK.out.mono ?_
    rintro e w1 ⟨rfl, hb⟩
    go_wp2
    exact bodyPost_ret (v := .tuple #[.int .i64 0, .int .i64 1]) (by simp [results, Try.results17, go_sem]) rfl ⟨rfl, hb⟩
  | true =>
    simp only [if_true]
    replace FW := Lib.hid (FW.out rfl)
    go_enter Try.func17, Try.ntmps17
    go_wp2_with fail
    refine OK.out.mono ?_
    rintro e w1 ⟨rfl, hb⟩
    have HB := Lib.hid hb
    go_wp2_with fail
    refine (FW.out _ (pat_up (pat_keep HV.out hb) hb.size)).mono ?_
    rintro e w2 ⟨rfl, hb2⟩
    have HB2 := HB.out.trans (hb2.mono HB.out.size)
    clear hb hb2
    go_wp2
    exact bodyPost_ret (v := .tuple #[.int .i64 R, .int .i64 0]) (by simp [results, Try.results17, go_sem]) rfl ⟨rfl, HB2⟩

set_option maxRecDepth 100000 in
set_option maxHeartbeats 1000000 in
theorem l09CodeM_any (n : Int) (v : Value) (ps : List (Int × Int)) (m : Int) (w : World) (hv : PAt w w.heap.size v ps) (hl : ps.length ≤ 1048576) :
    Calls Try.prog 38 #[.int .i64 n, v, .int .i64 m] w fun e w' => e = .returned (.int .i64 (codeMc n ps m)) ∧ Below w.heap.size w w' := by
  have OK := Lib.hid (l09Ok_any n v ps w hv hl)
  rw [codeMc]
  obtain ⟨av, cv, rfl, _⟩ := hv
  generalize validC n ps = b at OK ⊢
  generalize hg : inB m 1 6 = g
  cases b <;> cases g
  all_goals
    go_enter Try.func38, Try.ntmps38
    go_wp2_with fail
    refine OK.out.mono ?_
    rintro e w1 ⟨rfl, hb⟩
    have HB := Lib.hid hb
    clear hb
    go_wp2_with (go_at_call 43; refine (l00In_any _ _ _ _).mono ?_; rw [hg]; rintro e w' ⟨rfl, rfl⟩)
    go_ret
    exact ⟨rfl, HB.out⟩

end Go.Proofs.Ytphcpfiddbokgaa.sines
