/- The program's colours and clashes: contracts. -/
import Derived.Test.YtemhmejjmhbfdaaDoorColsP1
import Derived.Test.YtemhmejjmhbfdaaDoorColsC
namespace Go.Proofs.YtemhmejjmhbfdaaDoor.sines
open Go.ChangeShapes Go.WideShapes Go.ChangeAt Go.RowKit Go.Proofs.YtemhmejjmhbfdaaDoor.spots Go.Proofs.YtemhmejjmhbfdaaDoor.irows Go.Proofs.YtemhmejjmhbfdaaDoor.pairsBorder
set_option linter.unusedSimpArgs false
set_option linter.unusedVariables false

theorem retI10 {a b : Int} (h : a = b) : Ending.returned (.int .i64 a) = .returned (.int .i64 b) := by rw [h]
set_option maxHeartbeats 400000 in
theorem isLandU_any (n x : Int) (w : World) : Calls Tryd.prog 19 #[.int .i64 n, .int .i64 x] w fun e w' => e = .returned (.bool (inB x 0 (n - 1))) ∧ w = w' := by
  by_cases h1 : 0 ≤ x
  · by_cases h2 : x < n
    · have e : inB x 0 (n - 1) = true := by simp [inB]; omega
      rw [e]
      go_enter Tryd.func19, Tryd.ntmps19
      go_wp2
      go_ret
      exact ⟨rfl, rfl⟩
    · have e : inB x 0 (n - 1) = false := by simp [inB]; omega
      have h2' : n ≤ x := by omega
      have h3 : decide (x < n) = false := decide_eq_false h2
      rw [e]
      clear h2
      go_enter Tryd.func19, Tryd.ntmps19
      go_wp2
      go_ret
      exact ⟨retB9 (by first | exact h3 | done | simp | (simp; omega)), rfl⟩
  · have e : inB x 0 (n - 1) = false := by simp [inB]; omega
    rw [e]
    go_enter Tryd.func19, Tryd.ntmps19
    go_wp2
    go_ret
    exact ⟨rfl, rfl⟩
set_option maxHeartbeats 400000 in
theorem bordersCode_any (n : Int) (v : Value) (ps : List (Int × Int)) (b : Bool) (w : World) (hv : PAt w w.heap.size v ps) (hl : ps.length ≤ 1048576) :
    Calls Tryd.prog 18 #[.int .i64 n, v, .bool b] w fun e w' => e = .returned (.int .i64 (if validC n ps = true then (if b = true then 0 else 2) else 1)) ∧ Below w.heap.size w w' := by
  have HV := Lib.hid (implVB_any n v ps w hv hl)
  obtain ⟨a, c, rfl, _⟩ := hv
  generalize validC n ps = R at HV ⊢
  cases R <;> cases b <;>
  · go_enter Tryd.func18, Tryd.ntmps18
    go_wp2_with fail
    refine HV.out.mono ?_
    rintro e w1 ⟨rfl, hb⟩
    have HB := Lib.hid hb
    clear hb
    go_wp2_with fail
    refine (codeOf_any _ _ _).mono ?_
    rintro e w2 ⟨rfl, rfl⟩
    go_wp2
    go_ret
    exact ⟨rfl, HB.out⟩
end Go.Proofs.YtemhmejjmhbfdaaDoor.sines
