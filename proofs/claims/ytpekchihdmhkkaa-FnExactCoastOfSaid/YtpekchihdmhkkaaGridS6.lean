/- The model's CoastOf: contract. -/
import Derived.Test.YtpekchihdmhkkaaGridS5
namespace Go.Proofs.Ytpekchihdmhkkaa.stab
open Go.ChangeShapes Go.WideShapes Go.ChangeAt Go.RowKit Go.Proofs.Ytpekchihdmhkkaa.split Go.Proofs.Ytpekchihdmhkkaa.sines Go.Proofs.Ytpekchihdmhkkaa.names
set_option linter.unusedSimpArgs false
set_option linter.unusedVariables false

set_option maxHeartbeats 1000000 in
theorem specCoastOf_any (v : Value) (ps : List ByteArray) (land : ByteArray) (w : World) (hv : SAt w w.heap.size v ps) (hl : ps.length ≤ 1048576) (hr : ∀ i, i < ps.length → (sAt ps i).size ≤ 1048576) (hs : land.size ≤ 1048576) :
    Calls Try.prog 30 #[v, .string land] w fun e w' => e = .returned (.tuple #[.int .i64 (valCoast ps land), .int .i64 (codeG ps land)]) ∧ Below w.heap.size w w' := by
  have CD := Lib.hid (l12Code_any v ps land w hv hl hr hs)
  have HV := Lib.hid hv
  obtain ⟨ar, c, rfl, _⟩ := hv
  clear hl hr
  unfold valCoast wideG'
  have hs2 : (land.size : Int) ≤ 1048576 := by omega
  by_cases h : codeG ps land = 0
  · obtain ⟨g1, g2, _⟩ := codeG_zero h
    obtain ⟨h1, _⟩ := isL_of g2
    have hp : 0 < land.size := by omega
    have hp2 : (0 : Int) < (land.size : Int) := by omega
    have CT := Lib.hid (fun q => l12Coast_any (.slice ar ps.length c) ps _ land[0] (w.drewN q) _ (sat_up (sat_keep HV.out (below_drawn w q)) (below_drawn w q).size) (grid_of g1))
    rw [if_pos h, bAt_eq hp, h]
    rw [h] at CD
    obtain ⟨C, hC⟩ : ∃ C, Hid (coastG ps (sAt ps 0).size land[0] = C) := ⟨_, Lib.hid rfl⟩
    rw [hC.out] at CT ⊢
    clear h h1 g1 g2 hC
    go_enter Try.func30, Try.ntmps30
    go_wp2_with fail
    refine CD.out.mono ?_
    rintro e w' ⟨rfl, q, rfl⟩
    go_wp2_with fail
    refine (CT.out q).mono ?_
    rintro e w' ⟨rfl, q2, rfl⟩
    go_wp2
    exact bodyPost_ret (v := .tuple #[.int .i64 (C : Int), .int .i64 0]) (by simp [results, Try.results30, go_sem]) rfl ⟨rfl, below_drawn _ _⟩
  · rw [if_neg h]
    have h2 : (codeG ps land != 0) = true := by simpa using h
    generalize codeG ps land = cd at CD h2 ⊢
    clear h
    go_enter Try.func30, Try.ntmps30
    go_wp2_with fail
    refine CD.out.mono ?_
    rintro e w' ⟨rfl, q, rfl⟩
    go_wp2
    exact bodyPost_ret (v := .tuple #[.int .i64 0, .int .i64 cd]) (by simp [results, Try.results30, go_sem]) rfl ⟨rfl, below_drawn _ q⟩
end Go.Proofs.Ytpekchihdmhkkaa.stab
