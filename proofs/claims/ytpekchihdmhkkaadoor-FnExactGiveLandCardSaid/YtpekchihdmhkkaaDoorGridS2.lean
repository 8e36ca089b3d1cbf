/- The model's grids: lands, codes, cells: contracts. -/
import Derived.Test.YtpekchihdmhkkaaDoorGridS1
import Derived.Laws.IdiomStrings
import Derived.WalkSmall
namespace Go.Proofs.YtpekchihdmhkkaaDoor.stab
open Go.ChangeShapes Go.WideShapes Go.ChangeAt Go.RowKit Go.Proofs.YtpekchihdmhkkaaDoor.split Go.Proofs.YtpekchihdmhkkaaDoor.sines Go.Proofs.YtpekchihdmhkkaaDoor.names
set_option linter.unusedSimpArgs false
set_option linter.unusedVariables false

theorem cat' (a b : List UInt8) : (⟨a.toArray⟩ : ByteArray) ++ ⟨b.toArray⟩ = ⟨(a ++ b).toArray⟩ := by
  apply ByteArray.ext
  simp
theorem retS {a b : ByteArray} (h : a = b) : Ending.returned (.string a) = .returned (.string b) := by rw [h]
def valLands (ps : List ByteArray) : List UInt8 := if okG ps = true then landsC (cellsG ps) else []
def codeV (ps : List ByteArray) : Int := if okG ps = true then 0 else 1
theorem isL_size {s : ByteArray} (h : s.size ≠ 1) : isL s = false := by simp [isL, h]
theorem isL_no {s : ByteArray} (h : smallB (bAt s 0) = false) : isL s = false := by simp [isL, h]
theorem isL_yes {s : ByteArray} (h1 : s.size = 1) (h : smallB (bAt s 0) = true) : isL s = true := by simp [isL, h1, h]
set_option maxHeartbeats 1000000 in
theorem l12Code_any (v : Value) (ps : List ByteArray) (land : ByteArray) (w : World) (hv : SAt w w.heap.size v ps) (hl : ps.length ≤ 1048576) (hr : ∀ i, i < ps.length → (sAt ps i).size ≤ 1048576) (hs : land.size ≤ 1048576) :
    Calls Tryd.prog 28 #[v, .string land] w fun e w' => e = .returned (.int .i64 (codeG ps land)) ∧ ∃ q, w' = w.drewN q := by
  have OK := Lib.hid (l12Ok_any v ps w _ hv hl hr)
  have HV := Lib.hid hv
  obtain ⟨ar, c, rfl, _⟩ := hv
  clear hl hr
  unfold codeG
  have hs2 : (land.size : Int) ≤ 1048576 := by omega
  cases h : okG ps with
  | false =>
    rw [h] at OK
    go_enter Tryd.func28, Tryd.ntmps28
    go_wp2_with fail
    refine OK.out.mono ?_
    rintro e w' ⟨rfl, q, rfl⟩
    go_wp2
    go_ret
    exact ⟨rfl, q, rfl⟩
  | true =>
    rw [h] at OK
    have HG := Lib.hid (grid_of h)
    simp only [if_true]
    clear h
    by_cases h1 : land.size = 1
    · have h1a : ((land.size : Int) != 1) = false := by simp [h1]
      have hp : 0 < land.size := by omega
      have hp2 : (0 : Int) < (land.size : Int) := by omega
      cases hsm : smB (land[0].toNat : Int) with
      | false =>
        rw [isL_no (by rw [bAt_eq hp, ← smB_small]; exact hsm)]
        simp only [Bool.false_eq_true, if_false]
        go_enter Tryd.func28, Tryd.ntmps28
        go_wp2_with fail
        refine OK.out.mono ?_
        rintro e w' ⟨rfl, q, rfl⟩
        go_wp2_with fail
        refine (l01Small_any _ _).mono ?_
        rw [hsm]
        rintro e w' ⟨rfl, rfl⟩
        go_wp2
        go_ret
        exact ⟨rfl, q, rfl⟩
      | true =>
        rw [isL_yes h1 (by rw [bAt_eq hp, ← smB_small]; exact hsm), bAt_eq hp]
        simp only [if_true]
        have CT := Lib.hid (fun q => l12Count_any (.slice ar ps.length c) ps _ land[0] (w.drewN q) _ (sat_up (sat_keep HV.out (below_drawn w q)) (below_drawn w q).size) HG.out)
        generalize (cellsG ps).count land[0] = C at CT ⊢
        by_cases h0 : 0 < C
        · have h0a : ((C : Int) == 0) = false := by simp; omega
          rw [if_pos h0]
          clear h0
          go_enter Tryd.func28, Tryd.ntmps28
          go_wp2_with fail
          refine OK.out.mono ?_
          rintro e w' ⟨rfl, q, rfl⟩
          go_wp2_with fail
          refine (l01Small_any _ _).mono ?_
          rw [hsm]
          rintro e w' ⟨rfl, rfl⟩
          go_wp2_with fail
          refine (CT.out q).mono ?_
          rintro e w' ⟨rfl, q2, rfl⟩
          go_wp2
          go_ret
          exact ⟨rfl, _, rfl⟩
        · obtain rfl : C = 0 := by omega
          rw [if_neg h0]
          clear h0
          go_enter Tryd.func28, Tryd.ntmps28
          go_wp2_with fail
          refine OK.out.mono ?_
          rintro e w' ⟨rfl, q, rfl⟩
          go_wp2_with fail
          refine (l01Small_any _ _).mono ?_
          rw [hsm]
          rintro e w' ⟨rfl, rfl⟩
          go_wp2_with fail
          refine (CT.out q).mono ?_
          rintro e w' ⟨rfl, q2, rfl⟩
          go_wp2
          go_ret
          exact ⟨rfl, _, rfl⟩
    · have h1a : ((land.size : Int) != 1) = true := by simp; omega
      rw [isL_size h1]
      simp only [Bool.false_eq_true, if_false]
      go_enter Tryd.func28, Tryd.ntmps28
      go_wp2_with fail
      refine OK.out.mono ?_
      rintro e w' ⟨rfl, q, rfl⟩
      go_wp2
      go_ret
      exact ⟨rfl, q, rfl⟩
def valCells (ps : List ByteArray) (land : ByteArray) : Int := if codeG ps land = 0 then ((cellsG ps).count (bAt land 0) : Int) else 0
theorem codeG_zero {ps : List ByteArray} {land : ByteArray} (h : codeG ps land = 0) : okG ps = true ∧ isL land = true ∧ 0 < (cellsG ps).count (bAt land 0) := by
  unfold codeG at h
  split at h
  · split at h
    · split at h
      · exact ⟨‹_›, ‹_›, ‹_›⟩
      · simp at h
    · simp at h
  · simp at h
theorem codeG_in (ps : List ByteArray) (land : ByteArray) : codeG ps land = 0 ∨ codeG ps land = 1 ∨ codeG ps land = 2 ∨ codeG ps land = 3 := by
  unfold codeG
  split
  · split
    · split <;> simp
    · simp
  · simp
theorem isL_of {s : ByteArray} (h : isL s = true) : s.size = 1 ∧ smallB (bAt s 0) = true := by simpa [isL] using h
set_option maxHeartbeats 1000000 in
theorem specCellsOf_any (v : Value) (ps : List ByteArray) (land : ByteArray) (w : World) (hv : SAt w w.heap.size v ps) (hl : ps.length ≤ 1048576) (hr : ∀ i, i < ps.length → (sAt ps i).size ≤ 1048576) (hs : land.size ≤ 1048576) :
    Calls Tryd.prog 13 #[v, .string land] w fun e w' => e = .returned (.tuple #[.int .i64 (valCells ps land), .int .i64 (codeG ps land)]) ∧ Below w.heap.size w w' := by
  have CD := Lib.hid (l12Code_any v ps land w hv hl hr hs)
  have HV := Lib.hid hv
  obtain ⟨ar, c, rfl, _⟩ := hv
  clear hl hr
  unfold valCells
  have hs2 : (land.size : Int) ≤ 1048576 := by omega
  by_cases h : codeG ps land = 0
  · obtain ⟨g1, g2, _⟩ := codeG_zero h
    obtain ⟨h1, _⟩ := isL_of g2
    have hp : 0 < land.size := by omega
    have hp2 : (0 : Int) < (land.size : Int) := by omega
    have CT := Lib.hid (fun q => l12Count_any (.slice ar ps.length c) ps _ land[0] (w.drewN q) _ (sat_up (sat_keep HV.out (below_drawn w q)) (below_drawn w q).size) (grid_of g1))
    rw [if_pos h, bAt_eq hp, h]
    rw [h] at CD
    clear h h1 g1 g2
    generalize (cellsG ps).count land[0] = C at CT ⊢
    go_enter Tryd.func13, Tryd.ntmps13
    go_wp2_with fail
    refine CD.out.mono ?_
    rintro e w' ⟨rfl, q, rfl⟩
    go_wp2_with fail
    refine (CT.out q).mono ?_
    rintro e w' ⟨rfl, q2, rfl⟩
    go_wp2
    exact bodyPost_ret (v := .tuple #[.int .i64 (C : Int), .int .i64 0]) (by simp [results, Tryd.results13, go_sem]) rfl ⟨rfl, below_drawn _ _⟩
  · rw [if_neg h]
    have h2 : (codeG ps land != 0) = true := by simpa using h
    generalize codeG ps land = cd at CD h2 ⊢
    clear h
    go_enter Tryd.func13, Tryd.ntmps13
    go_wp2_with fail
    refine CD.out.mono ?_
    rintro e w' ⟨rfl, q, rfl⟩
    go_wp2
    exact bodyPost_ret (v := .tuple #[.int .i64 0, .int .i64 cd]) (by simp [results, Tryd.results13, go_sem]) rfl ⟨rfl, below_drawn _ q⟩
end Go.Proofs.YtpekchihdmhkkaaDoor.stab
