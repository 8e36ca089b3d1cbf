/- The program's grids: valid ones, turned ones: contracts. -/
import Derived.Test.YtpekchihdmhkkaaGridI1
namespace Go.Proofs.Ytpekchihdmhkkaa.stab
open Go.ChangeShapes Go.WideShapes Go.ChangeAt Go.RowKit Go.Proofs.Ytpekchihdmhkkaa.split Go.Proofs.Ytpekchihdmhkkaa.sines Go.Proofs.Ytpekchihdmhkkaa.names
set_option linter.unusedSimpArgs false
set_option linter.unusedVariables false

set_option maxHeartbeats 1000000 in
theorem implValidGrid_any (v : Value) (ps : List ByteArray) (w : World) (hv : SAt w w.heap.size v ps) (hl : ps.length ≤ 1048576) (hr : ∀ i, i < ps.length → (sAt ps i).size ≤ 1048576) :
    Calls Try.prog 16 #[v] w fun e w' => e = .returned (.bool (okG ps)) ∧ Below w.heap.size w w' := by
  have HV := Lib.hid hv
  have HRS := Lib.hid hr
  obtain ⟨ar, c, rfl, _, hcl⟩ := hv
  have HCL := Lib.hid hcl
  clear hcl hr
  have hl2 : (ps.length : Int) ≤ 1048576 := by omega
  have hb0 : Below w.heap.size w (w.alloc (.cells #[.slice ar ps.length c] 22)) := (Below.refl _ _).alloc (Nat.le_refl _) _
  have hcell : (w.alloc (.cells #[.slice ar ps.length c] 22)).cell? ⟨w.heap.size, 0, none⟩ = some (.slice ar ps.length c) := by simp [go_sem]
  have HB0 := Lib.hid hb0
  have HC0 := Lib.hid hcell
  cases h1 : inB (ps.length : Int) 1 16 with
  | false =>
    rw [okG_len h1]
    clear hb0 hcell
    go_enter Try.func16, Try.ntmps16
    go_wp2_with fail
    refine (within_any _ _ _ _).mono ?_
    rw [h1]
    rintro e w' ⟨rfl, rfl⟩
    go_wp2
    go_ret
    exact ⟨rfl, HB0.out⟩
  | true =>
    have hb1 := inB_of h1
    obtain ⟨b0, off0, rfl, hbs, z0⟩ := HCL.out 0 (by omega)
    rw [Nat.add_zero] at z0
    have u0 := (hb0.cell (p := ⟨b0, off0, none⟩) hbs).trans z0
    have hp0 : (0 : Int) < (ps.length : Int) := by omega
    have hpN : 0 < ps.length := by omega
    have hz0 := HRS.out 0 hpN
    have CB := Lib.hid (containsBad_any (.slice (some ⟨b0, off0, none⟩) ps.length c) ps w.heap.size _ (sat_up (sat_keep HV.out HB0.out) HB0.out.size) (by omega) hl HRS.out HC0.out)
    cases h2 : inB ((sAt ps 0).size : Int) 1 32 with
    | false =>
      rw [okG_wide hpN h2]
      clear hb0 hcell z0 CB
      generalize sAt ps 0 = s at u0 h2 hz0
      go_enter Try.func16, Try.ntmps16
      go_wp2_with fail
      refine (within_any _ _ _ _).mono ?_
      rw [h1]
      rintro e w' ⟨rfl, rfl⟩
      go_wp2_with fail
      refine (within_any _ _ _ _).mono ?_
      rw [h2]
      rintro e w' ⟨rfl, rfl⟩
      go_wp2
      go_ret
      exact ⟨rfl, HB0.out⟩
    | true =>
      rw [okG_any h1 h2]
      clear hb0 hcell z0
      obtain ⟨R, hR⟩ : ∃ R, Hid (ps.any (badR (sAt ps 0).size) = R) := ⟨_, Lib.hid rfl⟩
      rw [hR.out] at CB ⊢
      generalize sAt ps 0 = s at u0 h2 hz0
      go_enter Try.func16, Try.ntmps16
      go_wp2_with fail
      refine (within_any _ _ _ _).mono ?_
      rw [h1]
      rintro e w' ⟨rfl, rfl⟩
      go_wp2_with fail
      refine (within_any _ _ _ _).mono ?_
      rw [h2]
      rintro e w' ⟨rfl, rfl⟩
      go_wp2_with fail
      refine CB.out.mono ?_
      rintro e w' ⟨rfl, hb⟩
      have HB2 := Lib.hid (HB0.out.trans (hb.mono HB0.out.size))
      clear hb
      go_wp2
      go_ret
      exact ⟨rfl, HB2.out⟩
end Go.Proofs.Ytpekchihdmhkkaa.stab
