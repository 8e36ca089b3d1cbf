/- The model's colours and clashes: contracts. -/
import Derived.Test.YtemhmejjmhbfdabDoorColsV
import Derived.Test.YtemhmejjmhbfdabDoorIArg9
namespace Go.Proofs.YtemhmejjmhbfdabDoor.sines
open Go.ChangeShapes Go.WideShapes Go.ChangeAt Go.RowKit Go.Proofs.YtemhmejjmhbfdabDoor.spots Go.Proofs.YtemhmejjmhbfdabDoor.irows Go.Proofs.YtemhmejjmhbfdabDoor.pairsBorder
set_option linter.unusedSimpArgs false
set_option linter.unusedVariables false

theorem cAt_nat (cs : List Int) (k : Nat) : cAt cs (k : Int) = zAt cs k := by simp [cAt, zAt]
theorem colsOk_no {n : Int} {cs : List Int} {k : Nat} (h : k < cs.length) (hk : inB (zAt cs k) 0 9 = false) : colsOk n cs = false := by
  cases e : colsOk n cs with
  | false => rfl
  | true =>
    simp only [colsOk, Bool.and_eq_true, List.all_eq_true] at e
    have := e.1 cs[k] (List.getElem_mem _)
    rw [← zAt_eq h, hk] at this; cases this
theorem colsOk_all {n : Int} {cs : List Int} (h : ∀ j, j < cs.length → inB (zAt cs j) 0 9 = true) : colsOk n cs = decide ((cs.length : Int) = n) := by
  have : cs.all (fun c => inB c 0 9) = true := by
    rw [List.all_eq_true]
    intro c hc
    obtain ⟨i, hi, rfl⟩ := List.mem_iff_getElem.1 hc
    rw [← zAt_eq hi]; exact h i hi
  rw [colsOk, this, Bool.true_and]
theorem colsOk_len {n : Int} {cs : List Int} (h : colsOk n cs = true) : (cs.length : Int) = n := by
  simp only [colsOk, Bool.and_eq_true, decide_eq_true_eq] at h; exact h.2
def codeFC (n : Int) (ps : List (Int × Int)) (cs : List Int) : Int := if validC n ps = true then (if colsOk n cs = true then 0 else 2) else 1
def valFC (n : Int) (ps : List (Int × Int)) (cs : List Int) : Int := if codeFC n ps cs = 0 then clashV ps cs else 0

set_option maxRecDepth 100000 in
set_option maxHeartbeats 2000000 in
theorem l09Colours_any (n : Int) (v : Value) (cs : List Int) (w : World) (hv : IAt w w.heap.size v cs) (hl : cs.length ≤ 1048576) :
    Calls Tryd.prog 35 #[.int .i64 n, v] w fun e w' => e = .returned (.bool (colsOk n cs)) ∧ Below w.heap.size w w' := by
  obtain ⟨ar, c, rfl, hcl⟩ := hv
  have HCL := Lib.hid hcl
  clear hcl
  obtain ⟨R, hR⟩ : ∃ R, Hid (colsOk n cs = R) := ⟨_, Lib.hid rfl⟩
  have hl2 : (cs.length : Int) ≤ 1048576 := by omega
  rw [hR.out]
  go_enter Tryd.func35, Tryd.ntmps35
  go_wp2
  go_loopw [5] (fun i wr => ∃ k : Nat, k ≤ cs.length ∧ i = .int .i64 (k : Int) ∧ (∀ j, j < k → inB (zAt cs j) 0 9 = true) ∧ Below w.heap.size w wr) (fun i _ => cs.length - (intOf i).toNat)
  case atStart => exact ⟨0, Nat.zero_le _, rfl, fun j h => by omega, Below.refl _ _⟩
  case round =>
    obtain ⟨k, hk, rfl, ha, hb⟩ := hrel
    have HA := Lib.hid ha
    have HB := Lib.hid hb
    clear ha
    by_cases hlt : k < cs.length
    · obtain ⟨b, off, rfl, hbs, c1⟩ := HCL.out k hlt
      have u1 := (hb.cell (p := ⟨b, off + k, none⟩) hbs).trans c1
      have hk0 : 0 ≤ (k : Int) := by omega
      have hk1 : (k : Int) < (cs.length : Int) := by omega
      have NO := Lib.hid (show inB (zAt cs k) 0 9 = false → R = false from fun h => by rw [← hR.out]; exact colsOk_no hlt h)
      have YES := Lib.hid (show inB (zAt cs k) 0 9 = true → ∀ j, j < k + 1 → inB (zAt cs j) 0 9 = true from fun h j hj => by
        by_cases e : j = k
        · subst e; exact h
        · exact HA.out j (by omega))
      clear c1 hb
      generalize zAt cs k = x at u1 NO YES
      go_wp2_with fail
      refine (l00In_any _ _ _ _).mono ?_
      rintro e w' ⟨rfl, rfl⟩
      cases h1 : inB x 0 9 with
      | false =>
        obtain rfl := NO.out h1
        go_wp2
        go_ret
        exact ⟨rfl, HB.out⟩
      | true =>
        have Y := Lib.hid (YES.out h1)
        go_wp2
        go_roundw
        case rel => exact ⟨k + 1, by omega, by go_num, Y.out, HB.out⟩
        case measure => simp [intOf]; omega
    · obtain rfl : k = cs.length := by omega
      have RT := Lib.hid (show R = decide ((cs.length : Int) = n) by rw [← hR.out]; exact colsOk_all HA.out)
      clear hb
      go_wp2
      go_ret
      exact ⟨retB9 (by rw [RT.out]; first | rfl | (rw [Bool.eq_iff_iff]; simp)), HB.out⟩

set_option maxRecDepth 100000 in
set_option maxHeartbeats 4000000 in
theorem l09Clash_any (v u : Value) (ps : List (Int × Int)) (cs : List Int) (w : World) (hv : PAt w w.heap.size v ps) (hu : IAt w w.heap.size u cs) (hl : ps.length ≤ 1048576) (hc : cs.length ≤ 1048576) (hp : ∀ i, i < ps.length → 0 ≤ (bAt ps i).1 ∧ (bAt ps i).1 < (cs.length : Int) ∧ 0 ≤ (bAt ps i).2 ∧ (bAt ps i).2 < (cs.length : Int)) :
    Calls Tryd.prog 36 #[v, u] w fun e w' => e = .returned (.int .i64 (clashV ps cs)) ∧ Below w.heap.size w w' := by
  obtain ⟨ar, c, rfl, hcl⟩ := hv
  obtain ⟨ar2, c2, rfl, hcl2⟩ := hu
  have HCL := Lib.hid hcl
  have HCL2 := Lib.hid hcl2
  have HP := Lib.hid hp
  clear hcl hcl2 hp
  obtain ⟨R, hR⟩ : ∃ R, Hid (clashV ps cs = R) := ⟨_, Lib.hid rfl⟩
  have hl2 : (ps.length : Int) ≤ 1048576 := by omega
  have hl3 : (cs.length : Int) ≤ 1048576 := by omega
  rw [hR.out]
  go_enter Tryd.func36, Tryd.ntmps36
  go_wp2
  go_loopw [5] (fun i wr => ∃ k : Nat, k ≤ ps.length ∧ i = .int .i64 (k : Int) ∧ (∀ j, j < k → cAt cs (bAt ps j).1 ≠ cAt cs (bAt ps j).2) ∧ Below w.heap.size w wr) (fun i _ => ps.length - (intOf i).toNat)
  case atStart => exact ⟨0, Nat.zero_le _, rfl, fun j h => by omega, Below.refl _ _⟩
  case round =>
    obtain ⟨k, hk, rfl, ha, hb⟩ := hrel
    have HA := Lib.hid ha
    have HB := Lib.hid hb
    clear ha
    by_cases hlt : k < ps.length
    · obtain ⟨b, off, rfl, hbs, c1, c2'⟩ := HCL.out k hlt
      rw [bAt_of hlt] at c1 c2'
      have u1 := (hb.cell (p := ⟨b, off + k * 2, none⟩) hbs).trans c1
      have u2 := (hb.cell (p := ⟨b, off + k * 2 + 1, none⟩) hbs).trans c2'
      have hk0 : 0 ≤ (k : Int) := by omega
      have hk1 : (k : Int) < (ps.length : Int) := by omega
      have YES := Lib.hid (show cAt cs (bAt ps k).1 = cAt cs (bAt ps k).2 → R = (k : Int) from fun h => by rw [← hR.out]; exact clashV_yes hlt HA.out h)
      have NX := Lib.hid (show cAt cs (bAt ps k).1 ≠ cAt cs (bAt ps k).2 → ∀ j, j < k + 1 → cAt cs (bAt ps j).1 ≠ cAt cs (bAt ps j).2 from fun h j hj => by
        by_cases e : j = k
        · subst e; exact h
        · exact HA.out j (by omega))
      have P := HP.out k hlt
      obtain ⟨⟨x1, x2⟩, hx⟩ : ∃ x, Hid (bAt ps k = x) := ⟨_, Lib.hid rfl⟩
      rw [hx.out] at u1 u2 YES NX P
      simp only at u1 u2 YES NX P
      obtain ⟨X, rfl⟩ : ∃ X : Nat, x1 = (X : Int) := ⟨x1.toNat, by omega⟩
      obtain ⟨Y, rfl⟩ : ∃ Y : Nat, x2 = (Y : Int) := ⟨x2.toNat, by omega⟩
      obtain ⟨p0, p1, p2, p3⟩ := P
      obtain ⟨b2, off2, rfl, hbs2, d1⟩ := HCL2.out X (by omega)
      obtain ⟨b3, off3, e3, hbs3, d2⟩ := HCL2.out Y (by omega)
      obtain ⟨rfl, rfl⟩ : b3 = b2 ∧ off3 = off2 := by simp at e3; exact ⟨e3.1.symm, e3.2.symm⟩
      have u3 := (hb.cell (p := ⟨b3, off3 + X, none⟩) hbs2).trans d1
      have u4 := (hb.cell (p := ⟨b3, off3 + Y, none⟩) hbs2).trans d2
      rw [cAt_nat, cAt_nat] at YES NX
      clear c1 c2' d1 d2 hb e3
      generalize zAt cs X = y1 at u3 YES NX
      generalize zAt cs Y = y2 at u4 YES NX
      by_cases he : y1 = y2
      · obtain rfl := YES.out he
        subst he
        go_wp2
        go_quiet (fail)
        all_goals go_wp2
        all_goals go_ret
        all_goals exact ⟨rfl, bdQ9 HB.out _⟩
      · have NX2 := Lib.hid (NX.out he)
        go_wp2
        go_quiet (fail)
        go_wp2
        go_roundw
        case rel => exact ⟨k + 1, by omega, by go_num, NX2.out, bdQ9 HB.out _⟩
        case measure => simp [intOf]; omega
    · obtain rfl : k = ps.length := by omega
      have RT := Lib.hid (show R = -1 by rw [← hR.out]; exact clashV_no HA.out)
      obtain rfl := RT.out
      clear hb
      go_wp2
      go_ret
      exact ⟨rfl, HB.out⟩


end Go.Proofs.YtemhmejjmhbfdabDoor.sines
