/- The model's valid borders: contracts. -/
import Derived.Test.YtemhmejjmhbfdabDoorCols
import Derived.Test.YtemhmejjmhbfdabDoorPairsBorder
import Derived.Deep.LoopGhost
import Derived.BigQuiet
namespace Go.Proofs.YtemhmejjmhbfdabDoor.sines
open Go.ChangeShapes Go.WideShapes Go.ChangeAt Go.RowKit Go.Proofs.YtemhmejjmhbfdabDoor.spots Go.Proofs.YtemhmejjmhbfdabDoor.irows Go.Proofs.YtemhmejjmhbfdabDoor.pairsBorder
set_option linter.unusedSimpArgs false
set_option linter.unusedVariables false
theorem retB9 {a b : Bool} (h : a = b) : Ending.returned (.bool a) = .returned (.bool b) := by rw [h]
theorem bdQ9 {B : Nat} {a w : World} (h : Below B a w) (q : Nat) : Below B a (w.drewN q) := ⟨h.os, h.tape, h.output, h.size, h.block⟩
set_option maxRecDepth 100000 in
set_option maxHeartbeats 4000000 in
theorem l09Ok_any (n : Int) (v : Value) (ps : List (Int × Int)) (w : World) (hv : PAt w w.heap.size v ps) (hl : ps.length ≤ 1048576) :
    Calls Tryd.prog 20 #[.int .i64 n, v] w fun e w' => e = .returned (.bool (validC n ps)) ∧ Below w.heap.size w w' := by
  obtain ⟨ar, c, rfl, hcl⟩ := hv
  have HCL := Lib.hid hcl
  clear hcl
  obtain ⟨R, hR⟩ : ∃ R, Hid (validC n ps = R) := ⟨_, Lib.hid rfl⟩
  have hl2 : (ps.length : Int) ≤ 1048576 := by omega
  rw [hR.out]
  cases hn : inB n 1 10 with
  | false =>
    obtain rfl : R = false := by rw [← hR.out]; exact validC_num hn
    go_enter Tryd.func20, Tryd.ntmps20
    go_wp2_with fail
    refine (l00In_any _ _ _ _).mono ?_
    rw [hn]
    rintro e w' ⟨rfl, rfl⟩
    go_wp2
    go_ret
    exact ⟨rfl, Below.refl _ _⟩
  | true =>
    obtain ⟨n0, n1⟩ := inB_of hn
    have nw : IntKind.i64.wrap (n - 1) = n - 1 := IntWalk.i64_in _ (by omega)
    go_enter Tryd.func20, Tryd.ntmps20
    go_wp2_with fail
    refine (l00In_any _ _ _ _).mono ?_
    rw [hn]
    rintro e w' ⟨rfl, rfl⟩
    go_wp2_with fail
    have HN := Lib.hid hn
    clear hn
    go_loopw [5] (fun i wr => ∃ k : Nat, k ≤ ps.length ∧ i = .int .i64 (k : Int) ∧ (∀ j, j < k → okBd n (bAt ps j) = true ∧ ∀ m, m < j → bAt ps m ≠ bAt ps j) ∧ Below w.heap.size w wr) (fun i _ => ps.length - (intOf i).toNat)
    case atStart => exact ⟨0, Nat.zero_le _, rfl, fun j h => by omega, Below.refl _ _⟩
    case round =>
      obtain ⟨k, hk, rfl, ha, hb⟩ := hrel
      have HA := Lib.hid ha
      have HB := Lib.hid hb
      clear ha
      by_cases hlt : k < ps.length
      · have hk0 : 0 ≤ (k : Int) := by omega
        have hk1 : (k : Int) < (ps.length : Int) := by omega
        obtain ⟨b, off, rfl, hbs, c1, c2⟩ := HCL.out k hlt
        rw [bAt_of hlt] at c1 c2
        have C1 := Lib.hid c1
        have C2 := Lib.hid c2
        have u1 := (hb.cell (p := ⟨b, off + k * 2, none⟩) hbs).trans c1
        have u2 := (hb.cell (p := ⟨b, off + k * 2 + 1, none⟩) hbs).trans c2
        have NO := Lib.hid (show okBd n (bAt ps k) = false → R = false from fun h => by rw [← hR.out]; exact validC_no hlt h)
        have TW := Lib.hid (show ∀ m, m < k → bAt ps m = bAt ps k → R = false from fun m hm h => by rw [← hR.out]; exact validC_twice hlt hm h)
        have YES := Lib.hid (show okBd n (bAt ps k) = true → (∀ m, m < k → bAt ps m ≠ bAt ps k) → ∀ j, j < k + 1 → okBd n (bAt ps j) = true ∧ ∀ m, m < j → bAt ps m ≠ bAt ps j from fun h h2 j hj => by
          by_cases e : j = k
          · subst e; exact ⟨h, h2⟩
          · exact HA.out j (by omega))
        clear c1 c2 hb
        obtain ⟨⟨x1, x2⟩, hx⟩ : ∃ x, Hid (bAt ps k = x) := ⟨_, Lib.hid rfl⟩
        rw [hx.out] at u1 u2 NO TW YES C1 C2
        simp only at u1 u2 C1 C2
        have OE : okBd n (x1, x2) = (inB x2 0 (n - 1) && inB x1 0 (x2 - 1)) := rfl
        rw [OE] at NO YES
        clear OE
        cases h1 : inB x2 0 (n - 1) with
        | false =>
          obtain rfl := NO.out (by rw [h1]; rfl)
          go_wp2_with fail
          (go_quiet ((go_at_call 21; exact Calls.quiet_of_same ((l00In_any _ _ _ _).mono fun _ _ h => ⟨h.1, h.2.symm⟩))))
          all_goals go_wp2
          all_goals go_ret
          all_goals exact ⟨rfl, bdQ9 HB.out _⟩
        | true =>
          have x20 := inB_of h1
          have xw : IntKind.i64.wrap (x2 - 1) = x2 - 1 := IntWalk.i64_in _ (by omega)
          cases h2 : inB x1 0 (x2 - 1) with
          | false =>
            obtain rfl := NO.out (by rw [h1, h2]; rfl)
            go_wp2_with fail
            (go_quiet ((go_at_call 21; exact Calls.quiet_of_same ((l00In_any _ _ _ _).mono fun _ _ h => ⟨h.1, h.2.symm⟩))))
            all_goals go_wp2
            all_goals go_ret
            all_goals exact ⟨rfl, bdQ9 HB.out _⟩
          | true =>
            have Y := Lib.hid (YES.out (by rw [h1, h2]; rfl))
            go_wp2_with fail
            (go_quiet ((go_at_call 21; exact Calls.quiet_of_same ((l00In_any _ _ _ _).mono fun _ _ h => ⟨h.1, h.2.symm⟩))))
            clear u1 u2 h1 h2 x20 xw nw n0 n1
            go_wp2
            go_loopw [6] (fun i wr2 => ∃ m : Nat, m ≤ k ∧ i = .int .i64 (m : Int) ∧ (∀ q, q < m → bAt ps q ≠ (x1, x2)) ∧ Below w.heap.size w wr2) (fun i _ => k - (intOf i).toNat)
            case atStart => exact ⟨0, Nat.zero_le _, rfl, fun j h => by omega, bdQ9 HB.out _⟩
            case round =>
              obtain ⟨m, hm, rfl, hq, hb⟩ := hrel
              have HQ := Lib.hid hq
              have HB2 := Lib.hid hb
              clear hq
              by_cases hlm : m < k
              · have hm0 : 0 ≤ (m : Int) := by omega
                have hm1 : (m : Int) < (k : Int) := by omega
                have hm2 : (m : Int) < (ps.length : Int) := by omega
                obtain ⟨b', off', e1, hbs', d1, d2⟩ := HCL.out m (by omega)
                obtain ⟨rfl, rfl⟩ : b' = b ∧ off' = off := by simp at e1; exact ⟨e1.1.symm, e1.2.symm⟩
                rw [bAt_of (show m < ps.length by omega)] at d1 d2
                have u1 := (hb.cell (p := ⟨b', off' + k * 2, none⟩) hbs').trans C1.out
                have u2 := (hb.cell (p := ⟨b', off' + k * 2 + 1, none⟩) hbs').trans C2.out
                have v1 := (hb.cell (p := ⟨b', off' + m * 2, none⟩) hbs').trans d1
                have v2 := (hb.cell (p := ⟨b', off' + m * 2 + 1, none⟩) hbs').trans d2
                clear d1 d2 hb e1
                obtain ⟨⟨y1, y2⟩, hy⟩ : ∃ y, Hid (bAt ps m = y) := ⟨_, Lib.hid rfl⟩
                rw [hy.out] at v1 v2
                simp only at v1 v2
                by_cases he : (y1, y2) = (x1, x2)
                · obtain ⟨rfl, rfl⟩ : y1 = x1 ∧ y2 = x2 := by simpa using he
                  obtain rfl := TW.out m hlm hy.out
                  go_wp2
                  go_quiet (fail)
                  all_goals go_wp2
                  all_goals go_ret
                  all_goals exact ⟨rfl, bdQ9 HB2.out _⟩
                · have NX := Lib.hid (show ∀ q, q < m + 1 → bAt ps q ≠ (x1, x2) from fun q hq => by
                    by_cases e : q = m
                    · subst e; rw [hy.out]; exact he
                    · exact HQ.out q (by omega))
                  by_cases e1 : y1 = x1
                  · have e2 : ¬ y2 = x2 := fun h => he (by rw [e1, h])
                    subst e1
                    clear he
                    go_wp2
                    go_quiet (fail)
                    go_wp2
                    go_roundw
                    case rel => exact ⟨m + 1, by omega, by go_num, NX.out, bdQ9 HB2.out _⟩
                    case measure => simp [intOf]; omega
                  · clear he
                    go_wp2
                    go_quiet (fail)
                    go_wp2
                    go_roundw
                    case rel => exact ⟨m + 1, by omega, by go_num, NX.out, bdQ9 HB2.out _⟩
                    case measure => simp [intOf]; omega
              · obtain rfl : m = k := by omega
                have Z := Lib.hid (Y.out HQ.out)
                clear hb
                go_wp2
                go_roundw
                case rel => exact ⟨m + 1, by omega, by go_num, Z.out, HB2.out⟩
                case measure => simp [intOf]; omega
      · obtain rfl : k = ps.length := by omega
        have RT := Lib.hid (show R = decide (ps.length ≤ 30) by rw [← hR.out]; exact validC_all HN.out HA.out)
        clear hb
        go_wp2
        go_ret
        exact ⟨retB9 (by rw [RT.out, Bool.eq_iff_iff, decide_eq_true_eq, decide_eq_true_eq]; omega), HB.out⟩
end Go.Proofs.YtemhmejjmhbfdabDoor.sines
