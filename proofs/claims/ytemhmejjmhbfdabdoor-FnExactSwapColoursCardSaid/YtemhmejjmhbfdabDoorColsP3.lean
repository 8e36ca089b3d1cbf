/- The program's first clash: contracts. -/
import Derived.Test.YtemhmejjmhbfdabDoorColsP2
import Derived.BigQuiet
namespace Go.Proofs.YtemhmejjmhbfdabDoor.sines
open Go.ChangeShapes Go.WideShapes Go.ChangeAt Go.RowKit Go.Proofs.YtemhmejjmhbfdabDoor.spots Go.Proofs.YtemhmejjmhbfdabDoor.irows Go.Proofs.YtemhmejjmhbfdabDoor.pairsBorder
set_option linter.unusedSimpArgs false
set_option linter.unusedVariables false

set_option maxRecDepth 100000 in
set_option maxHeartbeats 2000000 in
theorem clash1_any (x1 x2 : Int) (g : Nat) (u : Value) (cs : List Int) (w : World) (hg : w.cell? ⟨g, 0, none⟩ = some u) (hgl : g < w.heap.size) (hu : IAt w w.heap.size u cs) (hc : cs.length ≤ 1048576) (a0 : 0 ≤ x1) (a1 : x1 < (cs.length : Int)) (b0 : 0 ≤ x2) (b1 : x2 < (cs.length : Int)) :
    Calls Tryd.prog 54 #[.agg #[.int .i64 x1, .int .i64 x2], .pointer (some ⟨g, 0, none⟩)] w fun e w' => e = .returned (.bool (decide (cAt cs x1 = cAt cs x2))) ∧ Below w.heap.size w w' := by
  obtain ⟨ar, c, rfl, hcl⟩ := hu
  obtain ⟨k1, rfl⟩ : ∃ k : Nat, x1 = (k : Int) := ⟨x1.toNat, by omega⟩
  obtain ⟨k2, rfl⟩ : ∃ k : Nat, x2 = (k : Int) := ⟨x2.toNat, by omega⟩
  obtain ⟨b, off, rfl, hb, d1⟩ := hcl k1 (by omega)
  obtain ⟨b', off', e1, hb', d2⟩ := hcl k2 (by omega)
  obtain ⟨rfl, rfl⟩ : b' = b ∧ off' = off := by simp at e1; exact ⟨e1.1.symm, e1.2.symm⟩
  rw [cAt_nat, cAt_nat]
  have hc2 : (cs.length : Int) ≤ 1048576 := by omega
  have BB := Lib.hid ((Below.refl w.heap.size w).alloc (Nat.le_refl _) (.cells #[.int .i64 (k1 : Int), .int .i64 (k2 : Int)] 43))
  have v1 := (BB.out.cell (p := ⟨b', off' + k1, none⟩) hb).trans d1
  have v2 := (BB.out.cell (p := ⟨b', off' + k2, none⟩) hb).trans d2
  have v3 := (BB.out.cell (p := ⟨g, 0, none⟩) hgl).trans hg
  clear hcl d1 d2 hg e1
  generalize zAt cs k1 = y1 at v1 ⊢
  generalize zAt cs k2 = y2 at v2 ⊢
  generalize cs.length = N at *
  go_enter Tryd.func54, Tryd.ntmps54
  go_wp2
  go_quiet (fail)
  go_wp2
  go_ret
  exact ⟨rfl, bdQ9 BB.out _⟩
set_option maxRecDepth 100000 in
set_option maxHeartbeats 2000000 in
theorem indexClash_any (v u : Value) (g : Nat) (ps : List (Int × Int)) (cs : List Int) (w : World) (hv : PAt w w.heap.size v ps) (hg : w.cell? ⟨g, 0, none⟩ = some u) (hgl : g < w.heap.size) (hu : IAt w w.heap.size u cs) (hl : ps.length ≤ 1048576) (hc : cs.length ≤ 1048576)
    (hp : ∀ i, i < ps.length → 0 ≤ (bAt ps i).1 ∧ (bAt ps i).1 < (cs.length : Int) ∧ 0 ≤ (bAt ps i).2 ∧ (bAt ps i).2 < (cs.length : Int)) :
    Calls Tryd.prog 53 #[v, .func (.func 54) #[] #[.pointer (some ⟨g, 0, none⟩)]] w fun e w' => e = .returned (.int .i64 (clashV ps cs)) ∧ Below w.heap.size w w' := by
  obtain ⟨a, c, rfl, hcl⟩ := hv
  have HC := Lib.hid hcl
  have HP := Lib.hid hp
  have CL := Lib.hid (fun x1 x2 W (hb : Below w.heap.size w W) (h : 0 ≤ x1 ∧ x1 < (cs.length : Int) ∧ 0 ≤ x2 ∧ x2 < (cs.length : Int)) => clash1_any x1 x2 g u cs W ((hb.cell (p := ⟨g, 0, none⟩) hgl).trans hg) (Nat.lt_of_lt_of_le hgl hb.size) (iat_up (iat_keep hu hb) hb.size) hc h.1 h.2.1 h.2.2.1 h.2.2.2)
  clear hcl hg hgl hu hp
  obtain ⟨R, hR⟩ : ∃ R, Hid (clashV ps cs = R) := ⟨_, Lib.hid rfl⟩
  rw [hR.out]
  have hl2 : (ps.length : Int) ≤ 1048576 := by omega
  go_enter Tryd.func53, Tryd.ntmps53
  go_wp2
  go_loopw [8] (fun i wr => ∃ k : Nat, k ≤ ps.length ∧ i = .int .i64 (k : Int) ∧ (∀ j, j < k → cAt cs (bAt ps j).1 ≠ cAt cs (bAt ps j).2) ∧ Below w.heap.size w wr) (fun i _ => ps.length - (intOf i).toNat)
  case atStart => exact ⟨0, Nat.zero_le _, rfl, fun j h => by omega, Below.refl _ _⟩
  case round =>
    obtain ⟨k, hk, rfl, ha, hb⟩ := hrel
    have HA := Lib.hid ha
    have HB := Lib.hid hb
    have hsz := hb.size
    clear ha
    by_cases hlt : k < ps.length
    · obtain ⟨b, off, rfl, hbs, c1, c2⟩ := HC.out k hlt
      rw [bAt_of hlt] at c1 c2
      have u1 := (hb.cell (p := ⟨b, off + k * 2, none⟩) hbs).trans c1
      have u2 := (hb.cell (p := ⟨b, off + k * 2 + 1, none⟩) hbs).trans c2
      have hk0 : 0 ≤ (k : Int) := by omega
      have hk1 : (k : Int) < (ps.length : Int) := by omega
      have CK := Lib.hid (fun W hb => CL.out (bAt ps k).1 (bAt ps k).2 W hb (HP.out k hlt))
      by_cases he : cAt cs (bAt ps k).1 = cAt cs (bAt ps k).2
      · obtain rfl : R = (k : Int) := by rw [← hR.out]; exact clashV_yes hlt HA.out he
        have E := Lib.hid (decide_eq_true he)
        clear he c1 c2 hb
        generalize bAt ps k = p at u1 u2 CK E
        obtain ⟨x1, x2⟩ := p
        go_wp2_with fail
        refine (CK.out _ HB.out).mono ?_
        rw [E.out]
        rintro e w1 ⟨rfl, hb1⟩
        have HB1 := Lib.hid (HB.out.trans (hb1.mono hsz))
        clear hb1
        go_wp2
        go_ret
        exact ⟨rfl, HB1.out⟩
      · have Y := Lib.hid (show ∀ j, j < k + 1 → cAt cs (bAt ps j).1 ≠ cAt cs (bAt ps j).2 from fun j hj => by
          by_cases e : j = k
          · subst e; exact he
          · exact HA.out j (by omega))
        have E := Lib.hid (decide_eq_false he)
        clear he c1 c2 hb
        generalize bAt ps k = p at u1 u2 CK E
        obtain ⟨x1, x2⟩ := p
        go_wp2_with fail
        refine (CK.out _ HB.out).mono ?_
        rw [E.out]
        rintro e w1 ⟨rfl, hb1⟩
        have HB1 := Lib.hid (HB.out.trans (hb1.mono hsz))
        clear hb1
        go_wp2
        go_roundw
        case rel => exact ⟨k + 1, by omega, by go_num, Y.out, HB1.out⟩
        case measure => simp [intOf]; omega
    · obtain rfl : k = ps.length := by omega
      obtain rfl : R = -1 := by rw [← hR.out]; exact clashV_no HA.out
      clear hb
      go_wp2
      go_ret
      exact ⟨rfl, HB.out⟩
set_option maxRecDepth 100000 in
set_option maxHeartbeats 1000000 in
theorem firstClash_any (v u : Value) (ps : List (Int × Int)) (cs : List Int) (w : World) (hv : PAt w w.heap.size v ps) (hu : IAt w w.heap.size u cs) (hl : ps.length ≤ 1048576) (hc : cs.length ≤ 1048576)
    (hp : ∀ i, i < ps.length → 0 ≤ (bAt ps i).1 ∧ (bAt ps i).1 < (cs.length : Int) ∧ 0 ≤ (bAt ps i).2 ∧ (bAt ps i).2 < (cs.length : Int)) :
    Calls Tryd.prog 40 #[v, u] w fun e w' => e = .returned (.int .i64 (clashV ps cs)) ∧ Below w.heap.size w w' := by
  have BB := Lib.hid ((Below.refl w.heap.size w).alloc (Nat.le_refl _) (.cells #[u] 24))
  have HI := Lib.hid (indexClash_any v u w.heap.size ps cs (w.alloc (.cells #[u] 24)) (pat_up (pat_keep hv BB.out) BB.out.size) (by simp) (by simp) (iat_up (iat_keep hu BB.out) BB.out.size) hl hc hp)
  obtain ⟨a, c, rfl, _⟩ := hv
  obtain ⟨a2, c2, rfl, _⟩ := hu
  clear hp
  go_enter Tryd.func40, Tryd.ntmps40
  go_wp2_with fail
  refine HI.out.mono ?_
  rintro e w1 ⟨rfl, hb⟩
  have HB := Lib.hid (BB.out.trans (hb.mono BB.out.size))
  clear hb
  go_wp2
  go_ret
  exact ⟨rfl, HB.out⟩
end Go.Proofs.YtemhmejjmhbfdabDoor.sines
