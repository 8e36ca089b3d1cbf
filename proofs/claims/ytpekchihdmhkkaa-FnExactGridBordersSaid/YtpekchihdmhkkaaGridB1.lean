/- The model's neighbours: whether two lands meet. -/
import Derived.Test.YtpekchihdmhkkaaGridS4
import Derived.Test.YtpekchihdmhkkaaGridB
import Derived.Deep.Cut
import Derived.Deep.CutRange
namespace Go.Proofs.Ytpekchihdmhkkaa.stab
open Go.ChangeShapes Go.WideShapes Go.ChangeAt Go.RowKit Go.Proofs.Ytpekchihdmhkkaa.split Go.Proofs.Ytpekchihdmhkkaa.sines Go.Proofs.Ytpekchihdmhkkaa.names
set_option linter.unusedSimpArgs false
set_option linter.unusedVariables false

theorem byte_eq (x y : UInt8) : ((x.toNat : Int) == (y.toNat : Int)) = (x == y) := by
  by_cases h : x = y
  · subst h; simp
  · have h2 : ¬ (x.toNat : Int) = (y.toNat : Int) := fun e => h (UInt8.toNat_inj.1 (by omega))
    rw [beq_eq_false_iff_ne.2 h2, beq_eq_false_iff_ne.2 h]
theorem pairB_int (c d a b : UInt8) : pairB c d a b = ((((c.toNat : Int) == (a.toNat : Int)) && ((d.toNat : Int) == (b.toNat : Int))) || (((c.toNat : Int) == (b.toNat : Int)) && ((d.toNat : Int) == (a.toNat : Int)))) := by
  simp only [byte_eq, pairB]
set_option maxRecDepth 100000 in
set_option maxHeartbeats 8000000 in
theorem l12Meet_any (v : Value) (ps : List ByteArray) (n : Nat) (a b : UInt8) (w : World) (B : Nat) (hv : SAt w B v ps) (hG : Grid ps n) :
    Calls Try.prog 51 #[v, .int .u8 (a.toNat : Int), .int .u8 (b.toNat : Int)] w fun e w' => e = .returned (.bool (meetG ps n a b)) ∧ ∃ q, w' = w.drewN q := by
  have HV := Lib.hid hv
  obtain ⟨ar, c, rfl, _, hcl⟩ := hv
  have hpN : 0 < ps.length := hG.m1
  obtain ⟨b0, off0, rfl, _, z0⟩ := hcl 0 hpN
  have HCL := Lib.hid (show ∀ k, k < ps.length → w.cell? ⟨b0, off0 + k, none⟩ = some (.string (sAt ps k)) from fun k hk => by
    obtain ⟨bb, off, e1, _, c1⟩ := hcl k hk
    obtain ⟨rfl, rfl⟩ : b0 = bb ∧ off0 = off := by simpa using e1
    exact c1)
  have HZ := Lib.hid hG.size
  have EA := Lib.hid (fun i k (hi : i < ps.length) (hk : k < n) W (h : SAt W B (.slice (some ⟨b0, off0, none⟩) ps.length c) ps) => l12East_any (some ⟨b0, off0, none⟩) c ps n i k W B h hG hi hk)
  have HVq := Lib.hid (fun q => sat_keep HV.out (show Below B w (w.drewN q) from ⟨rfl, rfl, rfl, Nat.le_refl _, fun _ _ => rfl⟩))
  have YES := Lib.hid (fun i k (hi : i < ps.length) (hk : k < n) (h : cellM ps n a b i k = true) => meet_of_cell hi hk h)
  have SR := Lib.hid (rowM_succ ps n a b)
  have SG := Lib.hid (gridM_succ ps n a b)
  have EQG := Lib.hid (show meetG ps n a b = gridM ps n a b ps.length from rfl)
  obtain ⟨R, hR⟩ : ∃ R, Hid (meetG ps n a b = R) := ⟨_, Lib.hid rfl⟩
  rw [hR.out] at YES EQG ⊢
  have hn1 := hG.n1
  have hn2 := hG.n2
  have hm2 := hG.m2
  have hml : (ps.length : Int) ≤ 16 := by omega
  have hni1 : (1 : Int) ≤ (n : Int) := by omega
  have hni2 : (n : Int) ≤ 32 := by omega
  clear hcl hG z0
  go_enter Try.func51, Try.ntmps51
  go_wp2
  go_loopw [7] (fun i wr => ∃ r q : Nat, r ≤ ps.length ∧ i = .int .i64 (r : Int) ∧ Hid (gridM ps n a b r = false) ∧ wr = w.drewN q) (fun i _ => ps.length - (intOf i).toNat)
  case atStart => exact ⟨0, 0, Nat.zero_le _, rfl, Lib.hid rfl, rfl⟩
  case round =>
    obtain ⟨i, q, hir, rfl, hgr, rfl⟩ := hrel
    by_cases hlt : i < ps.length
    · have hi0 : 0 ≤ (i : Int) := by omega
      have hi1 : (i : Int) < (ps.length : Int) := by omega
      go_wp2
      go_loopg [8] n (fun gf j wr => ∃ k q : Nat, k + gf = n ∧ j = .int .i64 (k : Int) ∧ Hid (rowM ps n a b i k = false) ∧ wr = w.drewN q)
      case atStart => exact ⟨0, _, by omega, rfl, Lib.hid rfl, rfl⟩
      case round =>
        obtain ⟨k, q2, hkg, rfl, hrr, rfl⟩ := hrel
        have hsz := HZ.out i hlt
        obtain ⟨s, hs⟩ : ∃ s, Hid (sAt ps i = s) := ⟨_, Lib.hid rfl⟩
        have C1 := Lib.hid (show ∀ q, (w.drewN q).cell? ⟨b0, off0 + i, none⟩ = some (.string s) from fun q => by rw [← hs.out]; exact HCL.out i hlt)
        rw [hs.out] at hsz
        have HSS := Lib.hid hsz
        have hssi : (s.size : Int) = (n : Int) := by omega
        have hlim : s.size ≤ 32 := by omega
        have u1 := C1.out q2
        have u0 : w.cell? ⟨b0, off0 + i, none⟩ = some (.string s) := C1.out q2
        by_cases hk : k < n
        · obtain ⟨g', rfl⟩ : ∃ g', gk = g' + 1 := ⟨gk - 1, by omega⟩
          have hk0 : 0 ≤ (k : Int) := by omega
          have hk1 : (k : Int) < (n : Int) := by omega
          have hks : k < s.size := by omega
          have SRI := Lib.hid (show rowM ps n a b i (k + 1) = cellM ps n a b i k by rw [SR.out, hrr.out, Bool.false_or])
          have YC := Lib.hid (YES.out i k hlt hk)
          have CM := Lib.hid (show cellM ps n a b i k = (pairB s[k] (bAt (sAt ps i) ((k + 1) % n)) a b || (decide (i + 1 < ps.length) && pairB s[k] (bAt (sAt ps (i + 1)) k) a b)) from by
            rw [← bAt_eq hks, ← hs.out]; rfl)
          have EAI := Lib.hid (fun q => EA.out i k hlt hk (w.drewN q) (HVq.out q))
          obtain ⟨E, hE⟩ : ∃ x, Hid (bAt (sAt ps i) ((k + 1) % n) = x) := ⟨_, Lib.hid rfl⟩
          rw [hE.out] at EAI CM
          have SO := Lib.hid (show ∃ F : UInt8, bAt (sAt ps (i + 1)) k = F ∧ (i + 1 < ps.length → ∃ t : ByteArray, ∃ h : k < t.size, t.size = n ∧ (∀ q, (w.drewN q).cell? ⟨b0, off0 + (i + 1), none⟩ = some (.string t)) ∧ t[k] = F) from ⟨_, rfl, fun h => by
            have hz1 := HZ.out (i + 1) h
            have hk1 : k < (sAt ps (i + 1)).size := by omega
            exact ⟨sAt ps (i + 1), hk1, hz1, fun q => HCL.out (i + 1) h, (bAt_eq hk1).symm⟩⟩)
          obtain ⟨F, hF, hSo⟩ := SO.out
          rw [hF] at CM
          have HSO := Lib.hid hSo
          clear hSo hF SO
          have PB1 := Lib.hid (pairB_int s[k] E a b)
          have PB2 := Lib.hid (pairB_int s[k] F a b)
          obtain ⟨P1, hP1⟩ : ∃ x, Hid (pairB s[k] E a b = x) := ⟨_, Lib.hid rfl⟩
          obtain ⟨P2, hP2⟩ : ∃ x, Hid (pairB s[k] F a b = x) := ⟨_, Lib.hid rfl⟩
          rw [hP1.out] at PB1 CM
          rw [hP2.out] at PB2 CM
          have EQ := Lib.hid (EAI.out q2)
          clear hsz
          go_upto_region 9 with (go_at_call 80; refine EQ.out.mono ?_; rintro e w1 ⟨rfl, q3, rfl⟩)
          go_cut [53] from 17 to 83 (fun x wx => x = .bool P1 ∧ ∃ q, wx = w.drewN q)
          case first =>
            obtain ⟨e1, h1⟩ : ∃ e, ((s[k].toNat : Int) == (a.toNat : Int)) = e := ⟨_, rfl⟩
            obtain ⟨e2, h2⟩ : ∃ e, ((E.toNat : Int) == (b.toNat : Int)) = e := ⟨_, rfl⟩
            obtain ⟨e3, h3⟩ : ∃ e, ((s[k].toNat : Int) == (b.toNat : Int)) = e := ⟨_, rfl⟩
            obtain ⟨e4, h4⟩ : ∃ e, ((E.toNat : Int) == (a.toNat : Int)) = e := ⟨_, rfl⟩
            have PC := Lib.hid (show P1 = ((e1 && e2) || (e3 && e4)) by rw [PB1.out, h1, h2, h3, h4])
            cases e1 <;> cases e2 <;> cases e3 <;> cases e4
            all_goals go_wp2
            all_goals go_meet
            all_goals exact ⟨by rw [PC.out]; rfl, _, rfl⟩
          case rest =>
            obtain ⟨e5, q4, e6⟩ := hcut
            subst e5
            subst e6
            cases P1 with
            | true =>
              have E9 := Lib.hid (YC.out (by rw [CM.out]; rfl))
              obtain rfl := E9.out
              go_wp2
              go_ret
              exact ⟨rfl, _, rfl⟩
            | false =>
              have kwi : IntKind.i64.wrap ((i : Int) + 1) = (i : Int) + 1 := IntWalk.i64_in _ (by omega)
              by_cases hs1 : i + 1 < ps.length
              · obtain ⟨t, htk, hts, htc, hF⟩ := HSO.out hs1
                subst hF
                have u3 := htc q4
                have hii : (i : Int) + 1 < (ps.length : Int) := by omega
                have hii0 : 0 ≤ (i : Int) + 1 := by omega
                have htki : (k : Int) < (t.size : Int) := by omega
                have htl : t.size ≤ 32 := by omega
                have HTS := Lib.hid hts
                have HII := Lib.hid hs1
                clear hts htc hs1
                go_upto_region 13 with fail
                go_cut [83] from 17 to 83 (fun x wx => x = .bool P2 ∧ ∃ q, wx = w.drewN q)
                case first =>
                  obtain ⟨e1, h1⟩ : ∃ e, ((s[k].toNat : Int) == (a.toNat : Int)) = e := ⟨_, rfl⟩
                  obtain ⟨e2, h2⟩ : ∃ e, ((t[k].toNat : Int) == (b.toNat : Int)) = e := ⟨_, rfl⟩
                  obtain ⟨e3, h3⟩ : ∃ e, ((s[k].toNat : Int) == (b.toNat : Int)) = e := ⟨_, rfl⟩
                  obtain ⟨e4, h4⟩ : ∃ e, ((t[k].toNat : Int) == (a.toNat : Int)) = e := ⟨_, rfl⟩
                  have PC := Lib.hid (show P2 = ((e1 && e2) || (e3 && e4)) by rw [PB2.out, h1, h2, h3, h4])
                  cases e1 <;> cases e2 <;> cases e3 <;> cases e4
                  all_goals go_wp2
                  all_goals go_meet
                  all_goals exact ⟨by rw [PC.out]; rfl, _, rfl⟩
                case rest =>
                  obtain ⟨e7, q5, e8⟩ := hcut
                  subst e7
                  subst e8
                  cases P2 with
                  | true =>
                    have E9 := Lib.hid (YC.out (by rw [CM.out, decide_eq_true HII.out]; rfl))
                    obtain rfl := E9.out
                    go_wp2
                    go_ret
                    exact ⟨rfl, _, rfl⟩
                  | false =>
                    have E9 := Lib.hid (show rowM ps n a b i (k + 1) = false by rw [SRI.out, CM.out, Bool.and_false]; rfl)
                    go_wp2
                    go_roundg g'
                    case measure => omega
                    case rel => exact ⟨k + 1, _, by omega, by go_num, E9, rfl⟩
              · have hii : ¬ (i : Int) + 1 < (ps.length : Int) := by omega
                have E9 := Lib.hid (show rowM ps n a b i (k + 1) = false by rw [SRI.out, CM.out, decide_eq_false hs1]; rfl)
                clear hs1
                go_wp2
                go_roundg g'
                case measure => omega
                case rel => exact ⟨k + 1, _, by omega, by go_num, E9, rfl⟩
        · obtain rfl : k = n := by omega
          have SGI := Lib.hid (show gridM ps k a b (i + 1) = false by rw [SG.out, hgr.out, hrr.out]; rfl)
          go_wp2
          go_roundw
          case rel => exact ⟨i + 1, _, by omega, by go_num, SGI, rfl⟩
          case measure => simp [intOf]; omega
    · obtain rfl : i = ps.length := by omega
      have E9 := Lib.hid (show R = false by rw [EQG.out, hgr.out])
      obtain rfl := E9.out
      go_wp2
      go_ret
      exact ⟨rfl, q, rfl⟩
end Go.Proofs.Ytpekchihdmhkkaa.stab
