/- The model's grids: which are valid, counts, codes: contracts. -/
import Derived.Test.YtpekchihdmhkkaaGridM
import Derived.Test.YtpekchihdmhkkaaNames
import Derived.Test.YtpekchihdmhkkaaSines
namespace Go.Proofs.Ytpekchihdmhkkaa.stab
open Go.ChangeShapes Go.WideShapes Go.ChangeAt Go.RowKit Go.Proofs.Ytpekchihdmhkkaa.split Go.Proofs.Ytpekchihdmhkkaa.sines Go.Proofs.Ytpekchihdmhkkaa.names
set_option linter.unusedSimpArgs false
set_option linter.unusedVariables false

theorem smB_small (b : UInt8) : smB (b.toNat : Int) = smallB b := by
  unfold smB smallB
  rw [Bool.eq_iff_iff]; simp; omega
theorem drewTwo (w : World) (a b : Nat) : (w.drewN a).drewN b = w.drewN (a + b) := by rw [World.drewN_drewN]
theorem retB {a b : Bool} (h : a = b) : Ending.returned (.bool a) = .returned (.bool b) := by rw [h]
theorem cellB_no {b : UInt8} (h1 : b.toNat ≠ 46) (h2 : smB (b.toNat : Int) = false) : cellB b = false := by
  rw [smB_small] at h2
  unfold cellB
  rw [h2, Bool.or_false]
  simp only [beq_eq_false_iff_ne]
  exact fun e => h1 (by rw [e]; rfl)
theorem cellB_sea {b : UInt8} (h1 : b.toNat = 46) : cellB b = true := by
  unfold cellB
  have : b = 46 := UInt8.toNat_inj.1 h1
  simp [this]
theorem cellB_small {b : UInt8} (h2 : smB (b.toNat : Int) = true) : cellB b = true := by
  rw [smB_small] at h2
  unfold cellB
  rw [h2, Bool.or_true]
theorem okG_len {ps : List ByteArray} (h : inB (ps.length : Int) 1 16 = false) : okG ps = false := by
  unfold okG
  have : decide (1 ≤ ps.length ∧ ps.length ≤ 16) = false := by simp [inB] at h; simp; omega
  rw [this, Bool.false_and]
theorem okG_size {ps : List ByteArray} {i : Nat} (hi : i < ps.length) (h : (sAt ps i).size ≠ (sAt ps 0).size) : okG ps = false := by
  cases h0 : okG ps with
  | false => rfl
  | true => exact absurd ((grid_of h0).size i hi) h
theorem okG_wide {ps : List ByteArray} {i : Nat} (hi : i < ps.length) (h : inB ((sAt ps i).size : Int) 1 32 = false) : okG ps = false := by
  cases h0 : okG ps with
  | false => rfl
  | true =>
    have g := grid_of h0
    have := g.size i hi
    have := g.n1
    have := g.n2
    simp [inB] at h
    omega
theorem okG_cell {ps : List ByteArray} {i k : Nat} (hi : i < ps.length) (hk : k < (sAt ps i).size) (h : cellB (bAt (sAt ps i) k) = false) : okG ps = false := by
  cases h0 : okG ps with
  | false => rfl
  | true =>
    have g := grid_of h0
    have hs := g.size i hi
    have := g.cell i hi k (by rw [← hs]; exact hk)
    rw [h] at this
    cases this
theorem okG_yes {ps : List ByteArray} (h : inB (ps.length : Int) 1 16 = true) (h2 : ∀ i, i < ps.length → (sAt ps i).size = (sAt ps 0).size ∧ inB ((sAt ps i).size : Int) 1 32 = true ∧ ∀ k, k < (sAt ps i).size → cellB (bAt (sAt ps i) k) = true) : okG ps = true := by
  have hb := inB_of h
  have h0 := h2 0 (by omega)
  have hb0 := inB_of h0.2.1
  refine okG_of (n := (sAt ps 0).size) ⟨by omega, by omega, by omega, by omega, fun i hi => (h2 i hi).1, fun i hi k hk => (h2 i hi).2.2 k (by rw [(h2 i hi).1]; exact hk)⟩
set_option maxRecDepth 100000 in
set_option maxHeartbeats 2000000 in
theorem l12Ok_any (v : Value) (ps : List ByteArray) (w : World) (B : Nat) (hv : SAt w B v ps) (hl : ps.length ≤ 1048576) (hr : ∀ i, i < ps.length → (sAt ps i).size ≤ 1048576) :
    Calls Try.prog 38 #[v] w fun e w' => e = .returned (.bool (okG ps)) ∧ ∃ q, w' = w.drewN q := by
  obtain ⟨ar, c, rfl, _, hcl⟩ := hv
  have HCL := Lib.hid hcl
  have HRS := Lib.hid hr
  clear hcl hr
  have hl2 : (ps.length : Int) ≤ 1048576 := by omega
  obtain ⟨R, hR⟩ : ∃ R, Hid (okG ps = R) := ⟨_, Lib.hid rfl⟩
  rw [hR.out]
  cases hn : inB (ps.length : Int) 1 16 with
  | false =>
    obtain rfl : false = R := by rw [← hR.out]; exact (okG_len hn).symm
    go_enter Try.func38, Try.ntmps38
    go_wp2_with fail
    refine (l00In_any _ _ _ _).mono ?_
    rw [hn]
    rintro e w' ⟨rfl, rfl⟩
    go_wp2
    go_ret
    exact ⟨rfl, 0, rfl⟩
  | true =>
    have hb := inB_of hn
    obtain ⟨b0, off0, rfl, _, z0⟩ := HCL.out 0 (by omega)
    rw [Nat.add_zero] at z0
    have Z0 := Lib.hid z0
    clear z0
    have HN := Lib.hid hn
    go_enter Try.func38, Try.ntmps38
    go_wp2_with fail
    refine (l00In_any _ _ _ _).mono ?_
    rw [hn]
    rintro e w' ⟨rfl, rfl⟩
    clear hn
    go_wp2
    go_loopw [3] (fun i wr => ∃ k q : Nat, k ≤ ps.length ∧ i = .int .i64 (k : Int) ∧ (∀ j, j < k → (sAt ps j).size = (sAt ps 0).size ∧ inB ((sAt ps j).size : Int) 1 32 = true ∧ ∀ k, k < (sAt ps j).size → cellB (bAt (sAt ps j) k) = true) ∧ wr = w.drewN q) (fun i _ => ps.length - (intOf i).toNat)
    case atStart => exact ⟨0, 0, Nat.zero_le _, rfl, fun j h => by omega, rfl⟩
    case round =>
      obtain ⟨k, q, hk, rfl, ha, rfl⟩ := hrel
      have HA := Lib.hid ha
      clear ha
      by_cases hlt : k < ps.length
      · obtain ⟨b, off, e1, _, c1⟩ := HCL.out k hlt
        obtain ⟨rfl, rfl⟩ : b0 = b ∧ off0 = off := by simpa using e1
        clear e1
        have z0 := Z0.out
        have hk0 : 0 ≤ (k : Int) := by omega
        have hk1 : (k : Int) < (ps.length : Int) := by omega
        have hp0 : (0 : Int) < (ps.length : Int) := by omega
        have hpN : 0 < ps.length := by omega
        have HZ := HRS.out k hlt
        have HZ0 := HRS.out 0 (by omega)
        have NS := Lib.hid (show (sAt ps k).size ≠ (sAt ps 0).size → R = false from fun h => by rw [← hR.out]; exact okG_size hlt h)
        have NW := Lib.hid (show inB ((sAt ps k).size : Int) 1 32 = false → R = false from fun h => by rw [← hR.out]; exact okG_wide hlt h)
        have NC := Lib.hid (show ∀ m, m < (sAt ps k).size → cellB (bAt (sAt ps k) m) = false → R = false from fun m hm h => by rw [← hR.out]; exact okG_cell hlt hm h)
        have YES := Lib.hid (show (sAt ps k).size = (sAt ps 0).size → inB ((sAt ps k).size : Int) 1 32 = true → (∀ m, m < (sAt ps k).size → cellB (bAt (sAt ps k) m) = true) → ∀ j, j < k + 1 → (sAt ps j).size = (sAt ps 0).size ∧ inB ((sAt ps j).size : Int) 1 32 = true ∧ ∀ k, k < (sAt ps j).size → cellB (bAt (sAt ps j) k) = true from fun h1 h2 h3 j hj => by
          by_cases e : j = k
          · subst e; exact ⟨h1, h2, h3⟩
          · exact HA.out j (by omega))
        have SK : k = 0 → sAt ps k = sAt ps 0 := fun h => by rw [h]
        obtain ⟨s, hs⟩ : ∃ s, Hid (sAt ps k = s) := ⟨_, Lib.hid rfl⟩
        obtain ⟨t, ht⟩ : ∃ t, Hid (sAt ps 0 = t) := ⟨_, Lib.hid rfl⟩
        rw [hs.out] at c1 NS NW NC YES HZ
        rw [ht.out] at z0 NS YES HZ0
        clear SK
        by_cases hsz : s.size = t.size
        · have hsz2 : ((s.size : Int) != (t.size : Int)) = false := by simp [hsz]
          have HSZ := Lib.hid hsz
          cases hw : inB (s.size : Int) 1 32 with
          | false =>
            obtain rfl := NW.out hw
            clear hsz
            go_wp2_with fail
            go_quiet ((go_at_call 61; exact (l00In_any _ _ _ _).mono fun _ _ h => ⟨h.1, _, h.2.symm⟩))
            all_goals go_wp2
            all_goals go_ret
            all_goals exact ⟨rfl, _, drewTwo _ _ _⟩
          | true =>
            have Y := Lib.hid (YES.out hsz hw)
            have hw2 := inB_of hw
            clear hsz
            go_wp2_with fail
            go_quiet ((go_at_call 61; exact (l00In_any _ _ _ _).mono fun _ _ h => ⟨h.1, _, h.2.symm⟩))
            clear hw hsz2 z0
            go_wp2
            go_loopw [4] (fun i wr2 => ∃ m q : Nat, m ≤ s.size ∧ i = .int .i64 (m : Int) ∧ (∀ j, j < m → cellB (bAt s j) = true) ∧ wr2 = w.drewN q) (fun i _ => s.size - (intOf i).toNat)
            case atStart => exact ⟨0, _, Nat.zero_le _, rfl, fun j h => by omega, drewTwo _ _ _⟩
            case round =>
              obtain ⟨m, q2, hm, rfl, hq, rfl⟩ := hrel
              have HQ := Lib.hid hq
              clear hq
              by_cases hlm : m < s.size
              · have hm0 : 0 ≤ (m : Int) := by omega
                have hm1 : (m : Int) < (s.size : Int) := by omega
                have NC2 := Lib.hid (NC.out m hlm)
                have NX := Lib.hid (show cellB (bAt s m) = true → ∀ j, j < m + 1 → cellB (bAt s j) = true from fun h j hj => by
                  by_cases e : j = m
                  · subst e; exact h
                  · exact HQ.out j (by omega))
                rw [bAt_eq hlm] at NC2 NX
                by_cases h46 : (s[m].toNat : Int) = 46
                · have h46b : ((s[m].toNat : Int) != 46) = false := by simp [h46]
                  have N2 := Lib.hid (NX.out (cellB_sea (by omega)))
                  clear h46
                  go_wp2
                  go_roundw
                  case rel => exact ⟨m + 1, _, by omega, by go_num, N2.out, rfl⟩
                  case measure => simp [intOf]; omega
                · have h46b : ((s[m].toNat : Int) != 46) = true := by simpa using h46
                  cases hsm : smB (s[m].toNat : Int) with
                  | true =>
                    have N2 := Lib.hid (NX.out (cellB_small hsm))
                    go_wp2_with fail
                    refine (l01Small_any _ _).mono ?_
                    rw [hsm]
                    rintro e w' ⟨rfl, rfl⟩
                    go_wp2
                    go_roundw
                    case rel => exact ⟨m + 1, _, by omega, by go_num, N2.out, rfl⟩
                    case measure => simp [intOf]; omega
                  | false =>
                    obtain rfl := NC2.out (cellB_no (by omega) hsm)
                    go_wp2_with fail
                    refine (l01Small_any _ _).mono ?_
                    rw [hsm]
                    rintro e w' ⟨rfl, rfl⟩
                    go_wp2
                    go_ret
                    exact ⟨rfl, _, rfl⟩
              · obtain rfl : m = s.size := by omega
                have Y2 := Lib.hid (Y.out HQ.out)
                go_wp2
                go_roundw
                case rel => exact ⟨k + 1, _, by omega, by go_num, by have := Y2.out; rw [← ht.out] at this; exact this, rfl⟩
                case measure => simp [intOf]; omega
        · have hsz2 : ((s.size : Int) != (t.size : Int)) = true := by simp; omega
          obtain rfl := NS.out hsz
          clear hsz
          go_wp2
          go_quiet (fail)
          all_goals go_wp2
          all_goals go_ret
          all_goals exact ⟨rfl, _, drewTwo _ _ _⟩
      · obtain rfl : k = ps.length := by omega
        have RR := Lib.hid (show R = true by rw [← hR.out]; exact okG_yes HN.out HA.out)
        obtain rfl := RR.out
        go_wp2
        go_ret
        exact ⟨rfl, q, rfl⟩
theorem specValidGrid_any (v : Value) (ps : List ByteArray) (w : World) (hv : SAt w w.heap.size v ps) (hl : ps.length ≤ 1048576) (hr : ∀ i, i < ps.length → (sAt ps i).size ≤ 1048576) :
    Calls Try.prog 14 #[v] w fun e w' => e = .returned (.bool (okG ps)) ∧ Below w.heap.size w w' := by
  have OK := Lib.hid (l12Ok_any v ps w _ hv hl hr)
  obtain ⟨ar, c, rfl, _⟩ := hv
  clear hl hr
  generalize okG ps = R at OK ⊢
  go_enter Try.func14, Try.ntmps14
  go_wp2_with fail
  refine OK.out.mono ?_
  rintro e w' ⟨rfl, q, rfl⟩
  go_wp2
  go_ret
  exact ⟨rfl, below_drawn _ q⟩
set_option maxRecDepth 100000 in
set_option maxHeartbeats 2000000 in
theorem l12Count_any (v : Value) (ps : List ByteArray) (n : Nat) (b : UInt8) (w : World) (B : Nat) (hv : SAt w B v ps) (hG : Grid ps n) :
    Calls Try.prog 48 #[v, .int .u8 (b.toNat : Int)] w fun e w' => e = .returned (.int .i64 ((cellsG ps).count b : Int)) ∧ ∃ q, w' = w.drewN q := by
  obtain ⟨ar, c, rfl, _, hcl⟩ := hv
  have HCL := Lib.hid hcl
  have hl2 : (ps.length : Int) ≤ 16 := by have := hG.m2; omega
  have hn2 : (n : Int) ≤ 32 := by have := hG.n2; omega
  have HG := Lib.hid hG
  clear hcl hG
  rw [← cntG_all]
  have CG := Lib.hid (show ∀ i, i ≤ ps.length → cntG ps b i ≤ 32 * i from fun i => by
    induction i with
    | zero => intro _; exact Nat.le_refl _
    | succ i ih =>
      intro h
      have := ih (by omega)
      have h2 := cntB_le (sAt ps i) b (sAt ps i).size
      rw [HG.out.size i (by omega)] at h2
      have := HG.out.n2
      rw [cntG, HG.out.size i (by omega)]
      omega)
  go_enter Try.func48, Try.ntmps48
  go_wp2
  go_loopw [5, 6] (fun m i wr => ∃ k q : Nat, k ≤ ps.length ∧ i = .int .i64 (k : Int) ∧ m = .int .i64 (cntG ps b k : Int) ∧ wr = w.drewN q) (fun _ i _ => ps.length - (intOf i).toNat)
  case atStart => exact ⟨0, 0, Nat.zero_le _, rfl, rfl, rfl⟩
  case round =>
    obtain ⟨k, q, hk, rfl, rfl, rfl⟩ := hrel
    by_cases hlt : k < ps.length
    · obtain ⟨bb, off, rfl, _, c1⟩ := HCL.out k hlt
      have hk0 : 0 ≤ (k : Int) := by omega
      have hk1 : (k : Int) < (ps.length : Int) := by omega
      have hcg := CG.out k hk
      have hz := HG.out.size k hlt
      have EN := Lib.hid (show cntG ps b (k + 1) = cntG ps b k + cntB (sAt ps k) b n by rw [cntG, hz])
      have CB := Lib.hid (show ∀ m, m < n → cntB (sAt ps k) b (m + 1) = cntB (sAt ps k) b m + (if bAt (sAt ps k) m = b then 1 else 0) from fun m hm => cntB_succ (by rw [hz]; exact hm))
      have CL := Lib.hid (fun m => cntB_le (sAt ps k) b m)
      have CZ := Lib.hid (cntB_zero (sAt ps k) b)
      generalize sAt ps k = s at c1 hz EN CB CL CZ
      obtain ⟨G, hGe⟩ : ∃ G, Hid (cntG ps b k = G) := ⟨_, Lib.hid rfl⟩
      rw [hGe.out] at hcg EN ⊢
      have hgk : (G : Int) ≤ 512 := by omega
      have HZ := Lib.hid hz
      have hzz : (s.size : Int) = (n : Int) := by omega
      clear hz hcg
      go_wp2
      go_loopw [5, 7] (fun m i wr2 => ∃ j q : Nat, j ≤ n ∧ i = .int .i64 (j : Int) ∧ m = .int .i64 ((G : Int) + (cntB s b j : Int)) ∧ wr2 = w.drewN q) (fun _ i _ => n - (intOf i).toNat)
      case atStart => exact ⟨0, _, Nat.zero_le _, rfl, by rw [CZ.out]; simp, rfl⟩
      case round =>
        obtain ⟨j, q2, hj, rfl, rfl, rfl⟩ := hrel
        have hcl := CL.out j
        by_cases hlj : j < n
        · have hjs : j < s.size := by have := HZ.out; omega
          have hj0 : 0 ≤ (j : Int) := by omega
          have hj1 : (j : Int) < (s.size : Int) := by omega
          have hj2 : (j : Int) < (n : Int) := by omega
          have E := Lib.hid (CB.out j hlj)
          rw [bAt_eq hjs] at E
          obtain ⟨C, hC⟩ : ∃ C, Hid (cntB s b j = C) := ⟨_, Lib.hid rfl⟩
          rw [hC.out] at E hcl ⊢
          have hC2 : (C : Int) ≤ (j : Int) := by omega
          have kw : IntKind.i64.wrap ((G : Int) + (C : Int) + 1) = (G : Int) + (C : Int) + 1 := IntWalk.i64_in _ (by omega)
          by_cases he : s[j] = b
          · have E2 := Lib.hid (show cntB s b (j + 1) = C + 1 by rw [E.out, if_pos he])
            have he2 : ((s[j].toNat : Int) == (b.toNat : Int)) = true := by simp [he]
            clear he hcl
            go_wp2
            go_roundw
            case rel => exact ⟨j + 1, _, by omega, by go_num, by rw [E2.out]; go_num, rfl⟩
            case measure => simp [intOf]; omega
          · have E2 := Lib.hid (show cntB s b (j + 1) = C by rw [E.out, if_neg he, Nat.add_zero])
            have he2 : ((s[j].toNat : Int) == (b.toNat : Int)) = false := by
              simp only [beq_eq_false_iff_ne]
              exact fun e => he (UInt8.toNat_inj.1 (by omega))
            clear he hcl
            go_wp2
            go_roundw
            case rel => exact ⟨j + 1, _, by omega, by go_num, by rw [E2.out], rfl⟩
            case measure => simp [intOf]; omega
        · obtain rfl : j = n := by omega
          have E3 := Lib.hid (show (G : Int) + (cntB s b j : Int) = (cntG ps b (k + 1) : Int) by rw [EN.out]; omega)
          rw [E3.out]
          clear hcl
          go_wp2
          go_roundw
          case rel => exact ⟨k + 1, _, by omega, by go_num, rfl, rfl⟩
          case measure => simp [intOf]; omega
    · obtain rfl : k = ps.length := by omega
      go_wp2
      go_ret
      exact ⟨rfl, q, rfl⟩
end Go.Proofs.Ytpekchihdmhkkaa.stab
