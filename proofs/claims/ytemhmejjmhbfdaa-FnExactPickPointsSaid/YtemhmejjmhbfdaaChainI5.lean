/- The program's chains: points, picked points. -/
import Derived.Test.YtemhmejjmhbfdaaChainI1
namespace Go.Proofs.Ytemhmejjmhbfdaa.sines
open Go.ChangeShapes Go.WideShapes Go.ChangeAt Go.RowKit Go.Proofs.Ytemhmejjmhbfdaa.spots Go.Proofs.Ytemhmejjmhbfdaa.irows Go.Proofs.Ytemhmejjmhbfdaa.pairsPlace
set_option linter.unusedSimpArgs false
set_option linter.unusedVariables false

/-- What is read of a list of numbers. -/
def RdI (w : World) (u : Value) (zs : List Int) : Prop := ∃ a c, u = .slice a zs.length c ∧ ∀ k, k < zs.length → ∃ g, a = some ⟨g, 0, none⟩ ∧ g < w.heap.size ∧ w.cell? ⟨g, k, none⟩ = some (.int .i64 (zAt zs k))
def areB (n : Int) (zs : List Int) : Bool := decide (2 ≤ zs.length) && risesB zs 0 (n - 1)
theorem areB_short {n : Int} {zs : List Int} (h : ¬ 2 ≤ zs.length) : areB n zs = false := by simp [areB, h]
theorem areB_no {n : Int} {zs : List Int} {k : Nat} (hk : k < zs.length) (h : ¬ (inB (zAt zs k) 0 (n - 1) = true ∧ (0 < k → zAt zs (k - 1) < zAt zs k))) : areB n zs = false := by
  simp [areB, risesB_no hk h]
theorem areB_yes {n : Int} {zs : List Int} (h2 : 2 ≤ zs.length) (h : ∀ k, k < zs.length → inB (zAt zs k) 0 (n - 1) = true ∧ (0 < k → zAt zs (k - 1) < zAt zs k)) : areB n zs = true := by
  simp [areB, h2, risesB_iff.2 h]
set_option maxRecDepth 100000 in
set_option maxHeartbeats 1000000 in
theorem arePointsOf_any (v u : Value) (n : Nat) (zs : List Int) (w : World) (hv : ∃ a c, v = .slice a n c) (hu : RdI w u zs) (hl : n ≤ 1048576) (hm : zs.length ≤ 1048576) :
    Calls Try.prog 143 #[v, u] w fun e w' => e = .returned (.bool (areB (n : Int) zs)) ∧ w = w' := by
  obtain ⟨ar, c, rfl⟩ := hv
  obtain ⟨ur, uc, rfl, hdl⟩ := hu
  have HDL := Lib.hid hdl
  clear hdl
  have hm2 : (zs.length : Int) ≤ 1048576 := by omega
  have hl2 : (n : Int) ≤ 1048576 := by omega
  obtain ⟨R, hR⟩ : ∃ R, Hid (areB (n : Int) zs = R) := ⟨_, Lib.hid rfl⟩
  rw [hR.out]
  go_enter Try.func143, Try.ntmps143
  go_wp2
  go_loopw [5, 10] (fun b i wr => ∃ k : Nat, ∃ y : Int, k ≤ zs.length ∧ i = .int .i64 (k : Int) ∧ b = .int .i64 y ∧ (k = 0 → y = -1) ∧ (0 < k → y = zAt zs (k - 1)) ∧ (∀ j, j < k → inB (zAt zs j) 0 ((n : Int) - 1) = true ∧ (0 < j → zAt zs (j - 1) < zAt zs j)) ∧ w = wr) (fun _ i _ => zs.length - (intOf i).toNat)
  case atStart => exact ⟨0, -1, Nat.zero_le _, rfl, rfl, fun _ => rfl, fun h => by omega, fun j h => by omega, rfl⟩
  case round =>
    obtain ⟨k, y, hk, rfl, rfl, hy0, hy1, ha, rfl⟩ := hrel
    have HA := Lib.hid ha
    have HY0 := Lib.hid hy0
    have HY1 := Lib.hid hy1
    clear ha hy0 hy1
    by_cases hlt : k < zs.length
    · obtain ⟨g, rfl, hg, c1⟩ := HDL.out k hlt
      have hk0 : 0 ≤ (k : Int) := by omega
      have hk1 : (k : Int) < (zs.length : Int) := by omega
      have yb : -1 ≤ y := by
        by_cases h0 : k = 0
        · have := HY0.out h0; omega
        · have h1 := HY1.out (by omega)
          have h2 := inB_of (HA.out (k - 1) (by omega)).1
          omega
      have NO := Lib.hid (show ¬ (y < zAt zs k ∧ zAt zs k < (n : Int)) → R = false from fun h => by
        rw [← hR.out]
        refine areB_no hlt fun ⟨h1, h2⟩ => h ?_
        have h3 := inB_of h1
        by_cases h0 : k = 0
        · have := HY0.out h0; omega
        · have h4 := h2 (by omega); have h5 := HY1.out (by omega); omega)
      have YES := Lib.hid (show (y < zAt zs k ∧ zAt zs k < (n : Int)) → ∀ j, j < k + 1 → inB (zAt zs j) 0 ((n : Int) - 1) = true ∧ (0 < j → zAt zs (j - 1) < zAt zs j) from fun h j hj => by
        by_cases e : j = k
        · subst e
          refine ⟨by simp [inB]; omega, fun h0 => ?_⟩
          have := HY1.out h0; omega
        · exact HA.out j (by omega))
      have ZK := Lib.hid (show zAt zs (k + 1 - 1) = zAt zs k from rfl)
      generalize zAt zs k = x at c1 NO YES ZK
      by_cases h1 : x ≤ y
      · obtain rfl := NO.out (by omega)
        go_wp2
        go_ret
        exact ⟨rfl, by trivial⟩
      · have h1f : decide (x ≤ y) = false := by simpa using h1
        by_cases h2 : (n : Int) ≤ x
        · obtain rfl := NO.out (by omega)
          go_wp2
          go_ret
          exact ⟨rfl, by trivial⟩
        · have Y := Lib.hid (YES.out (by omega))
          have h2f : decide ((n : Int) ≤ x) = false := by simpa using h2
          go_wp2
          go_roundw
          case rel => exact ⟨k + 1, x, by omega, by go_num, rfl, fun h => by omega, fun _ => ZK.out.symm, Y.out, by trivial⟩
          case measure => simp [intOf]; omega
    · obtain rfl : k = zs.length := by omega
      by_cases h2 : 2 ≤ zs.length
      · have RT : R = true := by rw [← hR.out]; exact areB_yes h2 HA.out
        have h2i : (2 : Int) ≤ (zs.length : Int) := by omega
        subst RT
        go_wp2
        go_ret
        exact ⟨retB (by simp), by trivial⟩
      · have RF : R = false := by rw [← hR.out]; exact areB_short h2
        have h2i : ¬ (2 : Int) ≤ (zs.length : Int) := by omega
        subst RF
        go_wp2
        go_ret
        exact ⟨retB (by simp), by trivial⟩
theorem codeP_Q (ps : List Pl) (zs : List Int) : codeQ ps (areB (ps.length : Int) zs) = codeP ps zs := by
  unfold codeQ codeP areB
  by_cases h : 2 ≤ zs.length <;> simp [h]
theorem codeP_01 (ps : List Pl) (zs : List Int) : codeP ps zs = 0 ∨ codeP ps zs ≠ 0 := by omega
set_option maxRecDepth 100000 in
set_option maxHeartbeats 4000000 in
theorem implPickPoints_any (v u : Value) (B : Nat) (ps : List (Int × Int)) (zs : List Int) (w : World) (hv : PAt w w.heap.size v ps) (hu : IRow w B u zs) (hl : ps.length ≤ 1048576) (hm : zs.length ≤ 1048576) :
    Calls Try.prog 65 #[v, u] w fun e w' => ∃ r, e = .returned (.tuple #[r, .int .i64 (codeP ps zs)]) ∧ PRow w' w.heap.size r (pickV ps zs) ∧ Below w.heap.size w w' := by
  obtain ⟨i0, hi, hz0, hz1, hz2⟩ := info_parts info_pair
  have HV := Lib.hid hv
  have HR := Lib.hid (show RdI w u zs from irow_read hu)
  obtain ⟨ar, c, rfl, hcl⟩ := hv
  have HCL := Lib.hid hcl
  obtain ⟨ur, uc, rfl, hdl⟩ := irow_read hu
  have HDL := Lib.hid hdl
  clear hcl hdl
  have hm2 : (zs.length : Int) ≤ 1048576 := by omega
  have hl2 : (ps.length : Int) ≤ 1048576 := by omega
  have CQ := Lib.hid (codeP_Q ps zs)
  by_cases hc : codeP ps zs = 0
  · have hok : okC ps = true := by
      unfold codeP at hc
      split at hc
      · assumption
      · omega
    have hzs : 2 ≤ zs.length ∧ risesB zs 0 ((ps.length : Int) - 1) = true := by
      unfold codeP at hc
      rw [if_pos hok] at hc
      split at hc
      · assumption
      · omega
    rw [show pickV ps zs = pickL ps zs by simp [pickV, hc], hc]
    obtain ⟨q1, q2, _⟩ := okC_of hok
    obtain ⟨z2, hr⟩ := hzs
    have RI := Lib.hid (fun i h => inB_of (risesB_iff.1 hr i h).1)
    have QL := Lib.hid (pickL_len ps zs)
    have QK := Lib.hid (show ∀ k, (h : k < zs.length) → (h2 : k < (pickL ps zs).length) → (pickL ps zs)[k]'h2 = pAt ps (zAt zs k).toNat from fun k h h2 => by simp [pickL, zAt_eq h])
    generalize pickL ps zs = qs at QL QK
    rw [hc] at CQ
    go_enter Try.func65, Try.ntmps65
    go_wp2_with (first | (go_at_call 143; refine (arePointsOf_any _ _ ps.length zs _ ⟨_, _, rfl⟩ HR.out hl hm).mono ?_; rintro e w' ⟨rfl, rfl⟩) | (go_at_call 128; refine (chainCode_any _ ps _ _ HV.out hl).mono ?_; rw [CQ.out]; rintro e w2 ⟨rfl, hb⟩; have HB2 := Lib.hid hb; have hsz2 := hb.size; clear hb; obtain ⟨w3, hmk, hown0, hg0⟩ := run_make_full (P := Try.prog) (w := w2) w.heap.size 52 60 i0 (.agg #[.int .i64 0, .int .i64 0]) 2 Try.underlying52 hi hz0 hz1 .i64 .i64 zs.length (by rw [hz2]; omega) (by unfold maxLen; omega) hsz2; have H0 := Lib.hid hown0; have G0 := Lib.hid hg0; clear hown0 hg0))
    clear hmk
    go_loopw [23] (fun i wr => ∃ k : Nat, k ≤ zs.length ∧ i = .int .i64 (k : Int) ∧ PRow wr w.heap.size (.slice (some ⟨w2.heap.size, 0, none⟩) zs.length zs.length) (qs.take k ++ zeros (zs.length - k)) ∧ Below w.heap.size w wr) (fun i _ => zs.length - (intOf i).toNat)
    case atStart => exact ⟨0, Nat.zero_le _, rfl, (by have h := start_row (ps := qs) H0.out QL.out; rwa [QL.out] at h), HB2.out.grown G0.out hsz2 (by simp)⟩
    case round =>
      obtain ⟨k, hk, rfl, hr, hb⟩ := hrel
      have HB3 := Lib.hid hb
      have hsz3 := hb.size
      have hr2 : PRow wr w.heap.size (.slice (some ⟨w2.heap.size, 0, none⟩) qs.length zs.length) (qs.take k ++ zeros (qs.length - k)) := by rw [QL.out]; exact hr
      by_cases hlt : k < zs.length
      · obtain ⟨g, rfl, hg, c1⟩ := HDL.out k hlt
        obtain ⟨z0, z1⟩ := RI.out k hlt
        have hkq : k < qs.length := by rw [QL.out]; exact hlt
        have QX := Lib.hid (QK.out k hlt hkq)
        have MS := Lib.hid (mid_set qs k hkq)
        have ML := Lib.hid (mid_len qs k (by omega))
        rw [QL.out] at MS ML
        rw [QX.out] at MS
        obtain ⟨z, hz⟩ : ∃ z : Nat, Hid ((zAt zs k).toNat = z) := ⟨_, Lib.hid rfl⟩
        have ez : zAt zs k = (z : Int) := by have := hz.out; omega
        rw [ez] at c1 z0 z1
        rw [hz.out] at MS
        obtain ⟨b, off, rfl, hbs, d1, d2⟩ := HCL.out z (by omega)
        rw [pat_of (by omega)] at d1 d2
        have u0 := (hb.cell (p := ⟨g, k, none⟩) hg).trans c1
        have u1 := (hb.cell (p := ⟨b, off + z * 2, none⟩) hbs).trans d1
        have u2 := (hb.cell (p := ⟨b, off + z * 2 + 1, none⟩) hbs).trans d2
        have hk0 : 0 ≤ (k : Int) := by omega
        have hk1 : (k : Int) < (zs.length : Int) := by omega
        have hz3 : (z : Int) < (ps.length : Int) := by omega
        obtain ⟨y0, y1⟩ := mid_cells hr2 hkq
        have f0 : wr.frozen? ⟨w2.heap.size, k * 2, none⟩ = false := World.ownsRow.frozenAt (mid_row hr2 (by omega)) (k * 2)
        have f1 : wr.frozen? ⟨w2.heap.size, k * 2 + 1, none⟩ = false := World.ownsRow.frozenAt (mid_row hr2 (by omega)) (k * 2 + 1)
        have HX := Lib.hid hr
        clear hr hr2 hb c1 d1 d2 ez
        obtain ⟨x, hx⟩ : ∃ x, Hid (x = pAt ps z) := ⟨_, Lib.hid rfl⟩
        rw [← hx.out] at u1 u2 MS
        go_wp2
        go_roundw
        case rel => exact ⟨k + 1, by omega, by go_num, by (have h := prow_store (k := k) (x := x) HX.out ML.out hlt; rw [MS.out] at h; exact h), (HB3.out.setCell hsz2 _).setCell hsz2 _⟩
        case measure => simp [intOf]; omega
      · obtain rfl : k = zs.length := by omega
        have HE := Lib.hid (show PRow wr w.heap.size (.slice (some ⟨w2.heap.size, 0, none⟩) zs.length zs.length) qs by
          have h := hr
          rw [List.take_of_length_le (Nat.le_of_eq QL.out), Nat.sub_self] at h
          simpa [zeros] using h)
        clear hr hr2 hb
        go_wp2
        exact bodyPost_ret (v := .tuple #[.slice (some ⟨w2.heap.size, 0, none⟩) zs.length zs.length, .int .i64 0]) (by simp [results, Try.results65, go_sem]) rfl ⟨_, rfl, HE.out, HB3.out⟩
  · rw [show pickV ps zs = [] by simp [pickV, hc]]
    generalize codeP ps zs = C at hc CQ
    have hcb : (C == 0) = false := by simpa using hc
    have hcn : (C != 0) = true := by simp [hc]
    go_enter Try.func65, Try.ntmps65
    go_wp2_with (first | (go_at_call 143; refine (arePointsOf_any _ _ ps.length zs _ ⟨_, _, rfl⟩ HR.out hl hm).mono ?_; rintro e w' ⟨rfl, rfl⟩) | (go_at_call 128; refine (chainCode_any _ ps _ _ HV.out hl).mono ?_; rw [CQ.out]; rintro e w2 ⟨rfl, hb⟩; have HB2 := Lib.hid hb; have hsz2 := hb.size; clear hb))
    exact bodyPost_ret (v := .tuple #[.slice none 0 0, .int .i64 C]) (by simp [results, Try.results65, go_sem]) rfl ⟨_, rfl, prow_nil _ _, HB2.out⟩
end Go.Proofs.Ytemhmejjmhbfdaa.sines
