/- The model's functions of chains: equal chains, lengths, sides, picked points: contracts. -/
import Derived.Test.YtomnijoccnifpaaChainS2
namespace Go.Proofs.Ytomnijoccnifpaa.sines
open Go.ChangeShapes Go.WideShapes Go.ChangeAt Go.RowKit Go.Proofs.Ytomnijoccnifpaa.spots Go.Proofs.Ytomnijoccnifpaa.irows Go.Proofs.Ytomnijoccnifpaa.pairsPlace
set_option linter.unusedSimpArgs false
set_option linter.unusedVariables false

theorem pat_ext {ps qs : List Pl} (hl : ps.length = qs.length) (h : ∀ j, j < ps.length → pAt ps j = pAt qs j) : ps = qs := by
  apply List.ext_getElem hl
  intro j h1 h2
  have := h j h1
  rwa [pAt_eq h1, pAt_eq h2] at this
set_option maxRecDepth 100000 in
set_option maxHeartbeats 1000000 in
theorem specSameChain_any (v u : Value) (ps qs : List (Int × Int)) (w : World) (hv : PAt w w.heap.size v ps) (hu : PAt w w.heap.size u qs) (hl : ps.length ≤ 1048576) (hm : qs.length ≤ 1048576) :
    Calls Try.prog 21 #[v, u] w fun e w' => e = .returned (.bool (decide (ps = qs))) ∧ Below w.heap.size w w' := by
  obtain ⟨ar, c, rfl, hcl⟩ := hv
  obtain ⟨br, c2, rfl, hdl⟩ := hu
  have HCL := Lib.hid hcl
  have HDL := Lib.hid hdl
  clear hcl hdl
  have hl2 : (ps.length : Int) ≤ 1048576 := by omega
  have hm2 : (qs.length : Int) ≤ 1048576 := by omega
  obtain ⟨R, hR⟩ : ∃ R, Hid (decide (ps = qs) = R) := ⟨_, Lib.hid rfl⟩
  rw [hR.out]
  by_cases hne : ps.length = qs.length
  · have hne2 : (ps.length : Int) = (qs.length : Int) := by omega
    have hb : ((ps.length : Int) == (qs.length : Int)) = true := by simp [hne]
    have hb2 : ((ps.length : Int) != (qs.length : Int)) = false := by simp [hne]
    go_enter Try.func21, Try.ntmps21
    go_wp2
    go_loopw [5] (fun i wr => ∃ k q : Nat, k ≤ ps.length ∧ i = .int .i64 (k : Int) ∧ (∀ j, j < k → pAt ps j = pAt qs j) ∧ wr = w.drewN q) (fun i _ => ps.length - (intOf i).toNat)
    case atStart => exact ⟨0, 0, Nat.zero_le _, rfl, fun j h => by omega, rfl⟩
    case round =>
      obtain ⟨k, q, hk, rfl, ha, rfl⟩ := hrel
      have HA := Lib.hid ha
      clear ha hb hb2
      by_cases hlt : k < ps.length
      · obtain ⟨b, off, rfl, hbs, c1, c2⟩ := HCL.out k hlt
        obtain ⟨b2, off2, rfl, hbs2, d1, d2⟩ := HDL.out k (by omega)
        rw [pat_of hlt] at c1 c2
        rw [pat_of (by omega)] at d1 d2
        have hk0 : 0 ≤ (k : Int) := by omega
        have hk1 : (k : Int) < (ps.length : Int) := by omega
        have hk2 : (k : Int) < (qs.length : Int) := by omega
        have NO := Lib.hid (show ((pAt ps k).1, (pAt ps k).2) ≠ ((pAt qs k).1, (pAt qs k).2) → R = false from fun h => by
          rw [← hR.out]
          cases e : decide (ps = qs) with
          | false => rfl
          | true => simp only [decide_eq_true_eq] at e; subst e; exact absurd rfl h)
        have YES := Lib.hid (show ((pAt ps k).1, (pAt ps k).2) = ((pAt qs k).1, (pAt qs k).2) → ∀ j, j < k + 1 → pAt ps j = pAt qs j from fun h j hj => by
          by_cases e : j = k
          · subst e; exact h
          · exact HA.out j (by omega))
        generalize (pAt ps k).1 = x1 at c1 NO YES
        generalize (pAt ps k).2 = x2 at c2 NO YES
        generalize (pAt qs k).1 = y1 at d1 NO YES
        generalize (pAt qs k).2 = y2 at d2 NO YES
        by_cases h1 : x1 = y1
        · by_cases h2 : x2 = y2
          · have Y := Lib.hid (YES.out (by rw [h1, h2]))
            subst h1 h2
            clear YES NO
            go_wp2
            all_goals (try (go_quiet (fail); go_wp2))
            all_goals
              go_roundw
              case rel => exact ⟨k + 1, _, by omega, by go_num, Y.out, rfl⟩
              case measure => simp [intOf]; omega
          · obtain rfl := NO.out (fun e => h2 (by simpa using (Prod.mk.inj e).2))
            subst h1
            clear YES NO
            go_wp2
            all_goals (try (go_quiet (fail); go_wp2))
            all_goals
              go_ret
              exact ⟨rfl, (by first | exact bdP (bdP (Below.refl _ _) _) _ | exact bdP (Below.refl _ _) _)⟩
        · obtain rfl := NO.out (fun e => h1 (by simpa using (Prod.mk.inj e).1))
          clear YES NO
          go_wp2
          all_goals (try (go_quiet (fail); go_wp2))
          all_goals
            go_ret
            exact ⟨rfl, (by first | exact bdP (bdP (Below.refl _ _) _) _ | exact bdP (Below.refl _ _) _)⟩
      · obtain rfl : k = ps.length := by omega
        have RT : R = true := by rw [← hR.out]; exact decide_eq_true (pat_ext hne HA.out)
        subst RT
        go_wp2
        go_ret
        exact ⟨rfl, bdP (Below.refl _ _) _⟩
  · have RF : R = false := by rw [← hR.out]; exact decide_eq_false (fun e => hne (by rw [e]))
    subst RF
    have hb : ((ps.length : Int) == (qs.length : Int)) = false := by simp; omega
    have hb2 : ((ps.length : Int) != (qs.length : Int)) = true := by simp; omega
    have hne2 : ¬ (ps.length : Int) = (qs.length : Int) := by omega
    go_enter Try.func21, Try.ntmps21
    go_wp2
    go_ret
    exact ⟨rfl, Below.refl _ _⟩
set_option maxHeartbeats 1000000 in
theorem l07Root_any (n : Int) (w : World) (n0 : 0 ≤ n) (n1 : n < 16000000) :
    Calls Try.prog 59 #[.int .i64 n] w fun e w' => e = .returned (.int .i64 (rootI n)) ∧ w = w' := by
  obtain ⟨r0, r1, r2, r3⟩ := root_is n0 n1
  obtain ⟨R, hR⟩ : ∃ R, Hid (rootI n = R) := ⟨_, Lib.hid rfl⟩
  rw [hR.out]
  clear r0 r1 r2 r3
  go_enter Try.func59, Try.ntmps59
  go_wp2
  go_loopw [3, 4] (fun a b wr => ∃ lo hi : Int, a = .int .i64 lo ∧ b = .int .i64 hi ∧ 0 ≤ lo ∧ lo < hi ∧ hi ≤ 4000 ∧ lo * lo ≤ n ∧ n < hi * hi ∧ w = wr) (fun a b _ => (intOf b - intOf a).toNat)
  case atStart => exact ⟨0, 4000, rfl, rfl, by omega, by omega, by omega, by omega, by omega, rfl⟩
  case round =>
    obtain ⟨lo, hi, rfl, rfl, l0, lh, h4, hlo, hhi, rfl⟩ := hrel
    have kd : IntKind.i64.wrap (hi - lo) = hi - lo := IntWalk.i64_in _ (by omega)
    have HLO := Lib.hid hlo
    have HHI := Lib.hid hhi
    clear hlo hhi
    by_cases h1 : 1 < hi - lo
    · have ks : IntKind.i64.wrap (lo + hi) = lo + hi := IntWalk.i64_in _ (by omega)
      have kt : (lo + hi).tdiv 2 = (lo + hi) / 2 := Int.tdiv_eq_ediv_of_nonneg (by omega)
      have km0 : 0 ≤ (lo + hi) / 2 := by omega
      have kw : IntKind.i64.wrap ((lo + hi) / 2) = (lo + hi) / 2 := IntWalk.i64_in _ (by omega)
      obtain ⟨m, hm⟩ : ∃ m, Hid ((lo + hi) / 2 = m) := ⟨_, Lib.hid rfl⟩
      have m1 : lo < m := by have := hm.out; omega
      have m2 : m < hi := by have := hm.out; omega
      rw [hm.out] at kt kw km0
      have ms := sq_le km0 (show m ≤ 4000 by omega)
      have mp := Int.mul_nonneg km0 km0
      have kq : IntKind.i64.wrap (m * m) = m * m := IntWalk.i64_in _ (by omega)
      by_cases hq : m * m ≤ n
      · have HQ := Lib.hid hq
        go_wp2
        go_roundw
        case rel => exact ⟨m, hi, rfl, rfl, km0, m2, h4, HQ.out, HHI.out, by trivial⟩
        case measure => simp [intOf]; omega
      · have HQ := Lib.hid hq
        go_wp2
        go_roundw
        case rel => exact ⟨lo, m, rfl, rfl, l0, m1, by omega, HLO.out, by have := HQ.out; omega, by trivial⟩
        case measure => simp [intOf]; omega
    · have RE := Lib.hid (show lo = R by
        rw [← hR.out]
        exact (root_eq l0 HLO.out (by have := HHI.out; rwa [show hi = lo + 1 by omega] at this) n1).symm)
      go_wp2
      go_ret
      exact ⟨retI RE.out, by trivial⟩
def lowV (ps : List Pl) : Int := if okC ps = true then lowN ps (ps.length - 1) else 0
def highV (ps : List Pl) : Int := if okC ps = true then highN ps (ps.length - 1) else 0
theorem ret3 {a b c d e f : Int} (h : a = b) (g : c = d) (k : e = f) : Ending.returned (.tuple #[.int .i64 a, .int .i64 c, .int .i64 e]) = .returned (.tuple #[.int .i64 b, .int .i64 d, .int .i64 f]) := by rw [h, g, k]
theorem l07Far_rel (a1 a2 b1 b2 : Int) (W0 w : World) (hw : Below W0.heap.size W0 w) (ha : okP (a1, a2) = true) (hb : okP (b1, b2) = true) :
    Calls Try.prog 58 #[.agg #[.int .i64 a1, .int .i64 a2], .agg #[.int .i64 b1, .int .i64 b2]] w fun e w' => e = .returned (.int .i64 (farI (a1, a2) (b1, b2))) ∧ Below W0.heap.size W0 w' :=
  (l07Far_any a1 a2 b1 b2 w ha hb).mono fun _ _ ⟨h1, k⟩ => ⟨h1, hw.trans (k.mono hw.size)⟩
set_option maxRecDepth 100000 in
set_option maxHeartbeats 2000000 in
theorem specLengthBounds_any (v : Value) (ps : List (Int × Int)) (w : World) (hv : PAt w w.heap.size v ps) (hl : ps.length ≤ 1048576) :
    Calls Try.prog 33 #[v] w fun e w' => e = .returned (.tuple #[.int .i64 (lowV ps), .int .i64 (highV ps), .int .i64 (code1 ps)]) ∧ Below w.heap.size w w' := by
  have HV := Lib.hid hv
  obtain ⟨ar, c, rfl, hcl⟩ := hv
  have HCL := Lib.hid hcl
  clear hcl
  cases hok : okC ps with
  | false =>
    rw [show code1 ps = 1 by simp [code1, hok], show lowV ps = 0 by simp [lowV, hok], show highV ps = 0 by simp [highV, hok]]
    go_enter Try.func33, Try.ntmps33
    go_wp2_with (first | (go_at_call 37; refine (l07Ok_any _ ps _ HV.out hl).mono ?_; rw [hok]; rintro e w1 ⟨rfl, hb⟩))
    exact bodyPost_ret (v := .tuple #[.int .i64 0, .int .i64 0, .int .i64 1]) (by simp [results, Try.results33, go_sem]) rfl ⟨rfl, hb⟩
  | true =>
    rw [show code1 ps = 0 by simp [code1, hok], show lowV ps = lowN ps (ps.length - 1) by simp [lowV, hok], show highV ps = highN ps (ps.length - 1) by simp [highV, hok]]
    obtain ⟨q1, q2, q3⟩ := okC_of hok
    have HO := Lib.hid q3
    have SF := Lib.hid (fun k h => sums_facts hok k h)
    clear q3
    have hl2 : (ps.length : Int) ≤ 24 := by omega
    go_enter Try.func33, Try.ntmps33
    go_wp2_with (first | (go_at_call 37; refine (l07Ok_any _ ps _ HV.out hl).mono ?_; rw [hok]; rintro e w1 ⟨rfl, hb⟩; have HB1 := Lib.hid hb; clear hb))
    go_loopw [5, 6, 7] (fun a b i wr => ∃ k : Nat, k + 1 ≤ ps.length ∧ i = .int .i64 ((k : Int) + 1) ∧ a = .int .i64 (lowN ps k) ∧ b = .int .i64 (highN ps k) ∧ Below w.heap.size w wr) (fun _ _ i _ => ps.length - (intOf i).toNat)
    case atStart => exact ⟨0, by omega, rfl, rfl, rfl, HB1.out⟩
    case round =>
      obtain ⟨k, hk, rfl, rfl, rfl, hb⟩ := hrel
      have HB := Lib.hid hb
      have hsz := hb.size
      obtain ⟨s1, s2, s3, s4, s5, s6, s7⟩ := SF.out k (by omega)
      by_cases hlt : k + 1 < ps.length
      · obtain ⟨n, hn⟩ : ∃ n : Nat, Hid (k + 1 = n) := ⟨_, Lib.hid rfl⟩
        obtain ⟨b, off, rfl, hbs, c1, c2⟩ := HCL.out k (by omega)
        obtain ⟨b', off', rb, hbs', d1, d2⟩ := HCL.out n (by have := hn.out; omega)
        simp only [Option.some.injEq, Addr.mk.injEq, and_true] at rb
        obtain ⟨rfl, rfl⟩ := rb
        rw [pat_of (by omega)] at c1 c2
        rw [pat_of (by have := hn.out; omega)] at d1 d2
        have u1 := (hb.cell (p := ⟨b, off + k * 2, none⟩) hbs).trans c1
        have u2 := (hb.cell (p := ⟨b, off + k * 2 + 1, none⟩) hbs).trans c2
        have u3 := (hb.cell (p := ⟨b, off + n * 2, none⟩) hbs).trans d1
        have u4 := (hb.cell (p := ⟨b, off + n * 2 + 1, none⟩) hbs).trans d2
        have hbw : b < wr.heap.size := by omega
        have jn : (k : Int) + 1 = (n : Int) := by have := hn.out; omega
        have jw : (n : Int) - 1 = (k : Int) := by omega
        have jw2 : IntKind.i64.wrap ((k : Int)) = (k : Int) := IntWalk.i64_in _ (by omega)
        have hk0 : 0 ≤ (k : Int) := by omega
        have hk1 : (k : Int) < (ps.length : Int) := by omega
        have hn0 : 0 ≤ (n : Int) := by omega
        have hn1 : (n : Int) < (ps.length : Int) := by omega
        have nw : IntKind.i64.wrap ((n : Int) + 1) = (n : Int) + 1 := IntWalk.i64_in _ (by omega)
        have oka := HO.out k (by omega)
        have okb := HO.out n (by omega)
        have LS := Lib.hid (show lowN ps n = lowN ps k + rootI (farI (pAt ps k) (pAt ps n)) by rw [← hn.out, lowN])
        have HS := Lib.hid (show highN ps n = highN ps k + ceilI (farI (pAt ps k) (pAt ps n)) by rw [← hn.out, highN])
        obtain ⟨f1, f2⟩ := farI_bounds oka okb
        obtain ⟨r1, r2, r3, r4⟩ := root_is f1 (by omega)
        have FR := Lib.hid (fun W w hw => l07Far_rel (pAt ps k).1 (pAt ps k).2 (pAt ps n).1 (pAt ps n).2 W w hw oka okb)
        have eF : farI ((pAt ps k).1, (pAt ps k).2) ((pAt ps n).1, (pAt ps n).2) = farI (pAt ps k) (pAt ps n) := rfl
        rw [eF] at FR
        generalize farI (pAt ps k) (pAt ps n) = F at FR LS HS f1 f2 r1 r2 r3 r4
        have RT := Lib.hid (fun w => l07Root_any F w f1 (by omega))
        have CE : ceilI F = if rootI F * rootI F < F then rootI F + 1 else rootI F := rfl
        have rq := sq_le r1 (show rootI F ≤ 4000 by omega)
        have rp := Int.mul_nonneg r1 r1
        generalize rootI F = r at RT LS CE r1 r2 r3 r4 rq rp
        rw [CE] at HS
        have kq : IntKind.i64.wrap (r * r) = r * r := IntWalk.i64_in _ (by omega)
        generalize lowN ps k = lo at s1 s2 s3 s4 LS
        generalize highN ps k = hi at s3 s4 s5 HS
        have kl : IntKind.i64.wrap (lo + r) = lo + r := IntWalk.i64_in _ (by omega)
        have kh : IntKind.i64.wrap (hi + r) = hi + r := IntWalk.i64_in _ (by omega)
        have kh1 : IntKind.i64.wrap (hi + r + 1) = hi + r + 1 := IntWalk.i64_in _ (by omega)
        clear CE eF c1 c2 d1 d2 hb s5 s6 s7 r3 r4 oka okb
        rw [jn]
        have NJ := Lib.hid jn
        clear jn
        generalize (pAt ps k).1 = x1 at u1 FR
        generalize (pAt ps k).2 = x2 at u2 FR
        generalize (pAt ps n).1 = y1 at u3 FR
        generalize (pAt ps n).2 = y2 at u4 FR
        by_cases hc : r * r < F
        · rw [if_pos hc] at HS
          go_wp2_with fail
          go_region_held3 (fun W => W.cell? ⟨b, off + k * 2, none⟩ = some (.int .i64 x1) ∧ W.cell? ⟨b, off + k * 2 + 1, none⟩ = some (.int .i64 x2) ∧ W.cell? ⟨b, off + n * 2, none⟩ = some (.int .i64 y1) ∧ W.cell? ⟨b, off + n * 2 + 1, none⟩ = some (.int .i64 y2)) (first | exact ⟨u1, u2, u3, u4⟩ | exact ⟨n1, n2, n3, n4⟩ | (simp [go_sem]; first | exact ⟨u1, u2, u3, u4⟩ | exact ⟨n1, n2, n3, n4⟩)) (first | (go_at_call 58; refine (FR.out wr _ (by repeat (first | assumption | exact Below.refl _ _ | refine Below.drew ?_ | refine bdP ?_ _))).mono ?_; rintro e w2 ⟨rfl, hb2⟩; have n1 := (hb2.cell (p := ⟨b, off + k * 2, none⟩) hbw).trans u1; have n2 := (hb2.cell (p := ⟨b, off + k * 2 + 1, none⟩) hbw).trans u2; have n3 := (hb2.cell (p := ⟨b, off + n * 2, none⟩) hbw).trans u3; have n4 := (hb2.cell (p := ⟨b, off + n * 2 + 1, none⟩) hbw).trans u4))
          all_goals
            have HB2 := Lib.hid (HB.out.trans (hb2.mono hsz))
            clear hb2
            go_wp2_with (first | (go_at_call 59; refine (RT.out _).mono ?_; rintro e w' ⟨rfl, rfl⟩))
            go_roundw
            case rel => exact ⟨n, by omega, by go_num, by rw [LS.out], by rw [HS.out, Int.add_assoc], (by first | exact HB2.out | exact bdP HB2.out _ | exact bdrew HB2.out)⟩
            case measure => simp [intOf]; omega
        · rw [if_neg hc] at HS
          go_wp2_with fail
          go_region_held3 (fun W => W.cell? ⟨b, off + k * 2, none⟩ = some (.int .i64 x1) ∧ W.cell? ⟨b, off + k * 2 + 1, none⟩ = some (.int .i64 x2) ∧ W.cell? ⟨b, off + n * 2, none⟩ = some (.int .i64 y1) ∧ W.cell? ⟨b, off + n * 2 + 1, none⟩ = some (.int .i64 y2)) (first | exact ⟨u1, u2, u3, u4⟩ | exact ⟨n1, n2, n3, n4⟩ | (simp [go_sem]; first | exact ⟨u1, u2, u3, u4⟩ | exact ⟨n1, n2, n3, n4⟩)) (first | (go_at_call 58; refine (FR.out wr _ (by repeat (first | assumption | exact Below.refl _ _ | refine Below.drew ?_ | refine bdP ?_ _))).mono ?_; rintro e w2 ⟨rfl, hb2⟩; have n1 := (hb2.cell (p := ⟨b, off + k * 2, none⟩) hbw).trans u1; have n2 := (hb2.cell (p := ⟨b, off + k * 2 + 1, none⟩) hbw).trans u2; have n3 := (hb2.cell (p := ⟨b, off + n * 2, none⟩) hbw).trans u3; have n4 := (hb2.cell (p := ⟨b, off + n * 2 + 1, none⟩) hbw).trans u4))
          all_goals
            have HB2 := Lib.hid (HB.out.trans (hb2.mono hsz))
            clear hb2
            go_wp2_with (first | (go_at_call 59; refine (RT.out _).mono ?_; rintro e w' ⟨rfl, rfl⟩))
            go_roundw
            case rel => exact ⟨n, by omega, by go_num, by rw [LS.out], by rw [HS.out], (by first | exact HB2.out | exact bdP HB2.out _ | exact bdrew HB2.out)⟩
            case measure => simp [intOf]; omega
      · have hge : ¬ ((k : Int) + 1 < (ps.length : Int)) := by omega
        have ek : k = ps.length - 1 := by omega
        have EL := Lib.hid (show lowN ps k = lowN ps (ps.length - 1) by rw [ek])
        have EH := Lib.hid (show highN ps k = highN ps (ps.length - 1) by rw [ek])
        clear ek hb s1 s2 s3 s4 s5 s6 s7
        go_wp2
        exact bodyPost_ret (v := .tuple #[.int .i64 (lowN ps k), .int .i64 (highN ps k), .int .i64 0]) (by simp [results, Try.results33, go_sem]) rfl ⟨ret3 EL.out EH.out rfl, HB.out⟩
end Go.Proofs.Ytomnijoccnifpaa.sines
