/- The program's chains: lengths. -/
import Derived.Test.YtomnijoccnifpaaChainI2
import Derived.Test.YtomnijoccnifpaaSearch
import Derived.BigQuiet
namespace Go.Proofs.Ytomnijoccnifpaa.sines
open Go.Shelf Go.Lib Go.Sort Go.ChangeShapes Go.WideShapes Go.ChangeAt Go.RowKit Go.Proofs.Ytomnijoccnifpaa.spots Go.Proofs.Ytomnijoccnifpaa.irows Go.Proofs.Ytomnijoccnifpaa.pairsPlace
set_option linter.unusedSimpArgs false
set_option linter.unusedVariables false

theorem mono_sq {x y : Int} (h0 : 0 ≤ x) (h : x ≤ y) : x * x ≤ y * y := Int.mul_le_mul h h h0 (by omega)
/-- A root, rounded up, as the library's search finds it. -/
def upR (n : Int) : Int := ((List.range 3000).countP fun i : Nat => !decide ((i : Int) * (i : Int) ≥ n) : Nat)
theorem upR_ge (n : Int) : 0 ≤ upR n := by unfold upR; omega
theorem upR_le (n : Int) : upR n ≤ 3000 := by
  have := List.countP_le_length (p := fun i : Nat => !decide ((i : Int) * (i : Int) ≥ n)) (l := List.range 3000)
  unfold upR
  simp only [List.length_range] at this
  omega
theorem countU (p : Nat → Bool) : ∀ (n k : Nat), k ≤ n → (∀ i, i < k → p i = false) → (∀ i, k ≤ i → i < n → p i = true) → (List.range n).countP (fun i => !p i) = k
  | 0, k, hk, _, _ => by simp; omega
  | n + 1, k, hk, h1, h2 => by
    rw [List.range_succ, List.countP_append]
    by_cases hn : k = n + 1
    · subst hn
      rw [countU p n n (Nat.le_refl _) (fun i hi => h1 i (by omega)) (fun i hi hi2 => by omega)]
      simp [h1 n (by omega)]
    · rw [countU p n k (by omega) h1 (fun i hi hi2 => h2 i hi (by omega))]
      simp [h2 n (by omega) (by omega)]
theorem upR_eq {n : Int} {r : Nat} (hr : r ≤ 3000) (h1 : r = 0 ∨ ((r : Int) - 1) * ((r : Int) - 1) < n) (h2 : n ≤ (r : Int) * (r : Int)) : upR n = (r : Int) := by
  unfold upR
  rw [countU (fun i : Nat => decide ((i : Int) * (i : Int) ≥ n)) 3000 r hr (fun i hi => ?_) (fun i hi _ => ?_)]
  · rcases h1 with h | h
    · omega
    · have := mono_sq (x := (i : Int)) (y := (r : Int) - 1) (by omega) (by omega)
      simp only [ge_iff_le, decide_eq_false_iff_not]; omega
  · have := mono_sq (x := (r : Int)) (y := (i : Int)) (by omega) (by omega)
    simp only [ge_iff_le, decide_eq_true_eq]; omega
theorem rootI_small {F : Int} (f1 : 0 ≤ F) (f2 : F ≤ 8000000) : rootI F ≤ 2999 := by
  obtain ⟨r1, r2, r3, r4⟩ := root_is f1 (by omega)
  by_cases h : 3000 ≤ rootI F
  · have := mono_sq (x := 3000) (y := rootI F) (by omega) h
    omega
  · omega
theorem floor_up {F : Int} (f1 : 0 ≤ F) (f2 : F ≤ 8000000) : rootI F = upR (F + 1) - 1 := by
  obtain ⟨r1, r2, r3, r4⟩ := root_is f1 (by omega)
  have r5 := rootI_small f1 f2
  generalize rootI F = r at r1 r2 r3 r4 r5
  obtain ⟨u, rfl⟩ := Int.eq_ofNat_of_zero_le r1
  rw [upR_eq (n := F + 1) (r := u + 1) (by omega) (.inr (by rw [show ((u + 1 : Nat) : Int) - 1 = (u : Int) by omega]; omega)) (by rw [show ((u + 1 : Nat) : Int) = (u : Int) + 1 by omega]; omega)]
  omega
theorem ceil_up {F : Int} (f1 : 0 ≤ F) (f2 : F ≤ 8000000) : ceilI F = upR F := by
  obtain ⟨r1, r2, r3, r4⟩ := root_is f1 (by omega)
  have r5 := rootI_small f1 f2
  unfold ceilI
  generalize rootI F = r at r1 r2 r3 r4 r5
  obtain ⟨u, rfl⟩ := Int.eq_ofNat_of_zero_le r1
  split
  · rename_i h
    rw [upR_eq (n := F) (r := u + 1) (by omega) (.inr (by rw [show ((u + 1 : Nat) : Int) - 1 = (u : Int) by omega]; omega)) (by rw [show ((u + 1 : Nat) : Int) = (u : Int) + 1 by omega]; omega)]
    omega
  · rename_i h
    rw [upR_eq (n := F) (r := u) (by omega) (by
      by_cases h0 : u = 0
      · exact .inl h0
      · right
        have e := mono_sq (x := (u : Int) - 1) (y := (u : Int)) (by omega) (by omega)
        have e2 : ((u : Int) - 1) * ((u : Int) - 1) = (u : Int) * (u : Int) - 2 * (u : Int) + 1 := by grind
        omega) (by omega)]
set_option maxHeartbeats 1000000 in
theorem rootC_any (b i : Nat) (s : Int) (W : World) (hi : i ≤ 3000) (hs : W.cell? ⟨b, 0, none⟩ = some (.int .i64 s)) :
    Calls Try.prog 64 (#[.int .i64 (i : Int)] ++ #[.pointer (some ⟨b, 0, none⟩)]) W fun e w' => e = .returned (.bool (decide ((i : Int) * (i : Int) ≥ s))) ∧ ∃ q, w' = W.drewN q := by
  have h2 := mono_sq (x := (i : Int)) (y := 3000) (by omega) (by omega)
  have h1 := sq_nonneg' (i : Int)
  have kq : IntKind.i64.wrap ((i : Int) * (i : Int)) = (i : Int) * (i : Int) := IntWalk.i64_in _ (by omega)
  go_enter Try.func64, Try.ntmps64
  go_wp2
  go_ret
  exact ⟨retB (by simp [ge_iff_le]), 0, rfl⟩
theorem searchR_any (b : Nat) (s : Int) (W : World) (hb : b < W.heap.size) (hs : W.cell? ⟨b, 0, none⟩ = some (.int .i64 s)) :
    Calls Try.prog 63 #[.int .i64 3000, .func (.func 64) #[] #[.pointer (some ⟨b, 0, none⟩)]] W fun e w' => e = .returned (.int .i64 (upR s)) ∧ ∃ q os, w' = grow (W.drewN q) os := by
  have eg : ∀ args w, (callFunc 64 args).run Try.prog w = .ok (.enter 64 args) w := enters_of Try.func64 (by kernel_rfl) rfl
  have hS := Any.sort_Search Try.search 64 #[.pointer (some ⟨b, 0, none⟩)] 3000 (fun i => decide ((i : Int) * (i : Int) ≥ s)) W eg (by omega)
    (fun m os i hi => (rootC_any b i s _ (by omega) (cell_grown hb hs m os)).mono fun _ _ ⟨he, q, hq⟩ => ⟨he, q, #[], by rw [hq, grow_empty]⟩)
    (fun x y hxy hy h => by
      have h' : s ≤ (x : Int) * (x : Int) := by simpa using h
      have := mono_sq (x := (x : Int)) (y := (y : Int)) (by omega) (by omega)
      simp only [ge_iff_le, decide_eq_true_eq]; omega)
  exact hS
set_option maxHeartbeats 1000000 in
theorem rootUp_any (s : Int) (w : World) (h0 : 0 ≤ s) (h1 : s ≤ 9000001) :
    Calls Try.prog 39 #[.int .i64 s] w fun e w' => e = .returned (.int .i64 (upR s)) ∧ Below w.heap.size w w' := by
  have hmf : ∀ (fn : Fn) (first cap : Array Value) (w : World), (Instr.makeFunc fn first cap).run Try.prog w = .ok (.func fn first cap) w := fun _ _ _ _ => rfl
  have hC : (w.alloc (.cells #[.int .i64 s] 2)).cell? ⟨w.heap.size, 0, none⟩ = some (.int .i64 s) := cell_new_sl _ _ _
  have HC := Lib.hid (searchR_any w.heap.size s (w.alloc (.cells #[.int .i64 s] 2)) (by simp) hC)
  obtain ⟨k, hk⟩ : ∃ k : Int, Hid (upR s = k) := ⟨_, Lib.hid rfl⟩
  rw [hk.out]
  go_enter Try.func39, Try.ntmps39
  go_wp2_with fail
  refine HC.out.mono ?_
  rintro e w' ⟨rfl, q, os, rfl⟩
  rw [hk.out]
  go_wp2
  go_ret
  exact ⟨rfl, by
    have h1 := below_grown_sl (w.alloc (.cells #[.int .i64 s] 2)).heap.size _ q os (Nat.le_refl _)
    exact ((Below.refl w.heap.size w).alloc (Nat.le_refl _) _).trans (h1.mono (by simp))⟩
set_option maxRecDepth 100000 in
set_option maxHeartbeats 2000000 in
theorem implLengthBounds_any (v : Value) (ps : List (Int × Int)) (w : World) (hv : PAt w w.heap.size v ps) (hl : ps.length ≤ 1048576) :
    Calls Try.prog 14 #[v] w fun e w' => e = .returned (.tuple #[.int .i64 (lowV ps), .int .i64 (highV ps), .int .i64 (code1 ps)]) ∧ Below w.heap.size w w' := by
  have HV := Lib.hid hv
  obtain ⟨ar, c, rfl, hcl⟩ := hv
  have HCL := Lib.hid hcl
  clear hcl
  cases hok : okC ps with
  | false =>
    rw [show code1 ps = 1 by simp [code1, hok], show lowV ps = 0 by simp [lowV, hok], show highV ps = 0 by simp [highV, hok]]
    go_enter Try.func14, Try.ntmps14
    go_wp2_with (first | (go_at_call 19; refine (implValidChain_any _ ps _ HV.out hl).mono ?_; rw [hok]; rintro e w1 ⟨rfl, hb⟩))
    exact bodyPost_ret (v := .tuple #[.int .i64 0, .int .i64 0, .int .i64 1]) (by simp [results, Try.results14, go_sem]) rfl ⟨rfl, hb⟩
  | true =>
    rw [show code1 ps = 0 by simp [code1, hok], show lowV ps = lowN ps (ps.length - 1) by simp [lowV, hok], show highV ps = highN ps (ps.length - 1) by simp [highV, hok]]
    obtain ⟨q1, q2, q3⟩ := okC_of hok
    have HO := Lib.hid q3
    have SF := Lib.hid (fun k h => sums_facts hok k h)
    clear q3
    have hl2 : (ps.length : Int) ≤ 24 := by omega
    have kl0 : IntKind.i64.wrap ((ps.length : Int) - 1) = (ps.length : Int) - 1 := IntWalk.i64_in _ (by omega)
    go_enter Try.func14, Try.ntmps14
    go_wp2_with (first | (go_at_call 19; refine (implValidChain_any _ ps _ HV.out hl).mono ?_; rw [hok]; rintro e w1 ⟨rfl, hb⟩; have HB1 := Lib.hid hb; clear hb))
    go_loopw [5, 6, 15] (fun a b i wr => ∃ k : Nat, k + 1 ≤ ps.length ∧ i = .int .i64 (k : Int) ∧ a = .int .i64 (lowN ps k) ∧ b = .int .i64 (highN ps k) ∧ Below w.heap.size w wr) (fun _ _ i _ => ps.length - (intOf i).toNat)
    case atStart => exact ⟨0, by omega, rfl, rfl, rfl, HB1.out⟩
    case round =>
      obtain ⟨k, hk, rfl, rfl, rfl, hb⟩ := hrel
      have HB := Lib.hid hb
      have hsz := hb.size
      obtain ⟨s1, s2, s3, s4, s5, s6, s7⟩ := SF.out k (by omega)
      by_cases hlt : k + 1 < ps.length
      · obtain ⟨n, hn⟩ : ∃ n : Nat, Hid (k + 1 = n) := ⟨_, Lib.hid rfl⟩
        obtain ⟨b, off, rfl, hbs, c1, c2⟩ := HCL.out k (by omega)
        obtain ⟨b', off', rb, hbs', d1, d2⟩ := HCL.out n (by have := hn.out; omega)
        simp only [Option.some.injEq, Addr.mk.injEq, and_true] at rb
        obtain ⟨rfl, rfl⟩ := rb
        rw [pat_of (by omega)] at c1 c2
        rw [pat_of (by have := hn.out; omega)] at d1 d2
        have u1 := (hb.cell (p := ⟨b, off + k * 2, none⟩) hbs).trans c1
        have u2 := (hb.cell (p := ⟨b, off + k * 2 + 1, none⟩) hbs).trans c2
        have u3 := (hb.cell (p := ⟨b, off + n * 2, none⟩) hbs).trans d1
        have u4 := (hb.cell (p := ⟨b, off + n * 2 + 1, none⟩) hbs).trans d2
        have hbw : b < wr.heap.size := by omega
        have jn : (k : Int) + 1 = (n : Int) := by have := hn.out; omega
        have jw : (n : Int) - 1 = (k : Int) := by omega
        have jw2 : IntKind.i64.wrap ((k : Int)) = (k : Int) := IntWalk.i64_in _ (by omega)
        have hk0 : 0 ≤ (k : Int) := by omega
        have hk1 : (k : Int) < (ps.length : Int) := by omega
        have hn0 : 0 ≤ (n : Int) := by omega
        have hn1 : (n : Int) < (ps.length : Int) := by omega
        have nw : IntKind.i64.wrap ((n : Int) + 1) = (n : Int) + 1 := IntWalk.i64_in _ (by omega)
        have oka := HO.out k (by omega)
        have okb := HO.out n (by omega)
        have LS := Lib.hid (show lowN ps n = lowN ps k + rootI (farI (pAt ps k) (pAt ps n)) by rw [← hn.out, lowN])
        have HS := Lib.hid (show highN ps n = highN ps k + ceilI (farI (pAt ps k) (pAt ps n)) by rw [← hn.out, highN])
        obtain ⟨f1, f2⟩ := farI_bounds oka okb
        obtain ⟨r1, r2, r3, r4⟩ := root_is f1 (by omega)
        have FR := Lib.hid (fun W w hw => squareBetween_rel (pAt ps k).1 (pAt ps k).2 (pAt ps n).1 (pAt ps n).2 W w hw oka okb)
        have eF : farI ((pAt ps k).1, (pAt ps k).2) ((pAt ps n).1, (pAt ps n).2) = farI (pAt ps k) (pAt ps n) := rfl
        rw [eF] at FR
        generalize farI (pAt ps k) (pAt ps n) = F at FR LS HS f1 f2 r1 r2 r3 r4
        have RD := Lib.hid (fun w => rootUp_any (F + 1) w (by omega) (by omega))
        have RU := Lib.hid (fun w => rootUp_any F w f1 (by omega))
        have ED := Lib.hid (floor_up f1 f2)
        have EU := Lib.hid (ceil_up f1 f2)
        have b1' := upR_le (F + 1)
        have b1 := upR_ge (F + 1)
        have b2' := upR_le F
        have b2 := upR_ge F
        generalize upR (F + 1) = a1 at RD ED b1 b1'
        generalize upR F = a2 at RU EU b2 b2'
        have kF : IntKind.i64.wrap (F + 1) = F + 1 := IntWalk.i64_in _ (by omega)
        have ka : IntKind.i64.wrap (a1 - 1) = a1 - 1 := IntWalk.i64_in _ (by omega)
        generalize lowN ps k = lo at s1 s2 s3 s4 LS
        generalize highN ps k = hi at s3 s4 s5 HS
        have kl : IntKind.i64.wrap (lo + (a1 - 1)) = lo + (a1 - 1) := IntWalk.i64_in _ (by omega)
        have kh : IntKind.i64.wrap (hi + a2) = hi + a2 := IntWalk.i64_in _ (by omega)
        clear eF c1 c2 d1 d2 hb s5 s6 s7 r3 r4 oka okb r1 r2
        have NJ := Lib.hid jn
        clear jn
        generalize (pAt ps k).1 = x1 at u1 FR
        generalize (pAt ps k).2 = x2 at u2 FR
        generalize (pAt ps n).1 = y1 at u3 FR
        generalize (pAt ps n).2 = y2 at u4 FR
        have hlt2 : (k : Int) < (ps.length : Int) - 1 := by omega
        have ws : IntKind.i64.wrap ((k : Int) + 1) = (n : Int) := by rw [NJ.out]; exact IntWalk.i64_in _ (by omega)
        go_wp2_with fail
        go_region_held3 (fun W => W.cell? ⟨b, off + k * 2, none⟩ = some (.int .i64 x1) ∧ W.cell? ⟨b, off + k * 2 + 1, none⟩ = some (.int .i64 x2) ∧ W.cell? ⟨b, off + n * 2, none⟩ = some (.int .i64 y1) ∧ W.cell? ⟨b, off + n * 2 + 1, none⟩ = some (.int .i64 y2)) (first | exact ⟨u1, u2, u3, u4⟩ | exact ⟨n1, n2, n3, n4⟩ | (simp [go_sem]; first | exact ⟨u1, u2, u3, u4⟩ | exact ⟨n1, n2, n3, n4⟩)) (first | (go_at_call 38; refine (FR.out wr _ (by repeat (first | assumption | exact Below.refl _ _ | refine Below.drew ?_ | refine bdP ?_ _))).mono ?_; rintro e w2 ⟨rfl, hb2⟩; have n1 := (hb2.cell (p := ⟨b, off + k * 2, none⟩) hbw).trans u1; have n2 := (hb2.cell (p := ⟨b, off + k * 2 + 1, none⟩) hbw).trans u2; have n3 := (hb2.cell (p := ⟨b, off + n * 2, none⟩) hbw).trans u3; have n4 := (hb2.cell (p := ⟨b, off + n * 2 + 1, none⟩) hbw).trans u4))
        all_goals
          have HB2 := Lib.hid (show Below w.heap.size w w2 from HB.out.trans (hb2.mono hsz))
          clear hb2 n1 n2 n3 n4
          have HB3 := Lib.hid (bdP HB2.out 0)
          go_wp2_with fail
          refine (RD.out _).mono ?_
          rintro e w3 ⟨rfl, hb3⟩
          have HB4 := Lib.hid (show Below w.heap.size w w3 from (by first | exact (show Below w.heap.size w _ from HB2.out).trans (hb3.mono HB2.out.size) | exact (bdP HB2.out _).trans (hb3.mono (bdP HB2.out _).size) | exact (bdrew HB2.out).trans (hb3.mono (bdrew HB2.out).size)))
          clear hb3
          go_wp2_with fail
          refine (RU.out _).mono ?_
          rintro e w4 ⟨rfl, hb4⟩
          have HB5 := Lib.hid (show Below w.heap.size w w4 from HB4.out.trans (hb4.mono HB4.out.size))
          clear hb4
          go_wp2
          go_roundw
          case rel => exact ⟨n, by omega, by first | rfl | (rw [NJ.out]), by rw [LS.out, ED.out], by rw [HS.out, EU.out], HB5.out⟩
          case measure => simp [intOf]; omega
      · have hge : ¬ ((k : Int) < (ps.length : Int) - 1) := by omega
        have ek : k = ps.length - 1 := by omega
        have EL := Lib.hid (show lowN ps k = lowN ps (ps.length - 1) by rw [ek])
        have EH := Lib.hid (show highN ps k = highN ps (ps.length - 1) by rw [ek])
        clear ek hb s1 s2 s3 s4 s5 s6 s7
        go_wp2
        exact bodyPost_ret (v := .tuple #[.int .i64 (lowN ps k), .int .i64 (highN ps k), .int .i64 0]) (by simp [results, Try.results14, go_sem]) rfl ⟨ret3 EL.out EH.out rfl, HB.out⟩
end Go.Proofs.Ytomnijoccnifpaa.sines
