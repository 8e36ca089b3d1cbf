/- The model's picked points: contracts. -/
import Derived.Test.YtemhmejjmhbfdaaChainS6
namespace Go.Proofs.Ytemhmejjmhbfdaa.sines
open Go.ChangeShapes Go.WideShapes Go.ChangeAt Go.RowKit Go.Proofs.Ytemhmejjmhbfdaa.spots Go.Proofs.Ytemhmejjmhbfdaa.irows Go.Proofs.Ytemhmejjmhbfdaa.pairsPlace
set_option linter.unusedSimpArgs false
set_option linter.unusedVariables false

theorem irow_read {w : World} {B : Nat} {v : Value} {zs : List Int} (h : IRow w B v zs) : ∃ a c, v = .slice a zs.length c ∧ ∀ k, k < zs.length → ∃ g, a = some ⟨g, 0, none⟩ ∧ g < w.heap.size ∧ w.cell? ⟨g, k, none⟩ = some (.int .i64 (zAt zs k)) := by
  obtain ⟨⟨a, c, rfl⟩, _⟩ := irow_shape h
  refine ⟨a, c, rfl, fun k hk => ?_⟩
  obtain ⟨g, e, _, hc⟩ := irow_at h k hk
  exact ⟨g, e, World.block_lt_of_cell? _ _ hc, by rw [zAt_eq hk]; exact hc⟩
theorem l00In_eq {n a b : Int} {c : Bool} (w : World) (h : inB n a b = c) : Calls Try.prog 88 #[.int .i64 n, .int .i64 a, .int .i64 b] w fun e w' => e = .returned (.bool c) ∧ w' = w := by
  subst h
  exact (l00In_any n a b w).mono fun _ _ h => ⟨h.1, h.2.symm⟩
set_option maxRecDepth 100000 in
set_option maxHeartbeats 2000000 in
theorem l00Rises_any (v : Value) (B : Nat) (zs : List Int) (lo hi : Int) (w : World) (hv : IRow w B v zs) (hl : zs.length ≤ 1048576) :
    Calls Try.prog 148 #[v, .int .i64 lo, .int .i64 hi] w fun e w' => e = .returned (.bool (risesB zs lo hi)) ∧ Below w.heap.size w w' := by
  obtain ⟨ar, c, rfl, hcl⟩ := irow_read hv
  have HCL := Lib.hid hcl
  clear hcl hv
  have hl2 : (zs.length : Int) ≤ 1048576 := by omega
  obtain ⟨R, hR⟩ : ∃ R, Hid (risesB zs lo hi = R) := ⟨_, Lib.hid rfl⟩
  rw [hR.out]
  go_enter Try.func148, Try.ntmps148
  go_wp2
  go_loopw [7] (fun i wr => ∃ k q : Nat, k ≤ zs.length ∧ i = .int .i64 (k : Int) ∧ (∀ j, j < k → inB (zAt zs j) lo hi = true ∧ (0 < j → zAt zs (j - 1) < zAt zs j)) ∧ wr = w.drewN q) (fun i _ => zs.length - (intOf i).toNat)
  case atStart => exact ⟨0, 0, Nat.zero_le _, rfl, fun j h => by omega, rfl⟩
  case round =>
    obtain ⟨k, q, hk, rfl, ha, rfl⟩ := hrel
    have HA := Lib.hid ha
    clear ha
    by_cases hlt : k < zs.length
    · obtain ⟨g, rfl, hg, c1⟩ := HCL.out k hlt
      have hk0 : 0 ≤ (k : Int) := by omega
      have hk1 : (k : Int) < (zs.length : Int) := by omega
      have NO := Lib.hid (fun h => by rw [← hR.out]; exact risesB_no hlt h : ¬ (inB (zAt zs k) lo hi = true ∧ (0 < k → zAt zs (k - 1) < zAt zs k)) → R = false)
      have YES := Lib.hid (show (inB (zAt zs k) lo hi = true ∧ (0 < k → zAt zs (k - 1) < zAt zs k)) → ∀ j, j < k + 1 → inB (zAt zs j) lo hi = true ∧ (0 < j → zAt zs (j - 1) < zAt zs j) from fun h j hj => by
        by_cases e : j = k
        · subst e; exact h
        · exact HA.out j (by omega))
      by_cases h0 : k = 0
      · subst h0
        generalize zAt zs 0 = x at c1 NO YES
        have hz : ¬ 0 < (0 : Int) := by omega
        cases h1 : inB x lo hi with
        | false =>
          obtain rfl := NO.out (by simp [h1])
          go_wp2_with fail
          go_quiet ((go_at_call 88; exact (l00In_eq _ h1).mono fun _ _ h => ⟨h.1, _, h.2⟩))
          all_goals
            go_wp2
            go_ret
            exact ⟨rfl, by repeat (first | exact Below.refl _ _ | refine Below.drew ?_ | refine bdP ?_ _)⟩
        | true =>
          have Y := Lib.hid (YES.out ⟨h1, fun h => by omega⟩)
          go_wp2_with fail
          go_quiet ((go_at_call 88; exact (l00In_eq _ h1).mono fun _ _ h => ⟨h.1, _, h.2⟩))
          all_goals
            go_wp2
            go_roundw
            case rel => exact ⟨1, _, by omega, by go_num, Y.out, by first | rfl | exact (World.drew_drewN _ _).symm⟩
            case measure => simp [intOf]; omega
      · obtain ⟨j, rfl⟩ : ∃ j, k = j + 1 := ⟨k - 1, by omega⟩
        obtain ⟨g', eg, _, c2⟩ := HCL.out j (by omega)
        simp only [Option.some.injEq, Addr.mk.injEq, and_true] at eg
        subst eg
        have hj0 : 0 ≤ (j : Int) := by omega
        have hj1 : (j : Int) < (zs.length : Int) := by omega
        have kj : IntKind.i64.wrap (j : Int) = (j : Int) := IntWalk.i64_in _ (by omega)
        rw [Nat.add_sub_cancel] at NO YES
        obtain ⟨k', hk'⟩ : ∃ k', Hid (j + 1 = k') := ⟨_, Lib.hid rfl⟩
        have e1 : (k' : Int) - 1 = (j : Int) := by have := hk'.out; omega
        have e2 : 0 < (k' : Int) := by have := hk'.out; omega
        have e3 : 0 < k' := by have := hk'.out; omega
        rw [hk'.out] at c1 NO YES hk0 hk1 hlt ⊢
        generalize zAt zs k' = x at c1 NO YES
        generalize zAt zs j = y at c2 NO YES
        have hl' : k' < zs.length := hlt
        cases h1 : inB x lo hi with
        | false =>
          obtain rfl := NO.out (by simp [h1])
          go_wp2_with fail
          go_quiet ((go_at_call 88; exact (l00In_eq _ h1).mono fun _ _ h => ⟨h.1, _, h.2⟩))
          all_goals
            go_wp2
            go_ret
            exact ⟨rfl, by repeat (first | exact Below.refl _ _ | refine Below.drew ?_ | refine bdP ?_ _)⟩
        | true =>
          by_cases h2 : y < x
          · have Y := Lib.hid (YES.out ⟨h1, fun _ => h2⟩)
            have h3 : decide (x ≤ y) = false := by simpa using h2
            go_wp2_with fail
            go_quiet ((go_at_call 88; exact (l00In_eq _ h1).mono fun _ _ h => ⟨h.1, _, h.2⟩))
            all_goals
              go_wp2
              go_roundw
              case rel => exact ⟨k' + 1, _, by omega, by go_num, Y.out, by first | rfl | exact (World.drew_drewN _ _).symm⟩
              case measure => simp [intOf]; omega
          · obtain rfl := NO.out (fun h => h2 (h.2 e3))
            have h3 : x ≤ y := by omega
            go_wp2_with fail
            go_quiet ((go_at_call 88; exact (l00In_eq _ h1).mono fun _ _ h => ⟨h.1, _, h.2⟩))
            all_goals
              go_wp2
              go_ret
              exact ⟨rfl, by repeat (first | exact Below.refl _ _ | refine Below.drew ?_ | refine bdP ?_ _)⟩
    · obtain rfl : k = zs.length := by omega
      have RT : R = true := by rw [← hR.out]; exact risesB_iff.2 HA.out
      subst RT
      go_wp2
      go_ret
      exact ⟨rfl, bdP (Below.refl _ _) _⟩
def codeP (ps : List Pl) (zs : List Int) : Int := if okC ps = true then (if 2 ≤ zs.length ∧ risesB zs 0 ((ps.length : Int) - 1) = true then 0 else 2) else 1
def pickV (ps : List Pl) (zs : List Int) : List Pl := if codeP ps zs = 0 then pickL ps zs else []
set_option maxRecDepth 100000 in
set_option maxHeartbeats 4000000 in
theorem specPickPoints_any (v u : Value) (B : Nat) (ps : List (Int × Int)) (zs : List Int) (w : World) (hv : PAt w w.heap.size v ps) (hu : IRow w B u zs) (hl : ps.length ≤ 1048576) (hm : zs.length ≤ 1048576) :
    Calls Try.prog 63 #[v, u] w fun e w' => ∃ r, e = .returned (.tuple #[r, .int .i64 (codeP ps zs)]) ∧ PRow w' w.heap.size r (pickV ps zs) ∧ Below w.heap.size w w' := by
  obtain ⟨i0, hi, hz0, hz1, hz2⟩ := info_parts info_pair
  have HV := Lib.hid hv
  have HU := Lib.hid hu
  obtain ⟨ar, c, rfl, hcl⟩ := hv
  have HCL := Lib.hid hcl
  obtain ⟨ur, uc, rfl, hdl⟩ := irow_read hu
  have HDL := Lib.hid hdl
  clear hcl hdl
  have hm2 : (zs.length : Int) ≤ 1048576 := by omega
  have hl2 : (ps.length : Int) ≤ 1048576 := by omega
  have kl : IntKind.i64.wrap ((ps.length : Int) - 1) = (ps.length : Int) - 1 := IntWalk.i64_in _ (by omega)
  cases hok : okC ps with
  | false =>
    have e1 : codeP ps zs = 1 := by simp [codeP, hok]
    rw [show pickV ps zs = [] by simp [pickV, e1], e1]
    go_enter Try.func63, Try.ntmps63
    go_wp2_with (first | (go_at_call 131; refine (l07Ok_any _ ps _ HV.out hl).mono ?_; rw [hok]; rintro e w1 ⟨rfl, hb⟩))
    exact bodyPost_ret (v := .tuple #[.slice none 0 0, .int .i64 1]) (by simp [results, Try.results63, go_sem]) rfl ⟨_, rfl, prow_nil _ _, hb⟩
  | true =>
    by_cases h2 : zs.length < 2
    · have e1 : codeP ps zs = 2 := by simp [codeP, hok]; omega
      rw [show pickV ps zs = [] by simp [pickV, e1], e1]
      have h2i : (zs.length : Int) < 2 := by omega
      go_enter Try.func63, Try.ntmps63
      go_wp2_with (first | (go_at_call 131; refine (l07Ok_any _ ps _ HV.out hl).mono ?_; rw [hok]; rintro e w1 ⟨rfl, hb⟩))
      exact bodyPost_ret (v := .tuple #[.slice none 0 0, .int .i64 2]) (by simp [results, Try.results63, go_sem]) rfl ⟨_, rfl, prow_nil _ _, hb⟩
    · have h2i : ¬ (zs.length : Int) < 2 := by omega
      cases hr : risesB zs 0 ((ps.length : Int) - 1) with
      | false =>
        have e1 : codeP ps zs = 2 := by simp [codeP, hok, hr]
        rw [show pickV ps zs = [] by simp [pickV, e1], e1]
        go_enter Try.func63, Try.ntmps63
        go_wp2_with (first | (go_at_call 131; refine (l07Ok_any _ ps _ HV.out hl).mono ?_; rw [hok]; rintro e w1 ⟨rfl, hb⟩; have HB := Lib.hid hb; have hsz := hb.size) | (go_at_call 148; refine (l00Rises_any _ B zs _ _ _ (irow_keep HU.out hb) hm).mono ?_; rw [hr]; rintro e w2 ⟨rfl, hb2⟩; have HB2 := Lib.hid (HB.out.trans (hb2.mono hsz))))
        exact bodyPost_ret (v := .tuple #[.slice none 0 0, .int .i64 2]) (by simp [results, Try.results63, go_sem]) rfl ⟨_, rfl, prow_nil _ _, HB2.out⟩
      | true =>
        have e1 : codeP ps zs = 0 := by simp [codeP, hok, hr]; omega
        rw [show pickV ps zs = pickL ps zs by simp [pickV, e1], e1]
        obtain ⟨q1, q2, _⟩ := okC_of hok
        have RI := Lib.hid (fun i h => inB_of (risesB_iff.1 hr i h).1)
        have PT := Lib.hid (fun k (h : k < zs.length) => pickL_take (ps := ps) h)
        have PL := Lib.hid (fun k => pickL_len ps (zs.take k))
        go_enter Try.func63, Try.ntmps63
        go_wp2_with (first | (go_at_call 131; refine (l07Ok_any _ ps _ HV.out hl).mono ?_; rw [hok]; rintro e w1 ⟨rfl, hb⟩; have HB := Lib.hid hb; have hsz := hb.size) | (go_at_call 148; refine (l00Rises_any _ B zs _ _ _ (irow_keep HU.out hb) hm).mono ?_; rw [hr]; rintro e w2 ⟨rfl, hb2⟩; have HB2 := Lib.hid (HB.out.trans (hb2.mono hsz)); have hsz2 := HB2.out.size; clear hb2))
        go_loopw [6, 7] (fun x i wr => ∃ k : Nat, k ≤ zs.length ∧ i = .int .i64 (k : Int) ∧ PRow wr w.heap.size x (pickL ps (zs.take k)) ∧ Below w.heap.size w wr) (fun _ i _ => zs.length - (intOf i).toNat)
        case atStart => exact ⟨0, Nat.zero_le _, rfl, prow_made w2 _ hsz2, HB2.out.alloc hsz2 _⟩
        case round =>
          obtain ⟨k, hk, rfl, hx, hbb⟩ := hrel
          have HX := Lib.hid hx
          have HB3 := Lib.hid hbb
          have hsz3 := hbb.size
          by_cases hlt : k < zs.length
          · obtain ⟨g, rfl, hg, c1⟩ := HDL.out k hlt
            obtain ⟨z0, z1⟩ := RI.out k hlt
            have PS := Lib.hid (PT.out k hlt)
            have PN := Lib.hid (PL.out k)
            obtain ⟨z, hz⟩ : ∃ z : Nat, Hid ((zAt zs k).toNat = z) := ⟨_, Lib.hid rfl⟩
            have ez : zAt zs k = (z : Int) := by have := hz.out; omega
            rw [ez] at c1 z0 z1
            rw [hz.out] at PS
            obtain ⟨b, off, rfl, hbs, d1, d2⟩ := HCL.out z (by omega)
            rw [pat_of (by omega)] at d1 d2
            have u0 := (hbb.cell (p := ⟨g, k, none⟩) hg).trans c1
            have u1 := (hbb.cell (p := ⟨b, off + z * 2, none⟩) hbs).trans d1
            have u2 := (hbb.cell (p := ⟨b, off + z * 2 + 1, none⟩) hbs).trans d2
            have hk0 : 0 ≤ (k : Int) := by omega
            have hk1 : (k : Int) < (zs.length : Int) := by omega
            have hz3 : (z : Int) < (ps.length : Int) := by omega
            obtain ⟨qs, hqs⟩ : ∃ qs, Hid (pickL ps (zs.take k) = qs) := ⟨_, Lib.hid rfl⟩
            rw [hqs.out] at HX PS PN
            have ql : qs.length ≤ 1048576 := by rw [PN.out]; simp; omega
            clear hx hbb c1 d1 d2 ez
            generalize (pAt ps z).1 = x1 at u1 PS
            generalize (pAt ps z).2 = x2 at u2 PS
            go_wp2_with (at_builtin; refine wpList_append_own _ rfl _ _ 52 rfl w.heap.size 60 i0 (.agg #[.int .i64 0, .int .i64 0]) 2 16 Try.underlying52 hi hz0 hz1 hz2 rfl (by decide) _ qs.length _ rfl (HX.out.alloc _) ⟨wr.heap.size, 0, none⟩ 1 1 [.int .i64 x1, .int .i64 x2] rfl rfl (newPl _ _ _ _ (by first | rfl | simp)) (cellPl _ _) (by unfold maxLen; omega) (by omega) (by simp; omega) ?_; intro v4 w4 hown4 hg4 _)
            go_roundw
            case rel => exact ⟨k + 1, by omega, by go_num, by rw [PS.out]; exact snocPl hown4, (HB3.out.alloc hsz3 _).grown hg4 (by simp; omega) (fun j hj => (HX.out.lt j hj).1)⟩
            case measure => simp [intOf]; omega
          · obtain rfl : k = zs.length := by omega
            have HE := Lib.hid (show PRow wr w.heap.size u6 (pickL ps zs) by have := hx; rwa [List.take_length] at this)
            clear hx hbb
            go_wp2
            exact bodyPost_ret (v := .tuple #[u6, .int .i64 0]) (by simp [results, Try.results63, go_sem]) rfl ⟨_, rfl, HE.out, HB3.out⟩
end Go.Proofs.Ytemhmejjmhbfdaa.sines
