/- The model's labels and places: faults, weights, what is left out, filled rows: contracts. -/
import Derived.Test.YtmfjpmimkpldjaaLabS3
import Derived.Maps.AppendAt
namespace Go.Proofs.Ytmfjpmimkpldjaa.ltab
open Go.ChangeShapes Go.WideShapes Go.ChangeAt Go.RowKit Go.Proofs.Ytmfjpmimkpldjaa.irows Go.Proofs.Ytmfjpmimkpldjaa.sines
set_option linter.unusedSimpArgs false
set_option linter.unusedVariables false

theorem dq9 {w w' : World} {n x q : Nat} (h : w' = (w.drewN (n + x)).drewN q) : ∃ m, w' = w.drewN (n + m) := ⟨x + q, by rw [h, World.drewN_drewN, Nat.add_assoc]⟩
theorem newL (w : World) (s : Int) (n : Nat) (h : w.heap.size = n) : ∀ j u, ([.int .i64 s] : List Value)[j]? = some u → (w.alloc (.cells #[.int .i64 s] 2)).cell? ((⟨n, 0, none⟩ : Addr).add j) = some u := by
  subst h
  intro j u hj
  match j, hj with
  | 0, hj => simp at hj; subst hj; simp [Addr.add]
theorem cellL (s : Int) : ∀ u ∈ ([.int .i64 s] : List Value), u.oneCell' = true := fun u hu => by simp at hu; subst hu; rfl
theorem snocL {w : World} {B : Nat} {v : Value} {o : List Int} {x : Int} (h : w.ownsRow B 2 1 v (o.length + 1) (ints o ++ [.int .i64 x])) : IRow w B v (o ++ [x]) := by
  unfold IRow
  rw [List.length_append, show [x].length = 1 from rfl, show ints (o ++ [x]) = ints o ++ [.int .i64 x] by simp [ints]]
  exact h
theorem irow_madeL (w : World) (B : Nat) (h : B ≤ w.heap.size) : IRow (w.alloc (.cells #[] 2)) B (.slice (some ⟨w.heap.size, 0, none⟩) 0 0) [] := World.ownsRow_made w #[] 0 h (by decide) rfl
/-- The start of a placed label, as it is read. -/
theorem start_at {w : World} {B : Nat} {v : Value} {ps : List Lb} {zs : List Int} {k : Nat} {b o : Nat} (hc : LCell w B b o (lbAt ps k)) (n : Nat) (hz : zAt zs k = (n : Int)) (hn : n < (lbAt ps k).2.2.1.length) :
    ∃ bs os cs, w.cell? ⟨b, o + 2, none⟩ = some (.slice (some ⟨bs, os, none⟩) (lbAt ps k).2.2.1.length cs) ∧ bs < B ∧ w.cell? ⟨bs, os + n, none⟩ = some (.int .i64 (sAt ps zs k)) := by
  obtain ⟨x, _, _, c3, _, ⟨a, c, rfl, hx⟩, _⟩ := hc
  obtain ⟨b2, off2, rfl, h1, h2⟩ := hx n hn
  exact ⟨b2, off2, c, c3, h1, by rw [h2, sAt, hz]; simp⟩
set_option maxRecDepth 100000 in
set_option maxHeartbeats 2000000 in
theorem l11Free_any (v u : Value) (ps : List Lb) (zs : List Int) (k : Nat) (s : Int) (w : World) (hv : LAt w w.heap.size v ps) (hu : IAt w w.heap.size u zs) (hk : k < ps.length) (hp : ps.length ≤ 8) (hzl : k ≤ zs.length) (hzm : zs.length ≤ 1048576)
    (hf : ∀ i, i < ps.length → oneL (lbAt ps i) = true) (hg : ∀ i, i < k → zAt zs i < ((lbAt ps i).2.2.1.length : Int)) (s0 : 0 ≤ s) (s1 : s ≤ 1000) :
    Calls Try.prog 139 #[v, u, .int .i64 (k : Int), .int .i64 s] w fun e w' => e = .returned (.bool (freeK ps zs k s)) ∧ ∃ q, w' = w.drewN q := by
  obtain ⟨a, c, rfl, hcl⟩ := lat_k hv
  have HCL := Lib.hid hcl
  obtain ⟨au, cu, rfl, hcu⟩ := hu
  have HCU := Lib.hid hcu
  have HF := Lib.hid hf
  have HG := Lib.hid hg
  obtain ⟨bk, ok, ea, hbk, hck⟩ := hcl k hk
  have HCK := Lib.hid hck
  subst ea
  clear hcl hcu hf hg hv hck
  have hk2 : (k : Int) ≤ 8 := by omega
  have hkp : (k : Int) < (ps.length : Int) := by omega
  have hk00 : 0 ≤ (k : Int) := by omega
  obtain ⟨R, hR⟩ : ∃ R, Hid (freeK ps zs k s = R) := ⟨_, Lib.hid rfl⟩
  rw [hR.out]
  have NO := Lib.hid (show ∀ i, i < k → (onB zs i && meetL (lbAt ps i) (lbAt ps k) (sAt ps zs i) s) = true → R = false from fun i hi h => by
    rw [← hR.out]
    cases e : freeK ps zs k s with
    | false => rfl
    | true =>
      simp only [freeK, List.all_eq_true, List.mem_range] at e
      have := e i hi
      rw [h] at this
      cases this)
  have YES := Lib.hid (show (∀ j, j < k → (onB zs j && meetL (lbAt ps j) (lbAt ps k) (sAt ps zs j) s) = false) → R = true from fun h => by
    rw [← hR.out]
    simp only [freeK, List.all_eq_true, List.mem_range]
    intro i hi
    rw [h i hi]; rfl)
  go_enter Try.func139, Try.ntmps139
  go_wp2
  go_loopw [9] (fun i wr => ∃ j n : Nat, j ≤ k ∧ i = .int .i64 (j : Int) ∧ (∀ j', j' < j → (onB zs j' && meetL (lbAt ps j') (lbAt ps k) (sAt ps zs j') s) = false) ∧ wr = w.drewN n) (fun i _ => k - (intOf i).toNat)
  case atStart => exact ⟨0, 0, Nat.zero_le _, rfl, fun j h => by omega, rfl⟩
  case round =>
    obtain ⟨j, n, hj, rfl, ha, rfl⟩ := hrel
    have HA := Lib.hid ha
    clear ha
    by_cases hlt : j < k
    · have hj0 : 0 ≤ (j : Int) := by omega
      have hj1 : (j : Int) < (k : Int) := by omega
      have hj2 : (j : Int) < (ps.length : Int) := by omega
      have hj3 : (j : Int) < (zs.length : Int) := by omega
      obtain ⟨b2, off2, rfl, hbs2, d1⟩ := HCU.out j (by omega)
      have N := Lib.hid (NO.out j hlt)
      have Y := Lib.hid (show (onB zs j && meetL (lbAt ps j) (lbAt ps k) (sAt ps zs j) s) = false → ∀ j', j' < j + 1 → (onB zs j' && meetL (lbAt ps j') (lbAt ps k) (sAt ps zs j') s) = false from fun h j' hj' => by
        by_cases e : j' = j
        · subst e; exact h
        · exact HA.out j' (by omega))
      by_cases hon : 0 ≤ zAt zs j
      · obtain ⟨m, hm⟩ : ∃ m : Nat, zAt zs j = (m : Int) := ⟨(zAt zs j).toNat, by omega⟩
        have hmL := HG.out j hlt
        rw [hm] at hmL d1
        obtain ⟨bj, oj, ea, hbj, hcj⟩ := HCL.out j (by omega)
        cases ea
        obtain ⟨bs, os, cs, t2, hbs, t3⟩ := start_at (v := .bool true) (zs := zs) hcj m hm (by omega)
        have F1 := oneL_facts (HF.out j (by omega))
        have F2 := oneL_facts (HF.out k hk)
        have SB : 0 ≤ sAt ps zs j ∧ sAt ps zs j ≤ 1000 := by
          have := F1.2.2.2.2 m (by omega)
          rw [sAt, hm]; simpa using this
        have MT := Lib.hid (fun q => l11Meet_any bk (ok + j * 4) bk (ok + k * 4) (lbAt ps j) (lbAt ps k) (sAt ps zs j) s (w.drewN q) (lcell_keep hcj (below_drawn w q) hbj) (lcell_keep HCK.out (below_drawn w q) hbk) SB.1 SB.2 s0 s1 F1.2.2.1.1 F1.2.2.1.2 F2.2.2.1.1 F2.2.2.1.2)
        have hob : onB zs j = true := by simp [onB, hm]
        rw [hob, Bool.true_and] at N Y
        have m0 : 0 ≤ (m : Int) := by omega
        generalize meetL (lbAt ps j) (lbAt ps k) (sAt ps zs j) s = g at N Y MT
        generalize sAt ps zs j = x at t3 MT
        generalize (lbAt ps j).2.2.1.length = L at t2 hmL
        clear hon hm hob F1 F2 SB hcj
        cases g with
        | true =>
          obtain rfl := N.out rfl
          go_wp2_with fail
          go_quiet ((go_at_call 109; exact (MT.out _).mono fun _ _ ⟨h1, q, h2⟩ => ⟨h1, dq9 h2⟩))
          all_goals
            go_wp2
            go_ret
            exact ⟨rfl, by first | exact ⟨_, rfl⟩ | exact ⟨_, World.drewN_drewN _ _ _⟩ | exact ⟨_, (World.drew_drewN _ _).symm⟩⟩
        | false =>
          have Y2 := Lib.hid (Y.out rfl)
          go_wp2_with fail
          go_quiet ((go_at_call 109; exact (MT.out _).mono fun _ _ ⟨h1, q, h2⟩ => ⟨h1, dq9 h2⟩))
          all_goals
            go_wp2
            go_roundw
            case rel => exact ⟨j + 1, _, by omega, by go_num, Y2.out, by first | rfl | exact World.drewN_drewN _ _ _ | exact (World.drew_drewN _ _).symm⟩
            case measure => simp [intOf]; omega
      · have hob : onB zs j = false := by simpa [onB] using hon
        rw [hob, Bool.false_and] at N Y
        have Y2 := Lib.hid (Y.out rfl)
        have hd : decide (0 ≤ zAt zs j) = false := by simpa using hon
        generalize zAt zs j = z at d1 hon hd
        clear hob
        go_wp2_with fail
        go_quiet (fail)
        all_goals
          go_wp2
          go_roundw
          case rel => exact ⟨j + 1, _, by omega, by go_num, Y2.out, by first | rfl | exact World.drewN_drewN _ _ _ | exact (World.drew_drewN _ _).symm⟩
          case measure => simp [intOf]; omega
    · obtain rfl : j = k := by omega
      obtain rfl := YES.out HA.out
      go_wp2
      go_ret
      exact ⟨rfl, n, rfl⟩
set_option maxRecDepth 100000 in
set_option maxHeartbeats 2000000 in
theorem l11Fault_any (v u : Value) (ps : List Lb) (zs : List Int) (w : World) (hv : LAt w w.heap.size v ps) (hu : IAt w w.heap.size u zs) (h1 : okL ps = true) (h2 : placesOk ps zs = true) :
    Calls Try.prog 111 #[v, u] w fun e w' => e = .returned (.int .i64 (faultK ps zs)) ∧ ∃ q, w' = w.drewN q := by
  obtain ⟨hp, hzl, hf⟩ := places_facts h1 h2
  have HV := Lib.hid hv
  have HU := Lib.hid hu
  obtain ⟨a, c, rfl, hcl⟩ := lat_k hv
  have HCL := Lib.hid hcl
  obtain ⟨au, cu, rfl, hcu⟩ := hu
  have HCU := Lib.hid hcu
  have HF := Lib.hid hf
  rw [hzl] at HCU
  clear hcl hcu hf hv
  have hk2 : (ps.length : Int) ≤ 8 := by omega
  obtain ⟨R, hR⟩ : ∃ R, Hid (faultK ps zs = R) := ⟨_, Lib.hid rfl⟩
  rw [hR.out]
  have NO := Lib.hid (show ∀ i, i < ps.length → (∀ j, j < i → badK ps zs j = false) → badK ps zs i = true → (i : Int) = R from fun i hi h1 h2 => by rw [← hR.out]; exact (faultK_at hi h2 h1).symm)
  have YES := Lib.hid (show (∀ j, j < ps.length → badK ps zs j = false) → R = -1 from fun h => by rw [← hR.out]; exact faultK_none h)
  have HZL := Lib.hid hzl
  rw [hzl] at HU ⊢
  clear hzl
  go_enter Try.func111, Try.ntmps111
  go_wp2
  go_loopw [5] (fun i wr => ∃ k n : Nat, k ≤ ps.length ∧ i = .int .i64 (k : Int) ∧ (∀ j, j < k → badK ps zs j = false) ∧ wr = w.drewN n) (fun i _ => ps.length - (intOf i).toNat)
  case atStart => exact ⟨0, 0, Nat.zero_le _, rfl, fun j h => by omega, rfl⟩
  case round =>
    obtain ⟨k, n, hk, rfl, ha, rfl⟩ := hrel
    have HA := Lib.hid ha
    clear ha
    by_cases hlt : k < ps.length
    · have hk0 : 0 ≤ (k : Int) := by omega
      have hk1 : (k : Int) < (ps.length : Int) := by omega
      obtain ⟨b2, off2, rfl, hbs2, d1⟩ := HCU.out k hlt
      obtain ⟨b, off, rfl, hbs, hck⟩ := HCL.out k hlt
      have N := Lib.hid (NO.out k hlt HA.out)
      have Y := Lib.hid (show badK ps zs k = false → ∀ j, j < k + 1 → badK ps zs j = false from fun h j hj => by
        by_cases e : j = k
        · subst e; exact h
        · exact HA.out j (by omega))
      obtain ⟨hone, hz0, hz1⟩ := HF.out k hlt
      have EB := Lib.hid (show badK ps zs k = (onB zs k && !freeK ps zs k (sAt ps zs k)) from rfl)
      by_cases hon : 0 ≤ zAt zs k
      · obtain ⟨m, hm⟩ : ∃ m : Nat, zAt zs k = (m : Int) := ⟨(zAt zs k).toNat, by omega⟩
        rw [hm] at hz1 d1
        obtain ⟨bs, os, cs, t2, hbs3, t3⟩ := start_at (v := .bool true) (zs := zs) hck m hm (by omega)
        have F1 := oneL_facts hone
        have SB : 0 ≤ sAt ps zs k ∧ sAt ps zs k ≤ 1000 := by
          have := F1.2.2.2.2 m (by omega)
          rw [sAt, hm]; simpa using this
        have FR := Lib.hid (fun q => l11Free_any (.slice (some ⟨b, off, none⟩) ps.length c) (.slice (some ⟨b2, off2, none⟩) ps.length cu) ps zs k (sAt ps zs k) (w.drewN q) (lat_keep HV.out (below_drawn w q)) (iat_keep HU.out (below_drawn w q)) hlt hp (by have := HZL.out; omega) (by have := HZL.out; omega) (fun i hi => (HF.out i hi).1) (fun i hi => (HF.out i (by omega)).2.2) SB.1 SB.2)
        have hob : onB zs k = true := by simp [onB, hm]
        rw [hob, Bool.true_and] at EB
        rw [EB.out] at N Y
        have m0 : 0 ≤ (m : Int) := by omega
        generalize freeK ps zs k (sAt ps zs k) = g at N Y FR
        generalize sAt ps zs k = x at t3 FR
        generalize (lbAt ps k).2.2.1.length = L at t2 hz1
        clear hon hm hob F1 SB hck EB hone
        cases g with
        | false =>
          have RR := Lib.hid (N.out rfl)
          go_wp2_with fail
          go_quiet ((go_at_call 139; exact (FR.out _).mono fun _ _ ⟨h1, q, h2⟩ => ⟨h1, dq9 h2⟩))
          all_goals
            go_wp2
            go_ret
            exact ⟨retIL RR.out, by first | exact ⟨_, rfl⟩ | exact ⟨_, World.drewN_drewN _ _ _⟩ | exact ⟨_, (World.drew_drewN _ _).symm⟩⟩
        | true =>
          have Y2 := Lib.hid (Y.out rfl)
          go_wp2_with fail
          go_quiet ((go_at_call 139; exact (FR.out _).mono fun _ _ ⟨h1, q, h2⟩ => ⟨h1, dq9 h2⟩))
          all_goals
            go_wp2
            go_roundw
            case rel => exact ⟨k + 1, _, by omega, by go_num, Y2.out, by first | rfl | exact World.drewN_drewN _ _ _ | exact (World.drew_drewN _ _).symm⟩
            case measure => simp [intOf]; omega
      · have hob : onB zs k = false := by simpa [onB] using hon
        rw [hob, Bool.false_and] at EB
        rw [EB.out] at Y
        have Y2 := Lib.hid (Y.out rfl)
        have hd : decide (0 ≤ zAt zs k) = false := by simpa using hon
        generalize zAt zs k = z at d1 hon hd
        clear hob EB hz0 hz1
        go_wp2_with fail
        go_quiet (fail)
        all_goals
          go_wp2
          go_roundw
          case rel => exact ⟨k + 1, _, by omega, by go_num, Y2.out, by first | rfl | exact World.drewN_drewN _ _ _ | exact (World.drew_drewN _ _).symm⟩
          case measure => simp [intOf]; omega
    · obtain rfl : k = ps.length := by omega
      obtain rfl := YES.out HA.out
      go_wp2
      go_ret
      exact ⟨rfl, n, rfl⟩
end Go.Proofs.Ytmfjpmimkpldjaa.ltab
