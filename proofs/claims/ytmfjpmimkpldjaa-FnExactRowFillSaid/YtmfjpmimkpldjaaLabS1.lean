/- The model's labels: which are valid, and codes of labels and places: contracts. -/
import Derived.Test.YtmfjpmimkpldjaaLTab
import Derived.Deep.RegionWith
namespace Go.Proofs.Ytmfjpmimkpldjaa.ltab
open Go.ChangeShapes Go.WideShapes Go.ChangeAt Go.RowKit Go.Proofs.Ytmfjpmimkpldjaa.irows Go.Proofs.Ytmfjpmimkpldjaa.sines
set_option linter.unusedSimpArgs false
set_option linter.unusedVariables false

def startsOk (zs : List Int) : Bool := (List.range zs.length).all fun k => inB (zAt zs k) 0 1000 && !decide (zAt zs k ∈ zs.take k)
def restOk (p : Lb) : Bool := (inB (p.2.2.1.length : Int) 1 3 && inB p.1 0 11) && (inB p.2.1 1 1000 && inB p.2.2.2 1 1000)
def oneL (p : Lb) : Bool := startsOk p.2.2.1 && restOk p
def okL (ps : List Lb) : Bool := ps.all oneL && decide ((ps.length : Int) ≤ 8)
theorem startsOk_no {zs : List Int} {k : Nat} (hk : k < zs.length) (h : (inB (zAt zs k) 0 1000 && !decide (zAt zs k ∈ zs.take k)) = false) : startsOk zs = false := by
  cases e : startsOk zs with
  | false => rfl
  | true =>
    simp only [startsOk, List.all_eq_true, List.mem_range] at e
    have := e k hk
    rw [h] at this
    cases this
theorem startsOk_all {zs : List Int} (h : ∀ j, j < zs.length → (inB (zAt zs j) 0 1000 && !decide (zAt zs j ∈ zs.take j)) = true) : startsOk zs = true := by
  simp only [startsOk, List.all_eq_true, List.mem_range]; exact h
theorem startsOk_at {zs : List Int} (h : startsOk zs = true) {k : Nat} (hk : k < zs.length) : 0 ≤ zAt zs k ∧ zAt zs k ≤ 1000 := by
  simp only [startsOk, List.all_eq_true, List.mem_range] at h
  have := h k hk
  rw [Bool.and_eq_true] at this
  exact inB_of this.1
theorem oneL_facts {p : Lb} (h : oneL p = true) : (1 ≤ p.2.2.1.length ∧ p.2.2.1.length ≤ 3) ∧ (0 ≤ p.1 ∧ p.1 ≤ 11) ∧ (1 ≤ p.2.1 ∧ p.2.1 ≤ 1000) ∧ (1 ≤ p.2.2.2 ∧ p.2.2.2 ≤ 1000) ∧ ∀ k, k < p.2.2.1.length → 0 ≤ zAt p.2.2.1 k ∧ zAt p.2.2.1 k ≤ 1000 := by
  simp only [oneL, restOk, Bool.and_eq_true] at h
  obtain ⟨h0, ⟨h1, h2⟩, h3, h4⟩ := h
  have a1 := inB_of h1
  exact ⟨by omega, inB_of h2, inB_of h3, inB_of h4, fun k hk => startsOk_at h0 hk⟩
theorem okL_facts {ps : List Lb} (h : okL ps = true) : ps.length ≤ 8 ∧ ∀ k, (hk : k < ps.length) → oneL ps[k] = true := by
  simp only [okL, Bool.and_eq_true, List.all_eq_true, decide_eq_true_eq] at h
  exact ⟨by omega, fun k hk => h.1 _ (List.getElem_mem hk)⟩
theorem okL_no {ps : List Lb} {k : Nat} (hk : k < ps.length) (h : oneL ps[k] = false) : okL ps = false := by
  cases e : okL ps with
  | false => rfl
  | true => rw [(okL_facts e).2 k hk] at h; cases h
theorem okL_all {ps : List Lb} (h : ∀ k, (hk : k < ps.length) → oneL ps[k] = true) : okL ps = decide ((ps.length : Int) ≤ 8) := by
  unfold okL
  have : ps.all oneL = true := by
    rw [List.all_eq_true]
    intro p hp
    obtain ⟨j, hj, rfl⟩ := List.mem_iff_getElem.1 hp
    exact h j hj
  rw [this, Bool.true_and]
theorem retBL {a b : Bool} (h : a = b) : Ending.returned (.bool a) = .returned (.bool b) := by rw [h]
/-- A front part of a list, as it is read. -/
theorem iat_take {w : World} {B b off : Nat} {zs : List Int} {k : Nat} (h : ∀ i, i < zs.length → ∃ b2 off2, some (⟨b, off, none⟩ : Addr) = some ⟨b2, off2, none⟩ ∧ b2 < B ∧ w.cell? ⟨b2, off2 + i, none⟩ = some (.int .i64 (zAt zs i))) (hk : k ≤ zs.length) (cp : Nat) :
    IAt w B (.slice (some ⟨b, off, none⟩) k cp) (zs.take k) := by
  refine ⟨some ⟨b, off, none⟩, cp, by rw [List.length_take, Nat.min_eq_left hk], fun i hi => ?_⟩
  rw [List.length_take] at hi
  obtain ⟨b2, off2, e, h1, h2⟩ := h i (by omega)
  refine ⟨b2, off2, e, h1, ?_⟩
  rw [show zAt (zs.take k) i = zAt zs i by simp [zAt, List.getD_eq_getElem?_getD, List.getElem?_take, show i < k by omega]]
  exact h2
theorem l00InL {n a b : Int} {c : Bool} (w : World) (h : inB n a b = c) : Calls Try.prog 108 #[.int .i64 n, .int .i64 a, .int .i64 b] w fun e w' => e = .returned (.bool c) ∧ w' = w := by
  subst h
  exact (l00In_any n a b w).mono fun _ _ h => ⟨h.1, h.2.symm⟩
set_option maxRecDepth 100000 in
set_option maxHeartbeats 1000000 in
theorem l00HasL (v : Value) (zs : List Int) (x : Int) (w : World) (hv : IAt w w.heap.size v zs) (hl : zs.length ≤ 1048576) :
    Calls Try.prog 138 #[v, .int .i64 x] w fun e w' => e = .returned (.bool (decide (x ∈ zs))) ∧ w' = w := by
  obtain ⟨ar, c, rfl, hcl⟩ := hv
  have HCL := Lib.hid hcl
  clear hcl
  have hl2 : (zs.length : Int) ≤ 1048576 := by omega
  obtain ⟨R, hR⟩ : ∃ R, Hid (decide (x ∈ zs) = R) := ⟨_, Lib.hid rfl⟩
  rw [hR.out]
  go_enter Try.func138, Try.ntmps138
  go_wp2
  go_loopw [5] (fun i wr => ∃ k : Nat, k ≤ zs.length ∧ i = .int .i64 (k : Int) ∧ (∀ j, j < k → zAt zs j ≠ x) ∧ wr = w) (fun i _ => zs.length - (intOf i).toNat)
  case atStart => exact ⟨0, Nat.zero_le _, rfl, fun j h => by omega, rfl⟩
  case round =>
    obtain ⟨k, hk, rfl, ha, rfl⟩ := hrel
    have HA := Lib.hid ha
    clear ha
    by_cases hlt : k < zs.length
    · obtain ⟨b, off, rfl, hbs, c1⟩ := HCL.out k hlt
      have hk0 : 0 ≤ (k : Int) := by omega
      have hk1 : (k : Int) < (zs.length : Int) := by omega
      have YES := Lib.hid (show zAt zs k = x → R = true from fun h => by rw [← hR.out, ← h, zAt_eq hlt]; simp)
      have NX := Lib.hid (show zAt zs k ≠ x → ∀ j, j < k + 1 → zAt zs j ≠ x from fun h j hj => by
        by_cases e : j = k
        · subst e; exact h
        · exact HA.out j (by omega))
      generalize zAt zs k = y at c1 YES NX
      by_cases he : y = x
      · obtain rfl := YES.out he
        subst he
        go_wp2
        go_ret
        exact ⟨rfl, rfl⟩
      · have NX2 := Lib.hid (NX.out he)
        have he' : (y == x) = false := by simpa using he
        go_wp2
        go_roundw
        case rel => exact ⟨k + 1, by omega, by go_num, NX2.out, by first | rfl | trivial⟩
        case measure => simp [intOf]; omega
    · obtain rfl : k = zs.length := by omega
      have RR := Lib.hid (show R = false by
        rw [← hR.out]
        simp only [decide_eq_false_iff_not]
        intro hm
        obtain ⟨j, hj, e⟩ := List.mem_iff_getElem.1 hm
        exact HA.out j hj (by rw [zAt_eq hj]; exact e))
      obtain rfl := RR.out
      go_wp2
      go_ret
      exact ⟨rfl, rfl⟩
set_option maxRecDepth 100000 in
set_option maxHeartbeats 2000000 in
theorem l11One_any (b o : Nat) (p : Lb) (w : World) (h : LCell w w.heap.size b o p) (hl : p.2.2.1.length ≤ 1048576) :
    Calls Try.prog 107 #[.pointer (some ⟨b, o, none⟩)] w fun e w' => e = .returned (.bool (oneL p)) ∧ ∃ q, w' = w.drewN q := by
  obtain ⟨x, c1, c2, c3, c4, hx, hcap⟩ := h
  obtain ⟨ar, cp, rfl, hcl⟩ := hx
  have hkc := hcap _ _ _ rfl
  have HCL := Lib.hid hcl
  obtain ⟨row, wd, zs, t⟩ := p
  simp only at c1 c2 c3 c4 hl hkc HCL
  clear hcl hcap
  have hl2 : (zs.length : Int) ≤ 1048576 := by omega
  obtain ⟨R, hR⟩ : ∃ R, Hid (oneL (row, wd, zs, t) = R) := ⟨_, Lib.hid rfl⟩
  rw [hR.out]
  go_enter Try.func107, Try.ntmps107
  go_wp2
  go_loopw [3] (fun i wr => ∃ k q : Nat, k ≤ zs.length ∧ i = .int .i64 (k : Int) ∧ (∀ j, j < k → (inB (zAt zs j) 0 1000 && !decide (zAt zs j ∈ zs.take j)) = true) ∧ wr = w.drewN q) (fun i _ => zs.length - (intOf i).toNat)
  case atStart => exact ⟨0, 0, Nat.zero_le _, rfl, fun j h => by omega, rfl⟩
  case round =>
    obtain ⟨k, q, hk, rfl, ha, rfl⟩ := hrel
    have HA := Lib.hid ha
    clear ha
    by_cases hlt : k < zs.length
    · obtain ⟨bz, off, rfl, hbs, z1⟩ := HCL.out k hlt
      have hk0 : 0 ≤ (k : Int) := by omega
      have hk1 : (k : Int) < (zs.length : Int) := by omega
      have hkc2 : (k : Int) ≤ (cp : Int) := by omega
      have NO := Lib.hid (show (inB (zAt zs k) 0 1000 && !decide (zAt zs k ∈ zs.take k)) = false → R = false from fun h => by rw [← hR.out]; simp [oneL, startsOk_no hlt h])
      have YES := Lib.hid (show (inB (zAt zs k) 0 1000 && !decide (zAt zs k ∈ zs.take k)) = true → ∀ j, j < k + 1 → (inB (zAt zs j) 0 1000 && !decide (zAt zs j ∈ zs.take j)) = true from fun h j hj => by
        by_cases e : j = k
        · subst e; exact h
        · exact HA.out j (by omega))
      have HS := Lib.hid (fun p => l00HasL (.slice (some ⟨bz, off, none⟩) k cp) (zs.take k) (zAt zs k) (w.drewN p) (iat_take (w := w.drewN p) (fun i hi => HCL.out i hi) (Nat.le_of_lt hlt) cp) (by rw [List.length_take]; omega))
      generalize decide (zAt zs k ∈ zs.take k) = hb at NO YES HS
      generalize zAt zs k = x at z1 NO YES HS
      cases h1 : inB x 0 1000 with
      | false =>
        obtain rfl := NO.out (by simp [h1])
        go_wp2_with fail
        go_quiet ((first | (go_at_call 108; exact (l00InL _ h1).mono fun _ _ h => ⟨h.1, _, h.2⟩) | (go_at_call 138; exact (HS.out _).mono fun _ _ h => ⟨h.1, _, h.2⟩)))
        all_goals
          go_wp2
          go_ret
          exact ⟨rfl, by first | exact ⟨_, rfl⟩ | exact ⟨_, World.drewN_drewN _ _ _⟩ | exact ⟨_, (World.drew_drewN _ _).symm⟩⟩
      | true =>
        cases hb with
        | true =>
          obtain rfl := NO.out (by simp [h1])
          go_wp2_with fail
          go_quiet ((first | (go_at_call 108; exact (l00InL _ h1).mono fun _ _ h => ⟨h.1, _, h.2⟩) | (go_at_call 138; exact (HS.out _).mono fun _ _ h => ⟨h.1, _, h.2⟩)))
          all_goals
            go_wp2
            go_ret
            exact ⟨rfl, by first | exact ⟨_, rfl⟩ | exact ⟨_, World.drewN_drewN _ _ _⟩ | exact ⟨_, (World.drew_drewN _ _).symm⟩⟩
        | false =>
          have Y := Lib.hid (YES.out (by simp [h1]))
          go_wp2_with fail
          go_quiet ((first | (go_at_call 108; exact (l00InL _ h1).mono fun _ _ h => ⟨h.1, _, h.2⟩) | (go_at_call 138; exact (HS.out _).mono fun _ _ h => ⟨h.1, _, h.2⟩)))
          all_goals
            go_wp2
            go_roundw
            case rel => exact ⟨k + 1, _, by omega, by go_num, Y.out, by first | rfl | exact World.drewN_drewN _ _ _ | exact (World.drew_drewN _ _).symm⟩
            case measure => simp [intOf]; omega
    · obtain rfl : k = zs.length := by omega
      have RT : R = ((inB (zs.length : Int) 1 3 && inB row 0 11) && (inB wd 1 1000 && inB t 1 1000)) := by rw [← hR.out]; simp [oneL, startsOk_all HA.out, restOk]
      have HRT := Lib.hid RT
      clear RT
      cases h1 : inB (zs.length : Int) 1 3 with
      | false =>
        obtain rfl : R = false := by rw [HRT.out, h1]; rfl
        go_wp2_with fail
        refine (l00InL _ h1).mono ?_
        rintro e w' ⟨rfl, rfl⟩
        go_wp2
        go_ret
        exact ⟨rfl, q, rfl⟩
      | true =>
        cases h2 : inB row 0 11 with
        | false =>
          obtain rfl : R = false := by rw [HRT.out, h1, h2]; rfl
          go_wp2_with fail
          refine (l00InL _ h1).mono ?_
          rintro e w' ⟨rfl, rfl⟩
          go_wp2_with fail
          refine (l00InL _ h2).mono ?_
          rintro e w' ⟨rfl, rfl⟩
          go_wp2
          go_ret
          exact ⟨rfl, q, rfl⟩
        | true =>
          cases h3 : inB wd 1 1000 with
          | false =>
            obtain rfl : R = false := by rw [HRT.out, h1, h2, h3]; rfl
            go_wp2_with fail
            refine (l00InL _ h1).mono ?_
            rintro e w' ⟨rfl, rfl⟩
            go_wp2_with fail
            refine (l00InL _ h2).mono ?_
            rintro e w' ⟨rfl, rfl⟩
            go_wp2_with fail
            refine (l00InL _ h3).mono ?_
            rintro e w' ⟨rfl, rfl⟩
            go_wp2
            go_ret
            exact ⟨rfl, q, rfl⟩
          | true =>
            obtain ⟨c4', h4⟩ : ∃ c, inB t 1 1000 = c := ⟨_, rfl⟩
            obtain rfl : R = c4' := by rw [HRT.out, h1, h2, h3, h4]; simp
            go_wp2_with fail
            refine (l00InL _ h1).mono ?_
            rintro e w' ⟨rfl, rfl⟩
            go_wp2_with fail
            refine (l00InL _ h2).mono ?_
            rintro e w' ⟨rfl, rfl⟩
            go_wp2_with fail
            refine (l00InL _ h3).mono ?_
            rintro e w' ⟨rfl, rfl⟩
            go_wp2_with fail
            refine (l00InL _ h4).mono ?_
            rintro e w' ⟨rfl, rfl⟩
            go_wp2
            go_ret
            exact ⟨rfl, q, rfl⟩
set_option maxRecDepth 100000 in
set_option maxHeartbeats 1000000 in
theorem l11Ok_any (v : Value) (ps : List Lb) (w : World) (hv : LAt w w.heap.size v ps) (hl : ps.length ≤ 1048576) (hr : ∀ i, (hi : i < ps.length) → ps[i].2.2.1.length ≤ 1048576) :
    Calls Try.prog 105 #[v] w fun e w' => e = .returned (.bool (okL ps)) ∧ ∃ q, w' = w.drewN q := by
  have HV := Lib.hid hv
  obtain ⟨a, c, rfl, _, hcl⟩ := hv
  have HCL := Lib.hid hcl
  have HM := Lib.hid hr
  clear hcl hr
  have hl2 : (ps.length : Int) ≤ 1048576 := by omega
  obtain ⟨R, hR⟩ : ∃ R, Hid (okL ps = R) := ⟨_, Lib.hid rfl⟩
  rw [hR.out]
  go_enter Try.func105, Try.ntmps105
  go_wp2
  go_loopw [3] (fun i wr => ∃ k q : Nat, k ≤ ps.length ∧ i = .int .i64 (k : Int) ∧ (∀ j, (hj : j < ps.length) → j < k → oneL ps[j] = true) ∧ wr = w.drewN q) (fun i _ => ps.length - (intOf i).toNat)
  case atStart => exact ⟨0, 0, Nat.zero_le _, rfl, fun j _ h => by omega, rfl⟩
  case round =>
    obtain ⟨k, q, hk, rfl, ha, rfl⟩ := hrel
    have HA := Lib.hid ha
    clear ha
    by_cases hlt : k < ps.length
    · obtain ⟨b, off, rfl, hbs, hcell⟩ := HCL.out k hlt
      have hk0 : 0 ≤ (k : Int) := by omega
      have hk1 : (k : Int) < (ps.length : Int) := by omega
      have ON := Lib.hid (l11One_any b (off + k * 4) ps[k] (w.drewN q) (lcell_keep hcell (below_drawn w q) hbs) (HM.out k hlt))
      have NO := Lib.hid (show oneL ps[k] = false → R = false from fun h => by rw [← hR.out]; exact okL_no hlt h)
      have YES := Lib.hid (show oneL ps[k] = true → ∀ j, (hj : j < ps.length) → j < k + 1 → oneL ps[j] = true from fun h j hj hjk => by
        by_cases e : j = k
        · subst e; exact h
        · exact HA.out j hj (by omega))
      clear hcell
      generalize oneL ps[k] = ok at ON NO YES
      cases ok with
      | false =>
        obtain rfl := NO.out rfl
        go_wp2_with fail
        refine ON.out.mono ?_
        rintro e w1 ⟨rfl, q1, rfl⟩
        go_wp2
        go_ret
        exact ⟨rfl, _, rfl⟩
      | true =>
        have Y := Lib.hid (YES.out rfl)
        go_wp2_with fail
        refine ON.out.mono ?_
        rintro e w1 ⟨rfl, q1, rfl⟩
        go_wp2
        go_roundw
        case rel => exact ⟨k + 1, _, by omega, by go_num, Y.out, rfl⟩
        case measure => simp [intOf]; omega
    · obtain rfl : k = ps.length := by omega
      have RT := Lib.hid (show R = decide ((ps.length : Int) ≤ 8) by rw [← hR.out]; exact okL_all fun j hj => HA.out j hj hj)
      go_wp2
      go_ret
      exact ⟨retBL (by rw [RT.out]), q, rfl⟩
theorem specValidLabels_any (v : Value) (ps : List Lb) (w : World) (hv : LAt w w.heap.size v ps) (hl : ps.length ≤ 1048576) (hr : ∀ i, (hi : i < ps.length) → ps[i].2.2.1.length ≤ 1048576) :
    Calls Try.prog 47 #[v] w fun e w' => e = .returned (.bool (okL ps)) ∧ ∃ q, w' = w.drewN q := by
  have OK := Lib.hid (l11Ok_any v ps w hv hl hr)
  obtain ⟨a, c, rfl, _, hcl⟩ := hv
  generalize okL ps = R at *
  go_enter Try.func47, Try.ntmps47
  go_wp2_with fail
  refine OK.out.mono ?_
  rintro e w1 ⟨rfl, q, rfl⟩
  go_wp2
  go_ret
  exact ⟨rfl, q, rfl⟩
theorem specValidLabels_b (v : Value) (ps : List Lb) (w : World) (hv : LAt w w.heap.size v ps) (hl : ps.length ≤ 1048576) (hr : ∀ i, (hi : i < ps.length) → ps[i].2.2.1.length ≤ 1048576) :
    Calls Try.prog 47 #[v] w fun e w' => e = .returned (.bool (okL ps)) ∧ Below w.heap.size w w' :=
  (specValidLabels_any v ps w hv hl hr).mono fun _ _ ⟨h, q, hq⟩ => ⟨h, by rw [hq]; exact below_drawn _ q⟩
end Go.Proofs.Ytmfjpmimkpldjaa.ltab
