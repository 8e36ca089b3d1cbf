/- The program's labels: which are valid, and codes of labels and places: contracts. -/
import Derived.Test.YtmfjpmimkpldjaaLabS1
namespace Go.Proofs.Ytmfjpmimkpldjaa.ltab
open Go.ChangeShapes Go.WideShapes Go.ChangeAt Go.RowKit Go.Proofs.Ytmfjpmimkpldjaa.irows Go.Proofs.Ytmfjpmimkpldjaa.sines
set_option linter.unusedSimpArgs false
set_option linter.unusedVariables false

theorem withinL {n a b : Int} {c : Bool} (w : World) (h : inB n a b = c) : Calls Try.prog 120 #[.int .i64 n, .int .i64 a, .int .i64 b] w fun e w' => e = .returned (.bool c) ∧ w' = w := by
  subst h
  exact (within_any n a b w).mono fun _ _ h => ⟨h.1, h.2.symm⟩
theorem isRowL {n : Int} {c : Bool} (w : World) (h : inB n 0 11 = c) : Calls Try.prog 78 #[.int .i64 n] w fun e w' => e = .returned (.bool c) ∧ w' = w := by
  go_enter Try.func78, Try.ntmps78
  go_wp2_with fail
  refine (withinL _ h).mono ?_
  rintro e w' ⟨rfl, rfl⟩
  go_wp2
  go_ret
  exact ⟨rfl, rfl⟩
theorem isAlongL {n : Int} {c : Bool} (w : World) (h : inB n 0 1000 = c) : Calls Try.prog 81 #[.int .i64 n] w fun e w' => e = .returned (.bool c) ∧ w' = w := by
  go_enter Try.func81, Try.ntmps81
  go_wp2_with fail
  refine (withinL _ h).mono ?_
  rintro e w' ⟨rfl, rfl⟩
  go_wp2
  go_ret
  exact ⟨rfl, rfl⟩
set_option maxRecDepth 100000 in
set_option maxHeartbeats 1000000 in
theorem indexL_any (v : Value) (zs : List Int) (x : Int) (w : World) (hv : IAt w w.heap.size v zs) (hl : zs.length ≤ 1048576) :
    Calls Try.prog 173 #[v, .int .i64 x] w fun e w' => (∃ r : Int, e = .returned (.int .i64 r) ∧ decide (0 ≤ r) = decide (x ∈ zs)) ∧ w' = w := by
  obtain ⟨ar, c, rfl, hcl⟩ := hv
  have HCL := Lib.hid hcl
  clear hcl
  have hl2 : (zs.length : Int) ≤ 1048576 := by omega
  obtain ⟨R, hR⟩ : ∃ R, Hid (decide (x ∈ zs) = R) := ⟨_, Lib.hid rfl⟩
  rw [hR.out]
  go_enter Try.func173, Try.ntmps173
  go_wp2
  go_loopw [8] (fun i wr => ∃ k : Nat, k ≤ zs.length ∧ i = .int .i64 (k : Int) ∧ (∀ j, j < k → zAt zs j ≠ x) ∧ wr = w) (fun i _ => zs.length - (intOf i).toNat)
  case atStart => exact ⟨0, Nat.zero_le _, rfl, fun j h => by omega, rfl⟩
  case round =>
    obtain ⟨k, hk, rfl, ha, rfl⟩ := hrel
    have HA := Lib.hid ha
    clear ha
    by_cases hlt : k < zs.length
    · obtain ⟨b, off, rfl, hbs, c1⟩ := HCL.out k hlt
      have hk0 : 0 ≤ (k : Int) := by omega
      have hk1 : (k : Int) < (zs.length : Int) := by omega
      have YES := Lib.hid (show zAt zs k = x → R = true from fun h => by rw [← hR.out, ← h, zAt_eq hlt]; simp)
      have NX := Lib.hid (show zAt zs k ≠ x → ∀ j, j < k + 1 → zAt zs j ≠ x from fun h j hj => by
        by_cases e : j = k
        · subst e; exact h
        · exact HA.out j (by omega))
      generalize zAt zs k = y at c1 YES NX
      by_cases he : y = x
      · obtain rfl := YES.out he
        subst he
        go_wp2
        go_ret
        exact ⟨⟨_, rfl, by simp <;> omega⟩, rfl⟩
      · have NX2 := Lib.hid (NX.out he)
        have he' : (y == x) = false := by simpa using he
        have he3 : (x == y) = false := by simpa using fun e : x = y => he e.symm
        have he2 : ¬ x = y := fun e => he e.symm
        go_wp2
        go_roundw
        case rel => exact ⟨k + 1, by omega, by go_num, NX2.out, by first | rfl | trivial⟩
        case measure => simp [intOf]; omega
    · obtain rfl : k = zs.length := by omega
      have RR := Lib.hid (show R = false by
        rw [← hR.out]
        simp only [decide_eq_false_iff_not]
        intro hm
        obtain ⟨j, hj, e⟩ := List.mem_iff_getElem.1 hm
        exact HA.out j hj (by rw [zAt_eq hj]; exact e))
      obtain rfl := RR.out
      go_wp2
      go_ret
      exact ⟨⟨_, rfl, by simp⟩, rfl⟩
theorem containsL {zs : List Int} {x : Int} {c : Bool} (v : Value) (w : World) (hv : IAt w w.heap.size v zs) (hl : zs.length ≤ 1048576) (h : decide (x ∈ zs) = c) :
    Calls Try.prog 146 #[v, .int .i64 x] w fun e w' => e = .returned (.bool c) ∧ w' = w := by
  subst h
  have IX := Lib.hid (indexL_any v zs x w hv hl)
  obtain ⟨ar, cp, rfl, _⟩ := hv
  generalize decide (x ∈ zs) = R at *
  go_enter Try.func146, Try.ntmps146
  go_wp2_with fail
  refine IX.out.mono ?_
  rintro e w' ⟨⟨r, rfl, hr⟩, rfl⟩
  subst hr
  go_wp2
  go_ret
  exact ⟨by first | rfl | (congr 2), rfl⟩
set_option maxRecDepth 100000 in
set_option maxHeartbeats 2000000 in
theorem areStarts_any (v : Value) (zs : List Int) (w : World) (hv : IAt w w.heap.size v zs) (hcap : CapL v) (hl : zs.length ≤ 1048576) :
    Calls Try.prog 123 #[v] w fun e w' => e = .returned (.bool (inB (zs.length : Int) 1 3 && startsOk zs)) ∧ ∃ q, w' = w.drewN q := by
  obtain ⟨ar, cp, rfl, hcl⟩ := hv
  have hkc := hcap _ _ _ rfl
  have HCL := Lib.hid hcl
  clear hcl hcap
  have hl2 : (zs.length : Int) ≤ 1048576 := by omega
  cases h1 : inB (zs.length : Int) 1 3 with
  | false =>
    go_enter Try.func123, Try.ntmps123
    go_wp2_with fail
    refine (withinL _ h1).mono ?_
    rintro e w' ⟨rfl, rfl⟩
    go_wp2
    go_ret
    exact ⟨rfl, 0, rfl⟩
  | true =>
    obtain ⟨R, hR⟩ : ∃ R, Hid (startsOk zs = R) := ⟨_, Lib.hid rfl⟩
    rw [hR.out, Bool.true_and]
    go_enter Try.func123, Try.ntmps123
    go_wp2_with fail
    refine (withinL _ h1).mono ?_
    rintro e w' ⟨rfl, rfl⟩
    go_wp2
    go_loopw [11] (fun i wr => ∃ k q : Nat, k ≤ zs.length ∧ i = .int .i64 (k : Int) ∧ (∀ j, j < k → (inB (zAt zs j) 0 1000 && !decide (zAt zs j ∈ zs.take j)) = true) ∧ wr = w'.drewN q) (fun i _ => zs.length - (intOf i).toNat)
    case atStart => exact ⟨0, 0, Nat.zero_le _, rfl, fun j h => by omega, rfl⟩
    case round =>
      obtain ⟨k, q, hk, rfl, ha, rfl⟩ := hrel
      have HA := Lib.hid ha
      clear ha
      by_cases hlt : k < zs.length
      · obtain ⟨bz, off, rfl, hbs, z1⟩ := HCL.out k hlt
        have hk0 : 0 ≤ (k : Int) := by omega
        have hk1 : (k : Int) < (zs.length : Int) := by omega
        have hkc2 : (k : Int) ≤ (cp : Int) := by omega
        have NO := Lib.hid (show (inB (zAt zs k) 0 1000 && !decide (zAt zs k ∈ zs.take k)) = false → R = false from fun h => by rw [← hR.out]; simp [startsOk_no hlt h])
        have YES := Lib.hid (show (inB (zAt zs k) 0 1000 && !decide (zAt zs k ∈ zs.take k)) = true → ∀ j, j < k + 1 → (inB (zAt zs j) 0 1000 && !decide (zAt zs j ∈ zs.take j)) = true from fun h j hj => by
          by_cases e : j = k
          · subst e; exact h
          · exact HA.out j (by omega))
        obtain ⟨hb, hhb⟩ : ∃ c, decide (zAt zs k ∈ zs.take k) = c := ⟨_, rfl⟩
        have HS := Lib.hid (containsL (x := zAt zs k) (.slice (some ⟨bz, off, none⟩) k cp) (w'.drewN q) (iat_take (w := w'.drewN q) (fun i hi => HCL.out i hi) (Nat.le_of_lt hlt) cp) (by rw [List.length_take]; omega) hhb)
        rw [hhb] at NO YES
        clear hhb
        generalize zAt zs k = x at z1 NO YES HS
        cases h2 : inB x 0 1000 with
        | false =>
          obtain rfl := NO.out (by simp [h2])
          go_wp2_with fail
          refine (isAlongL _ h2).mono ?_
          rintro e w2 ⟨rfl, rfl⟩
          go_wp2
          go_ret
          exact ⟨rfl, _, rfl⟩
        | true =>
          cases hb with
          | true =>
            obtain rfl := NO.out (by simp [h2])
            go_wp2_with fail
            refine (isAlongL _ h2).mono ?_
            rintro e w2 ⟨rfl, rfl⟩
            go_wp2_with fail
            refine HS.out.mono ?_
            rintro e w2 ⟨rfl, rfl⟩
            go_wp2
            go_ret
            exact ⟨rfl, _, rfl⟩
          | false =>
            have Y := Lib.hid (YES.out (by simp [h2]))
            go_wp2_with fail
            refine (isAlongL _ h2).mono ?_
            rintro e w2 ⟨rfl, rfl⟩
            go_wp2_with fail
            refine HS.out.mono ?_
            rintro e w2 ⟨rfl, rfl⟩
            go_wp2
            go_roundw
            case rel => exact ⟨k + 1, _, by omega, by go_num, Y.out, rfl⟩
            case measure => simp [intOf]; omega
      · obtain rfl : k = zs.length := by omega
        have RR := Lib.hid (show R = true by rw [← hR.out]; exact startsOk_all HA.out)
        obtain rfl := RR.out
        go_wp2
        go_ret
        exact ⟨rfl, q, rfl⟩
theorem oneI {p : Lb} {a b c d : Bool} (h1 : inB p.1 0 11 = a) (h2 : inB p.2.1 1 1000 = b) (h3 : (inB (p.2.2.1.length : Int) 1 3 && startsOk p.2.2.1) = c) (h4 : inB p.2.2.2 1 1000 = d) : oneL p = (a && b && c && d) := by
  unfold oneL restOk
  rw [← h1, ← h2, ← h3, ← h4]
  cases inB p.1 0 11 <;> cases inB p.2.1 1 1000 <;> cases inB (p.2.2.1.length : Int) 1 3 <;> cases inB p.2.2.2 1 1000 <;> simp
set_option maxRecDepth 100000 in
set_option maxHeartbeats 2000000 in
theorem areLabels_any (v : Value) (ps : List Lb) (w : World) (hv : LAt w w.heap.size v ps) (hl : ps.length ≤ 1048576) (hr : ∀ i, (hi : i < ps.length) → ps[i].2.2.1.length ≤ 1048576) :
    Calls Try.prog 80 #[v] w fun e w' => e = .returned (.bool (ps.all oneL)) ∧ Below w.heap.size w w' := by
  obtain ⟨a, c, rfl, _, hcl⟩ := hv
  have HCL := Lib.hid hcl
  have HM := Lib.hid hr
  clear hcl hr
  have hl2 : (ps.length : Int) ≤ 1048576 := by omega
  obtain ⟨R, hR⟩ : ∃ R, Hid (ps.all oneL = R) := ⟨_, Lib.hid rfl⟩
  rw [hR.out]
  go_enter Try.func80, Try.ntmps80
  go_wp2
  go_loopw [7] (fun i wr => ∃ k : Nat, k ≤ ps.length ∧ i = .int .i64 (k : Int) ∧ (∀ j, (hj : j < ps.length) → j < k → oneL ps[j] = true) ∧ Below w.heap.size w wr) (fun i _ => ps.length - (intOf i).toNat)
  case atStart => exact ⟨0, Nat.zero_le _, rfl, fun j _ h => by omega, Below.refl _ _⟩
  case round =>
    obtain ⟨k, hk, rfl, ha, hb⟩ := hrel
    have HA := Lib.hid ha
    have HB := Lib.hid hb
    clear ha
    by_cases hlt : k < ps.length
    · obtain ⟨b, off, rfl, hbs, x, c1, c2, c3, c4, hx, hcap⟩ := HCL.out k hlt
      have u1 := (hb.cell (p := ⟨b, off + k * 4, none⟩) hbs).trans c1
      have u2 := (hb.cell (p := ⟨b, off + k * 4 + 1, none⟩) hbs).trans c2
      have u3 := (hb.cell (p := ⟨b, off + k * 4 + 2, none⟩) hbs).trans c3
      have u4 := (hb.cell (p := ⟨b, off + k * 4 + 3, none⟩) hbs).trans c4
      have HX := Lib.hid (iat_up (iat_keep hx hb) hb.size)
      have ML := HM.out k hlt
      have hk0 : 0 ≤ (k : Int) := by omega
      have hk1 : (k : Int) < (ps.length : Int) := by omega
      have NO := Lib.hid (show oneL ps[k] = false → R = false from fun h => by
        rw [← hR.out]
        cases e : ps.all oneL with
        | false => rfl
        | true => rw [List.all_eq_true] at e; rw [e _ (List.getElem_mem hlt)] at h; cases h)
      have YES := Lib.hid (show oneL ps[k] = true → ∀ j, (hj : j < ps.length) → j < k + 1 → oneL ps[j] = true from fun h j hj hjk => by
        by_cases e : j = k
        · subst e; exact h
        · exact HA.out j hj (by omega))
      have AS := Lib.hid (fun W (h : Below wr.heap.size wr W) => areStarts_any x ps[k].2.2.1 W (iat_up (iat_keep HX.out h) h.size) hcap ML)
      clear hb c1 c2 c3 c4 hcap
      obtain ⟨b1, h1⟩ : ∃ c, inB ps[k].1 0 11 = c := ⟨_, rfl⟩
      obtain ⟨b2, h2⟩ : ∃ c, inB ps[k].2.1 1 1000 = c := ⟨_, rfl⟩
      obtain ⟨b3, h3⟩ : ∃ c, (inB (ps[k].2.2.1.length : Int) 1 3 && startsOk ps[k].2.2.1) = c := ⟨_, rfl⟩
      obtain ⟨b4, h4⟩ : ∃ c, inB ps[k].2.2.2 1 1000 = c := ⟨_, rfl⟩
      have OI := oneI h1 h2 h3 h4
      rw [OI] at NO YES
      rw [h3] at AS
      clear OI h3
      generalize ps[k] = p at u1 u2 u4 AS HX ML hx h1 h2 h4
      obtain ⟨ax, cx, rfl, _⟩ := hx
      obtain ⟨row, wd, zs, t⟩ := p
      simp only at u1 u2 u3 u4 h1 h2 h4
      generalize zs.length = L at u3 AS
      have bw : Below wr.heap.size wr (wr.alloc (.cells #[.int .i64 row, .int .i64 wd, .slice ax L cx, .int .i64 t] 36)) := (Below.refl _ _).alloc (Nat.le_refl _) _
      cases b1 with
      | false =>
        obtain rfl := NO.out rfl
        go_wp2_with fail
        refine (isRowL _ h1).mono ?_
        rintro e w2 ⟨rfl, rfl⟩
        go_wp2
        go_ret
        exact ⟨rfl, HB.out.trans (bw.mono HB.out.size)⟩
      | true =>
        cases b2 with
        | false =>
          obtain rfl := NO.out rfl
          go_wp2_with fail
          refine (isRowL _ h1).mono ?_
          rintro e w2 ⟨rfl, rfl⟩
          go_wp2_with fail
          refine (withinL _ h2).mono ?_
          rintro e w2 ⟨rfl, rfl⟩
          go_wp2
          go_ret
          exact ⟨rfl, HB.out.trans (bw.mono HB.out.size)⟩
        | true =>
          cases b3 with
          | false =>
            obtain rfl := NO.out rfl
            go_wp2_with fail
            refine (isRowL _ h1).mono ?_
            rintro e w2 ⟨rfl, rfl⟩
            go_wp2_with fail
            refine (withinL _ h2).mono ?_
            rintro e w2 ⟨rfl, rfl⟩
            go_wp2_with fail
            refine (AS.out _ bw).mono ?_
            rintro e w2 ⟨rfl, q, rfl⟩
            go_wp2
            go_ret
            exact ⟨rfl, bdr (HB.out.trans (bw.mono HB.out.size)) q⟩
          | true =>
            cases b4 with
            | false =>
              obtain rfl := NO.out rfl
              go_wp2_with fail
              refine (isRowL _ h1).mono ?_
              rintro e w2 ⟨rfl, rfl⟩
              go_wp2_with fail
              refine (withinL _ h2).mono ?_
              rintro e w2 ⟨rfl, rfl⟩
              go_wp2_with fail
              refine (AS.out _ bw).mono ?_
              rintro e w2 ⟨rfl, q, rfl⟩
              go_wp2_with fail
              refine (withinL _ h4).mono ?_
              rintro e w2 ⟨rfl, rfl⟩
              go_wp2
              go_ret
              exact ⟨rfl, bdr (HB.out.trans (bw.mono HB.out.size)) q⟩
            | true =>
              have Y := Lib.hid (YES.out rfl)
              go_wp2_with fail
              refine (isRowL _ h1).mono ?_
              rintro e w2 ⟨rfl, rfl⟩
              go_wp2_with fail
              refine (withinL _ h2).mono ?_
              rintro e w2 ⟨rfl, rfl⟩
              go_wp2_with fail
              refine (AS.out _ bw).mono ?_
              rintro e w2 ⟨rfl, q, rfl⟩
              go_wp2_with fail
              refine (withinL _ h4).mono ?_
              rintro e w2 ⟨rfl, rfl⟩
              go_wp2
              go_roundw
              case rel => exact ⟨k + 1, by omega, by go_num, Y.out, bdr (HB.out.trans (bw.mono HB.out.size)) q⟩
              case measure => simp [intOf]; omega
    · obtain rfl : k = ps.length := by omega
      have RR := Lib.hid (show R = true by
        rw [← hR.out, List.all_eq_true]
        intro p hp
        obtain ⟨j, hj, rfl⟩ := List.mem_iff_getElem.1 hp
        exact HA.out j hj hj)
      obtain rfl := RR.out
      clear hb
      go_wp2
      go_ret
      exact ⟨rfl, HB.out⟩
set_option maxHeartbeats 400000 in
theorem implValidLabels_any (v : Value) (ps : List Lb) (w : World) (hv : LAt w w.heap.size v ps) (hl : ps.length ≤ 1048576) (hr : ∀ i, (hi : i < ps.length) → ps[i].2.2.1.length ≤ 1048576) :
    Calls Try.prog 49 #[v] w fun e w' => e = .returned (.bool (okL ps)) ∧ Below w.heap.size w w' := by
  have AR := Lib.hid (areLabels_any v ps w hv hl hr)
  obtain ⟨a, c, rfl, _, _⟩ := hv
  by_cases h8 : (ps.length : Int) ≤ 8
  · have E : okL ps = ps.all oneL := by simp [okL, h8]
    rw [E]
    generalize ps.all oneL = R at AR ⊢
    clear E
    go_enter Try.func49, Try.ntmps49
    go_wp2_with fail
    refine AR.out.mono ?_
    rintro e w1 ⟨rfl, hb⟩
    go_wp2
    go_ret
    exact ⟨rfl, hb⟩
  · have E : okL ps = false := by simp [okL, h8]
    rw [E]
    have hd : decide ((ps.length : Int) ≤ 8) = false := by simpa using h8
    clear E
    go_enter Try.func49, Try.ntmps49
    go_wp2
    go_ret
    exact ⟨rfl, Below.refl _ _⟩
end Go.Proofs.Ytmfjpmimkpldjaa.ltab
