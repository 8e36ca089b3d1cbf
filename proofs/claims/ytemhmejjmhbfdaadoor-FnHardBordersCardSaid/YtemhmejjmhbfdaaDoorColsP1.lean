/- The program's valid borders: contracts. -/
import Derived.Test.YtemhmejjmhbfdaaDoorColsV
import Derived.Maps.OwnSet
import Derived.DeepKeys4
namespace Go.Proofs.YtemhmejjmhbfdaaDoor.sines
open Go.ChangeShapes Go.WideShapes Go.ChangeAt Go.RowKit Go.Maps Go.Proofs.YtemhmejjmhbfdaaDoor.spots Go.Proofs.YtemhmejjmhbfdaaDoor.irows Go.Proofs.YtemhmejjmhbfdaaDoor.pairsBorder
set_option linter.unusedSimpArgs false
set_option linter.unusedVariables false

theorem lawB : Keyed Tryd.prog 58 := Keyed.of_law (deep_law_laid (show laidOutB Tryd.prog = true by kernel_rfl) (m := 2) (by omega) (of_decide_eq_true (by kernel_rfl)) (by kernel_rfl) (by kernel_rfl))
theorem sizeB : ∃ m, Tryd.prog.types.size + 1 = m + 2 := by
  have : 1 ≤ Tryd.prog.types.size := of_decide_eq_true (by kernel_rfl)
  exact ⟨Tryd.prog.types.size - 1, by omega⟩
theorem kL_some (m : Nat) (x y : Int) (hx : (Lit.int .i64 x).wf = true) (hy : (Lit.int .i64 y).wf = true) : Tryd.prog.keyLits (m + 2) 58 [.int .i64 x, .int .i64 y] = some [.int .i64 x, .int .i64 y] := by
  have hc : Tryd.prog.cellsOf 58 = 2 := by kernel_rfl
  have h1 : Tryd.prog.cellsOf 2 = 1 := by kernel_rfl
  unfold Program.keyLits
  simp only [Tryd.underlying58]
  simp [hc, h1, Program.keyLits, Tryd.underlying2, hx, hy]
theorem kB_some (x y : Int) (hx : (Lit.int .i64 x).wf = true) (hy : (Lit.int .i64 y).wf = true) : ∃ kl, keyOf Tryd.prog 58 (.agg #[.int .i64 x, .int .i64 y]) = some kl := by
  have hk : Tryd.prog.keyType 58 = true := by kernel_rfl
  have hc : Tryd.prog.cellsOf 58 = 2 := by kernel_rfl
  have hf : (Value.agg #[.int .i64 x, .int .i64 y]).formed Tryd.prog 58 = true := by simp [Value.formed, Tryd.underlying58, hc]
  refine ⟨.string (keyBytes [.int .i64 x, .int .i64 y]), ?_⟩
  obtain ⟨m, hm⟩ := sizeB
  unfold keyOf
  rw [Tryd.underlying58]
  simp only [hk, hf, Bool.and_self, if_true]
  rw [hm, show (Value.agg #[.int .i64 x, .int .i64 y]).cells.toList = [.int .i64 x, .int .i64 y] from rfl, kL_some m x y hx hy]
  rfl
theorem zeroBool (w : World) : (zeroValue 4).run Tryd.prog w = .ok (.bool false) w := by kernel_rfl
theorem plainElem_bool_inv {H : Type} {P : Program} {e : TypeId} (he : P.underlying e = some .bool) {v : Value} {z : DataW H × List MemPlace} (h : plainElem P e v = some z) : ∃ a, v = .bool a ∧ z = (.lit (.bool a), []) := by
  unfold plainElem at h
  rw [he] at h
  cases v <;> simp at h
  exact ⟨_, rfl, h.symm⟩
/-- The map of the borders that are seen. -/
def Seen (w : World) (b k : Nat) (ps : List (Int × Int)) : Prop :=
  ∃ D : DataW Unit, w.ownsMap Tryd.prog 58 (plainElem Tryd.prog 4) b k D ∧
    ∀ x y kl, keyOf Tryd.prog 58 (.agg #[.int .i64 x, .int .i64 y]) = some kl → D.atKey kl (.lit (.bool false)) = .lit (.bool (decide ((x, y) ∈ ps)))
theorem seen_made (w : World) : Seen (w.alloc (.map #[] 0)) w.heap.size 0 [] :=
  ⟨.map [], World.ownsMap_made _ _ _ _, fun x y kl _ => by simp [DataW.atKey]⟩
theorem seen_alloc {w : World} {b k : Nat} {ps : List (Int × Int)} (h : Seen w b k ps) (o : Obj) : Seen (w.alloc o) b k ps := by
  obtain ⟨D, h1, h2⟩ := h
  exact ⟨D, h1.alloc o, h2⟩
theorem seen_look {w : World} {b k : Nat} {ps : List (Int × Int)} (h : Seen w b k ps) (x y : Int) (hx : (Lit.int .i64 x).wf = true) (hy : (Lit.int .i64 y).wf = true) :
    (Instr.lookup 60 (.map (some b)) (.agg #[.int .i64 x, .int .i64 y]) false).run Tryd.prog w = .ok (.bool (decide ((x, y) ∈ ps))) w := by
  obtain ⟨D, h1, h2⟩ := h
  obtain ⟨kl, hk⟩ := kB_some x y hx hy
  obtain ⟨v, qs, hrun, hv⟩ := h1.lookup lawB Tryd.underlying60 (zeroBool w) (plainElem_bool Tryd.underlying4 false) hk
  obtain ⟨c, rfl, hc⟩ := plainElem_bool_inv Tryd.underlying4 hv
  rw [hrun]
  have := h2 x y kl hk
  simp only [Prod.mk.injEq] at hc
  rw [hc.1] at this
  simp at this
  rw [this]
theorem seen_put {w : World} {b k : Nat} {ps : List (Int × Int)} (h : Seen w b k ps) (hk : k < maxLen) (x y : Int) (hx : (Lit.int .i64 x).wf = true) (hy : (Lit.int .i64 y).wf = true) :
    ∃ w', (Instr.mapUpdate 60 (.map (some b)) (.agg #[.int .i64 x, .int .i64 y]) (.bool true)).run Tryd.prog w = .ok () w' ∧ Seen w' b (k + 1) (ps ++ [(x, y)]) ∧ w.grownBy w' (some b) := by
  obtain ⟨D, h1, h2⟩ := h
  obtain ⟨kl, hkl⟩ := kB_some x y hx hy
  obtain ⟨w', hrun, ho, hg⟩ := h1.update lawB Tryd.underlying60 hk hkl (plainElem_bool Tryd.underlying4 true)
  refine ⟨w', hrun, ⟨_, ho, fun x' y' kl' hk' => ?_⟩, hg⟩
  by_cases e : kl' = kl
  · subst e
    have := lawB.inj hkl hk'
    simp at this
    obtain ⟨rfl, rfl⟩ := this
    have hm : IsMap D := by obtain ⟨es, clock, _, _, _, rfl⟩ := h1; exact ⟨_, rfl⟩
    rw [atKey_put_same hm (lawB.key hkl)]
    simp
  · rw [atKey_put_other e, h2 x' y' kl' hk']
    have hne : ¬ (x' = x ∧ y' = y) := fun h => by
      obtain ⟨rfl, rfl⟩ := h
      rw [hkl] at hk'; exact e (Option.some.inj hk').symm
    simp [hne]
theorem validC_long {n : Int} {ps : List (Int × Int)} (h : ¬ ps.length ≤ 30) : validC n ps = false := by
  cases e : validC n ps with
  | false => rfl
  | true => exact absurd (validC_iff.1 e).2.2 h
set_option maxRecDepth 100000 in
set_option maxHeartbeats 4000000 in
theorem implVB_any (n : Int) (v : Value) (ps : List (Int × Int)) (w : World) (hv : PAt w w.heap.size v ps) (hl : ps.length ≤ 1048576) :
    Calls Tryd.prog 14 #[.int .i64 n, v] w fun e w' => e = .returned (.bool (validC n ps)) ∧ Below w.heap.size w w' := by
  obtain ⟨ar, c, rfl, hcl⟩ := hv
  have HCL := Lib.hid hcl
  clear hcl
  obtain ⟨R, hR⟩ : ∃ R, Hid (validC n ps = R) := ⟨_, Lib.hid rfl⟩
  have hl2 : (ps.length : Int) ≤ 1048576 := by omega
  rw [hR.out]
  cases hn : inB n 1 10 with
  | false =>
    obtain rfl : R = false := by rw [← hR.out]; exact validC_num hn
    go_enter Tryd.func14, Tryd.ntmps14
    go_wp2_with (go_at_call 23; refine (within_any _ _ _ _).mono ?_; rw [hn]; rintro e w' ⟨rfl, rfl⟩)
    go_ret
    exact ⟨rfl, Below.refl _ _⟩
  | true =>
    obtain ⟨n0, n1⟩ := inB_of hn
    by_cases h30 : ps.length ≤ 30
    · have hmm := @run_makeMap Tryd.prog
      have h31 : (ps.length : Int) ≤ 30 := by omega
      go_enter Tryd.func14, Tryd.ntmps14
      go_wp2_with (go_at_call 23; refine (within_any _ _ _ _).mono ?_; rw [hn]; rintro e w' ⟨rfl, rfl⟩)
      have HN := Lib.hid hn
      clear hn hmm
      go_loopw [19] (fun i wr => ∃ k : Nat, k ≤ ps.length ∧ i = .int .i64 (k : Int) ∧ (∀ j, j < k → okBd n (bAt ps j) = true ∧ ∀ m, m < j → bAt ps m ≠ bAt ps j) ∧ Seen wr w.heap.size k (ps.take k) ∧ Below w.heap.size w wr) (fun i _ => ps.length - (intOf i).toNat)
      case atStart => exact ⟨0, Nat.zero_le _, rfl, fun j h => by omega, seen_made w, (Below.refl _ _).alloc (Nat.le_refl _) _⟩
      case round =>
        obtain ⟨k, hk, rfl, ha, hs, hb⟩ := hrel
        have HA := Lib.hid ha
        have HB := Lib.hid hb
        have HS := Lib.hid hs
        clear ha hs
        by_cases hlt : k < ps.length
        · have hk0 : 0 ≤ (k : Int) := by omega
          have hk1 : (k : Int) < (ps.length : Int) := by omega
          obtain ⟨b, off, rfl, hbs, c1, c2⟩ := HCL.out k hlt
          rw [bAt_of hlt] at c1 c2
          have u1 := (hb.cell (p := ⟨b, off + k * 2, none⟩) hbs).trans c1
          have u2 := (hb.cell (p := ⟨b, off + k * 2 + 1, none⟩) hbs).trans c2
          have NO := Lib.hid (show okBd n (bAt ps k) = false → R = false from fun h => by rw [← hR.out]; exact validC_no hlt h)
          have TW := Lib.hid (show bAt ps k ∈ ps.take k → R = false from fun h => by
            obtain ⟨m, hm, e⟩ := List.mem_iff_getElem.1 h
            simp only [List.length_take] at hm
            rw [List.getElem_take, bAt_of (by omega)] at e
            rw [← hR.out]; exact validC_twice hlt (show m < k by omega) e)
          have TK := Lib.hid (show ps.take (k + 1) = ps.take k ++ [bAt ps k] by rw [List.take_succ_eq_append_getElem hlt, bAt_of hlt])
          have YES := Lib.hid (show okBd n (bAt ps k) = true → bAt ps k ∉ ps.take k → ∀ j, j < k + 1 → okBd n (bAt ps j) = true ∧ ∀ m, m < j → bAt ps m ≠ bAt ps j from fun h h2 j hj => by
            by_cases e : j = k
            · subst e
              refine ⟨h, fun m hm e => h2 ?_⟩
              rw [← e, ← bAt_of (show m < ps.length by omega)]
              exact List.mem_iff_getElem.2 ⟨m, by simp; omega, by rw [List.getElem_take]⟩
            · exact HA.out j (by omega))
          clear c1 c2 hb
          obtain ⟨⟨x1, x2⟩, hx⟩ : ∃ x, Hid (bAt ps k = x) := ⟨_, Lib.hid rfl⟩
          rw [hx.out] at u1 u2 NO TW YES TK
          simp only at u1 u2
          have OE : okBd n (x1, x2) = (inB x2 0 (n - 1) && inB x1 0 (x2 - 1)) := rfl
          simp only [inB] at OE
          rw [OE] at NO YES
          clear OE
          have HB1 := Lib.hid (show Below w.heap.size w (wr.alloc (.cells #[.int .i64 x1, .int .i64 x2] 58)) from HB.out.alloc HB.out.size _)
          by_cases h1 : x1 < 0
          · obtain rfl := NO.out (by simp; omega)
            go_wp2_with fail
            go_ret
            exact ⟨rfl, HB1.out⟩
          · by_cases h2 : x2 ≤ x1
            · obtain rfl := NO.out (by simp; omega)
              go_wp2_with fail
              go_ret
              exact ⟨rfl, HB1.out⟩
            · by_cases h3 : n ≤ x2
              · obtain rfl := NO.out (by simp; omega)
                go_wp2_with fail
                go_ret
                exact ⟨rfl, HB1.out⟩
              · have f1 : (Lit.int .i64 x1).wf = true := WalkArith.wf_i64 (by omega)
                have f2 : (Lit.int .i64 x2).wf = true := WalkArith.wf_i64 (by omega)
                have hsa := seen_alloc HS.out (.cells #[.int .i64 x1, .int .i64 x2] 58)
                have hlk := seen_look hsa x1 x2 f1 f2
                cases hm : decide ((x1, x2) ∈ ps.take k) with
                | true =>
                  obtain rfl := TW.out (by simpa using hm)
                  rw [hm] at hlk
                  go_wp2_with fail
                  go_ret
                  exact ⟨rfl, HB1.out⟩
                | false =>
                  rw [hm] at hlk
                  have Y := Lib.hid (YES.out (by simp; omega) (by simpa using hm))
                  obtain ⟨w4, hrun, hs4, hg4⟩ := seen_put hsa (by unfold maxLen; omega) x1 x2 f1 f2
                  rw [← TK.out] at hs4
                  have HS4 := Lib.hid hs4
                  have HB4 := Lib.hid (HB1.out.grown hg4 HB1.out.size (fun j hj => by cases hj; exact Nat.le_refl _))
                  clear hs4 hg4 hm hsa
                  go_wp2_with fail
                  go_roundw
                  case rel => exact ⟨k + 1, by omega, by go_num, Y.out, HS4.out, HB4.out⟩
                  case measure => simp [intOf]; omega
        · obtain rfl : k = ps.length := by omega
          obtain rfl : R = true := by rw [← hR.out, validC_all HN.out HA.out]; simpa using h30
          clear hb
          go_wp2_with fail
          go_ret
          exact ⟨rfl, HB.out⟩
    · obtain rfl : R = false := by rw [← hR.out]; exact validC_long h30
      have h31 : 30 < (ps.length : Int) := by omega
      clear h30
      go_enter Tryd.func14, Tryd.ntmps14
      go_wp2_with (go_at_call 23; refine (within_any _ _ _ _).mono ?_; rw [hn]; rintro e w' ⟨rfl, rfl⟩)
      go_ret
      exact ⟨rfl, Below.refl _ _⟩
end Go.Proofs.YtemhmejjmhbfdaaDoor.sines
