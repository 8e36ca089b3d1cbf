/- SpotsWithin, of the program and of the model. -/
import Derived.Test.YtkiimdfnobcdpaaNear
namespace Go.Proofs.Ytkiimdfnobcdpaa.sines
open Go.ChangeShapes Go.WideShapes Go.ChangeAt Go.RowKit Go.Proofs.Ytkiimdfnobcdpaa.spots Go.Proofs.Ytkiimdfnobcdpaa.irows Go.Proofs.Ytkiimdfnobcdpaa.pairs

theorem newI (w : World) (s : Int) (n : Nat) (h : w.heap.size = n) : ∀ j u, ([.int .i64 s] : List Value)[j]? = some u → (w.alloc (.cells #[.int .i64 s] 2)).cell? ((⟨n, 0, none⟩ : Addr).add j) = some u := by
  subst h
  intro j u hj
  match j, hj with
  | 0, hj => simp at hj; subst hj; simp [Addr.add]
theorem cellI (s : Int) : ∀ u ∈ ([.int .i64 s] : List Value), u.oneCell' = true := fun u hu => by simp at hu; subst hu; rfl
theorem snocI {w : World} {B : Nat} {v : Value} {o : List Int} {x : Int} (h : w.ownsRow B 2 1 v (o.length + 1) (ints o ++ [.int .i64 x])) : IRow w B v (o ++ [x]) := by
  unfold IRow
  rw [List.length_append, show [x].length = 1 from rfl, show ints (o ++ [x]) = ints o ++ [.int .i64 x] by simp [ints]]
  exact h
theorem irow_made (w : World) (B : Nat) (h : B ≤ w.heap.size) : IRow (w.alloc (.cells #[] 2)) B (.slice (some ⟨w.heap.size, 0, none⟩) 0 0) [] := World.ownsRow_made w #[] 0 h (by decide) rfl

/-- The indices up to k whose value is at most a number. -/
def nearI (g : Nat → Int) (most : Int) : Nat → List Int
  | 0 => []
  | k + 1 => if g k ≤ most then nearI g most k ++ [(k : Int)] else nearI g most k
theorem nearI_len (g : Nat → Int) (most : Int) : ∀ k, (nearI g most k).length ≤ k
  | 0 => Nat.le_refl _
  | k + 1 => by
    have := nearI_len g most k
    unfold nearI
    split
    · simp; omega
    · omega
def codeS (ps : List (Int × Int)) (a b most : Int) : Int := if codeW ps a b 0 = 0 then (if inB most 0 648000 = true then 0 else 2) else codeW ps a b 0
def withinV (ps : List (Int × Int)) (a b most : Int) : List Int := if codeS ps a b most = 0 then nearI (at0 (rowD ps a b)) most ps.length else []
theorem withinV_len (ps : List (Int × Int)) (a b most : Int) : (withinV ps a b most).length ≤ ps.length := by
  unfold withinV
  split
  · exact nearI_len _ _ _
  · simp
theorem withinV_bad {ps : List (Int × Int)} {a b most : Int} (h : codeS ps a b most ≠ 0) : withinV ps a b most = [] := by simp [withinV, h]
theorem codeS_ok {ps : List (Int × Int)} {a b most : Int} (h : codeS ps a b most = 0) : codeW ps a b 0 = 0 ∧ inB most 0 648000 = true := by
  unfold codeS at h
  split at h
  · split at h
    · exact ⟨by assumption, by assumption⟩
    · omega
  · exact absurd h (by assumption)
theorem codeS_w {ps : List (Int × Int)} {a b most : Int} (h : codeW ps a b 0 ≠ 0) : codeS ps a b most = codeW ps a b 0 := by simp [codeS, h]
theorem codeS_far {ps : List (Int × Int)} {a b most : Int} (h : codeW ps a b 0 = 0) (k : inB most 0 648000 = false) : codeS ps a b most = 2 := by simp [codeS, h, k]

set_option maxRecDepth 100000 in
set_option maxHeartbeats 2000000 in
theorem implWithin_any (v : Value) (ps : List (Int × Int)) (a b most : Int) (w : World) (hv : PAt w w.heap.size v ps) (hl : ps.length ≤ 1048576) :
    Calls Try.prog 15 #[v, .agg #[.int .i64 a, .int .i64 b], .int .i64 most] w fun e w' => ∃ u, e = .returned (.tuple #[u, .int .i64 (codeS ps a b most)]) ∧ IRow w' w.heap.size u (withinV ps a b most) ∧ Below w.heap.size w w' := by
  have HV := Lib.hid hv
  obtain ⟨i0, hi, hz0, hz1, hz2⟩ := info_parts info_int
  clear hv
  cases h : okB a b with
  | false =>
    have e1 : codeS ps a b most = 1 := by rw [codeS_w (by rw [codeW_bad h]; decide), codeW_bad h]
    rw [e1, withinV_bad (by rw [e1]; decide)]
    clear e1
    go_enter Try.func15, Try.ntmps15
    go_wp2_with fail
    refine (ValidSpot_any a b _).mono ?_
    rw [h]
    rintro e w1 ⟨rfl, o1, rfl⟩
    go_wp2
    exact bodyPost_ret (v := .tuple #[.slice none 0 0, .int .i64 1]) (by simp [results, Try.results15, go_sem]) rfl ⟨_, rfl, irow_nil _ _, below_two _ _ _⟩
  | true =>
    have HO := Lib.hid h
    by_cases hc : codeL ps 0 12 = 0
    · have hcw : codeW ps a b 0 = 0 := by rw [codeW_yes h]; exact hc
      obtain ⟨k1, k2, k3⟩ := codeL_ok hc
      have HC := Lib.hid hc
      have K1 := Lib.hid k1
      cases g : inB most 0 648000 with
      | false =>
        have e1 : codeS ps a b most = 2 := codeS_far hcw g
        rw [e1, withinV_bad (by rw [e1]; decide)]
        clear e1 hc hcw k1 k2 k3
        go_enter Try.func15, Try.ntmps15
        go_wp2_with fail
        refine (ValidSpot_any a b _).mono ?_
        rw [h]
        rintro e w1 ⟨rfl, o1, rfl⟩
        go_wp2_with fail
        refine (spotsCode_any v ps 0 12 _ (pat_up (pat_keep HV.out (below_two w _ _)) (by simp <;> omega)) hl).mono ?_
        rw [HC.out]
        rintro e w2 ⟨rfl, hb⟩
        have HB := Lib.hid (below_alloc2 hb)
        clear hb
        go_wp2_with fail
        refine (within_any most 0 648000 _).mono ?_
        rw [g]
        rintro e w3 ⟨rfl, rfl⟩
        go_wp2
        exact bodyPost_ret (v := .tuple #[.slice none 0 0, .int .i64 2]) (by simp [results, Try.results15, go_sem]) rfl ⟨_, rfl, irow_nil _ _, HB.out⟩
      | true =>
        have e1 : codeS ps a b most = 0 := by simp [codeS, hcw, g]
        have e2 : withinV ps a b most = nearI (at0 (rowD ps a b)) most ps.length := by simp [withinV, e1]
        rw [e2, e1]
        obtain ⟨zs, hzs⟩ : ∃ zs, Hid (rowD ps a b = zs) := ⟨_, Lib.hid rfl⟩
        have zl : zs.length = ps.length := by rw [← hzs.out, rowD_len]
        rw [hzs.out, ← zl]
        have z2 : zs.length ≤ 12 := by omega
        have z3 : (zs.length : Int) ≤ 12 := by omega
        clear e1 e2 hc hcw k1 k2 k3 zl
        go_enter Try.func15, Try.ntmps15
        go_wp2_with fail
        refine (ValidSpot_any a b _).mono ?_
        rw [h]
        rintro e w1 ⟨rfl, o1, rfl⟩
        go_wp2_with fail
        refine (spotsCode_any v ps 0 12 _ (pat_up (pat_keep HV.out (below_two w _ _)) (by simp <;> omega)) hl).mono ?_
        rw [HC.out]
        rintro e w2 ⟨rfl, hb⟩
        have HB := Lib.hid (below_alloc2 hb)
        have q0 : w2.cell? ⟨w.heap.size, 0, none⟩ = some (.int .i64 a) := (hb.cell (p := ⟨w.heap.size, 0, none⟩) (by simp <;> omega)).trans (by rw [World.cell?_alloc_past _ _ _ (by simp)]; simp)
        have q1 : w2.cell? ⟨w.heap.size, 1, none⟩ = some (.int .i64 b) := (hb.cell (p := ⟨w.heap.size, 1, none⟩) (by simp <;> omega)).trans (by rw [World.cell?_alloc_past _ _ _ (by simp)]; simp)
        clear hb
        go_wp2_with fail
        refine (within_any most 0 648000 _).mono ?_
        rw [g]
        rintro e w3 ⟨rfl, rfl⟩
        go_wp2_with fail
        refine (distancesFrom_any v ps a b _ (pat_up (pat_keep HV.out HB.out) HB.out.size) hl K1.out HO.out).mono ?_
        rw [hzs.out]
        rintro e w3 ⟨u, rfl, hr, hb⟩
        have HB2 := Lib.hid (HB.out.trans (hb.mono HB.out.size))
        clear q0 q1
        obtain ⟨ar, cr, rfl, har⟩ := irow_at' hr
        have HR := Lib.hid har
        clear hb hr har
        go_wp2
        go_loopw [9, 27] (fun u i wr => ∃ k : Nat, k ≤ zs.length ∧ i = .int .i64 (k : Int) ∧ IRow wr w3.heap.size u (nearI (at0 zs) most k) ∧ Below w3.heap.size w3 wr) (fun _ i _ => zs.length - (intOf i).toNat)
        case atStart => exact ⟨0, Nat.zero_le _, rfl, irow_nil _ _, Below.refl _ _⟩
        case round =>
          obtain ⟨k, hk, rfl, hr, hb⟩ := hrel
          have HR2 := Lib.hid hr
          have HB3 := Lib.hid hb
          have hsz := hb.size
          have NL := nearI_len (at0 zs) most k
          by_cases hlt : k < zs.length
          · obtain ⟨g2, rfl, _, g3, ck⟩ := HR.out k hlt
            have ck2 := (hb.cell (p := ⟨g2, k, none⟩) g3).trans ck
            have hk0 : 0 ≤ (k : Int) := by omega
            have hk1 : (k : Int) < (zs.length : Int) := by omega
            have SY := Lib.hid (show zs[k] ≤ most → nearI (at0 zs) most (k + 1) = nearI (at0 zs) most k ++ [(k : Int)] from fun h => by rw [nearI, at0_of hlt, if_pos h])
            have SN := Lib.hid (show ¬ zs[k] ≤ most → nearI (at0 zs) most (k + 1) = nearI (at0 zs) most k from fun h => by rw [nearI, at0_of hlt, if_neg h])
            clear ck hr hb
            generalize zs[k] = z at ck2 SY SN
            obtain ⟨ns, hns⟩ : ∃ ns, Hid (nearI (at0 zs) most k = ns) := ⟨_, Lib.hid rfl⟩
            rw [hns.out] at NL HR2 SY SN
            by_cases hd : z ≤ most
            · have d1 : decide (z ≤ most) = true := decide_eq_true hd
              have SM := Lib.hid (SY.out hd)
              clear hd
              go_wp2_with (at_builtin; refine wpList_append_own _ rfl _ _ 29 rfl (w3.heap.size) 2 i0 (.int .i64 0) 1 8 Try.underlying29 hi hz0 hz1 hz2 rfl (by decide) _ ns.length _ rfl (HR2.out.alloc _) ⟨wr.heap.size, 0, none⟩ 1 1 [.int .i64 (k : Int)] rfl rfl (newI _ _ _ (by first | rfl | simp)) (cellI _) (by unfold maxLen; omega) (by omega) (by simp; omega) ?_; intro v1 w1 hown1 hg1 _)
              go_roundw
              case rel => exact ⟨k + 1, by omega, by go_num, by rw [SM.out]; exact snocI hown1, (HB3.out.alloc hsz _).grown hg1 (by simp; omega) (fun j hj => (HR2.out.lt j hj).1)⟩
              case measure => simp [intOf]; omega
            · have d1 : decide (z ≤ most) = false := decide_eq_false hd
              have SM := Lib.hid (SN.out (by omega))
              clear hd
              go_wp2
              go_roundw
              case rel => exact ⟨k + 1, by omega, by go_num, by rw [SM.out]; exact HR2.out, HB3.out⟩
              case measure => simp [intOf]; omega
          · obtain rfl : k = zs.length := by omega
            clear hr hb
            go_wp2
            exact bodyPost_ret (v := .tuple #[u9, .int .i64 0]) (by simp [results, Try.results15, go_sem]) rfl ⟨_, rfl, irow_up HR2.out HB2.out.size, HB2.out.trans (HB3.out.mono HB2.out.size)⟩
    · have hcw : codeW ps a b 0 ≠ 0 := by rw [codeW_yes h]; exact hc
      have e1 : codeS ps a b most = codeL ps 0 12 := by rw [codeS_w hcw, codeW_yes h]
      rw [withinV_bad (by rw [e1]; exact hc), e1]
      obtain ⟨C, HC⟩ : ∃ C, Hid (codeL ps 0 12 = C) := ⟨_, Lib.hid rfl⟩
      rw [HC.out] at hc ⊢
      have hc1 : (C != 0) = true := by simpa using hc
      clear hc hcw e1
      go_enter Try.func15, Try.ntmps15
      go_wp2_with fail
      refine (ValidSpot_any a b _).mono ?_
      rw [h]
      rintro e w1 ⟨rfl, o1, rfl⟩
      go_wp2_with fail
      refine (spotsCode_any v ps 0 12 _ (pat_up (pat_keep HV.out (below_two w _ _)) (by simp <;> omega)) hl).mono ?_
      rw [HC.out]
      rintro e w2 ⟨rfl, hb⟩
      have HB := Lib.hid (below_alloc2 hb)
      clear hb
      go_wp2
      exact bodyPost_ret (v := .tuple #[.slice none 0 0, .int .i64 C]) (by simp [results, Try.results15, go_sem]) rfl ⟨_, rfl, irow_nil _ _, HB.out⟩


end Go.Proofs.Ytkiimdfnobcdpaa.sines
