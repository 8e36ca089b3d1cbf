/- Whether a place moves by more than told: contracts of the program. -/
import Derived.Test.YtemhmejjmhbfdaaPlatesI10
namespace Go.Proofs.Ytemhmejjmhbfdaa.sines
open Go.ChangeShapes Go.WideShapes Go.ChangeAt Go.RowKit Go.Proofs.Ytemhmejjmhbfdaa.spots Go.Proofs.Ytemhmejjmhbfdaa.pairs
set_option linter.unusedSimpArgs false
set_option linter.unusedVariables false

theorem cells32 (w : World) (a b c d e' : Value) (T U : TypeId) :
    ((w.alloc (.cells #[a, b, c] T)).alloc (.cells #[d, e'] U)).cell? ⟨w.heap.size, 0, none⟩ = some a ∧
    ((w.alloc (.cells #[a, b, c] T)).alloc (.cells #[d, e'] U)).cell? ⟨w.heap.size, 1, none⟩ = some b ∧
    ((w.alloc (.cells #[a, b, c] T)).alloc (.cells #[d, e'] U)).heap[w.heap.size]? = some (.cells #[a, b, c] T (0, 0)) ∧
    ((w.alloc (.cells #[a, b, c] T)).alloc (.cells #[d, e'] U)).cell? ⟨w.heap.size + 1, 0, none⟩ = some d ∧
    ((w.alloc (.cells #[a, b, c] T)).alloc (.cells #[d, e'] U)).cell? ⟨w.heap.size + 1, 1, none⟩ = some e' := by
  have e1 : (w.alloc (.cells #[a, b, c] T)).heap.size = w.heap.size + 1 := by simp
  have g1 : ((w.alloc (.cells #[a, b, c] T)).alloc (.cells #[d, e'] U)).heap[w.heap.size]? = some (.cells #[a, b, c] T (0, 0)) := by
    rw [Below.heap_alloc _ _ _ (by rw [e1]; omega)]
    exact heap_alloc_new w _
  have g2 : ((w.alloc (.cells #[a, b, c] T)).alloc (.cells #[d, e'] U)).heap[w.heap.size + 1]? = some (.cells #[d, e'] U (0, 0)) := by
    rw [← e1]
    exact heap_alloc_new _ _
  exact ⟨cell_heap g1 0, cell_heap g1 1, g1, cell_heap g2 0, cell_heap g2 1⟩
theorem size_in (n m : Int) : decide (max n (-n) ≤ m) = inB n (-m) m := by
  rw [Bool.eq_iff_iff]; simp only [decide_eq_true_eq, inB]; omega
set_option maxRecDepth 100000 in
set_option maxHeartbeats 1000000 in
theorem isExceeded_any (lat lon s most : Int) (wave : Bool) (w : World) (h : okB lat lon = true) (s0 : 1 ≤ s) (s1 : s ≤ 100000) (m0 : 0 ≤ most) (m1 : most ≤ 1000) :
    Calls Try.prog 109 #[.agg #[.iface (projT wave) (.agg #[]), .int .i64 s, .int .i64 most], .agg #[.int .i64 lat, .int .i64 lon]] w fun e w' => e = .returned (.bool (!fitP (lat, lon) s most wave)) ∧ Below w.heap.size w w' := by
  have LO := Lib.hid (fun W => loss_any lat lon s wave W h s0 s1)
  have FP := Lib.hid (show fitP (lat, lon) s most wave = (lossOk lat lon s wave && inB (lossN lat s wave) (-most) most && inB (lossE lat lon s wave) (-most) most) by rw [← size_in, ← size_in]; rfl)
  rw [FP.out]
  clear FP
  generalize projT wave = T at LO ⊢
  generalize lossN lat s wave = N1 at LO ⊢
  generalize lossE lat lon s wave = N2 at LO ⊢
  generalize lossOk lat lon s wave = ok at LO ⊢
  have kn : IntKind.i64.wrap (-most) = -most := IntWalk.i64_in _ (by omega)
  have B0 := Lib.hid (((Below.refl w.heap.size w).alloc (Nat.le_refl _) (.cells #[.iface T (.agg #[]), .int .i64 s, .int .i64 most] 127)).alloc (by simp) (.cells #[.int .i64 lat, .int .i64 lon] 25))
  obtain ⟨u1, u2, u3, u4, u5⟩ := cells32 w (.iface T (.agg #[])) (.int .i64 s) (.int .i64 most) (.int .i64 lat) (.int .i64 lon) 127 25
  generalize hi1 : inB N1 (-most) most = i1
  generalize hi2 : inB N2 (-most) most = i2
  clear h s0 s1 m0 m1
  cases ok with
  | false =>
    simp only [Bool.false_eq_true, if_false] at LO
    simp only [Bool.false_and, Bool.not_false]
    go_enter Try.func109, Try.ntmps109
    go_wp2_with fail
    generalize ((w.alloc (.cells #[.iface T (.agg #[]), .int .i64 s, .int .i64 most] 127)).alloc (.cells #[.int .i64 lat, .int .i64 lon] 25)) = V0 at *
    refine (LO.out _).mono ?_
    rintro e w1 ⟨rfl, hb⟩
    have HB := B0.out.trans (hb.mono B0.out.size)
    clear hb u1 u2 u3 u4 u5
    go_wp2
    go_ret
    exact ⟨rfl, HB⟩
  | true =>
    simp only [if_true] at LO
    simp only [Bool.true_and]
    cases i1 <;> cases i2
    all_goals
      go_enter Try.func109, Try.ntmps109
      go_wp2_with fail
      generalize ((w.alloc (.cells #[.iface T (.agg #[]), .int .i64 s, .int .i64 most] 127)).alloc (.cells #[.int .i64 lat, .int .i64 lon] 25)) = V0 at *
      refine (LO.out _).mono ?_
      rintro e w1 ⟨rfl, hb⟩
      have HB := B0.out.trans (hb.mono B0.out.size)
      have c3 : w1.cell? ⟨w.heap.size, 2, none⟩ = some (.int .i64 most) := cell_heap ((hb.block _ (lt_of u3)).trans u3) 2
      clear hb u1 u2 u3 u4 u5
      go_wp2_with (go_at_call 107; refine (within_any _ _ _ _).mono ?_; (first | rw [hi1] | rw [hi2]); rintro e w' ⟨rfl, rfl⟩)
      go_ret
      exact ⟨rfl, HB⟩
set_option maxRecDepth 100000 in
set_option maxHeartbeats 1000000 in
theorem indexEx_any (v : Value) (ps : List (Int × Int)) (s most : Int) (wave : Bool) (w : World) (hv : PAt w w.heap.size v ps) (hl : ps.length ≤ 1048576) (hok : okL ps = true) (s0 : 1 ≤ s) (s1 : s ≤ 100000) (m0 : 0 ≤ most) (m1 : most ≤ 1000) :
    Calls Try.prog 157 #[v, .func (.func 109) #[.agg #[.iface (projT wave) (.agg #[]), .int .i64 s, .int .i64 most]] #[]] w fun e w' => ∃ r : Int, e = .returned (.int .i64 r) ∧ ((fitsB ps s most wave = true ∧ r = -1) ∨ (fitsB ps s most wave = false ∧ 0 ≤ r)) ∧ Below w.heap.size w w' := by
  obtain ⟨a, c, rfl, hc⟩ := hv
  have HC := Lib.hid hc
  have HO := Lib.hid (okL_iff.1 hok)
  have EX := Lib.hid (fun x1 x2 (h : okB x1 x2 = true) W => isExceeded_any x1 x2 s most wave W h s0 s1 m0 m1)
  clear hc hok s0 s1 m0 m1
  generalize projT wave = T at EX ⊢
  have hl2 : (ps.length : Int) ≤ 1048576 := by omega
  go_enter Try.func157, Try.ntmps157
  go_wp2
  go_loopw [8] (fun i wr => ∃ k : Nat, k ≤ ps.length ∧ i = .int .i64 (k : Int) ∧ (∀ j, j < k → fitP (sAt ps j) s most wave = true) ∧ Below w.heap.size w wr) (fun i _ => ps.length - (intOf i).toNat)
  case atStart => exact ⟨0, Nat.zero_le _, rfl, fun j h => by omega, Below.refl _ _⟩
  case round =>
    obtain ⟨k, hk, rfl, ha, hb⟩ := hrel
    have HA := Lib.hid ha
    have HB := Lib.hid hb
    have hsz := hb.size
    clear ha hb
    by_cases hlt : k < ps.length
    · obtain ⟨b, off, rfl, hbs, c1, c2⟩ := HC.out k hlt
      rw [sAt_of hlt] at c1 c2
      have u1 := (HB.out.cell (p := ⟨b, off + k * 2, none⟩) hbs).trans c1
      have u2 := (HB.out.cell (p := ⟨b, off + k * 2 + 1, none⟩) hbs).trans c2
      have hk0 : 0 ≤ (k : Int) := by omega
      have hk1 : (k : Int) < (ps.length : Int) := by omega
      have NO := Lib.hid (show fitP (sAt ps k) s most wave = false → fitsB ps s most wave = false from fun h => fitsB_no hlt h)
      have YES := Lib.hid (show fitP (sAt ps k) s most wave = true → ∀ j, j < k + 1 → fitP (sAt ps j) s most wave = true from fun h j hj => by
        by_cases e : j = k
        · subst e; exact h
        · exact HA.out j (by omega))
      have okk := HO.out k hlt
      clear c1 c2
      generalize sAt ps k = p at u1 u2 NO YES okk
      obtain ⟨x1, x2⟩ := p
      have EK := Lib.hid (EX.out x1 x2 okk)
      clear okk
      generalize fitP (x1, x2) s most wave = fp at NO YES EK
      cases fp with
      | false =>
        have BAD := Lib.hid (NO.out rfl)
        go_wp2_with fail
        refine (EK.out _).mono ?_
        rintro e w1 ⟨rfl, hb1⟩
        have HB1 := Lib.hid (HB.out.trans (hb1.mono hsz))
        clear hb1
        go_wp2
        go_ret
        exact ⟨_, rfl, .inr ⟨BAD.out, hk0⟩, HB1.out⟩
      | true =>
        have Y := Lib.hid (YES.out rfl)
        go_wp2_with fail
        refine (EK.out _).mono ?_
        rintro e w1 ⟨rfl, hb1⟩
        have HB1 := Lib.hid (HB.out.trans (hb1.mono hsz))
        clear hb1
        go_wp2
        go_roundw
        case rel => exact ⟨k + 1, by omega, by go_num, Y.out, HB1.out⟩
        case measure => simp [intOf]; omega
    · obtain rfl : k = ps.length := by omega
      have OK := Lib.hid (fitsB_iff.2 HA.out)
      go_wp2
      go_ret
      exact ⟨_, rfl, .inl ⟨OK.out, rfl⟩, HB.out⟩
set_option maxHeartbeats 400000 in
theorem containsEx_any (v : Value) (ps : List (Int × Int)) (s most : Int) (wave : Bool) (w : World) (hv : PAt w w.heap.size v ps) (hl : ps.length ≤ 1048576) (hok : okL ps = true) (s0 : 1 ≤ s) (s1 : s ≤ 100000) (m0 : 0 ≤ most) (m1 : most ≤ 1000) :
    Calls Try.prog 108 #[v, .func (.func 109) #[.agg #[.iface (projT wave) (.agg #[]), .int .i64 s, .int .i64 most]] #[]] w fun e w' => e = .returned (.bool (!fitsB ps s most wave)) ∧ Below w.heap.size w w' := by
  have HI := Lib.hid (fun W (h : PAt W W.heap.size v ps) => indexEx_any v ps s most wave W h hl hok s0 s1 m0 m1)
  have HV := Lib.hid hv
  obtain ⟨a, c, rfl, _⟩ := hv
  generalize projT wave = T at HI ⊢
  clear hok s0 s1 m0 m1
  go_enter Try.func108, Try.ntmps108
  go_wp2_with fail
  refine (HI.out _ HV.out).mono ?_
  rintro e w1 ⟨r, rfl, hr, hb⟩
  have HB := Lib.hid hb
  clear hb
  rcases hr with ⟨h1, rfl⟩ | ⟨h1, h2⟩
  · have H1 := Lib.hid h1
    clear h1
    go_wp2
    go_ret
    exact ⟨by rw [H1.out]; rfl, HB.out⟩
  · have H1 := Lib.hid h1
    clear h1
    go_wp2
    go_ret
    exact ⟨by rw [H1.out]; simp, HB.out⟩
end Go.Proofs.Ytemhmejjmhbfdaa.sines
