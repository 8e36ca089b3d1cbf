/- GoresTouched of the program. -/
import Derived.Test.YteeikkakibifpaaDoorTouch
import Derived.Deep.LoopGhost
namespace Go.Proofs.YteeikkakibifpaaDoor.sines
open Go.ChangeShapes Go.WideShapes Go.ChangeAt Go.RowKit Go.Proofs.YteeikkakibifpaaDoor.spots Go.Proofs.YteeikkakibifpaaDoor.irows Go.Proofs.YteeikkakibifpaaDoor.pairs

set_option maxHeartbeats 400000 in
theorem bad1_any (a b : Int) (w : World) :
    Calls Tryd.prog 104 #[.agg #[.int .i64 a, .int .i64 b]] w fun e w' => e = .returned (.bool (!okB a b)) ∧ Below w.heap.size w w' := by
  go_enter Tryd.func104, Tryd.ntmps104
  go_wp2_with fail
  refine (ValidSpot_any a b _).mono ?_
  rintro e w' ⟨rfl, o1, rfl⟩
  go_wp2
  go_ret
  exact ⟨rfl, ((Below.refl _ _).alloc (Nat.le_refl _) _).alloc (by simp) _⟩
set_option maxRecDepth 100000 in
set_option maxHeartbeats 1000000 in
theorem indexSpots_any (v : Value) (ps : List (Int × Int)) (w : World) (hv : PAt w w.heap.size v ps) (hl : ps.length ≤ 1048576) :
    Calls Tryd.prog 110 #[v, .func (.func 104) #[] #[]] w fun e w' => ∃ r : Int, e = .returned (.int .i64 r) ∧ ((okL ps = true ∧ r = -1) ∨ (okL ps = false ∧ 0 ≤ r)) ∧ Below w.heap.size w w' := by
  obtain ⟨a, c, rfl, hc⟩ := hv
  have HC := Lib.hid hc
  clear hc
  have hl2 : (ps.length : Int) ≤ 1048576 := by omega
  go_enter Tryd.func110, Tryd.ntmps110
  go_wp2
  go_loopw [8] (fun i wr => ∃ k : Nat, k ≤ ps.length ∧ i = .int .i64 (k : Int) ∧ (∀ j, (hj : j < ps.length) → j < k → okB ps[j].1 ps[j].2 = true) ∧ Below w.heap.size w wr) (fun i _ => ps.length - (intOf i).toNat)
  case atStart => exact ⟨0, Nat.zero_le _, rfl, fun j _ h => by omega, Below.refl _ _⟩
  case round =>
    obtain ⟨k, hk, rfl, hall, hb⟩ := hrel
    have hsz := hb.size
    have HA := Lib.hid hall
    have HB := Lib.hid hb
    clear hall hb
    by_cases hlt : k < ps.length
    · obtain ⟨b, off, rfl, hbs, c1, c2⟩ := HC.out k hlt
      have c1' : wr.cell? ⟨b, off + k * 2, none⟩ = some (.int .i64 ps[k].1) := by rw [HB.out.cell (p := ⟨b, off + k * 2, none⟩) hbs]; exact c1
      have c2' : wr.cell? ⟨b, off + k * 2 + 1, none⟩ = some (.int .i64 ps[k].2) := by rw [HB.out.cell (p := ⟨b, off + k * 2 + 1, none⟩) hbs]; exact c2
      have hk0 : 0 ≤ (k : Int) := by omega
      have hk1 : (k : Int) < (ps.length : Int) := by omega
      have NO := Lib.hid (fun h => okL_not k hlt h)
      have YES := Lib.hid (show okB ps[k].1 ps[k].2 = true → ∀ j, (hj : j < ps.length) → j < k + 1 → okB ps[j].1 ps[j].2 = true from fun h j hj hjk => by
        by_cases e : j = k
        · subst e; exact h
        · exact HA.out j hj (by omega))
      clear c1 c2
      generalize ps[k] = x at c1' c2' NO YES
      obtain ⟨x1, x2⟩ := x
      cases ho : okB x1 x2 with
      | false =>
        have BAD := Lib.hid (NO.out ho)
        go_wp2_with fail
        refine (bad1_any x1 x2 _).mono ?_
        rw [ho]
        rintro e w1 ⟨rfl, hb1⟩
        have HB1 := Lib.hid (HB.out.trans (hb1.mono hsz))
        clear hb1
        go_wp2
        go_ret
        exact ⟨_, rfl, .inr ⟨BAD.out, hk0⟩, HB1.out⟩
      | true =>
        have Y := Lib.hid (YES.out ho)
        go_wp2_with fail
        refine (bad1_any x1 x2 _).mono ?_
        rw [ho]
        rintro e w1 ⟨rfl, hb1⟩
        have HB1 := Lib.hid (HB.out.trans (hb1.mono hsz))
        clear hb1
        go_wp2
        go_roundw
        case rel => exact ⟨k + 1, by omega, by go_num, Y.out, HB1.out⟩
        case measure => simp [intOf]; omega
    · obtain rfl : k = ps.length := by omega
      have OK := Lib.hid (okL_of fun j hj => HA.out j hj hj)
      go_wp2
      go_ret
      exact ⟨_, rfl, .inl ⟨OK.out, rfl⟩, HB.out⟩
set_option maxHeartbeats 400000 in
theorem containsBad_any (v : Value) (ps : List (Int × Int)) (w : World) (hv : PAt w w.heap.size v ps) (hl : ps.length ≤ 1048576) :
    Calls Tryd.prog 103 #[v, .func (.func 104) #[] #[]] w fun e w' => e = .returned (.bool (!okL ps)) ∧ Below w.heap.size w w' := by
  have HV := Lib.hid hv
  obtain ⟨a, c, rfl, _⟩ := hv
  go_enter Tryd.func103, Tryd.ntmps103
  go_wp2_with fail
  refine (indexSpots_any _ ps _ HV.out hl).mono ?_
  rintro e w1 ⟨r, rfl, hr, hb⟩
  have HB := Lib.hid hb
  clear hb
  rcases hr with ⟨h1, rfl⟩ | ⟨h1, h2⟩
  · have H1 := Lib.hid h1
    clear h1
    go_wp2
    go_ret
    exact ⟨by rw [H1.out]; rfl, HB.out⟩
  · have H1 := Lib.hid h1
    clear h1
    go_wp2
    go_ret
    exact ⟨by rw [H1.out]; simp, HB.out⟩
set_option maxHeartbeats 400000 in
theorem areSpots_any (v : Value) (ps : List (Int × Int)) (w : World) (hv : PAt w w.heap.size v ps) (hl : ps.length ≤ 1048576) :
    Calls Tryd.prog 77 #[v] w fun e w' => e = .returned (.bool (okL ps)) ∧ Below w.heap.size w w' := by
  have HV := Lib.hid hv
  obtain ⟨a, c, rfl, _⟩ := hv
  obtain ⟨b, hB⟩ : ∃ b, Hid (okL ps = b) := ⟨_, Lib.hid rfl⟩
  rw [hB.out]
  cases b <;>
  (
  go_enter Tryd.func77, Tryd.ntmps77
  go_wp2_with fail
  refine (containsBad_any _ ps _ HV.out hl).mono ?_
  rw [hB.out]
  rintro e w1 ⟨rfl, hb⟩
  have HB := Lib.hid hb
  clear hb
  go_wp2
  go_ret
  exact ⟨rfl, HB.out⟩)
theorem one_new' (w : World) (s : Int) (n : Nat) (h : w.heap.size = n) : ∀ j u, ([.int .i64 s] : List Value)[j]? = some u → (w.alloc (.cells #[.int .i64 s] 2)).cell? ((⟨n, 0, none⟩ : Addr).add j) = some u := by
  subst h
  exact one_new w s
set_option maxRecDepth 100000 in
set_option maxHeartbeats 2000000 in
theorem implTouched_ok (m : Nat) (v : Value) (ps : List (Int × Int)) (w : World) (hG : GV w) (hv : PAt w w.heap.size v ps) (hg : goreB (m : Int) = true) (hk : okL ps = true) (hl : ps.length ≤ 100) :
    Calls Tryd.prog 26 #[.int .i64 (m : Int), v] w fun e w' => ∃ u, e = .returned (.tuple #[u, .int .i64 0]) ∧ IRow w' w.heap.size u (touchN (m : Int) ps m) ∧ Below w.heap.size w w' := by
  obtain ⟨i0, hi, hz0, hz1, hz2⟩ := info_parts info_int
  have HV := Lib.hid hv
  obtain ⟨a, c, rfl, hc⟩ := hv
  have HC := Lib.hid hc
  have HK := Lib.hid hk
  have HG := Lib.hid hg
  obtain ⟨g1, g2, _⟩ := goreB_facts hg
  have hl2 : (ps.length : Int) ≤ 100 := by omega
  have m2 : m ≤ 48 := by omega
  clear hc hk
  go_enter Tryd.func26, Tryd.ntmps26
  go_wp2
  go_step3
  go_wp2_with (first | (go_at_call 32; refine (ValidGores_any (m : Int) _ hG).mono ?_; rw [HG.out]; rintro e w' ⟨rfl, rfl⟩) | (go_at_call 77; refine (areSpots_any _ ps _ HV.out (by omega)).mono ?_; rw [HK.out]; rintro e w2 ⟨rfl, hb⟩; have HB2 := Lib.hid hb; clear hb hg))
  go_step3
  go_wp2
  go_loopg [6, 22] m (fun gk u i wr => ∃ k : Nat, k + gk = m ∧ i = .int .i64 (k : Int) ∧ IRow wr w.heap.size u (touchN (m : Int) ps k) ∧ Below w.heap.size w wr)
  case atStart => exact ⟨0, by omega, rfl, irow_nil _ _, HB2.out⟩
  case round =>
    obtain ⟨k, hkg, rfl, hr, hb⟩ := hrel
    have hsz := hb.size
    have HR := Lib.hid hr
    have HB := Lib.hid hb
    have KG := Lib.hid hkg
    clear hr hb hkg
    cases gk with
    | zero =>
      have hkz : ¬ ((k : Int) < (m : Int)) := by have := KG.out; omega
      obtain rfl : k = m := by have := KG.out; omega
      go_wp2
      try rw [Exit.noGoto_ret]
      go_ret2
      exact ⟨_, rfl, HR.out, HB.out⟩
    | succ g =>
      have hkz : (k : Int) < (m : Int) := by have := KG.out; omega
      have hkm : k ≤ 48 := by omega
      have kw : IntKind.i64.wrap ((k : Int) + 1) = (k : Int) + 1 := IntWalk.i64_in _ (by omega)
      have TNL := touchN_len (m : Int) ps k
      go_wp2
      go_loopg [6, 27] ps.length (fun g2 u2 i2 wy => ∃ q : Nat, q + g2 = ps.length ∧ i2 = .int .i64 (q : Int) ∧ (∀ j, (hj : j < ps.length) → j < q → goreAtL (m : Int) ps[j].2 ≠ (k : Int)) ∧ IRow wy w.heap.size u2 (touchN (m : Int) ps k) ∧ Below w.heap.size w wy)
      case atStart => exact ⟨0, by omega, rfl, fun j _ h => by omega, HR.out, HB.out⟩
      case round =>
        obtain ⟨q, hqg, rfl, hno, hr2, hb2⟩ := hrel
        have hsz2 := hb2.size
        have HN := Lib.hid hno
        have HR2 := Lib.hid hr2
        have HB3 := Lib.hid hb2
        have QG := Lib.hid hqg
        clear hno hr2 hb2 hqg
        cases gk with
        | zero =>
          obtain rfl : q = ps.length := by have := QG.out; omega
          have NO := Lib.hid (touchN_no (m : Int) ps k (fun p hp => by
            obtain ⟨j, hj, rfl⟩ := List.mem_iff_getElem.1 hp
            exact HN.out j hj hj))
          go_wp2
          go_roundg g
          case measure => omega
          case rel => exact ⟨k + 1, by have := KG.out; omega, by go_num, by rw [NO.out]; exact HR2.out, HB3.out⟩
        | succ g2 =>
          have hlt : q < ps.length := by have := QG.out; omega
          obtain ⟨b, off, rfl, hbs, c1, c2⟩ := HC.out q hlt
          have c1' : wr.cell? ⟨b, off + q * 2, none⟩ = some (.int .i64 ps[q].1) := by rw [HB3.out.cell (p := ⟨b, off + q * 2, none⟩) hbs]; exact c1
          have c2' : wr.cell? ⟨b, off + q * 2 + 1, none⟩ = some (.int .i64 ps[q].2) := by rw [HB3.out.cell (p := ⟨b, off + q * 2 + 1, none⟩) hbs]; exact c2
          have hq0 : 0 ≤ (q : Int) := by omega
          have hq1 : (q : Int) < (ps.length : Int) := by omega
          have OKK := Lib.hid (okL_at HK.out q hlt)
          have MEM := Lib.hid (show goreAtL (m : Int) ps[q].2 = (k : Int) → ∃ p ∈ ps, goreAtL (m : Int) p.2 = (k : Int) from fun e => ⟨ps[q], List.getElem_mem _, e⟩)
          have NXT := Lib.hid (show goreAtL (m : Int) ps[q].2 ≠ (k : Int) → ∀ j, (hj : j < ps.length) → j < q + 1 → goreAtL (m : Int) ps[j].2 ≠ (k : Int) from fun h j hj hjq => by
            by_cases e : j = q
            · subst e; exact h
            · exact HN.out j hj (by omega))
          clear c1 c2
          generalize ps[q] = x at c1' c2' OKK MEM NXT
          obtain ⟨x1, x2⟩ := x
          obtain ⟨b1, b2⟩ := ok_bounds OKK.out
          obtain ⟨y, hy⟩ : ∃ y, Hid (goreAtL (m : Int) x2 = y) := ⟨_, Lib.hid rfl⟩
          by_cases hyk : y = (k : Int)
          · have e1 : (y == (k : Int)) = true := by simpa using hyk
            have YES := Lib.hid (touchN_yes (m : Int) ps k (MEM.out (by rw [hy.out]; exact hyk)))
            clear hyk
            go_wp2_with (first | (go_at_call 62; refine (goreAt_any (m : Int) x2 _ HG.out b1 b2).mono ?_; rintro e w1 ⟨rfl, rfl⟩; rw [hy.out]) | (at_builtin; refine wpList_append_own _ rfl _ _ 33 rfl w.heap.size 2 i0 (.int .i64 0) 1 8 Tryd.underlying33 hi hz0 hz1 hz2 rfl (by decide) _ (touchN (m : Int) ps k).length _ rfl ((HR2.out.alloc _).alloc _) ⟨wr.heap.size + 1, 0, none⟩ 1 1 [.int .i64 (k : Int)] rfl rfl (one_new' _ _ _ (by simp)) (one_cell _) (by unfold maxLen; omega) (by omega) (by simp; omega) ?_; intro v1 w1 hown1 hg1 _))
            go_roundg g
            case measure => omega
            case rel => exact ⟨k + 1, by have := KG.out; omega, by go_num, by rw [YES.out]; exact row_snoc hown1, ((HB3.out.alloc hsz2 _).alloc (by simp; omega) _).grown hg1 (by simp; omega) (fun j hj => (HR2.out.lt j hj).1)⟩
          · have e1 : (y == (k : Int)) = false := by simpa using hyk
            have NX := Lib.hid (NXT.out (by rw [hy.out]; exact hyk))
            clear hyk
            go_wp2_with (go_at_call 62; refine (goreAt_any (m : Int) x2 _ HG.out b1 b2).mono ?_; rintro e w1 ⟨rfl, rfl⟩; rw [hy.out])
            go_roundg g2
            case measure => omega
            case rel => exact ⟨q + 1, by have := QG.out; omega, by go_num, NX.out, HR2.out.alloc _, HB3.out.alloc hsz2 _⟩
set_option maxHeartbeats 1000000 in
theorem implTouched_no (g : Int) (v : Value) (ps : List (Int × Int)) (w : World) (hG : GV w) (hv : PAt w w.heap.size v ps) (hg : goreB g = false) :
    Calls Tryd.prog 26 #[.int .i64 g, v] w fun e w' => e = .returned (.tuple #[.slice none 0 0, .int .i64 1]) ∧ Below w.heap.size w w' := by
  obtain ⟨a, c, rfl, _⟩ := hv
  go_enter Tryd.func26, Tryd.ntmps26
  go_wp2
  go_step3
  go_wp2_with (go_at_call 32; refine (ValidGores_any g _ hG).mono ?_; rw [hg]; rintro e w' ⟨rfl, rfl⟩)
  try rw [Exit.noGoto_ret]
  exact bodyPost_ret (v := .tuple #[.slice none 0 0, .int .i64 1]) (by simp [results, Tryd.results26, go_sem]) rfl ⟨rfl, Below.refl _ _⟩
set_option maxHeartbeats 1000000 in
theorem implTouched_bad (g : Int) (v : Value) (ps : List (Int × Int)) (w : World) (hG : GV w) (hv : PAt w w.heap.size v ps) (hl : ps.length ≤ 1048576) (hg : goreB g = true) (hk : okL ps = false) :
    Calls Tryd.prog 26 #[.int .i64 g, v] w fun e w' => e = .returned (.tuple #[.slice none 0 0, .int .i64 1]) ∧ Below w.heap.size w w' := by
  have HV := Lib.hid hv
  obtain ⟨a, c, rfl, _⟩ := hv
  go_enter Tryd.func26, Tryd.ntmps26
  go_wp2
  go_step3
  go_wp2_with (first | (go_at_call 32; refine (ValidGores_any g _ hG).mono ?_; rw [hg]; rintro e w' ⟨rfl, rfl⟩) | (go_at_call 77; refine (areSpots_any _ ps _ HV.out hl).mono ?_; rw [hk]; rintro e w2 ⟨rfl, hb⟩; have HB2 := Lib.hid hb; clear hb hg))
  try rw [Exit.noGoto_ret]
  exact bodyPost_ret (v := .tuple #[.slice none 0 0, .int .i64 1]) (by simp [results, Tryd.results26, go_sem]) rfl ⟨rfl, HB2.out⟩
set_option maxHeartbeats 1000000 in
theorem implTouched_full (g : Int) (v : Value) (ps : List (Int × Int)) (w : World) (hG : GV w) (hv : PAt w w.heap.size v ps) (hl : ps.length ≤ 1048576) (hg : goreB g = true) (hk : okL ps = true) (hf : 100 < ps.length) :
    Calls Tryd.prog 26 #[.int .i64 g, v] w fun e w' => e = .returned (.tuple #[.slice none 0 0, .int .i64 2]) ∧ Below w.heap.size w w' := by
  have HV := Lib.hid hv
  obtain ⟨a, c, rfl, _⟩ := hv
  have hf2 : 100 < (ps.length : Int) := by omega
  go_enter Tryd.func26, Tryd.ntmps26
  go_wp2
  go_step3
  go_wp2_with (first | (go_at_call 32; refine (ValidGores_any g _ hG).mono ?_; rw [hg]; rintro e w' ⟨rfl, rfl⟩) | (go_at_call 77; refine (areSpots_any _ ps _ HV.out hl).mono ?_; rw [hk]; rintro e w2 ⟨rfl, hb⟩; have HB2 := Lib.hid hb; clear hb hg))
  try rw [Exit.noGoto_ret]
  exact bodyPost_ret (v := .tuple #[.slice none 0 0, .int .i64 2]) (by simp [results, Tryd.results26, go_sem]) rfl ⟨rfl, HB2.out⟩
theorem implGoresTouched_any (g : Int) (v : Value) (ps : List (Int × Int)) (w : World) (hG : GV w) (hv : PAt w w.heap.size v ps) (hl : ps.length ≤ 1048576) :
    Calls Tryd.prog 26 #[.int .i64 g, v] w fun e w' => ∃ u, e = .returned (.tuple #[u, .int .i64 (codeTo g ps)]) ∧ IRow w' w.heap.size u (valTo g ps) ∧ Below w.heap.size w w' := by
  cases hg : goreB g with
  | false =>
    obtain ⟨e1, e2⟩ := codeTo_bad (g := g) (ps := ps) (by simp [hg])
    rw [e1, e2]
    refine (implTouched_no g v ps w hG hv hg).mono ?_
    rintro e w' ⟨rfl, hb⟩
    exact ⟨_, rfl, irow_nil _ _, hb⟩
  | true =>
    cases hk : okL ps with
    | false =>
      obtain ⟨e1, e2⟩ := codeTo_bad (g := g) (ps := ps) (by simp [hk])
      rw [e1, e2]
      refine (implTouched_bad g v ps w hG hv hl hg hk).mono ?_
      rintro e w' ⟨rfl, hb⟩
      exact ⟨_, rfl, irow_nil _ _, hb⟩
    | true =>
      by_cases hf : 100 < ps.length
      · obtain ⟨e1, e2⟩ := codeTo_full hg hk hf
        rw [e1, e2]
        refine (implTouched_full g v ps w hG hv hl hg hk hf).mono ?_
        rintro e w' ⟨rfl, hb⟩
        exact ⟨_, rfl, irow_nil _ _, hb⟩
      · obtain ⟨e1, e2⟩ := codeTo_ok hg hk (by omega)
        obtain ⟨g1, g2, _⟩ := goreB_facts hg
        obtain ⟨m, rfl⟩ := Int.eq_ofNat_of_zero_le (show 0 ≤ g by omega)
        rw [e1, e2, ← touchN_all (m : Int) ps m (fun p hp => by
          obtain ⟨j, hj, rfl⟩ := List.mem_iff_getElem.1 hp
          obtain ⟨b1, b2⟩ := ok_bounds (okL_at hk j hj)
          exact goreAtL_bounds hg b1 b2)]
        exact implTouched_ok m v ps w hG hv hg hk (by omega)
end Go.Proofs.YteeikkakibifpaaDoor.sines
