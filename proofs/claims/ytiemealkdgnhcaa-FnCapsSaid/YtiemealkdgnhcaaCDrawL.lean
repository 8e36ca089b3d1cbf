/- Drawn places and lists of places of caps: contracts of the model's functions. -/
import Derived.Test.YtiemealkdgnhcaaCDraw
import Derived.Test.YtiemealkdgnhcaaPDraw
namespace Go.Proofs.Ytiemealkdgnhcaa.src
open Go.ChangeShapes Go.WideShapes Go.ChangeAt Go.RowKit Go.Proofs.Ytiemealkdgnhcaa.irows Go.Proofs.Ytiemealkdgnhcaa.pairs
set_option linter.unusedSimpArgs false
set_option linter.unusedVariables false
/-- A block that the source does not touch. -/
theorem block_src {w w' : World} {B k : Nat} {ob : Obj} (h : w.heap[k]? = some ob) (hk : k ≠ B) (hg : w.grownBy w' (some B)) : w'.heap[k]? = some ob := by
  rw [hg.block k (Array.getElem?_eq_some_iff.1 h).1 (by simp; exact hk)]
  exact h
set_option maxRecDepth 100000 in
set_option maxHeartbeats 4000000 in
theorem DrawRingOf_any (w : World) (a : Option Addr) (len cap : Nat) (hb : Bytes w a len w.heap.size) :
    Calls Try.prog 31 #[.slice a len cap] w fun e w' => ∃ p q r x y, e = .returned (.tuple #[.int .i64 p, .int .i64 q, .int .i64 r, .agg #[.int .i64 x, .int .i64 y]]) ∧ Below w.heap.size w w' := by
  have HB := Lib.hid hb
  clear hb
  go_enter Try.func31, Try.ntmps31
  go_wp2_with fail
  refine (l00From_any _ a len cap).mono ?_
  rintro e w' ⟨rfl, rfl⟩
  have hb2 : Bytes (w.alloc (.cells #[.int .i64 0, .int .i64 0] 35)) a len (w.alloc (.cells #[.int .i64 0, .int .i64 0] 35)).heap.size := by
    obtain ⟨h1, h2, h3⟩ := HB.out
    refine ⟨h1, Nat.le_refl _, fun i hi => ?_⟩
    obtain ⟨b, off, z, e, hlt, hz, h4⟩ := h3 i hi
    exact ⟨b, off, z, e, by simp; omega, by rw [World.cell?_alloc_past _ _ _ hlt]; exact hz, h4⟩
  have S0 := Lib.hid (show St ((w.alloc (.cells #[.int .i64 0, .int .i64 0] 35)).alloc (.cells #[.slice a len cap, .int .i64 0, .int .u64 0] 81)) ((w.alloc (.cells #[.int .i64 0, .int .i64 0] 35)).alloc (.cells #[.slice a len cap, .int .i64 0, .int .u64 0] 81)) (w.heap.size + 1) a len cap 0 from by
    have h := src_start (w.alloc (.cells #[.int .i64 0, .int .i64 0] 35)) a len cap
    rw [show (w.alloc (.cells #[.int .i64 0, .int .i64 0] 35)).heap.size = w.heap.size + 1 by simp] at h
    refine ⟨h, ⟨rfl, rfl, rfl, Nat.le_refl _, fun _ _ _ => rfl⟩, ?_, by simp⟩
    have := bytes_start hb2 (.cells #[.slice a len cap, .int .i64 0, .int .u64 0] 81)
    simpa using this)
  have R0 := Lib.hid (show ((w.alloc (.cells #[.int .i64 0, .int .i64 0] 35)).alloc (.cells #[.slice a len cap, .int .i64 0, .int .u64 0] 81)).heap[w.heap.size]? = some (.cells #[.int .i64 0, .int .i64 0] 35 (0, 0)) from by
    rw [Below.heap_alloc _ _ _ (by simp)]
    exact heap_alloc_new w _)
  have BW := Lib.hid (show ∀ wx, ((w.alloc (.cells #[.int .i64 0, .int .i64 0] 35)).alloc (.cells #[.slice a len cap, .int .i64 0, .int .u64 0] 81)).grownBy wx (some (w.heap.size + 1)) → Below w.heap.size w wx from fun wx hg => (((Below.refl _ _).alloc (Nat.le_refl _) _).alloc (by simp) _).grown hg (by simp; omega) (fun k hk => by obtain rfl := Option.some.inj hk; omega))
  have W1z : w.heap.size + 1 < ((w.alloc (.cells #[.int .i64 0, .int .i64 0] 35)).alloc (.cells #[.slice a len cap, .int .i64 0, .int .u64 0] 81)).heap.size := by simp
  clear hb2
  generalize ((w.alloc (.cells #[.int .i64 0, .int .i64 0] 35)).alloc (.cells #[.slice a len cap, .int .i64 0, .int .u64 0] 81)) = W1 at S0 R0 BW W1z ⊢
  go_wp2_with fail
  refine (l04Around_any _ _ (w.heap.size + 1) a len cap 0 S0.out (by omega)).mono ?_
  rintro e w1 ⟨g, rfl, s1⟩
  have S1 := Lib.hid s1
  clear s1
  go_wp2_with fail
  refine (l06Some_any 400 (by decide) (by decide) _ _ (w.heap.size + 1) a len cap _ S1.out (by omega)).mono ?_
  rintro e w2 ⟨m, rfl, s2⟩
  have S2 := Lib.hid s2
  clear s2
  go_wp2_with fail
  refine (l06Some_any 60 (by decide) (by decide) _ _ (w.heap.size + 1) a len cap _ S2.out (by omega)).mono ?_
  rintro e w3 ⟨n, rfl, s3⟩
  have S3 := Lib.hid s3
  clear s3
  go_wp2_with fail
  refine (bent_keep S3.out (by omega)).mono ?_
  rintro e w4 ⟨x, y, rfl, s4, hg4⟩
  have S4 := Lib.hid (st_alloc s4 (.cells #[.int .i64 x, .int .i64 y] 35))
  have hw4 : W1.heap.size ≤ w4.heap.size := s4.2.1.size
  have R4 := Lib.hid (heap_alloc_new w4 (.cells #[.int .i64 x, .int .i64 y] 35))
  clear s4 hg4
  go_wp2_with fail
  refine (one_keep 2 S4.out (by omega) (by decide) (by decide)).mono ?_
  rintro e w5 ⟨b, rfl, s5, hg5⟩
  have S5 := Lib.hid s5
  have R5 := Lib.hid (block_src R4.out (by omega) hg5)
  clear s5 hg5
  cases b with
  | true =>
    go_wp2_with fail
    refine (pick_keep 30 S5.out (by omega) (by decide) (by decide)).mono ?_
    rintro e w6 ⟨v, rfl, v0, v1, s6, hg6⟩
    have S6 := Lib.hid s6
    have R6 := Lib.hid (block_src R5.out (by omega) hg6)
    have Q6 := Lib.hid (block_src R0.out (by omega) s6.2.1)
    have G6 := Lib.hid (BW.out _ s6.2.1)
    have hz6 : w4.heap.size < w6.heap.size := (Array.getElem?_eq_some_iff.1 R6.out).1
    obtain ⟨z1, r0, r1, f0, f1⟩ := two_cells R6.out
    obtain ⟨z2, q0, q1, g0, g1⟩ := two_cells Q6.out
    have zne : w.heap.size ≠ w4.heap.size := by omega
    have zne2 : w4.heap.size ≠ w.heap.size := by omega
    have hwle : w.heap.size ≤ w4.heap.size := by omega
    clear s6 hg6
    go_wp2
    go_region
    all_goals go_wp2
    all_goals exact bodyPost_ret (v := .tuple #[.int .i64 g, .int .i64 m, .int .i64 n, .agg #[.int .i64 _, .int .i64 y]]) (by simp [results, Try.results31, go_sem, q0, q1, r0, r1, f0, f1, g0, g1] <;> rfl) rfl ⟨_, _, _, _, _, rfl, by repeat (first | exact G6.out | refine Below.drew ?_ | refine Below.setCell ?_ (by first | exact Nat.le_refl _ | exact hwle) _)⟩
  | false =>
    have Q5 := Lib.hid (block_src R0.out (by omega) S5.out.2.1)
    have G5 := Lib.hid (BW.out _ S5.out.2.1)
    obtain ⟨z1, r0, r1, f0, f1⟩ := two_cells R5.out
    obtain ⟨z2, q0, q1, g0, g1⟩ := two_cells Q5.out
    have zne : w.heap.size ≠ w4.heap.size := by omega
    have zne2 : w4.heap.size ≠ w.heap.size := by omega
    have hwle : w.heap.size ≤ w4.heap.size := by omega
    go_wp2
    go_region
    all_goals go_wp2
    all_goals exact bodyPost_ret (v := .tuple #[.int .i64 g, .int .i64 m, .int .i64 n, .agg #[.int .i64 x, .int .i64 y]]) (by simp [results, Try.results31, go_sem, q0, q1, r0, r1, f0, f1, g0, g1] <;> rfl) rfl ⟨_, _, _, _, _, rfl, by repeat (first | exact G5.out | refine Below.drew ?_ | refine Below.setCell ?_ (by first | exact Nat.le_refl _ | exact hwle) _)⟩

theorem two_newS (w : World) (x y : Int) (n : Nat) (h : w.heap.size = n) : ∀ j u, ([.int .i64 x, .int .i64 y] : List Value)[j]? = some u → (w.alloc (.cells #[.int .i64 x, .int .i64 y] 35)).cell? ((⟨n, 0, none⟩ : Addr).add j) = some u := by
  subst h
  exact two_new w x y
theorem own_ne {v : Value} {k : Nat} (h : ∀ j, v.ownBlock = some j → j = k → False) : v.ownBlock = none ∨ v.ownBlock ≠ some k := by
  cases e : v.ownBlock with
  | none => exact .inl rfl
  | some j => exact .inr fun hk => h j e (by simpa using hk)
set_option maxRecDepth 100000 in
set_option maxHeartbeats 8000000 in
theorem DrawUnderCap_any (w : World) (a : Option Addr) (len cap : Nat) (hb : Bytes w a len w.heap.size) :
    Calls Try.prog 25 #[.slice a len cap] w fun e w' => ∃ g m u ps, e = .returned (.tuple #[.int .i64 g, .int .i64 m, u]) ∧ ps.length ≤ 200 ∧ PRow w' w.heap.size u ps ∧ Below w.heap.size w w' := by
  obtain ⟨i0, hi, hz0, hz1, hz2⟩ := info_parts info_pair
  have HB := Lib.hid hb
  clear hb
  go_enter Try.func25, Try.ntmps25
  go_wp2_with fail
  refine (l00From_any _ a len cap).mono ?_
  rintro e w' ⟨rfl, rfl⟩
  have S0 := Lib.hid (show St (w.alloc (.cells #[.slice a len cap, .int .i64 0, .int .u64 0] 81)) (w.alloc (.cells #[.slice a len cap, .int .i64 0, .int .u64 0] 81)) w.heap.size a len cap 0 from ⟨src_start w a len cap, ⟨rfl, rfl, rfl, Nat.le_refl _, fun _ _ _ => rfl⟩, bytes_start HB.out _, by simp⟩)
  obtain ⟨W1, hW1⟩ : ∃ W1, w.alloc (.cells #[.slice a len cap, .int .i64 0, .int .u64 0] 81) = W1 := ⟨_, rfl⟩
  have BW1 := Lib.hid (show ∀ w', W1.grownBy w' (some w.heap.size) → Below w.heap.size w w' from fun w' hg => by subst hW1; exact below_src hg)
  have hWz : w.heap.size < W1.heap.size := by rw [← hW1]; simp
  rw [hW1] at S0 ⊢
  clear hW1
  go_wp2_with fail
  refine (l04Around_any _ _ w.heap.size a len cap 0 S0.out (by omega)).mono ?_
  rintro e w1 ⟨g, rfl, s1⟩
  have S1 := Lib.hid s1
  clear s1
  go_wp2_with fail
  refine (l06Some_any 500 (by decide) (by decide) _ _ w.heap.size a len cap _ S1.out (by omega)).mono ?_
  rintro e w1b ⟨m, rfl, s1⟩
  have S1b := Lib.hid (st_alloc s1 (.cells #[] 35))
  have R1 := Lib.hid (show PRow (w1b.alloc (.cells #[] 35)) W1.heap.size (.slice (some ⟨w1b.heap.size, 0, none⟩) 0 0) [] from World.ownsRow_made w1b #[] 0 s1.2.1.size (by decide) rfl)
  clear s1
  go_wp2_with fail
  refine (pick_keep 7 S1b.out (by omega) (by decide) (by decide)).mono ?_
  rintro e w2 ⟨n, rfl, n0, n1, s2, hg2⟩
  have S2 := Lib.hid s2
  have R2 := Lib.hid (row_src R1.out hWz hg2)
  clear s2 hg2
  go_wp2_with fail
  refine (one_keep 20 S2.out (by omega) (by decide) (by decide)).mono ?_
  rintro e w3 ⟨b, rfl, s3, hg3⟩
  have S3 := Lib.hid s3
  have R3 := Lib.hid (row_src R2.out hWz hg3)
  clear s3 hg3
  cases b with
  | true =>
    go_wp2_with fail
    refine (pick_keep 2 S3.out (by omega) (by decide) (by decide)).mono ?_
    rintro e w4 ⟨n2, rfl, n20, n21, s4, hg4⟩
    have SN := Lib.hid s4
    have RN := Lib.hid (row_src R3.out hWz hg4)
    clear s4 hg4
    obtain ⟨N, hN⟩ : ∃ N : Nat, 100 + n2 = (N : Int) := ⟨(100 + n2).toNat, by omega⟩
    have N2 : N ≤ 101 := by omega
    have Nw : IntKind.i64.wrap (N : Int) = (N : Int) := IntWalk.i64_in _ (by omega)
    go_wp2
    go_loopw [8, 10] (fun u k wr => ∃ (j : Nat) (ps : List (Int × Int)), j ≤ N ∧ k = .int .i64 ((N : Int) - (j : Int)) ∧ ps.length = j ∧ PRow wr W1.heap.size u ps ∧ St W1 wr w.heap.size a len cap (40 + 20 * (j : Int))) (fun _ k _ => (intOf k).toNat)
    case atStart => exact ⟨0, [], Nat.zero_le _, by simp, rfl, RN.out, st_le SN.out (by omega)⟩
    case round =>
      obtain ⟨j, ps, hj, rfl, hl, hr, hs⟩ := hrel
      have HR := Lib.hid hr
      have HS := Lib.hid hs
      have HL := Lib.hid hl
      clear hr hs hl
      by_cases hlt : j < N
      · have k1 : 0 < (N : Int) - (j : Int) := by omega
        have k2 : IntKind.i64.wrap ((N : Int) - (j : Int) - 1) = (N : Int) - (j : Int) - 1 := IntWalk.i64_in _ (by omega)
        go_wp2_with fail
        refine (draw_keep HS.out (by omega)).mono ?_
        rintro e w5 ⟨x, y, rfl, _, s5, hg5⟩
        have S5 := Lib.hid (st_alloc s5 (.cells #[.int .i64 x, .int .i64 y] 35))
        have R5 := Lib.hid (show PRow (w5.alloc (.cells #[.int .i64 x, .int .i64 y] 35)) W1.heap.size _ ps from World.ownsRow.alloc (row_src HR.out hWz hg5) _)
        have OW := Lib.hid (fun k hk => (World.ownsRow.lt (row_src HR.out hWz hg5) k hk))
        have hz5 : W1.heap.size ≤ w5.heap.size := s5.2.1.size
        have P5 := Lib.hid (heap_alloc_new w5 (.cells #[.int .i64 x, .int .i64 y] 35))
        have hpl : ps.length ≤ 101 := by have := HL.out; omega
        clear s5 hg5
        go_wp2_with fail
        refine (one_keep 2 S5.out (by omega) (by decide) (by decide)).mono ?_
        rintro e w6 ⟨b6, rfl, s6, hg6⟩
        have S6 := Lib.hid s6
        have R6 := Lib.hid (row_src R5.out hWz hg6)
        have P6 := Lib.hid (block_src P5.out (by omega) hg6)
        clear s6 hg6
        cases b6 with
        | true =>
          go_wp2_with fail
          refine (pick_keep 40 S6.out (by omega) (by decide) (by decide)).mono ?_
          rintro e w7 ⟨v7, rfl, v70, v71, s7, hg7⟩
          have P7 := Lib.hid (block_src P6.out (by omega) hg7)
          obtain ⟨z1, r0, r1, f0, f1⟩ := two_cells P7.out
          have z2 : W1.heap.size ≤ w7.heap.size := by omega
          have GS := Lib.hid (Lib.grownBy_setB (World.grownBy.refl w7 (some w5.heap.size)) 0 (.int .i64 (324000 - 3600 * v7)))
          have R7 := Lib.hid (show (w7.setCell ⟨w5.heap.size, 0, none⟩ (.int .i64 (324000 - 3600 * v7))).ownsRow W1.heap.size 35 2 _ ps.length (ints (flat ps)) from World.ownsRow.kept (row_src R6.out hWz hg7) GS.out (by
            refine own_ne fun k hk e => ?_
            have := (OW.out k hk).2
            omega))
          have S7 := Lib.hid (st_own s7 GS.out (fun k hk => by cases hk; omega))
          clear s7 hg7
          go_wp2_with (at_builtin; refine wpList_append_own _ rfl _ _ 30 rfl W1.heap.size 35 i0 (.agg #[.int .i64 0, .int .i64 0]) 2 16 Try.underlying30 hi hz0 hz1 hz2 rfl (by decide) _ ps.length _ rfl (R7.out.alloc _) ⟨w7.heap.size, 0, none⟩ 1 1 [.int .i64 (324000 - 3600 * v7), .int .i64 y] rfl rfl (two_newS _ _ _ _ (by first | rfl | simp [World.setCell])) (two_cell _ _) (by unfold maxLen; omega) (by omega) (by simp; omega) ?_; intro v8 w8 hown6 hg6 _)
          go_roundw
          case rel => exact ⟨j + 1, ps ++ [(324000 - 3600 * v7, y)], by omega, by go_num, by simp [HL.out], prow_snoc hown6, st_le (st_own (st_alloc S7.out _) hg6 (fun k hk => (R7.out.lt k hk).1)) (by omega)⟩
          case measure => simp [intOf]; omega
        | false =>
          obtain ⟨z1, r0, r1, f0, f1⟩ := two_cells P6.out
          have z2 : W1.heap.size ≤ w6.heap.size := by omega
          have R7 := Lib.hid (show w6.ownsRow W1.heap.size 35 2 _ ps.length (ints (flat ps)) from R6.out)
          go_wp2_with (at_builtin; refine wpList_append_own _ rfl _ _ 30 rfl W1.heap.size 35 i0 (.agg #[.int .i64 0, .int .i64 0]) 2 16 Try.underlying30 hi hz0 hz1 hz2 rfl (by decide) _ ps.length _ rfl (R7.out.alloc _) ⟨w6.heap.size, 0, none⟩ 1 1 [.int .i64 x, .int .i64 y] rfl rfl (two_newS _ _ _ _ (by first | rfl | simp [World.setCell])) (two_cell _ _) (by unfold maxLen; omega) (by omega) (by simp; omega) ?_; intro v8 w8 hown6 hg6 _)
          go_roundw
          case rel => exact ⟨j + 1, ps ++ [(x, y)], by omega, by go_num, by simp [HL.out], prow_snoc hown6, st_le (st_own (st_alloc S6.out _) hg6 (fun k hk => (R7.out.lt k hk).1)) (by omega)⟩
          case measure => simp [intOf]; omega
      · obtain rfl : j = N := by omega
        have k1 : ¬ 0 < (j : Int) - (j : Int) := by omega
        by_cases hn : j = 0
        · have k3 : ¬ 0 < (j : Int) := by omega
          go_wp2
          exact bodyPost_ret (v := .tuple #[.int .i64 g, .int .i64 m, u8]) (by simp [results, Try.results25, go_sem]) rfl ⟨_, _, _, rfl, ps, by have := HL.out; omega, prow_up HR.out (by omega), BW1.out _ HS.out.2.1⟩
        · have k3 : 0 < (j : Int) := by omega
          go_wp2_with fail
          refine (one_keep 10 HS.out (by omega) (by decide) (by decide)).mono ?_
          rintro e w7 ⟨b7, rfl, s7, hg7⟩
          have S7 := Lib.hid s7
          have R7 := Lib.hid (row_src HR.out hWz hg7)
          clear s7 hg7
          cases b7 with
          | false =>
            go_wp2
            exact bodyPost_ret (v := .tuple #[.int .i64 g, .int .i64 m, u8]) (by simp [results, Try.results25, go_sem]) rfl ⟨_, _, _, ps, rfl, by have := HL.out; omega, prow_up R7.out (by omega), BW1.out _ S7.out.2.1⟩
          | true =>
            go_wp2_with fail
            refine (bent_keep S7.out (by omega)).mono ?_
            rintro e w8 ⟨x, y, rfl, s8, hg8⟩
            have S8 := Lib.hid s8
            have hr8 := row_src R7.out hWz hg8
            have hsh : ∃ aa cc, u8 = Value.slice aa ps.length cc := by obtain ⟨aa, cc, e, _⟩ := prow_at hr8; exact ⟨aa, cc, e⟩
            obtain ⟨aa, cc, rfl⟩ := hsh
            obtain ⟨gb, y0, y1, rfl, hBg, hws, q0, q1, f0, f1⟩ := own_cells (k := 0) hr8 rfl (by have := HL.out; omega)
            have hpl : 0 < (ps.length : Int) := by have := HL.out; omega
            have R8 := Lib.hid hr8
            clear s8 hg8 hr8
            go_wp2
            exact bodyPost_ret (v := .tuple #[.int .i64 g, .int .i64 m, .slice (some ⟨gb, 0, none⟩) ps.length cc]) (by simp [results, Try.results25, go_sem]) rfl ⟨_, _, _, ps.set 0 (x, y), rfl, by simp; have := HL.out; omega, prow_up (prow_store (k := 0) (x := (x, y)) R8.out rfl (by have := HL.out; omega)) (by omega), BW1.out _ (st_own S8.out (Lib.grownBy_setB (Lib.grownBy_setB (World.grownBy.refl w8 (some gb)) _ _) _ _) (fun k hk => by cases hk; exact hBg)).2.1⟩
  | false =>
    obtain ⟨N, rfl⟩ := Int.eq_ofNat_of_zero_le n0
    have N2 : N ≤ 101 := by omega
    have SN := S3
    have RN := R3
    go_wp2
    go_loopw [8, 10] (fun u k wr => ∃ (j : Nat) (ps : List (Int × Int)), j ≤ N ∧ k = .int .i64 ((N : Int) - (j : Int)) ∧ ps.length = j ∧ PRow wr W1.heap.size u ps ∧ St W1 wr w.heap.size a len cap (40 + 20 * (j : Int))) (fun _ k _ => (intOf k).toNat)
    case atStart => exact ⟨0, [], Nat.zero_le _, by simp, rfl, RN.out, st_le SN.out (by omega)⟩
    case round =>
      obtain ⟨j, ps, hj, rfl, hl, hr, hs⟩ := hrel
      have HR := Lib.hid hr
      have HS := Lib.hid hs
      have HL := Lib.hid hl
      clear hr hs hl
      by_cases hlt : j < N
      · have k1 : 0 < (N : Int) - (j : Int) := by omega
        have k2 : IntKind.i64.wrap ((N : Int) - (j : Int) - 1) = (N : Int) - (j : Int) - 1 := IntWalk.i64_in _ (by omega)
        go_wp2_with fail
        refine (draw_keep HS.out (by omega)).mono ?_
        rintro e w5 ⟨x, y, rfl, _, s5, hg5⟩
        have S5 := Lib.hid (st_alloc s5 (.cells #[.int .i64 x, .int .i64 y] 35))
        have R5 := Lib.hid (show PRow (w5.alloc (.cells #[.int .i64 x, .int .i64 y] 35)) W1.heap.size _ ps from World.ownsRow.alloc (row_src HR.out hWz hg5) _)
        have OW := Lib.hid (fun k hk => (World.ownsRow.lt (row_src HR.out hWz hg5) k hk))
        have hz5 : W1.heap.size ≤ w5.heap.size := s5.2.1.size
        have P5 := Lib.hid (heap_alloc_new w5 (.cells #[.int .i64 x, .int .i64 y] 35))
        have hpl : ps.length ≤ 101 := by have := HL.out; omega
        clear s5 hg5
        go_wp2_with fail
        refine (one_keep 2 S5.out (by omega) (by decide) (by decide)).mono ?_
        rintro e w6 ⟨b6, rfl, s6, hg6⟩
        have S6 := Lib.hid s6
        have R6 := Lib.hid (row_src R5.out hWz hg6)
        have P6 := Lib.hid (block_src P5.out (by omega) hg6)
        clear s6 hg6
        cases b6 with
        | true =>
          go_wp2_with fail
          refine (pick_keep 40 S6.out (by omega) (by decide) (by decide)).mono ?_
          rintro e w7 ⟨v7, rfl, v70, v71, s7, hg7⟩
          have P7 := Lib.hid (block_src P6.out (by omega) hg7)
          obtain ⟨z1, r0, r1, f0, f1⟩ := two_cells P7.out
          have z2 : W1.heap.size ≤ w7.heap.size := by omega
          have GS := Lib.hid (Lib.grownBy_setB (World.grownBy.refl w7 (some w5.heap.size)) 0 (.int .i64 (324000 - 3600 * v7)))
          have R7 := Lib.hid (show (w7.setCell ⟨w5.heap.size, 0, none⟩ (.int .i64 (324000 - 3600 * v7))).ownsRow W1.heap.size 35 2 _ ps.length (ints (flat ps)) from World.ownsRow.kept (row_src R6.out hWz hg7) GS.out (by
            refine own_ne fun k hk e => ?_
            have := (OW.out k hk).2
            omega))
          have S7 := Lib.hid (st_own s7 GS.out (fun k hk => by cases hk; omega))
          clear s7 hg7
          go_wp2_with (at_builtin; refine wpList_append_own _ rfl _ _ 30 rfl W1.heap.size 35 i0 (.agg #[.int .i64 0, .int .i64 0]) 2 16 Try.underlying30 hi hz0 hz1 hz2 rfl (by decide) _ ps.length _ rfl (R7.out.alloc _) ⟨w7.heap.size, 0, none⟩ 1 1 [.int .i64 (324000 - 3600 * v7), .int .i64 y] rfl rfl (two_newS _ _ _ _ (by first | rfl | simp [World.setCell])) (two_cell _ _) (by unfold maxLen; omega) (by omega) (by simp; omega) ?_; intro v8 w8 hown6 hg6 _)
          go_roundw
          case rel => exact ⟨j + 1, ps ++ [(324000 - 3600 * v7, y)], by omega, by go_num, by simp [HL.out], prow_snoc hown6, st_le (st_own (st_alloc S7.out _) hg6 (fun k hk => (R7.out.lt k hk).1)) (by omega)⟩
          case measure => simp [intOf]; omega
        | false =>
          obtain ⟨z1, r0, r1, f0, f1⟩ := two_cells P6.out
          have z2 : W1.heap.size ≤ w6.heap.size := by omega
          have R7 := Lib.hid (show w6.ownsRow W1.heap.size 35 2 _ ps.length (ints (flat ps)) from R6.out)
          go_wp2_with (at_builtin; refine wpList_append_own _ rfl _ _ 30 rfl W1.heap.size 35 i0 (.agg #[.int .i64 0, .int .i64 0]) 2 16 Try.underlying30 hi hz0 hz1 hz2 rfl (by decide) _ ps.length _ rfl (R7.out.alloc _) ⟨w6.heap.size, 0, none⟩ 1 1 [.int .i64 x, .int .i64 y] rfl rfl (two_newS _ _ _ _ (by first | rfl | simp [World.setCell])) (two_cell _ _) (by unfold maxLen; omega) (by omega) (by simp; omega) ?_; intro v8 w8 hown6 hg6 _)
          go_roundw
          case rel => exact ⟨j + 1, ps ++ [(x, y)], by omega, by go_num, by simp [HL.out], prow_snoc hown6, st_le (st_own (st_alloc S6.out _) hg6 (fun k hk => (R7.out.lt k hk).1)) (by omega)⟩
          case measure => simp [intOf]; omega
      · obtain rfl : j = N := by omega
        have k1 : ¬ 0 < (j : Int) - (j : Int) := by omega
        by_cases hn : j = 0
        · have k3 : ¬ 0 < (j : Int) := by omega
          go_wp2
          exact bodyPost_ret (v := .tuple #[.int .i64 g, .int .i64 m, u8]) (by simp [results, Try.results25, go_sem]) rfl ⟨_, _, _, rfl, ps, by have := HL.out; omega, prow_up HR.out (by omega), BW1.out _ HS.out.2.1⟩
        · have k3 : 0 < (j : Int) := by omega
          go_wp2_with fail
          refine (one_keep 10 HS.out (by omega) (by decide) (by decide)).mono ?_
          rintro e w7 ⟨b7, rfl, s7, hg7⟩
          have S7 := Lib.hid s7
          have R7 := Lib.hid (row_src HR.out hWz hg7)
          clear s7 hg7
          cases b7 with
          | false =>
            go_wp2
            exact bodyPost_ret (v := .tuple #[.int .i64 g, .int .i64 m, u8]) (by simp [results, Try.results25, go_sem]) rfl ⟨_, _, _, ps, rfl, by have := HL.out; omega, prow_up R7.out (by omega), BW1.out _ S7.out.2.1⟩
          | true =>
            go_wp2_with fail
            refine (bent_keep S7.out (by omega)).mono ?_
            rintro e w8 ⟨x, y, rfl, s8, hg8⟩
            have S8 := Lib.hid s8
            have hr8 := row_src R7.out hWz hg8
            have hsh : ∃ aa cc, u8 = Value.slice aa ps.length cc := by obtain ⟨aa, cc, e, _⟩ := prow_at hr8; exact ⟨aa, cc, e⟩
            obtain ⟨aa, cc, rfl⟩ := hsh
            obtain ⟨gb, y0, y1, rfl, hBg, hws, q0, q1, f0, f1⟩ := own_cells (k := 0) hr8 rfl (by have := HL.out; omega)
            have hpl : 0 < (ps.length : Int) := by have := HL.out; omega
            have R8 := Lib.hid hr8
            clear s8 hg8 hr8
            go_wp2
            exact bodyPost_ret (v := .tuple #[.int .i64 g, .int .i64 m, .slice (some ⟨gb, 0, none⟩) ps.length cc]) (by simp [results, Try.results25, go_sem]) rfl ⟨_, _, _, ps.set 0 (x, y), rfl, by simp; have := HL.out; omega, prow_up (prow_store (k := 0) (x := (x, y)) R8.out rfl (by have := HL.out; omega)) (by omega), BW1.out _ (st_own S8.out (Lib.grownBy_setB (Lib.grownBy_setB (World.grownBy.refl w8 (some gb)) _ _) _ _) (fun k hk => by cases hk; exact hBg)).2.1⟩

end Go.Proofs.Ytiemealkdgnhcaa.src
