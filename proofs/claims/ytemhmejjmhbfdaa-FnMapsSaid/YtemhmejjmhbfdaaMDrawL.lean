/- Drawn lists of places of maps: contracts of the model's functions. -/
import Derived.Test.YtemhmejjmhbfdaaMDraw
namespace Go.Proofs.Ytemhmejjmhbfdaa.src
open Go.ChangeShapes Go.WideShapes Go.ChangeAt Go.RowKit Go.Proofs.Ytemhmejjmhbfdaa.irows Go.Proofs.Ytemhmejjmhbfdaa.pairs
set_option linter.unusedSimpArgs false
set_option linter.unusedVariables false
theorem two_newM (w : World) (x y : Int) (n : Nat) (h : w.heap.size = n) : ∀ j u, ([.int .i64 x, .int .i64 y] : List Value)[j]? = some u → (w.alloc (.cells #[.int .i64 x, .int .i64 y] 25)).cell? ((⟨n, 0, none⟩ : Addr).add j) = some u := by
  subst h
  exact two_new w x y
set_option maxRecDepth 100000 in
set_option maxHeartbeats 8000000 in
theorem l08Spots_any (w : World) (B : Nat) (a : Option Addr) (len cap : Nat) (m : Int) (h : St w w B a len cap m) (hm : m ≤ 900000) (lim : Int) (l0 : 0 ≤ lim) (l1 : lim ≤ 200) :
    Calls Try.prog 91 #[.pointer (some ⟨B, 0, none⟩), .int .i64 lim] w fun e w' => ∃ u ps, e = .returned u ∧ ps.length ≤ 202 ∧ PRow w' w.heap.size u ps ∧ St w w' B a len cap (m + 4000) := by
  obtain ⟨i0, hi, hz0, hz1, hz2⟩ := info_parts info_pair
  have hWz : B < w.heap.size := h.2.2.2
  have S0 := Lib.hid (st_alloc h (.cells #[] 25))
  have R0 := Lib.hid (show PRow (w.alloc (.cells #[] 25)) w.heap.size (.slice (some ⟨w.heap.size, 0, none⟩) 0 0) [] from World.ownsRow_made w #[] 0 (Nat.le_refl _) (by decide) rfl)
  clear h
  go_enter Try.func91, Try.ntmps91
  go_wp2_with fail
  generalize w.alloc (.cells #[] 25) = V at *
  refine (pick_keep 6 S0.out (by omega) (by decide) (by decide)).mono ?_
  rintro e w1 ⟨n, rfl, n0, n1, s1, hg1⟩
  have S1 := Lib.hid s1
  have R1 := Lib.hid (row_src R0.out hWz hg1)
  clear s1 hg1
  go_wp2_with fail
  refine (one_keep 20 S1.out (by omega) (by decide) (by decide)).mono ?_
  rintro e w2 ⟨b, rfl, s2, hg2⟩
  have S2 := Lib.hid s2
  have R2 := Lib.hid (row_src R1.out hWz hg2)
  clear s2 hg2
  cases b with
  | true =>
    go_wp2_with fail
    refine (pick_keep 2 S2.out (by omega) (by decide) (by decide)).mono ?_
    rintro e w3 ⟨v, rfl, v0, v1, s3, hg3⟩
    have SN := Lib.hid s3
    have RN := Lib.hid (row_src R2.out hWz hg3)
    clear s3 hg3
    have kw : IntKind.i64.wrap (lim + v) = lim + v := IntWalk.i64_in _ (by omega)
    obtain ⟨N, hN⟩ := Int.eq_ofNat_of_zero_le (show 0 ≤ lim + v by omega)
    rw [hN] at kw
    have hN2 : N ≤ 202 := by omega
    go_wp2
    go_loopw [5, 7] (fun u k wr => ∃ (j : Nat) (ps : List (Int × Int)), j ≤ N ∧ k = .int .i64 ((N : Int) - (j : Int)) ∧ ps.length = j ∧ PRow wr w.heap.size u ps ∧ St w wr B a len cap (m + 10 + 14 * (j : Int))) (fun _ k _ => (intOf k).toNat)
    case atStart => exact ⟨0, [], Nat.zero_le _, by simp, rfl, RN.out, st_le SN.out (by omega)⟩
    case round =>
      obtain ⟨j, ps, hj, rfl, hl, hr, hs⟩ := hrel
      have HR := Lib.hid hr
      have HS := Lib.hid hs
      have HL := Lib.hid hl
      clear hr hs hl
      by_cases hlt : j < N
      · have k1 : 0 < (N : Int) - (j : Int) := by omega
        have k2 : IntKind.i64.wrap ((N : Int) - (j : Int) - 1) = (N : Int) - (j : Int) - 1 := IntWalk.i64_in _ (by omega)
        go_wp2_with fail
        refine (draw_keep HS.out (by omega)).mono ?_
        rintro e w5 ⟨x, y, rfl, _, s5, hg5⟩
        have S5 := Lib.hid s5
        have R7 := Lib.hid (row_src HR.out hWz hg5)
        have hz5 : w.heap.size ≤ w5.heap.size := s5.2.1.size
        have hpl : ps.length ≤ 202 := by have := HL.out; omega
        clear s5 hg5
        go_wp2_with (at_builtin; refine wpList_append_own _ rfl _ _ 34 rfl w.heap.size 25 i0 (.agg #[.int .i64 0, .int .i64 0]) 2 16 Try.underlying34 hi hz0 hz1 hz2 rfl (by decide) _ ps.length _ rfl (R7.out.alloc _) ⟨w5.heap.size, 0, none⟩ 1 1 [.int .i64 x, .int .i64 y] rfl rfl (two_newM _ _ _ _ (by first | rfl | simp [World.setCell])) (two_cell _ _) (by unfold maxLen; omega) (by omega) (by simp; omega) ?_; intro v8 w8 hown6 hg6 _)
        go_roundw
        case rel => exact ⟨j + 1, ps ++ [(x, y)], by omega, by go_num, by simp [HL.out], prow_snoc hown6, st_le (st_own (st_alloc S5.out _) hg6 (fun k hk => (R7.out.lt k hk).1)) (by omega)⟩
        case measure => simp [intOf]; omega
      · obtain rfl : j = N := by omega
        have k1 : ¬ 0 < (j : Int) - (j : Int) := by omega
        by_cases hn : j = 0
        · have k3 : ¬ 0 < (j : Int) := by omega
          have k3' : decide (0 < (j : Int)) = false := by simpa using k3
          go_wp2
          go_ret
          first | exact ⟨_, ps, rfl, by have := HL.out; omega, HR.out, st_le HS.out (by omega)⟩ | exact ⟨_, rfl, ps, by have := HL.out; omega, HR.out, st_le HS.out (by omega)⟩
        · have k3 : 0 < (j : Int) := by omega
          have k3' : decide (0 < (j : Int)) = true := by simpa using k3
          go_wp2_with fail
          refine (one_keep 10 HS.out (by omega) (by decide) (by decide)).mono ?_
          rintro e w7 ⟨b7, rfl, s7, hg7⟩
          have S7 := Lib.hid s7
          have R7 := Lib.hid (row_src HR.out hWz hg7)
          clear s7 hg7
          cases b7 with
          | false =>
            go_wp2
            go_ret
            exact ⟨_, ps, rfl, by have := HL.out; omega, R7.out, st_le S7.out (by omega)⟩
          | true =>
            go_wp2_with fail
            refine (bent_keep S7.out (by omega)).mono ?_
            rintro e w8 ⟨x, y, rfl, s8, hg8⟩
            have S8 := Lib.hid s8
            have hr8 := row_src R7.out hWz hg8
            have hsh : ∃ aa cc, u5 = Value.slice aa ps.length cc := by obtain ⟨aa, cc, e, _⟩ := prow_at hr8; exact ⟨aa, cc, e⟩
            obtain ⟨aa, cc, rfl⟩ := hsh
            obtain ⟨gb, y0, y1, rfl, hBg, hws, q0, q1, f0, f1⟩ := own_cells (k := 0) hr8 rfl (by have := HL.out; omega)
            have hpl : 0 < (ps.length : Int) := by have := HL.out; omega
            have R8 := Lib.hid hr8
            clear s8 hg8 hr8
            go_wp2
            go_ret
            exact ⟨_, ps.set 0 (x, y), rfl, by simp; have := HL.out; omega, by simpa using (prow_store (k := 0) (x := (x, y)) R8.out rfl (by have := HL.out; omega)), st_le (st_own S8.out (Lib.grownBy_setB (Lib.grownBy_setB (World.grownBy.refl w8 (some gb)) _ _) _ _) (fun k hk => by cases hk; exact hBg)) (by omega)⟩
  | false =>
    have SN := S2
    have RN := R2
    obtain ⟨N, rfl⟩ := Int.eq_ofNat_of_zero_le n0
    have hN2 : N ≤ 202 := by omega
    go_wp2
    go_loopw [5, 7] (fun u k wr => ∃ (j : Nat) (ps : List (Int × Int)), j ≤ N ∧ k = .int .i64 ((N : Int) - (j : Int)) ∧ ps.length = j ∧ PRow wr w.heap.size u ps ∧ St w wr B a len cap (m + 10 + 14 * (j : Int))) (fun _ k _ => (intOf k).toNat)
    case atStart => exact ⟨0, [], Nat.zero_le _, by simp, rfl, RN.out, st_le SN.out (by omega)⟩
    case round =>
      obtain ⟨j, ps, hj, rfl, hl, hr, hs⟩ := hrel
      have HR := Lib.hid hr
      have HS := Lib.hid hs
      have HL := Lib.hid hl
      clear hr hs hl
      by_cases hlt : j < N
      · have k1 : 0 < (N : Int) - (j : Int) := by omega
        have k2 : IntKind.i64.wrap ((N : Int) - (j : Int) - 1) = (N : Int) - (j : Int) - 1 := IntWalk.i64_in _ (by omega)
        go_wp2_with fail
        refine (draw_keep HS.out (by omega)).mono ?_
        rintro e w5 ⟨x, y, rfl, _, s5, hg5⟩
        have S5 := Lib.hid s5
        have R7 := Lib.hid (row_src HR.out hWz hg5)
        have hz5 : w.heap.size ≤ w5.heap.size := s5.2.1.size
        have hpl : ps.length ≤ 202 := by have := HL.out; omega
        clear s5 hg5
        go_wp2_with (at_builtin; refine wpList_append_own _ rfl _ _ 34 rfl w.heap.size 25 i0 (.agg #[.int .i64 0, .int .i64 0]) 2 16 Try.underlying34 hi hz0 hz1 hz2 rfl (by decide) _ ps.length _ rfl (R7.out.alloc _) ⟨w5.heap.size, 0, none⟩ 1 1 [.int .i64 x, .int .i64 y] rfl rfl (two_newM _ _ _ _ (by first | rfl | simp [World.setCell])) (two_cell _ _) (by unfold maxLen; omega) (by omega) (by simp; omega) ?_; intro v8 w8 hown6 hg6 _)
        go_roundw
        case rel => exact ⟨j + 1, ps ++ [(x, y)], by omega, by go_num, by simp [HL.out], prow_snoc hown6, st_le (st_own (st_alloc S5.out _) hg6 (fun k hk => (R7.out.lt k hk).1)) (by omega)⟩
        case measure => simp [intOf]; omega
      · obtain rfl : j = N := by omega
        have k1 : ¬ 0 < (j : Int) - (j : Int) := by omega
        by_cases hn : j = 0
        · have k3 : ¬ 0 < (j : Int) := by omega
          have k3' : decide (0 < (j : Int)) = false := by simpa using k3
          go_wp2
          go_ret
          first | exact ⟨_, ps, rfl, by have := HL.out; omega, HR.out, st_le HS.out (by omega)⟩ | exact ⟨_, rfl, ps, by have := HL.out; omega, HR.out, st_le HS.out (by omega)⟩
        · have k3 : 0 < (j : Int) := by omega
          have k3' : decide (0 < (j : Int)) = true := by simpa using k3
          go_wp2_with fail
          refine (one_keep 10 HS.out (by omega) (by decide) (by decide)).mono ?_
          rintro e w7 ⟨b7, rfl, s7, hg7⟩
          have S7 := Lib.hid s7
          have R7 := Lib.hid (row_src HR.out hWz hg7)
          clear s7 hg7
          cases b7 with
          | false =>
            go_wp2
            go_ret
            exact ⟨_, ps, rfl, by have := HL.out; omega, R7.out, st_le S7.out (by omega)⟩
          | true =>
            go_wp2_with fail
            refine (bent_keep S7.out (by omega)).mono ?_
            rintro e w8 ⟨x, y, rfl, s8, hg8⟩
            have S8 := Lib.hid s8
            have hr8 := row_src R7.out hWz hg8
            have hsh : ∃ aa cc, u5 = Value.slice aa ps.length cc := by obtain ⟨aa, cc, e, _⟩ := prow_at hr8; exact ⟨aa, cc, e⟩
            obtain ⟨aa, cc, rfl⟩ := hsh
            obtain ⟨gb, y0, y1, rfl, hBg, hws, q0, q1, f0, f1⟩ := own_cells (k := 0) hr8 rfl (by have := HL.out; omega)
            have hpl : 0 < (ps.length : Int) := by have := HL.out; omega
            have R8 := Lib.hid hr8
            clear s8 hg8 hr8
            go_wp2
            go_ret
            exact ⟨_, ps.set 0 (x, y), rfl, by simp; have := HL.out; omega, by simpa using (prow_store (k := 0) (x := (x, y)) R8.out rfl (by have := HL.out; omega)), st_le (st_own S8.out (Lib.grownBy_setB (Lib.grownBy_setB (World.grownBy.refl w8 (some gb)) _ _) _ _) (fun k hk => by cases hk; exact hBg)) (by omega)⟩
theorem spots_keep {W0 w : World} {B : Nat} {a : Option Addr} {len cap : Nat} {m : Int} (h : St W0 w B a len cap m) (hm : m ≤ 900000) (lim : Int) (l0 : 0 ≤ lim) (l1 : lim ≤ 200) :
    Calls Try.prog 91 #[.pointer (some ⟨B, 0, none⟩), .int .i64 lim] w fun e w' => ∃ u ps, e = .returned u ∧ ps.length ≤ 202 ∧ PRow w' w.heap.size u ps ∧ St W0 w' B a len cap (m + 4000) ∧ w.grownBy w' (some B) := by
  refine (l08Spots_any w B a len cap m (st_here h) hm lim l0 l1).mono ?_
  rintro e w' ⟨u, ps, rfl, hl, hr, s⟩
  exact ⟨u, ps, rfl, hl, hr, st_there h s⟩

set_option maxRecDepth 100000 in
set_option maxHeartbeats 4000000 in
theorem DrawFlatBox_any (w : World) (a : Option Addr) (len cap : Nat) (hb : Bytes w a len w.heap.size) :
    Calls Try.prog 25 #[.slice a len cap] w fun e w' => ∃ u ps v b, e = .returned (.tuple #[u, .int .i64 v, .bool b]) ∧ ps.length ≤ 202 ∧ PRow w' w.heap.size u ps ∧ Below w.heap.size w w' := by
  have HB := Lib.hid hb
  clear hb
  go_enter Try.func25, Try.ntmps25
  go_wp2_with fail
  refine (l00From_any _ a len cap).mono ?_
  rintro e w' ⟨rfl, rfl⟩
  have S0 := Lib.hid (show St (w.alloc (.cells #[.slice a len cap, .int .i64 0, .int .u64 0] 162)) (w.alloc (.cells #[.slice a len cap, .int .i64 0, .int .u64 0] 162)) w.heap.size a len cap 0 from ⟨src_start w a len cap, ⟨rfl, rfl, rfl, Nat.le_refl _, fun _ _ _ => rfl⟩, bytes_start HB.out _, by simp⟩)
  obtain ⟨W1, hW1⟩ : ∃ W1, w.alloc (.cells #[.slice a len cap, .int .i64 0, .int .u64 0] 162) = W1 := ⟨_, rfl⟩
  have BW1 := Lib.hid (show ∀ w', W1.grownBy w' (some w.heap.size) → Below w.heap.size w w' from fun w' hg => by subst hW1; exact below_src hg)
  have hWz : w.heap.size < W1.heap.size := by rw [← hW1]; simp
  rw [hW1] at S0 ⊢
  clear hW1
  go_wp2_with fail
  refine (spots_keep S0.out (by omega) 100 (by decide) (by decide)).mono ?_
  rintro e w1 ⟨u, ps, rfl, hl, hr, s1, hg1⟩
  have S1 := Lib.hid s1
  have R1 := Lib.hid hr
  have HL := Lib.hid hl
  clear s1 hg1 hr hl
  go_wp2_with fail
  refine (scale_keep S1.out (by omega)).mono ?_
  rintro e w2 ⟨v, rfl, s2, hg2⟩
  have S2 := Lib.hid s2
  have R2 := Lib.hid (row_src R1.out hWz hg2)
  clear s2 hg2
  go_wp2_with fail
  refine (one_keep 2 S2.out (by omega) (by decide) (by decide)).mono ?_
  rintro e w3 ⟨b, rfl, s3, hg3⟩
  have S3 := Lib.hid s3
  have R3 := Lib.hid (row_src R2.out hWz hg3)
  clear s3 hg3
  go_wp2
  exact bodyPost_ret (v := .tuple #[u, .int .i64 v, .bool b]) (by simp [results, Try.results25, go_sem]) rfl ⟨_, ps, _, _, rfl, HL.out, prow_up R3.out (by omega), BW1.out _ S3.out.2.1⟩

set_option maxRecDepth 100000 in
set_option maxHeartbeats 4000000 in
theorem DrawBestScale_any (w : World) (a : Option Addr) (len cap : Nat) (hb : Bytes w a len w.heap.size) :
    Calls Try.prog 32 #[.slice a len cap] w fun e w' => ∃ u ps v b, e = .returned (.tuple #[u, .int .i64 v, .bool b]) ∧ ps.length ≤ 202 ∧ PRow w' w.heap.size u ps ∧ Below w.heap.size w w' := by
  have HB := Lib.hid hb
  clear hb
  go_enter Try.func32, Try.ntmps32
  go_wp2_with fail
  refine (l00From_any _ a len cap).mono ?_
  rintro e w' ⟨rfl, rfl⟩
  have S0 := Lib.hid (show St (w.alloc (.cells #[.slice a len cap, .int .i64 0, .int .u64 0] 162)) (w.alloc (.cells #[.slice a len cap, .int .i64 0, .int .u64 0] 162)) w.heap.size a len cap 0 from ⟨src_start w a len cap, ⟨rfl, rfl, rfl, Nat.le_refl _, fun _ _ _ => rfl⟩, bytes_start HB.out _, by simp⟩)
  obtain ⟨W1, hW1⟩ : ∃ W1, w.alloc (.cells #[.slice a len cap, .int .i64 0, .int .u64 0] 162) = W1 := ⟨_, rfl⟩
  have BW1 := Lib.hid (show ∀ w', W1.grownBy w' (some w.heap.size) → Below w.heap.size w w' from fun w' hg => by subst hW1; exact below_src hg)
  have hWz : w.heap.size < W1.heap.size := by rw [← hW1]; simp
  rw [hW1] at S0 ⊢
  clear hW1
  go_wp2_with fail
  refine (spots_keep S0.out (by omega) 20 (by decide) (by decide)).mono ?_
  rintro e w1 ⟨u, ps, rfl, hl, hr, s1, hg1⟩
  have S1 := Lib.hid s1
  have R1 := Lib.hid hr
  have HL := Lib.hid hl
  clear s1 hg1 hr hl
  go_wp2_with fail
  refine (pick_keep 400 S1.out (by omega) (by decide) (by decide)).mono ?_
  rintro e w2 ⟨v, rfl, v0, v1, s2, hg2⟩
  have S2 := Lib.hid s2
  have R2 := Lib.hid (row_src R1.out hWz hg2)
  clear s2 hg2 v0 v1
  go_wp2_with fail
  refine (one_keep 8 S2.out (by omega) (by decide) (by decide)).mono ?_
  rintro e w3 ⟨b, rfl, s3, hg3⟩
  have SX := Lib.hid s3
  have RX := Lib.hid (row_src R2.out hWz hg3)
  clear s3 hg3
  cases b with
  | true =>
    go_wp2_with fail
    refine (among_st (n := 4) (fun z => True) (st_alloc (st_here SX.out) _) (by omega) (by decide) (by decide) (list_of rfl (by intro i hi; rcases i with _ | _ | _ | _ | i <;> first | exact ⟨_, rfl, trivial⟩ | omega)) (by have := (st_here SX.out).2.2.2; omega)).mono ?_
    rintro e w4 ⟨v, rfl, _, s4⟩
    have RX := Lib.hid (row_src RX.out hWz (st_there SX.out s4).2)
    have SX := Lib.hid (st_there SX.out s4).1
    clear s4
    go_wp2_with fail
    refine (one_keep 2 SX.out (by omega) (by decide) (by decide)).mono ?_
    rintro e w9 ⟨b9, rfl, s9, hg9⟩
    have S9 := Lib.hid s9
    have R9 := Lib.hid (row_src RX.out hWz hg9)
    clear s9 hg9
    go_wp2
    exact bodyPost_ret (v := .tuple #[u, .int .i64 v, .bool b9]) (by simp [results, Try.results32, go_sem]) rfl ⟨_, ps, _, _, rfl, HL.out, prow_up R9.out (by omega), BW1.out _ S9.out.2.1⟩
  | false =>
    go_wp2_with fail
    refine (one_keep 2 SX.out (by omega) (by decide) (by decide)).mono ?_
    rintro e w9 ⟨b9, rfl, s9, hg9⟩
    have S9 := Lib.hid s9
    have R9 := Lib.hid (row_src RX.out hWz hg9)
    clear s9 hg9
    go_wp2
    exact bodyPost_ret (v := .tuple #[u, .int .i64 v, .bool b9]) (by simp [results, Try.results32, go_sem]) rfl ⟨_, ps, _, _, rfl, HL.out, prow_up R9.out (by omega), BW1.out _ S9.out.2.1⟩

end Go.Proofs.Ytemhmejjmhbfdaa.src
