/- Drawn lists of spots; numbers looked for in a list, and lists that rise. -/
import Derived.Test.YtkiimdfnobcdpaaA2S
import Derived.Test.YtkiimdfnobcdpaaPDraw
import Derived.Test.YtkiimdfnobcdpaaRoutesM
import Derived.BigQuiet
namespace Go.Proofs.Ytkiimdfnobcdpaa.sines
open Go.ChangeShapes Go.WideShapes Go.ChangeAt Go.RowKit Go.Proofs.Ytkiimdfnobcdpaa.spots Go.Proofs.Ytkiimdfnobcdpaa.irows Go.Proofs.Ytkiimdfnobcdpaa.pairs Go.Proofs.Ytkiimdfnobcdpaa.src Go.Proofs.Ytkiimdfnobcdpaa.a2
set_option linter.unusedSimpArgs false

theorem draw_okB {x y : Int} (h : Drawn x y) : okB x y = true := by
  obtain ⟨d1, d2, d3, d4⟩ := h
  simp [okB, d1, d2, d3, d4]
theorem okL_snoc {ps : List (Int × Int)} {x y : Int} (h : okL ps = true) (k : okB x y = true) : okL (ps ++ [(x, y)]) = true := by
  unfold okL at h ⊢
  simp only [List.all_append, h, List.all_cons, List.all_nil, k, Bool.and_self]

set_option maxRecDepth 100000 in
set_option maxHeartbeats 4000000 in
theorem l05Draw_any (w : World) (B : Nat) (a : Option Addr) (len cap : Nat) (m : Int) (h : St w w B a len cap m) (hm : m ≤ 1000) :
    Calls Try.prog 26 #[.pointer (some ⟨B, 0, none⟩), .int .i64 5] w fun e w' => ∃ u ps, e = .returned u ∧ ps.length ≤ 5 ∧ okL ps = true ∧ PRow w' w.heap.size u ps ∧ w.grownBy w' (some B) := by
  obtain ⟨i0, hi, hz0, hz1, hz2⟩ := info_parts info_pair
  have HS := Lib.hid h
  have HN := Lib.hid h
  have hWz : B < w.heap.size := h.2.2.2
  clear h
  go_enter Try.func26, Try.ntmps26
  have S1 := Lib.hid (st_alloc HN.out (.cells #[] 35))
  have R1 := Lib.hid (show PRow (w.alloc (.cells #[] 35)) w.heap.size (.slice (some ⟨w.heap.size, 0, none⟩) 0 0) [] from World.ownsRow_made w #[] 0 HN.out.2.1.size (by decide) rfl)
  go_wp2_with fail
  refine (pick_keep 6 S1.out (by omega) (by decide) (by decide)).mono ?_
  rintro e w2 ⟨n, rfl, n0, n1, s2, hg2⟩
  have S2 := Lib.hid s2
  have R2 := Lib.hid (row_src R1.out hWz hg2)
  clear s2 hg2
  obtain ⟨N, rfl⟩ := Int.eq_ofNat_of_zero_le n0
  have N2 : N ≤ 5 := by omega
  go_wp2
  go_loopw [5, 6] (fun u k wr => ∃ (j : Nat) (ps : List (Int × Int)), j ≤ N ∧ k = .int .i64 ((N : Int) - (j : Int)) ∧ ps.length = j ∧ okL ps = true ∧ PRow wr w.heap.size u ps ∧ St w wr B a len cap (m + 20 + 14 * (j : Int))) (fun _ k _ => (intOf k).toNat)
  case atStart => exact ⟨0, [], Nat.zero_le _, by simp, rfl, rfl, R2.out, st_le S2.out (by omega)⟩
  case round =>
    obtain ⟨j, ps, hj, rfl, hl, hk, hr, hs⟩ := hrel
    have HR := Lib.hid hr
    have HS := Lib.hid hs
    have HL := Lib.hid hl
    have HK := Lib.hid hk
    clear hr hs hl hk
    by_cases hlt : j < N
    · have k1 : 0 < (N : Int) - (j : Int) := by omega
      have k2 : IntKind.i64.wrap ((N : Int) - (j : Int) - 1) = (N : Int) - (j : Int) - 1 := IntWalk.i64_in _ (by omega)
      go_wp2_with fail
      refine (draw_keep HS.out (by omega)).mono ?_
      rintro e w5 ⟨x, y, rfl, hd, s5, hg5⟩
      have S5 := Lib.hid s5
      have OK5 := Lib.hid (okL_snoc HK.out (draw_okB hd))
      have R5 := Lib.hid (show w5.ownsRow w.heap.size 35 2 _ ps.length (ints (flat ps)) from row_src HR.out hWz hg5)
      have hz5 : w.heap.size ≤ w5.heap.size := s5.2.1.size
      have hpl : ps.length ≤ 5 := by have := HL.out; omega
      clear s5 hg5 hd
      go_wp2_with (at_builtin; refine wpList_append_own _ rfl _ _ 24 rfl w.heap.size 35 i0 (.agg #[.int .i64 0, .int .i64 0]) 2 16 Try.underlying24 hi hz0 hz1 hz2 rfl (by decide) _ ps.length _ rfl (R5.out.alloc _) ⟨w5.heap.size, 0, none⟩ 1 1 [.int .i64 x, .int .i64 y] rfl rfl (two_new _ _ _) (two_cell _ _) (by unfold maxLen; omega) (by omega) (by simp; omega) ?_; intro v6 w6 hown6 hg6 _)
      go_roundw
      case rel => exact ⟨j + 1, ps ++ [(x, y)], by omega, by go_num, by simp [HL.out], OK5.out, prow_snoc hown6, st_le (st_own (st_alloc S5.out _) hg6 (fun k hk => (R5.out.lt k hk).1)) (by omega)⟩
      case measure => simp [intOf]; omega
    · obtain rfl : j = N := by omega
      have k1 : ¬ 0 < (j : Int) - (j : Int) := by omega
      go_wp2
      go_ret
      exact ⟨_, rfl, ps, by have := HL.out; omega, HK.out, HR.out, HS.out.2.1⟩

set_option maxRecDepth 100000 in
set_option maxHeartbeats 1000000 in
theorem A2Spots_any (w : World) (a : Option Addr) (len cap : Nat) (hb : Bytes w a len w.heap.size) :
    Calls Try.prog 6 #[.slice a len cap] w fun e w' => ∃ u ps, e = .returned u ∧ ps.length ≤ 5 ∧ okL ps = true ∧ PRow w' w.heap.size u ps ∧ Below w.heap.size w w' := by
  have HB := Lib.hid hb
  clear hb
  go_enter Try.func6, Try.ntmps6
  go_wp2_with fail
  refine (l00From_any _ a len cap).mono ?_
  rintro e w' ⟨rfl, rfl⟩
  have S0 := Lib.hid (show St (w.alloc (.cells #[.slice a len cap, .int .i64 0, .int .u64 0] 81)) (w.alloc (.cells #[.slice a len cap, .int .i64 0, .int .u64 0] 81)) w.heap.size a len cap 0 from ⟨src_start w a len cap, ⟨rfl, rfl, rfl, Nat.le_refl _, fun _ _ _ => rfl⟩, bytes_start HB.out _, by simp⟩)
  go_wp2_with fail
  refine (l05Draw_any _ w.heap.size a len cap 0 S0.out (by decide)).mono ?_
  rintro e w1 ⟨u, ps, rfl, hl, hk, hr, hg⟩
  have HL := Lib.hid hl
  have HK := Lib.hid hk
  have HR := Lib.hid (prow_up hr (B' := w.heap.size) (by simp))
  have HG := Lib.hid (below_src hg)
  clear hl hk hr hg
  go_wp2
  go_ret
  exact ⟨_, ps, rfl, HL.out, HK.out, HR.out, HG.out⟩

set_option maxRecDepth 100000 in
set_option maxHeartbeats 1000000 in
theorem a2Has_cells (a : Option Addr) (c : Nat) (zs : List Int) (n : Int) (w : World) (ha : ∀ k, (hk : k < zs.length) → ∃ g, a = some ⟨g, 0, none⟩ ∧ w.cell? ⟨g, k, none⟩ = some (.int .i64 zs[k])) (hn : zs.length ≤ 1073741824) :
    Calls Try.prog 13 #[.slice a zs.length c, .int .i64 n] w fun e w' => e = .returned (.bool (decide (n ∈ zs))) ∧ w = w' := by
  have HA := Lib.hid ha
  obtain ⟨b, HM⟩ : ∃ b, Hid (decide (n ∈ zs) = b) := ⟨_, Lib.hid rfl⟩
  rw [HM.out]
  clear ha
  go_enter Try.func13, Try.ntmps13
  go_wp2
  go_loopw [5] (fun i wr => ∃ k : Nat, k ≤ zs.length ∧ i = .int .i64 (k : Int) ∧ wr = w ∧ ∀ j, (h : j < zs.length) → j < k → zs[j] ≠ n) (fun i _ => zs.length - (intOf i).toNat)
  case atStart => exact ⟨0, Nat.zero_le _, rfl, rfl, fun j _ h => by omega⟩
  case round =>
    obtain ⟨k, hk, rfl, rfl, hno⟩ := hrel
    have HN := Lib.hid hno
    clear hno
    by_cases hlt : k < zs.length
    · obtain ⟨ga, rfl, hca⟩ := HA.out k hlt
      have hk0 : 0 ≤ (k : Int) := by omega
      have hk1 : (k : Int) < (zs.length : Int) := by omega
      have NX := Lib.hid (show zs[k] ≠ n → ∀ j, (h : j < zs.length) → j < k + 1 → zs[j] ≠ n from fun h j hj hjk => by
        by_cases e : j = k
        · subst e; exact h
        · exact HN.out j hj (by omega))
      have YX := Lib.hid (show zs[k] = n → b = true from fun h => by rw [← HM.out]; exact decide_eq_true (h ▸ List.getElem_mem _))
      generalize zs[k] = x at hca NX YX
      by_cases e : x = n
      · have e1 : (x == n) = true := by simp [e]
        obtain rfl := YX.out e
        clear e
        go_wp2
        go_ret
        exact ⟨rfl, rfl⟩
      · have e1 : (x == n) = false := by simpa using e
        have NY := Lib.hid (NX.out e)
        clear e
        go_wp2
        go_roundw
        case rel => exact ⟨k + 1, by omega, by go_num, by first | rfl | trivial, NY.out⟩
        case measure => simp [intOf]; omega
    · obtain rfl : k = zs.length := by omega
      have BX := Lib.hid (show b = false from by
        rw [← HM.out]
        refine decide_eq_false fun h => ?_
        obtain ⟨j, hj, e⟩ := List.mem_iff_getElem.1 h
        exact HN.out j hj hj e)
      obtain rfl := BX.out
      go_wp2
      go_ret
      exact ⟨rfl, rfl⟩

set_option maxRecDepth 100000 in
set_option maxHeartbeats 2000000 in
theorem a2Rises_yes (v : Value) (B : Nat) (zs : List Int) (n : Int) (w : World) (h : IRow w B v zs) (hn : zs.length ≤ 1048576) (hr : RisesTo zs n) :
    Calls Try.prog 16 #[v, .int .i64 n] w fun e w' => e = .returned (.bool true) ∧ ∃ q, w' = w.drewN q := by
  obtain ⟨a, c, rfl, ha⟩ := irow_at' h
  have HA := Lib.hid ha
  have H1 := Lib.hid (show ∀ k, (hk : k < zs.length) → 0 ≤ zs[k] ∧ zs[k] < n from fun k hk => hr.1 _ (List.getElem_mem hk))
  have H2 := Lib.hid (show ∀ k, (hk : k + 1 < zs.length) → zs[k] < zs[k + 1] from fun k hk => (List.pairwise_iff_getElem.1 hr.2) k (k + 1) (by omega) hk (by omega))
  clear h ha hr
  go_enter Try.func16, Try.ntmps16
  go_wp2
  go_loopw [5] (fun i wr => ∃ k q : Nat, k ≤ zs.length ∧ i = .int .i64 (k : Int) ∧ wr = w.drewN q) (fun i _ => zs.length - (intOf i).toNat)
  case atStart => exact ⟨0, 0, Nat.zero_le _, rfl, rfl⟩
  case round =>
    obtain ⟨k, q, hk, rfl, rfl⟩ := hrel
    by_cases hlt : k < zs.length
    · obtain ⟨g, rfl, _, _, hc⟩ := HA.out k hlt
      obtain ⟨z0, z1⟩ := H1.out k hlt
      have hk0 : 0 ≤ (k : Int) := by omega
      have hk1 : (k : Int) < (zs.length : Int) := by omega
      have e1 : decide (zs[k] < 0) = false := decide_eq_false (by omega)
      have e2 : decide (n ≤ zs[k]) = false := decide_eq_false (by omega)
      rcases k with _ | p
      · generalize zs[0] = z at hc z0 z1 e1 e2
        go_wp2
        go_quiet (fail)
        go_wp2
        go_roundw
        case rel => exact ⟨1, _, by omega, by go_num, rfl⟩
        case measure => simp [intOf]; omega
      · obtain ⟨g', eg, _, _, hd⟩ := HA.out p (by omega)
        simp at eg
        subst eg
        have hp := H2.out p hlt
        have e3 : decide (0 < ((p + 1 : Nat) : Int)) = true := decide_eq_true (by omega)
        have e4 : IntKind.i64.wrap (((p + 1 : Nat) : Int) - 1) = (p : Int) := by rw [IntWalk.i64_in _ (by omega)]; omega
        have e5 : decide (zs[p + 1] ≤ zs[p]) = false := decide_eq_false (by omega)
        have p0 : 0 ≤ (p : Int) := by omega
        have p1 : (p : Int) < (zs.length : Int) := by omega
        generalize zs[p + 1] = z at hc z0 z1 e1 e2 e5 hp
        generalize zs[p] = y at hd e5 hp
        go_wp2
        go_quiet (fail)
        go_wp2
        go_roundw
        case rel => exact ⟨p + 1 + 1, _, by omega, by go_num, rfl⟩
        case measure => simp [intOf]; omega
    · obtain rfl : k = zs.length := by omega
      go_wp2
      go_ret
      exact ⟨rfl, q, rfl⟩
end Go.Proofs.Ytkiimdfnobcdpaa.sines
