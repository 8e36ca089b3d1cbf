/- The model's drawn chain. -/
import Derived.Test.YtemhmejjmhbfdaaA2
import Derived.Test.YtemhmejjmhbfdaaDraw
import Derived.Test.YtemhmejjmhbfdaaChainS2
import Derived.Maps.AppendAt
import Derived.Deep.RegionWith
import Derived.Deep.RegionHeld3
namespace Go.Proofs.Ytemhmejjmhbfdaa.srcP
open Go.ChangeShapes Go.WideShapes Go.ChangeAt Go.RowKit Go.Proofs.Ytemhmejjmhbfdaa.irows Go.Proofs.Ytemhmejjmhbfdaa.pairsPlace Go.Proofs.Ytemhmejjmhbfdaa.src Go.Proofs.Ytemhmejjmhbfdaa.sines
set_option linter.unusedSimpArgs false
set_option linter.unusedVariables false

/-- A row above the source's first world is not touched by what the source does. -/
theorem row_src {W0 w w' : World} {B : Nat} {v : Value} {ps : List (Int × Int)} (h : PRow w W0.heap.size v ps) (hB : B < W0.heap.size) (hg : w.grownBy w' (some B)) : PRow w' W0.heap.size v ps := by
  refine World.ownsRow.kept h hg ?_
  cases hv : v.ownBlock with
  | none => exact .inl rfl
  | some k =>
    refine .inr fun e => ?_
    have h1 := (World.ownsRow.lt h k hv).1
    cases e
    omega
/-- What is written above the source's first world leaves the source. -/
theorem st_own {W0 w w' : World} {B : Nat} {a : Option Addr} {len cap : Nat} {m : Int} {r : Option Nat} (h : St W0 w B a len cap m) (hg : w.grownBy w' r) (hr : ∀ k, r = some k → W0.heap.size ≤ k) : St W0 w' B a len cap m := by
  obtain ⟨⟨x, y, k1, k2⟩, h2, h3, h4⟩ := h
  have hB : B < w.heap.size := Nat.lt_of_lt_of_le h4 h2.size
  have far : ∀ k, k < W0.heap.size → some k ≠ r := fun k hk e => by have := hr k e.symm; omega
  have hz := h2.size
  refine ⟨⟨x, y, by rw [hg.block B hB (far B h4)]; exact k1, k2⟩, ⟨hg.os.trans h2.os, hg.tape.trans h2.tape, hg.output.trans h2.output, Nat.le_trans h2.size hg.size, fun k hk hne => by rw [hg.block k (by omega) (far k hk)]; exact h2.block k hk hne⟩, ?_, h4⟩
  obtain ⟨b1, b2, b3⟩ := h3
  refine ⟨b1, Nat.le_trans b2 hg.size, fun i hi => ?_⟩
  obtain ⟨b, off, z, e, hlt, hz2, h5⟩ := b3 i hi
  exact ⟨b, off, z, e, hlt, hg.cell hz2 (far b (by omega)), h5⟩
theorem pick_keep {W0 w : World} {B : Nat} {a : Option Addr} {len cap : Nat} {m : Int} (n : Int) (h : St W0 w B a len cap m) (hm : m ≤ 4611686018427387000) (hn0 : 1 ≤ n) (hn1 : n ≤ 65536) :
    Calls Try.prog 105 #[.pointer (some ⟨B, 0, none⟩), .int .i64 n] w fun e w' => ∃ v, e = .returned (.int .i64 v) ∧ 0 ≤ v ∧ v < n ∧ St W0 w' B a len cap (m + 2) ∧ w.grownBy w' (some B) := by
  refine (pick_any w B a len cap m n h.1 hm h.2.2.1 hn0 hn1).mono ?_
  rintro e w' ⟨v, h1, h2, h3, h4, h5⟩
  exact ⟨v, h1, h2, h3, ⟨h4, Lib.grownBy_trans h.2.1 h5, bytes_grown h.2.2.1 h5 (Nat.le_refl _), h.2.2.2⟩, h5⟩
theorem two_new (w : World) (x y : Int) : ∀ j u, ([.int .i64 x, .int .i64 y] : List Value)[j]? = some u → (w.alloc (.cells #[.int .i64 x, .int .i64 y] 60)).cell? ((⟨w.heap.size, 0, none⟩ : Addr).add j) = some u := fun j u hj => by
  match j, hj with
  | 0, hj => simp at hj; subst hj; simp [Addr.add]
  | 1, hj => simp at hj; subst hj; simp [Addr.add]
theorem two_cell (x y : Int) : ∀ u ∈ ([.int .i64 x, .int .i64 y] : List Value), u.oneCell' = true := fun u hu => by simp at hu; rcases hu with rfl | rfl <;> rfl
theorem prow_snoc {w : World} {B : Nat} {v : Value} {ps : List (Int × Int)} {x y : Int} (h : w.ownsRow B 60 2 v (ps.length + 1) (ints (flat ps) ++ [.int .i64 x, .int .i64 y])) : PRow w B v (ps ++ [(x, y)]) := by
  unfold PRow
  rw [flat_append, List.length_append]
  have e : ints (flat ps ++ flat [(x, y)]) = ints (flat ps) ++ [.int .i64 x, .int .i64 y] := by simp [ints, flat]
  rw [e]
  exact h
theorem block_src {w w' : World} {B k : Nat} {ob : Obj} (h : w.heap[k]? = some ob) (hk : k ≠ B) (hg : w.grownBy w' (some B)) : w'.heap[k]? = some ob := by
  rw [hg.block k (Array.getElem?_eq_some_iff.1 h).1 (fun e => hk (by simpa using e))]
  exact h
theorem two_cellsP {w : World} {k : Nat} {x y : Value} {t : TypeId} (h : w.heap[k]? = some (.cells #[x, y] t (0, 0))) : k < w.heap.size ∧ w.cell? ⟨k, 0, none⟩ = some x ∧ w.cell? ⟨k, 1, none⟩ = some y ∧ w.frozen? ⟨k, 0, none⟩ = false ∧ w.frozen? ⟨k, 1, none⟩ = false :=
  ⟨(Array.getElem?_eq_some_iff.1 h).1, by rw [cell_of_block h 0]; rfl, by rw [cell_of_block h 1]; rfl, frozen_plain h 0, frozen_plain h 1⟩
theorem okC_snoc {ps : List (Int × Int)} {x y : Int} (h : ps.all okP = true) (x0 : 0 ≤ x) (x1 : x ≤ 2000) (y0 : 0 ≤ y) (y1 : y ≤ 2000) : (ps ++ [(x, y)]).all okP = true := by
  simp only [List.all_append, h, List.all_cons, List.all_nil, Bool.and_self, Bool.true_and, Bool.and_true]
  simp [okP, inB, x0, x1, y0, y1]
theorem l00MaxP (b : Int) (w : World) :
    Calls Try.prog 102 #[.int .i64 0, .int .i64 b] w fun e w' => (∃ v, e = .returned (.int .i64 v) ∧ 0 ≤ v ∧ b ≤ v ∧ (v ≤ b ∨ v = 0)) ∧ w = w' := by
  by_cases h : b < 0
  · go_enter Try.func102, Try.ntmps102
    go_wp2
    go_ret
    exact ⟨⟨_, rfl, by omega, by omega, by omega⟩, rfl⟩
  · go_enter Try.func102, Try.ntmps102
    go_wp2
    go_ret
    exact ⟨⟨_, rfl, by omega, by omega, by omega⟩, rfl⟩
set_option maxRecDepth 100000 in
set_option maxHeartbeats 8000000 in
theorem l07Draw_any (w : World) (B : Nat) (a : Option Addr) (len cap : Nat) (m : Int) (h : St w w B a len cap m) (hm : m ≤ 1000) :
    Calls Try.prog 162 #[.pointer (some ⟨B, 0, none⟩)] w fun e w' => ∃ u ps, e = .returned u ∧ okC ps = true ∧ ps.length ≤ 10 ∧ PRow w' w.heap.size u ps ∧ w.grownBy w' (some B) ∧ St w w' B a len cap (m + 46) := by
  obtain ⟨i0, hi, hz0, hz1, hz2⟩ := info_parts info_pair
  have HN := Lib.hid h
  have hWz : B < w.heap.size := h.2.2.2
  clear h
  go_enter Try.func162, Try.ntmps162
  have S1 := Lib.hid (st_alloc HN.out (.cells #[] 60))
  have R1 := Lib.hid (show PRow (w.alloc (.cells #[] 60)) w.heap.size (.slice (some ⟨w.heap.size, 0, none⟩) 0 0) [] from World.ownsRow_made w #[] 0 HN.out.2.1.size (by decide) rfl)
  go_wp2_with fail
  refine (pick_keep 40 S1.out (by omega) (by decide) (by decide)).mono ?_
  rintro e w2 ⟨x0, rfl, x00, x01, s2, hg2⟩
  have S2 := Lib.hid s2
  have hz2' : w.heap.size < w2.heap.size := by have := hg2.size; simp at this; omega
  have R2 := Lib.hid (row_src R1.out hWz hg2)
  clear s2 hg2
  have S3 := Lib.hid (st_alloc S2.out (.cells #[.int .i64 (20 + x0), .int .i64 0] 60))
  have R3 := Lib.hid (show PRow _ w.heap.size _ [] from World.ownsRow.alloc R2.out (.cells #[.int .i64 (20 + x0), .int .i64 0] 60))
  have P3 := Lib.hid (heap_alloc_new w2 (.cells #[.int .i64 (20 + x0), .int .i64 0] 60))
  go_wp2_with fail
  refine (pick_keep 40 S3.out (by omega) (by decide) (by decide)).mono ?_
  rintro e w4 ⟨y0, rfl, y00, y01, s4, hg4⟩
  have P4 := Lib.hid (block_src P3.out (by omega) hg4)
  obtain ⟨z1, r0, r1, f0, f1⟩ := two_cellsP P4.out
  have R4 := Lib.hid (row_src R3.out hWz hg4)
  have GS := Lib.hid (Lib.grownBy_setB (World.grownBy.refl w4 (some w2.heap.size)) 1 (.int .i64 (20 + y0)))
  have S4 := Lib.hid (st_own s4 GS.out (fun k hk => by cases hk; omega))
  have P5 := Lib.hid (heap_setCell_same w4 w2.heap.size 1 _ _ (.int .i64 (20 + y0)) P4.out)
  have R5 := Lib.hid (show PRow (w4.setCell ⟨w2.heap.size, 1, none⟩ (.int .i64 (20 + y0))) w.heap.size _ [] from World.ownsRow.kept R4.out GS.out (.inr (by simp [Value.ownBlock]; omega)))
  clear s4 hg4
  go_wp2_with fail
  refine (pick_keep 9 S4.out (by omega) (by decide) (by decide)).mono ?_
  rintro e w6 ⟨n, rfl, n0, n1, s6, hg6⟩
  have P6 := Lib.hid (block_src P5.out (by omega) hg6)
  have R6 := Lib.hid (row_src R5.out hWz hg6)
  have S6 := Lib.hid s6
  have hz6 : w2.heap.size < w6.heap.size := (Array.getElem?_eq_some_iff.1 P6.out).1
  clear s6 hg6 r0 r1 f0 f1 z1
  obtain ⟨PB, HPB⟩ : ∃ k, Hid (w2.heap.size = k) := ⟨_, Lib.hid rfl⟩
  obtain ⟨N, rfl⟩ := Int.eq_ofNat_of_zero_le n0
  have N2 : N ≤ 8 := by omega
  rw [HPB.out] at P6 hz2' hz6
  go_wp2
  rw [HPB.out]
  go_loopw [3, 5] (fun u k wr => ∃ (j : Nat) (ps : List (Int × Int)) (x y : Int), j ≤ N + 2 ∧ k = .int .i64 (2 + (N : Int) - (j : Int)) ∧ ps.length = j ∧ ps.all okP = true ∧ 0 ≤ x ∧ x ≤ 59 + 18 * (j : Int) ∧ 0 ≤ y ∧ y ≤ 59 + 10 * (j : Int) ∧ wr.heap[PB]? = some (.cells #[.int .i64 x, .int .i64 y] 60 (0, 0)) ∧ u.ownBlock ≠ some PB ∧ PRow wr w.heap.size u ps ∧ St w wr B a len cap (m + 6 + 4 * (j : Int))) (fun _ k _ => (intOf k).toNat)
  case atStart => exact ⟨0, [], 20 + x0, 20 + y0, by omega, by simp, rfl, rfl, by omega, by omega, by omega, by omega, P6.out, by simp [Value.ownBlock]; omega, R6.out, st_le S6.out (by omega)⟩
  case round =>
    obtain ⟨j, ps, x, y, hj, rfl, hl, hk, x2, x3, y2, y3, hp, hne, hr, hs⟩ := hrel
    have HR := Lib.hid (show wr.ownsRow w.heap.size 60 2 _ ps.length (ints (flat ps)) from hr)
    have HS := Lib.hid hs
    have HL := Lib.hid hl
    have HK := Lib.hid hk
    have HP := Lib.hid hp
    have HNE := Lib.hid hne
    clear hr hs hl hk hne
    by_cases hlt : j < N + 2
    · have k1 : 0 < 2 + (N : Int) - (j : Int) := by omega
      have k2 : IntKind.i64.wrap (2 + (N : Int) - (j : Int) - 1) = 2 + (N : Int) - (j : Int) - 1 := IntWalk.i64_in _ (by omega)
      obtain ⟨z1, c0, c1, f0, f1⟩ := two_cellsP hp
      clear hp
      have hzr : w.heap.size ≤ wr.heap.size := HS.out.2.1.size
      have hpl : ps.length ≤ 10 := by have := HL.out; omega
      go_wp2_with (at_builtin; refine wpList_append_own_at _ rfl _ _ 52 rfl w.heap.size 60 i0 (.agg #[.int .i64 0, .int .i64 0]) 2 16 Try.underlying52 hi hz0 hz1 hz2 rfl (by decide) _ ps.length _ rfl (HR.out.alloc _) ⟨wr.heap.size, 0, none⟩ 1 1 [.int .i64 x, .int .i64 y] rfl rfl (two_new _ _ _) (two_cell _ _) (by unfold maxLen; omega) (by omega) (by simp; omega) ?_; intro v6 w6 hown6 hg6 _ hat6)
      have P7 := Lib.hid (show w6.heap[PB]? = some (.cells #[.int .i64 x, .int .i64 y] 60 (0, 0)) from by
        rw [hg6.block PB (by simp; omega) (fun e => HNE.out e.symm)]
        rw [Below.heap_alloc _ _ _ z1]
        exact HP.out)
      have S7 := Lib.hid (st_own (st_alloc HS.out _) hg6 (fun k hk => (HR.out.lt k hk).1))
      have R7 := Lib.hid (prow_snoc hown6)
      have NE7 := Lib.hid (show v6.ownBlock ≠ some PB from by
        rcases hat6 with e | e
        · intro h; exact HNE.out (e.symm.trans h)
        · intro h; have h2 := e.symm.trans h; simp at h2; omega)
      clear hown6 hg6 hat6 c0 c1 f0 f1
      obtain ⟨z7, c0, c1, f0, f1⟩ := two_cellsP P7.out
      have S7d := Lib.hid (show St w w6.drew B a len cap (m + 6 + 4 * (j : Int)) from st_own S7.out (r := none) ⟨rfl, rfl, rfl, Nat.le_refl _, fun _ _ _ => rfl⟩ (fun k hk => by cases hk))
      have P7d := Lib.hid (show w6.drew.heap[PB]? = some (.cells #[.int .i64 x, .int .i64 y] 60 (0, 0)) from P7.out)
      have R7d := Lib.hid (show PRow w6.drew w.heap.size v6 (ps ++ [(x, y)]) from R7.out)
      go_region_with (first | (go_at_call 105; refine (pick_keep 25 S7d.out (by omega) (by decide) (by decide)).mono ?_; rintro e w8 ⟨v8, rfl, v80, v81, s8, hg8⟩; have P8 := Lib.hid (block_src P7d.out (by omega) hg8); have S8 := Lib.hid s8; have hl8 := hg8; have R8 := Lib.hid (row_src R7d.out hWz hg8); obtain ⟨z8, d0, d1, e0, e1⟩ := two_cellsP P8.out; have kx1 : IntKind.i64.wrap (x + v8) = x + v8 := IntWalk.i64_in _ (by omega); have kx2 : IntKind.i64.wrap (x + v8 - 6) = x + v8 - 6 := IntWalk.i64_in _ (by omega); clear s8 hg8 hl8) | (go_at_call 102; refine (l00MaxP _ _).mono ?_; rintro e w9 ⟨⟨x9, rfl, q1, q2, q3⟩, rfl⟩))
      all_goals clear c0 c1 f0 f1 d0 d1 e0 e1 kx1 kx2 z7 z8
      all_goals have GX := Lib.hid (Lib.grownBy_setB (World.grownBy.refl w8 (some PB)) 0 (.int .i64 x9))
      all_goals have P9 := Lib.hid (show (w8.setCell ⟨PB, 0, none⟩ (.int .i64 x9)).heap[PB]? = some (.cells #[.int .i64 x9, .int .i64 y] 60 (0, 0)) from heap_setCell_same w8 PB 0 _ _ (.int .i64 x9) P8.out)
      all_goals have S9 := Lib.hid (st_own S8.out GX.out (fun k hk => by cases hk; omega))
      all_goals have R9 := Lib.hid (show PRow (w8.setCell ⟨PB, 0, none⟩ (.int .i64 x9)) w.heap.size v6 (ps ++ [(x, y)]) from World.ownsRow.kept R8.out GX.out (.inr NE7.out))
      all_goals generalize w8.setCell ⟨PB, 0, none⟩ (.int .i64 x9) = w10 at P9 S9 R9 ⊢
      all_goals obtain ⟨z9, c0, c1, f0, f1⟩ := two_cellsP P9.out
      all_goals have S9d := Lib.hid (show St w w10.drew B a len cap (m + 6 + 4 * (j : Int) + 2) from st_own S9.out (r := none) ⟨rfl, rfl, rfl, Nat.le_refl _, fun _ _ _ => rfl⟩ (fun k hk => by cases hk))
      all_goals have P9d := Lib.hid (show w10.drew.heap[PB]? = some (.cells #[.int .i64 x9, .int .i64 y] 60 (0, 0)) from P9.out)
      all_goals have R9d := Lib.hid (show PRow w10.drew w.heap.size v6 (ps ++ [(x, y)]) from R9.out)
      all_goals go_wp2_with fail
      all_goals go_region_with (first | (go_at_call 105; refine (pick_keep 21 S9d.out (by omega) (by decide) (by decide)).mono ?_; rintro e w11 ⟨v11, rfl, v110, v111, s11, hg11⟩; have P11 := Lib.hid (block_src P9d.out (by omega) hg11); have S11 := Lib.hid s11; have R11 := Lib.hid (row_src R9d.out hWz hg11); obtain ⟨z11, d0, d1, e0, e1⟩ := two_cellsP P11.out; have ky1 : IntKind.i64.wrap (y + v11) = y + v11 := IntWalk.i64_in _ (by omega); have ky2 : IntKind.i64.wrap (y + v11 - 10) = y + v11 - 10 := IntWalk.i64_in _ (by omega); clear s11 hg11) | (go_at_call 102; refine (l00MaxP _ _).mono ?_; rintro e w12 ⟨⟨y12, rfl, t1, t2, t3⟩, rfl⟩))
      all_goals clear c0 c1 f0 f1 d0 d1 e0 e1 ky1 ky2 z9 z11
      all_goals have GY := Lib.hid (Lib.grownBy_setB (World.grownBy.refl w11 (some PB)) 1 (.int .i64 y12))
      all_goals have P12 := Lib.hid (show (w11.setCell ⟨PB, 1, none⟩ (.int .i64 y12)).heap[PB]? = some (.cells #[.int .i64 x9, .int .i64 y12] 60 (0, 0)) from heap_setCell_same w11 PB 1 _ _ (.int .i64 y12) P11.out)
      all_goals have S12 := Lib.hid (st_own S11.out GY.out (fun k hk => by cases hk; omega))
      all_goals have R12 := Lib.hid (show PRow (w11.setCell ⟨PB, 1, none⟩ (.int .i64 y12)) w.heap.size v6 (ps ++ [(x, y)]) from World.ownsRow.kept R11.out GY.out (.inr NE7.out))
      all_goals go_wp2
      all_goals go_roundw
      all_goals first
        | exact ⟨j + 1, ps ++ [(x, y)], x9, y12, by omega, by go_num, by simp [HL.out], okC_snoc HK.out (by omega) (by omega) (by omega) (by omega), by omega, by omega, by omega, by omega, P12.out, NE7.out, R12.out, st_le S12.out (by omega)⟩
        | (simp [intOf]; omega)
    · obtain rfl : j = N + 2 := by omega
      have k1 : ¬ 0 < 2 + (N : Int) - ((N + 2 : Nat) : Int) := by omega
      have kd : decide (0 < 2 + (N : Int) - ((N + 2 : Nat) : Int)) = false := decide_eq_false k1
      go_wp2
      go_ret
      have OKC := Lib.hid (show okC ps = true from by have h1 := HK.out; have h2 := HL.out; simp only [okC, h1, inB, Bool.true_and, Bool.and_eq_true, decide_eq_true_eq]; omega)
      exact ⟨_, rfl, ps, OKC.out, by have := HL.out; omega, HR.out, HS.out.2.1, st_le HS.out (by omega)⟩
end Go.Proofs.Ytemhmejjmhbfdaa.srcP
