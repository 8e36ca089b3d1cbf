/- The model's drawn borders, and lands with them. -/
import Derived.Test.YtemhmejjmhbfdaaDoorA2
import Derived.Test.YtemhmejjmhbfdaaDoorDraw
import Derived.Test.YtemhmejjmhbfdaaDoorPairsBorder
import Derived.Test.YtemhmejjmhbfdaaDoorCols
import Derived.Maps.AppendAt
namespace Go.Proofs.YtemhmejjmhbfdaaDoor.srcB
open Go.ChangeShapes Go.WideShapes Go.ChangeAt Go.RowKit Go.Proofs.YtemhmejjmhbfdaaDoor.irows Go.Proofs.YtemhmejjmhbfdaaDoor.pairsBorder Go.Proofs.YtemhmejjmhbfdaaDoor.src Go.Proofs.YtemhmejjmhbfdaaDoor.sines
set_option linter.unusedSimpArgs false
set_option linter.unusedVariables false

/-- Borders drawn so far: ahead of (a, b) in their order. -/
def sofar (n b a : Int) (ps : List (Int × Int)) : Prop := (∀ i, i < ps.length → okBd n (bAt ps i) = true ∧ ((bAt ps i).2 < b ∨ (bAt ps i).2 = b ∧ (bAt ps i).1 < a) ∧ ∀ k, k < i → bAt ps k ≠ bAt ps i) ∧ ps.length ≤ 12
theorem sofar_nil (n b a : Int) : sofar n b a [] := ⟨fun i h => absurd h (by simp), by simp⟩
theorem sofar_up {n b a b' a' : Int} {ps : List (Int × Int)} (h : sofar n b a ps) (hh : b < b' ∨ b = b' ∧ a ≤ a') : sofar n b' a' ps :=
  ⟨fun i hi => by obtain ⟨h1, h2, h3⟩ := h.1 i hi; exact ⟨h1, by omega, h3⟩, h.2⟩
theorem bAt_last (ps : List (Int × Int)) (x : Int × Int) : bAt (ps ++ [x]) ps.length = x := by simp [bAt]
theorem bAt_snoc {ps : List (Int × Int)} {x : Int × Int} {i : Nat} (h : i < ps.length) : bAt (ps ++ [x]) i = bAt ps i := by
  unfold bAt
  rw [List.getD_eq_getElem?_getD, List.getD_eq_getElem?_getD, List.getElem?_append_left h]
theorem sofar_snoc {n b a : Int} {ps : List (Int × Int)} (h : sofar n b a ps) (h0 : 0 ≤ a) (h1 : a < b) (h2 : b < n) (hl : ps.length < 12) : sofar n b (a + 1) (ps ++ [(a, b)]) := by
  refine ⟨fun i hi => ?_, by simp; omega⟩
  rw [List.length_append, List.length_singleton] at hi
  by_cases hlt : i < ps.length
  · obtain ⟨k1, k2, k3⟩ := h.1 i hlt
    rw [bAt_snoc hlt]
    refine ⟨k1, by omega, fun k hk => ?_⟩
    rw [bAt_snoc (by omega)]
    exact k3 k hk
  · obtain rfl : i = ps.length := by omega
    rw [bAt_last]
    refine ⟨by simp [okBd, inB]; omega, .inr ⟨rfl, by simp only; omega⟩, fun k hk e => ?_⟩
    rw [bAt_snoc hk] at e
    obtain ⟨_, k2, _⟩ := h.1 k hk
    rw [e] at k2
    simp only at k2
    omega
theorem sofar_valid {n b a : Int} {ps : List (Int × Int)} (h : sofar n b a ps) (h1 : 1 ≤ n) (h2 : n ≤ 10) : validC n ps = true :=
  validC_iff.2 ⟨by simp [inB]; omega, fun i hi => ⟨(h.1 i hi).1, (h.1 i hi).2.2⟩, by have := h.2; omega⟩
/-- A row above the source's first world is not touched by what the source does. -/
theorem row_src {W0 w w' : World} {B : Nat} {v : Value} {ps : List (Int × Int)} (h : PRow w W0.heap.size v ps) (hB : B < W0.heap.size) (hg : w.grownBy w' (some B)) : PRow w' W0.heap.size v ps := by
  refine World.ownsRow.kept h hg ?_
  cases hv : v.ownBlock with
  | none => exact .inl rfl
  | some k =>
    refine .inr fun e => ?_
    have h1 := (World.ownsRow.lt h k hv).1
    cases e
    omega
/-- What is written above the source's first world leaves the source. -/
theorem st_own {W0 w w' : World} {B : Nat} {a : Option Addr} {len cap : Nat} {m : Int} {r : Option Nat} (h : St W0 w B a len cap m) (hg : w.grownBy w' r) (hr : ∀ k, r = some k → W0.heap.size ≤ k) : St W0 w' B a len cap m := by
  obtain ⟨⟨x, y, k1, k2⟩, h2, h3, h4⟩ := h
  have hB : B < w.heap.size := Nat.lt_of_lt_of_le h4 h2.size
  have far : ∀ k, k < W0.heap.size → some k ≠ r := fun k hk e => by have := hr k e.symm; omega
  have hz := h2.size
  refine ⟨⟨x, y, by rw [hg.block B hB (far B h4)]; exact k1, k2⟩, ⟨hg.os.trans h2.os, hg.tape.trans h2.tape, hg.output.trans h2.output, Nat.le_trans h2.size hg.size, fun k hk hne => by rw [hg.block k (by omega) (far k hk)]; exact h2.block k hk hne⟩, ?_, h4⟩
  obtain ⟨b1, b2, b3⟩ := h3
  refine ⟨b1, Nat.le_trans b2 hg.size, fun i hi => ?_⟩
  obtain ⟨b, off, z, e, hlt, hz2, h5⟩ := b3 i hi
  exact ⟨b, off, z, e, hlt, hg.cell hz2 (far b (by omega)), h5⟩
theorem pick_keep {W0 w : World} {B : Nat} {a : Option Addr} {len cap : Nat} {m : Int} (n : Int) (h : St W0 w B a len cap m) (hm : m ≤ 4611686018427387000) (hn0 : 1 ≤ n) (hn1 : n ≤ 65536) :
    Calls Tryd.prog 12 #[.pointer (some ⟨B, 0, none⟩), .int .i64 n] w fun e w' => ∃ v, e = .returned (.int .i64 v) ∧ 0 ≤ v ∧ v < n ∧ St W0 w' B a len cap (m + 2) ∧ w.grownBy w' (some B) := by
  refine (pick_any w B a len cap m n h.1 hm h.2.2.1 hn0 hn1).mono ?_
  rintro e w' ⟨v, h1, h2, h3, h4, h5⟩
  exact ⟨v, h1, h2, h3, ⟨h4, Lib.grownBy_trans h.2.1 h5, bytes_grown h.2.2.1 h5 (Nat.le_refl _), h.2.2.2⟩, h5⟩
theorem two_new (w : World) (x y : Int) : ∀ j u, ([.int .i64 x, .int .i64 y] : List Value)[j]? = some u → (w.alloc (.cells #[.int .i64 x, .int .i64 y] 58)).cell? ((⟨w.heap.size, 0, none⟩ : Addr).add j) = some u := fun j u hj => by
  match j, hj with
  | 0, hj => simp at hj; subst hj; simp [Addr.add]
  | 1, hj => simp at hj; subst hj; simp [Addr.add]
theorem two_cell (x y : Int) : ∀ u ∈ ([.int .i64 x, .int .i64 y] : List Value), u.oneCell' = true := fun u hu => by simp at hu; rcases hu with rfl | rfl <;> rfl
theorem prow_snoc {w : World} {B : Nat} {v : Value} {ps : List (Int × Int)} {x y : Int} (h : w.ownsRow B 58 2 v (ps.length + 1) (ints (flat ps) ++ [.int .i64 x, .int .i64 y])) : PRow w B v (ps ++ [(x, y)]) := by
  unfold PRow
  rw [flat_append, List.length_append]
  have e : ints (flat ps ++ flat [(x, y)]) = ints (flat ps) ++ [.int .i64 x, .int .i64 y] := by simp [ints, flat]
  rw [e]
  exact h
theorem one_keep {W0 w : World} {B : Nat} {a : Option Addr} {len cap : Nat} {m : Int} (n : Int) (h : St W0 w B a len cap m) (hm : m ≤ 4611686018427387000) (hn0 : 1 ≤ n) (hn1 : n ≤ 65536) :
    Calls Tryd.prog 22 #[.pointer (some ⟨B, 0, none⟩), .int .i64 n] w fun e w' => ∃ b, e = .returned (.bool b) ∧ St W0 w' B a len cap (m + 2) ∧ w.grownBy w' (some B) := by
  have H := Lib.hid h
  clear h
  go_enter Tryd.func22, Tryd.ntmps22
  go_wp2_with fail
  refine (pick_keep n H.out hm hn0 hn1).mono ?_
  rintro e w1 ⟨v, rfl, _, _, h2, hg⟩
  have H2 := Lib.hid h2
  have HG := Lib.hid hg
  clear h2 hg
  go_wp2_with fail
  go_ret
  exact ⟨_, rfl, H2.out, HG.out⟩

set_option maxRecDepth 100000 in
set_option maxHeartbeats 4000000 in
theorem l09Draw_any (n : Int) (w : World) (B : Nat) (a : Option Addr) (len cap : Nat) (m : Int) (h : St w w B a len cap m) (hm : m ≤ 1000) (n0 : 1 ≤ n) (n1 : n ≤ 6) :
    Calls Tryd.prog 13 #[.pointer (some ⟨B, 0, none⟩), .int .i64 n] w fun e w' => ∃ u ps, e = .returned u ∧ validC n ps = true ∧ ps.length ≤ 12 ∧ PRow w' w.heap.size u ps ∧ St w w' B a len cap (m + 1000) ∧ w.grownBy w' (some B) := by
  obtain ⟨i0, hi, hz0, hz1, hz2⟩ := info_parts info_pair
  have HN := Lib.hid h
  have hWz : B < w.heap.size := h.2.2.2
  clear h
  go_enter Tryd.func13, Tryd.ntmps13
  have S1 := Lib.hid (st_alloc HN.out (.cells #[] 58))
  have R1 := Lib.hid (show PRow (w.alloc (.cells #[] 58)) w.heap.size (.slice (some ⟨w.heap.size, 0, none⟩) 0 0) [] from World.ownsRow_made w #[] 0 HN.out.2.1.size (by decide) rfl)
  go_wp2_with fail
  refine (pick_keep 4 S1.out (by omega) (by decide) (by decide)).mono ?_
  rintro e w2 ⟨v, rfl, v0, v1, s2, hg2⟩
  have S2 := Lib.hid s2
  have R2 := Lib.hid (row_src R1.out hWz hg2)
  clear s2 hg2
  have kv : IntKind.i64.wrap (1 + v) = 1 + v := IntWalk.i64_in _ (by omega)
  go_wp2
  go_loopw [5, 7] (fun u k wr => ∃ (b : Int) (ps : List (Int × Int)), 1 ≤ b ∧ b ≤ n ∧ k = .int .i64 b ∧ sofar n b 0 ps ∧ PRow wr w.heap.size u ps ∧ St w wr B a len cap (m + 2 + 100 * (b - 1))) (fun _ k _ => (n - intOf k).toNat)
  case atStart => exact ⟨1, [], by omega, n0, rfl, sofar_nil _ _ _, R2.out, st_le S2.out (by omega)⟩
  case round =>
    obtain ⟨b, ps, b0, b1, rfl, hk, hr, hs⟩ := hrel
    have HR := Lib.hid hr
    have HS := Lib.hid hs
    have HK := Lib.hid hk
    clear hr hs hk
    have kb : IntKind.i64.wrap (b + 1) = b + 1 := IntWalk.i64_in _ (by omega)
    by_cases hlt : b < n
    · go_wp2
      go_loopw [5, 8] (fun u k wr2 => ∃ (x : Int) (qs : List (Int × Int)), 0 ≤ x ∧ x ≤ b ∧ k = .int .i64 x ∧ sofar n b x qs ∧ PRow wr2 w.heap.size u qs ∧ St w wr2 B a len cap (m + 2 + 100 * (b - 1) + 2 * x)) (fun _ k _ => (b - intOf k).toNat)
      case atStart => exact ⟨0, ps, by omega, by omega, rfl, HK.out, HR.out, st_le HS.out (by omega)⟩
      case round =>
        obtain ⟨x, qs, x0, x1, rfl, hk, hr, hs⟩ := hrel
        have HR2 := Lib.hid hr
        have HS2 := Lib.hid hs
        have HK2 := Lib.hid hk
        have hql := hk.2
        clear hr hs hk
        have kx : IntKind.i64.wrap (x + 1) = x + 1 := IntWalk.i64_in _ (by omega)
        by_cases hlx : x < b
        · go_wp2_with fail
          refine (one_keep (1 + v) HS2.out (by omega) (by omega) (by omega)).mono ?_
          rintro e w5 ⟨t, rfl, s5, hg5⟩
          have S5 := Lib.hid s5
          have R5 := Lib.hid (show w5.ownsRow w.heap.size 58 2 _ qs.length (ints (flat qs)) from row_src HR2.out hWz hg5)
          have hz5 : w.heap.size ≤ w5.heap.size := s5.2.1.size
          obtain ⟨aq, cq, rfl⟩ : ∃ aq cq, _ = Value.slice aq qs.length cq := by obtain ⟨aa, cc, e, _⟩ := prow_at R5.out; exact ⟨aa, cc, e⟩
          clear s5 hg5
          cases t with
          | false =>
            go_wp2
            go_roundw
            case rel => exact ⟨x + 1, qs, by omega, by omega, by go_num, sofar_up HK2.out (.inr ⟨rfl, by omega⟩), R5.out, st_le S5.out (by omega)⟩
            case measure => simp [intOf]; omega
          | true =>
            by_cases hfew : qs.length < 12
            · have hf2 : (qs.length : Int) < 12 := by omega
              go_wp2_with (at_builtin; refine wpList_append_own _ rfl _ _ 24 rfl w.heap.size 58 i0 (.agg #[.int .i64 0, .int .i64 0]) 2 16 Tryd.underlying24 hi hz0 hz1 hz2 rfl (by decide) _ qs.length _ rfl (R5.out.alloc _) ⟨w5.heap.size, 0, none⟩ 1 1 [.int .i64 x, .int .i64 b] rfl rfl (two_new _ _ _) (two_cell _ _) (by unfold maxLen; omega) (by omega) (by simp; omega) ?_; intro v6 w6 hown6 hg6 _)
              go_roundw
              case rel => exact ⟨x + 1, qs ++ [(x, b)], by omega, by omega, by go_num, sofar_snoc HK2.out x0 hlx hlt hfew, prow_snoc hown6, st_le (st_own (st_alloc S5.out _) hg6 (fun k hk => (R5.out.lt k hk).1)) (by omega)⟩
              case measure => simp [intOf]; omega
            · have hf2 : ¬ (qs.length : Int) < 12 := by omega
              go_wp2
              go_roundw
              case rel => exact ⟨x + 1, qs, by omega, by omega, by go_num, sofar_up HK2.out (.inr ⟨rfl, by omega⟩), R5.out, st_le S5.out (by omega)⟩
              case measure => simp [intOf]; omega
        · go_wp2
          go_roundw
          case rel => exact ⟨b + 1, qs, by omega, by omega, by go_num, sofar_up HK2.out (.inl (by omega)), HR2.out, st_le HS2.out (by omega)⟩
          case measure => simp [intOf]; omega
    · go_wp2
      go_ret
      exact ⟨_, rfl, ps, sofar_valid HK.out n0 (by omega), HK.out.2, HR.out, st_le HS.out (by omega), HS.out.2.1⟩

set_option maxRecDepth 100000 in
set_option maxHeartbeats 1000000 in
theorem A2Lands_any (w : World) (a : Option Addr) (len cap : Nat) (hb : Bytes w a len w.heap.size) :
    Calls Tryd.prog 5 #[.slice a len cap] w fun e w' => ∃ n u ps, e = .returned (.tuple #[.int .i64 n, u]) ∧ 1 ≤ n ∧ n ≤ 6 ∧ validC n ps = true ∧ ps.length ≤ 12 ∧ PRow w' w.heap.size u ps ∧ Below w.heap.size w w' := by
  have HB := Lib.hid hb
  clear hb
  go_enter Tryd.func5, Tryd.ntmps5
  go_wp2_with fail
  refine (l00From_any _ a len cap).mono ?_
  rintro e w' ⟨rfl, rfl⟩
  have S0 := Lib.hid (show St (w.alloc (.cells #[.slice a len cap, .int .i64 0, .int .u64 0] 54)) (w.alloc (.cells #[.slice a len cap, .int .i64 0, .int .u64 0] 54)) w.heap.size a len cap 0 from ⟨src_start w a len cap, ⟨rfl, rfl, rfl, Nat.le_refl _, fun _ _ _ => rfl⟩, bytes_start HB.out _, by simp⟩)
  generalize hW : w.alloc (.cells #[.slice a len cap, .int .i64 0, .int .u64 0] 54) = W at S0
  go_wp2_with fail
  refine (pick_keep 6 S0.out (by decide) (by decide) (by decide)).mono ?_
  rintro e w1 ⟨v, rfl, v0, v1, s1, hg1⟩
  have S1 := Lib.hid s1
  have HG1 := Lib.hid hg1
  clear s1 hg1
  have kv : IntKind.i64.wrap (1 + v) = 1 + v := IntWalk.i64_in _ (by omega)
  go_wp2_with fail
  refine (l09Draw_any (1 + v) w1 w.heap.size a len cap 2 ⟨S1.out.1, ⟨rfl, rfl, rfl, Nat.le_refl _, fun _ _ _ => rfl⟩, S1.out.2.2.1, Nat.lt_of_lt_of_le S1.out.2.2.2 S1.out.2.1.size⟩ (by decide) (by omega) (by omega)).mono ?_
  rintro e w2 ⟨u, ps, rfl, hk, hl, hr, _, hg2⟩
  have HK := Lib.hid hk
  have HL := Lib.hid hl
  have HR := Lib.hid (prow_up hr (B' := w.heap.size) (by have := S1.out.2.1.size; rw [← hW] at this; simp at this; omega))
  have HG := Lib.hid (show Below w.heap.size w w2 from below_src (by rw [hW]; exact Lib.grownBy_trans HG1.out hg2))
  clear hk hl hr hg2
  go_wp2
  exact bodyPost_ret (v := .tuple #[.int .i64 (1 + v), u]) (by simp [results, Tryd.results5, go_sem]) rfl ⟨_, _, ps, rfl, by omega, by omega, HK.out, HL.out, HR.out, HG.out⟩
end Go.Proofs.YtemhmejjmhbfdaaDoor.srcB
