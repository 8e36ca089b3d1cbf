/- Drawn spots that are seldom not valid; drawn lists of spots: contracts of the model's functions. -/
import Derived.Test.YtemhmejjmhbfdaaGDraw
import Derived.Test.YtemhmejjmhbfdaaPairs
import Derived.Test.YtemhmejjmhbfdaaF6
import Derived.Maps.AppendAt
namespace Go.Proofs.Ytemhmejjmhbfdaa.src
open Go.ChangeShapes Go.WideShapes Go.ChangeAt Go.RowKit Go.Proofs.Ytemhmejjmhbfdaa.irows Go.Proofs.Ytemhmejjmhbfdaa.pairs
set_option linter.unusedSimpArgs false

/-- What is written above the old blocks leaves the source. -/
theorem end_st {w wx w' : World} {W0 : World} {B : Nat} {a : Option Addr} {len cap : Nat} {m : Int} (h : St W0 wx B a len cap m) (hB : B < w.heap.size) (hg : w.grownBy W0 (some B)) (hb : Below w.heap.size wx w') : Src w' B a len cap m ∧ w.grownBy w' (some B) := by
  obtain ⟨⟨p, q, k1, k2⟩, hg2, _, _⟩ := h
  have hg3 := Lib.grownBy_trans hg hg2
  refine ⟨⟨p, q, by rw [hb.block B hB]; exact k1, k2⟩, hb.os.trans hg3.os, hb.tape.trans hg3.tape, hb.output.trans hg3.output, Nat.le_trans hg3.size hb.size, fun k hk hne => by rw [hb.block k hk]; exact hg3.block k hk hne⟩
theorem st_new {w1 : World} {B : Nat} {a : Option Addr} {len cap : Nat} {m : Int} (hs : Src w1 B a len cap m) (hb : Bytes w1 a len B) (hB : B < w1.heap.size) (o : Obj) : St (w1.alloc o) (w1.alloc o) B a len cap m := by
  have h := st_alloc (W0 := w1) (w := w1) ⟨hs, ⟨rfl, rfl, rfl, Nat.le_refl _, fun _ _ _ => rfl⟩, hb, hB⟩ o
  exact ⟨h.1, ⟨rfl, rfl, rfl, Nat.le_refl _, fun _ _ _ => rfl⟩, h.2.2.1, by simp; omega⟩
theorem two_cells {w : World} {k : Nat} {x y : Value} {t : TypeId} (h : w.heap[k]? = some (.cells #[x, y] t (0, 0))) : k < w.heap.size ∧ w.cell? ⟨k, 0, none⟩ = some x ∧ w.cell? ⟨k, 1, none⟩ = some y ∧ w.frozen? ⟨k, 0, none⟩ = false ∧ w.frozen? ⟨k, 1, none⟩ = false :=
  ⟨(Array.getElem?_eq_some_iff.1 h).1, by rw [cell_of_block h 0]; rfl, by rw [cell_of_block h 1]; rfl, frozen_plain h 0, frozen_plain h 1⟩
set_option maxRecDepth 100000 in
set_option maxHeartbeats 4000000 in
theorem l02Bent_any (w : World) (B : Nat) (a : Option Addr) (len cap : Nat) (m : Int) (hs : Src w B a len cap m) (hm : m ≤ 1000000) (hb : Bytes w a len B) (hB : B < w.heap.size) :
    Calls Try.prog 111 #[.pointer (some ⟨B, 0, none⟩)] w fun e w' => ∃ x y, e = .returned (.agg #[.int .i64 x, .int .i64 y]) ∧ Src w' B a len cap (m + 20) ∧ w.grownBy w' (some B) := by
  have S0 := Lib.hid (show St (w.alloc (.cells #[.int .i64 0, .int .i64 0] 25)) (w.alloc (.cells #[.int .i64 0, .int .i64 0] 25)) B a len cap m from by
    have h := st_alloc (W0 := w) (w := w) ⟨hs, ⟨rfl, rfl, rfl, Nat.le_refl _, fun _ _ _ => rfl⟩, hb, hB⟩ (.cells #[.int .i64 0, .int .i64 0] 25)
    exact ⟨h.1, ⟨rfl, rfl, rfl, Nat.le_refl _, fun _ _ _ => rfl⟩, h.2.2.1, by simp; omega⟩)
  have HB := Lib.hid hB
  clear hs hb hB
  go_enter Try.func111, Try.ntmps111
  go_wp2_with fail
  refine (l02Draw_any _ B a len cap m S0.out.1 hm S0.out.2.2.1 S0.out.2.2.2).mono ?_
  rintro e w1 ⟨x, y, rfl, _, hs1, hg1⟩
  have RB := Lib.hid (show w1.heap[w.heap.size]? = some (.cells #[.int .i64 0, .int .i64 0] 25 (0, 0)) from by
    rw [hg1.block w.heap.size (by simp) (by simp; have := HB.out; omega)]
    exact heap_alloc_new w _)
  have hwz : w.heap.size < w1.heap.size := by have := hg1.size; simp at this; omega
  have hB1 : B < w1.heap.size := by have := HB.out; omega
  have S1 := Lib.hid (st_new hs1 (bytes_grown S0.out.2.2.1 hg1 (Nat.le_refl _)) hB1 (.cells #[.int .i64 x, .int .i64 y] 25))
  have G1 := Lib.hid (show w.grownBy (w1.alloc (.cells #[.int .i64 x, .int .i64 y] 25)) (some B) from Lib.grownBy_trans (Lib.grownBy_trans (World.grownBy_alloc w _ (some B)) hg1) (World.grownBy_alloc w1 _ (some B)))
  have KEEP := Lib.hid (show ∀ wx : World, (w1.alloc (.cells #[.int .i64 x, .int .i64 y] 25)).grownBy wx (some B) → wx.heap[w.heap.size]? = some (.cells #[.int .i64 0, .int .i64 0] 25 (0, 0)) from fun wx hg => by
    rw [hg.block w.heap.size (by simp; omega) (by simp; have := HB.out; omega), Below.heap_alloc _ _ _ hwz]
    exact RB.out)
  clear hs1 hg1
  go_wp2_with fail
  refine (pick_st 16 S1.out (by omega) (by decide) (by decide)).mono ?_
  rintro e w2 ⟨v, rfl, v0, v1, s2⟩
  have S2 := Lib.hid s2
  clear s2
  by_cases c0 : v = 0
  · have e0 : (v == 0) = true := by simp [c0]
    clear c0
    go_wp2_with fail
    refine (among_st (n := 5) (fun _ => True) (st_alloc S2.out _) (by omega) (by decide) (by decide) (list_of rfl (by intro i hi; rcases i with _ | _ | _ | _ | _ | i <;> first | exact ⟨_, rfl, trivial⟩ | omega)) (by have := (S2.out).2.1.size; have := (S2.out).2.2.2; omega)).mono ?_
    rintro e w3 ⟨u, rfl, _, s3⟩
    have S3 := Lib.hid s3
    clear s3
    obtain ⟨z1, r0, r1, f0, f1⟩ := two_cells (result_cells S3.out hB1)
    obtain ⟨z2, q0, q1, g0, g1⟩ := two_cells (KEEP.out w3 S3.out.2.1)
    have zne : w.heap.size ≠ w1.heap.size := by omega
    go_wp2
    exact bodyPost_ret (v := .agg #[.int .i64 u, .int .i64 y]) (by simp [results, Try.results111, go_sem, r0, r1, q0, q1]) rfl ⟨_, _, rfl, end_st (st_le S3.out (by omega)) HB.out G1.out (by repeat (first | exact Below.refl _ _ | refine Below.setCell ?_ (by first | exact Nat.le_refl _ | exact Nat.le_of_lt hwz) _))⟩
  have e0 : (v == 0) = false := by simpa using c0
  clear c0
  by_cases c1 : v = 1
  · have e1 : (v == 1) = true := by simp [c1]
    clear c1
    go_wp2_with fail
    refine (among_st (n := 4) (fun _ => True) (st_alloc S2.out _) (by omega) (by decide) (by decide) (list_of rfl (by intro i hi; rcases i with _ | _ | _ | _ | i <;> first | exact ⟨_, rfl, trivial⟩ | omega)) (by have := (S2.out).2.1.size; have := (S2.out).2.2.2; omega)).mono ?_
    rintro e w3 ⟨u, rfl, _, s3⟩
    have S3 := Lib.hid s3
    clear s3
    obtain ⟨z1, r0, r1, f0, f1⟩ := two_cells (result_cells S3.out hB1)
    obtain ⟨z2, q0, q1, g0, g1⟩ := two_cells (KEEP.out w3 S3.out.2.1)
    have zne : w.heap.size ≠ w1.heap.size := by omega
    go_wp2
    exact bodyPost_ret (v := .agg #[.int .i64 x, .int .i64 u]) (by simp [results, Try.results111, go_sem, r0, r1, q0, q1]) rfl ⟨_, _, rfl, end_st (st_le S3.out (by omega)) HB.out G1.out (by repeat (first | exact Below.refl _ _ | refine Below.setCell ?_ (by first | exact Nat.le_refl _ | exact Nat.le_of_lt hwz) _))⟩
  have e1 : (v == 1) = false := by simpa using c1
  clear c1
  obtain ⟨z1, r0, r1, f0, f1⟩ := two_cells (result_cells S2.out hB1)
  obtain ⟨z2, q0, q1, g0, g1⟩ := two_cells (KEEP.out w2 S2.out.2.1)
  go_wp2
  exact bodyPost_ret (v := .agg #[.int .i64 x, .int .i64 y]) (by simp [results, Try.results111, go_sem, r0, r1, q0, q1]) rfl ⟨_, _, rfl, end_st (st_le S2.out (by omega)) HB.out G1.out (by repeat (first | exact Below.refl _ _ | refine Below.setCell ?_ (by first | exact Nat.le_refl _ | exact Nat.le_of_lt hwz) _))⟩
/-- A row above the source's first world is not touched by what the source does. -/
theorem row_src {W0 w w' : World} {B : Nat} {v : Value} {ps : List (Int × Int)} (h : PRow w W0.heap.size v ps) (hB : B < W0.heap.size) (hg : w.grownBy w' (some B)) : PRow w' W0.heap.size v ps := by
  refine World.ownsRow.kept h hg ?_
  cases hv : v.ownBlock with
  | none => exact .inl rfl
  | some k =>
    refine .inr fun e => ?_
    have h1 := (World.ownsRow.lt h k hv).1
    cases e
    omega
/-- What is written above the source's first world leaves the source. -/
theorem st_own {W0 w w' : World} {B : Nat} {a : Option Addr} {len cap : Nat} {m : Int} {r : Option Nat} (h : St W0 w B a len cap m) (hg : w.grownBy w' r) (hr : ∀ k, r = some k → W0.heap.size ≤ k) : St W0 w' B a len cap m := by
  obtain ⟨⟨x, y, k1, k2⟩, h2, h3, h4⟩ := h
  have hB : B < w.heap.size := Nat.lt_of_lt_of_le h4 h2.size
  have far : ∀ k, k < W0.heap.size → some k ≠ r := fun k hk e => by have := hr k e.symm; omega
  have hz := h2.size
  refine ⟨⟨x, y, by rw [hg.block B hB (far B h4)]; exact k1, k2⟩, ⟨hg.os.trans h2.os, hg.tape.trans h2.tape, hg.output.trans h2.output, Nat.le_trans h2.size hg.size, fun k hk hne => by rw [hg.block k (by omega) (far k hk)]; exact h2.block k hk hne⟩, ?_, h4⟩
  obtain ⟨b1, b2, b3⟩ := h3
  refine ⟨b1, Nat.le_trans b2 hg.size, fun i hi => ?_⟩
  obtain ⟨b, off, z, e, hlt, hz2, h5⟩ := b3 i hi
  exact ⟨b, off, z, e, hlt, hg.cell hz2 (far b (by omega)), h5⟩
theorem pick_keep {W0 w : World} {B : Nat} {a : Option Addr} {len cap : Nat} {m : Int} (n : Int) (h : St W0 w B a len cap m) (hm : m ≤ 4611686018427387000) (hn0 : 1 ≤ n) (hn1 : n ≤ 65536) :
    Calls Try.prog 105 #[.pointer (some ⟨B, 0, none⟩), .int .i64 n] w fun e w' => ∃ v, e = .returned (.int .i64 v) ∧ 0 ≤ v ∧ v < n ∧ St W0 w' B a len cap (m + 2) ∧ w.grownBy w' (some B) := by
  refine (pick_any w B a len cap m n h.1 hm h.2.2.1 hn0 hn1).mono ?_
  rintro e w' ⟨v, h1, h2, h3, h4, h5⟩
  exact ⟨v, h1, h2, h3, ⟨h4, Lib.grownBy_trans h.2.1 h5, bytes_grown h.2.2.1 h5 (Nat.le_refl _), h.2.2.2⟩, h5⟩
theorem one_keep {W0 w : World} {B : Nat} {a : Option Addr} {len cap : Nat} {m : Int} (n : Int) (h : St W0 w B a len cap m) (hm : m ≤ 4611686018427387000) (hn0 : 1 ≤ n) (hn1 : n ≤ 65536) :
    Calls Try.prog 93 #[.pointer (some ⟨B, 0, none⟩), .int .i64 n] w fun e w' => ∃ b, e = .returned (.bool b) ∧ St W0 w' B a len cap (m + 2) ∧ w.grownBy w' (some B) := by
  have H := Lib.hid h
  clear h
  go_enter Try.func93, Try.ntmps93
  go_wp2_with fail
  refine (pick_keep n H.out hm hn0 hn1).mono ?_
  rintro e w1 ⟨v, rfl, _, _, h2, hg⟩
  have H2 := Lib.hid h2
  have HG := Lib.hid hg
  clear h2 hg
  go_wp2_with fail
  go_ret
  exact ⟨_, rfl, H2.out, HG.out⟩
theorem draw_keep {W0 w : World} {B : Nat} {a : Option Addr} {len cap : Nat} {m : Int} (h : St W0 w B a len cap m) (hm : m ≤ 1000000) :
    Calls Try.prog 151 #[.pointer (some ⟨B, 0, none⟩)] w fun e w' => ∃ x y, e = .returned (.agg #[.int .i64 x, .int .i64 y]) ∧ Drawn x y ∧ St W0 w' B a len cap (m + 14) ∧ w.grownBy w' (some B) := by
  refine (l02Draw_any w B a len cap m h.1 hm h.2.2.1 (Nat.lt_of_lt_of_le h.2.2.2 h.2.1.size)).mono ?_
  rintro e w' ⟨x, y, h1, h2, h4, h5⟩
  exact ⟨x, y, h1, h2, ⟨h4, Lib.grownBy_trans h.2.1 h5, bytes_grown h.2.2.1 h5 (Nat.le_refl _), h.2.2.2⟩, h5⟩
theorem bent_keep {W0 w : World} {B : Nat} {a : Option Addr} {len cap : Nat} {m : Int} (h : St W0 w B a len cap m) (hm : m ≤ 1000000) :
    Calls Try.prog 111 #[.pointer (some ⟨B, 0, none⟩)] w fun e w' => ∃ x y, e = .returned (.agg #[.int .i64 x, .int .i64 y]) ∧ St W0 w' B a len cap (m + 20) ∧ w.grownBy w' (some B) := by
  refine (l02Bent_any w B a len cap m h.1 hm h.2.2.1 (Nat.lt_of_lt_of_le h.2.2.2 h.2.1.size)).mono ?_
  rintro e w' ⟨x, y, h1, h4, h5⟩
  exact ⟨x, y, h1, ⟨h4, Lib.grownBy_trans h.2.1 h5, bytes_grown h.2.2.1 h5 (Nat.le_refl _), h.2.2.2⟩, h5⟩
theorem two_new (w : World) (x y : Int) : ∀ j u, ([.int .i64 x, .int .i64 y] : List Value)[j]? = some u → (w.alloc (.cells #[.int .i64 x, .int .i64 y] 25)).cell? ((⟨w.heap.size, 0, none⟩ : Addr).add j) = some u := fun j u hj => by
  match j, hj with
  | 0, hj => simp at hj; subst hj; simp [Addr.add]
  | 1, hj => simp at hj; subst hj; simp [Addr.add]
theorem two_cell (x y : Int) : ∀ u ∈ ([.int .i64 x, .int .i64 y] : List Value), u.oneCell' = true := fun u hu => by simp at hu; rcases hu with rfl | rfl <;> rfl
theorem prow_snoc {w : World} {B : Nat} {v : Value} {ps : List (Int × Int)} {x y : Int} (h : w.ownsRow B 25 2 v (ps.length + 1) (ints (flat ps) ++ [.int .i64 x, .int .i64 y])) : PRow w B v (ps ++ [(x, y)]) := by
  unfold PRow
  rw [flat_append, List.length_append]
  have e : ints (flat ps ++ flat [(x, y)]) = ints (flat ps) ++ [.int .i64 x, .int .i64 y] := by simp [ints, flat]
  rw [e]
  exact h
/-- What is drawn: a number and a list. -/
def DrawnList (w : World) (e : Ending) (w' : World) : Prop := ∃ g u ps, e = .returned (.tuple #[.int .i64 g, u]) ∧ ps.length ≤ 200 ∧ PRow w' w.heap.size u ps ∧ Below w.heap.size w w'
end Go.Proofs.Ytemhmejjmhbfdaa.src
